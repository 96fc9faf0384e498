/-
  The document's own answer for layer 6 (ambryref06) at this program: what its arena in memory is, and the contracts of Owner, Return, Pass, Grant, Granted, Pages, of any arena and any numbers. No conditions.
-/
import Derived.Test.YtldfpacdlephcaaSlabMath
import Derived.Deep.RegionHeld3
import Derived.Deep.DeepCutAuto
namespace Go.Proofs.Ytldfpacdlephcaa
open Go Go.RowKit Go.Lib

/-- The slice of a page's bytes: nil, as long as nobody asked for them. -/
def slOf (size : Nat) : Option Nat → Value
  | none => .slice none 0 0
  | some g => .slice (some ⟨g, 0, none⟩) size size

structure RIs (P O B cO cB : Nat) (bl : Nat → Option Nat) (s : St) (w : World) : Prop where
  ok : s.Ok
  head : Blk w P 68 [.int .i64 (s.size : Int), .slice (some ⟨O, 0, none⟩) s.ow.length cO, .slice (some ⟨B, 0, none⟩) s.ow.length cB]
  own : ∃ cur, Blk w O 3 cur ∧ ∀ (i : Nat) z, s.ow[i]? = some z → cur[i]? = some (.int .i64 z)
  byt : ∃ cur, Blk w B 39 cur ∧ ∀ i, i < s.ow.length → cur[i]? = some (slOf s.size (bl i))
  zero : ∀ i, i < s.ow.length → bl i = none → s.pg i = List.replicate s.size 0
  page : ∀ i g, bl i = some g → Blk w g 5 (bc (s.pg i))
  inj : ∀ i j g, bl i = some g → bl j = some g → i = j
  out : ∀ i, s.ow.length ≤ i → bl i = none

/-- The blocks of such an arena. -/
def RFoot (P O B : Nat) (bl : Nat → Option Nat) (b : Nat) : Prop := b = P ∨ b = O ∨ b = B ∨ ∃ i, bl i = some b
theorem RIs.only {P O B cO cB : Nat} {bl : Nat → Option Nat} {s : St} {w w' : World} {D : Nat → Prop} (h : RIs P O B cO cB bl s w) (ho : Only D w w') (hd : ∀ b, RFoot P O B bl b → ¬ D b) : RIs P O B cO cB bl s w' := by
  obtain ⟨c1, hb1, hx1⟩ := h.own
  obtain ⟨c2, hb2, hx2⟩ := h.byt
  exact ⟨h.ok, h.head.only ho (hd _ (.inl rfl)), ⟨c1, hb1.only ho (hd _ (.inr (.inl rfl))), hx1⟩, ⟨c2, hb2.only ho (hd _ (.inr (.inr (.inl rfl)))), hx2⟩, h.zero,
    fun i g hg => (h.page i g hg).only ho (hd _ (.inr (.inr (.inr ⟨i, hg⟩)))), h.inj, h.out⟩
theorem RIs.below {P O B cO cB : Nat} {bl : Nat → Option Nat} {s : St} {w w' : World} (h : RIs P O B cO cB bl s w) (hb : Below w.heap.size w w') : RIs P O B cO cB bl s w' :=
  h.only (D := fun _ => False) (Below.only hb) (fun _ _ => id)
theorem RIs.lt {P O B cO cB : Nat} {bl : Nat → Option Nat} {s : St} {w : World} (h : RIs P O B cO cB bl s w) (b : Nat) (hb : RFoot P O B bl b) : b < w.heap.size := by
  obtain ⟨c1, hb1, _⟩ := h.own
  obtain ⟨c2, hb2, _⟩ := h.byt
  rcases hb with rfl | rfl | rfl | ⟨i, hi⟩
  · exact h.head.lt
  · exact hb1.lt
  · exact hb2.lt
  · exact (h.page i b hi).lt
theorem RIs.drew {P O B cO cB : Nat} {bl : Nat → Option Nat} {s : St} {w : World} (h : RIs P O B cO cB bl s w) : RIs P O B cO cB bl s w.drew :=
  h.only (D := fun _ => False) ((Only.refl _ w).drew) (fun _ _ => id)
theorem RIs.cellO {P O B cO cB : Nat} {bl : Nat → Option Nat} {s : St} {w : World} (h : RIs P O B cO cB bl s w) {k : Nat} {z : Int} (hz : s.ow[k]? = some z) : w.cell? ⟨O, k, none⟩ = some (.int .i64 z) ∧ w.frozen? ⟨O, k, none⟩ = false := by
  obtain ⟨c1, hb1, hx1⟩ := h.own
  exact ⟨hb1.cell (hx1 k z hz), hb1.frozen k⟩

theorem RIs.setOw {P O B cO cB : Nat} {bl : Nat → Option Nat} {s : St} {w : World} (h : RIs P O B cO cB bl s w) (k : Nat) {z : Int} (hz : -1 ≤ z ∧ z ≤ 62) : RIs P O B cO cB bl (s.setOw k z) (w.setCell ⟨O, k, none⟩ (.int .i64 z)) := by
  obtain ⟨c1, hb1, hx1⟩ := h.own
  obtain ⟨c2, hb2, hx2⟩ := h.byt
  have hl : (s.setOw k z).ow.length = s.ow.length := by unfold St.setOw; simp
  have n1 : P ≠ O := h.head.ne hb1 (by decide)
  have n2 : B ≠ O := hb2.ne hb1 (by decide)
  refine ⟨s.setOw_ok h.ok k hz, ?_, ⟨_, hb1.set k _, fun i y hy => ?_⟩, ⟨c2, hb2.setOther n2 _, ?_⟩, ?_, fun i g hg => (h.page i g hg).setOther ((h.page i g hg).ne hb1 (by decide)) _, h.inj, fun i hi => h.out i (by rw [hl] at hi; exact hi)⟩
  · rw [hl]; exact h.head.setOther n1 _
  · have hy' : (s.ow.set k z)[i]? = some y := hy
    rw [List.getElem?_set] at hy' ⊢
    by_cases e : k = i
    · subst e
      rw [if_pos rfl] at hy' ⊢
      by_cases hk : k < s.ow.length
      · rw [if_pos hk] at hy'
        cases hy'
        have := (List.getElem?_eq_some_iff.1 (hx1 k s.ow[k] (List.getElem?_eq_getElem hk))).1
        rw [if_pos this]
      · rw [if_neg hk] at hy'; cases hy'
    · rw [if_neg e] at hy' ⊢
      exact hx1 i y hy'
  · rw [hl]; exact hx2
  · rw [hl]; exact h.zero

set_option maxRecDepth 100000 in
theorem ref_owner {P O B cO cB : Nat} {bl : Nat → Option Nat} {s : St} {w : World} (h : RIs P O B cO cB bl s w) (p : Int) :
    Calls Try.prog 66 #[.pointer (some ⟨P, 0, none⟩), .int .i64 p] w fun e w' => e = .returned (.int .i64 (ownerOf s.ow p)) ∧ w = w' := by
  have hP : w.cell? ⟨P, 1, none⟩ = some (.slice (some ⟨O, 0, none⟩) s.ow.length cO) := h.head.cell rfl
  have hcase : p < 0 ∨ (0 ≤ p ∧ (s.ow.length : Int) ≤ p) ∨ ∃ k : Nat, p = k ∧ k < s.ow.length := by
    by_cases h1 : p < 0
    · exact .inl h1
    · by_cases h2 : (s.ow.length : Int) ≤ p
      · exact .inr (.inl ⟨by omega, h2⟩)
      · exact .inr (.inr ⟨p.toNat, by omega, by omega⟩)
  rcases hcase with h1 | ⟨h1, h2⟩ | ⟨k, rfl, hk⟩
  · rw [ownerOf_out (.inl h1)]
    clear h hP
    go_enter Try.func66, Try.ntmps66
    go_wp2
    go_ret
    exact ⟨rfl, rfl⟩
  · rw [ownerOf_out (.inr h2)]
    clear h
    go_enter Try.func66, Try.ntmps66
    go_wp2
    go_ret
    exact ⟨rfl, rfl⟩
  · obtain ⟨z, hz⟩ : ∃ z, s.ow[k]? = some z := ⟨_, List.getElem?_eq_getElem hk⟩
    rw [ownerOf_at hz]
    have hO := (h.cellO hz).1
    clear h hz
    generalize s.ow.length = n at *
    go_enter Try.func66, Try.ntmps66
    go_wp2
    go_ret
    exact ⟨rfl, rfl⟩

/-- An owner below 0 is nobody. -/
theorem owner_sign {s : St} (h : s.Ok) (p : Int) : (grB s.ow p = false ∧ ownerOf s.ow p = -1) ∨ (grB s.ow p = true ∧ 0 ≤ ownerOf s.ow p) := by
  cases hg : grB s.ow p with
  | false =>
    refine .inl ⟨rfl, ?_⟩
    unfold grB at hg; simpa using hg
  | true =>
    obtain ⟨k, z, rfl, hk, hz, hne⟩ := grB_at hg
    refine .inr ⟨rfl, ?_⟩
    rw [ownerOf_at hz]
    have := (h.ow z (List.mem_of_getElem? hz)).1
    omega

theorem ownB_false {o : Int} (h : ownB o = false) : o < 0 ∨ (0 ≤ o ∧ 63 ≤ o) := by
  unfold ownB at h; rw [decide_eq_false_iff_not] at h; omega
theorem ownB_range {o : Int} (h : ownB o = true) : 0 ≤ o ∧ o < 63 := by
  unfold ownB at h; rwa [decide_eq_true_iff] at h

set_option maxRecDepth 100000 in
theorem ref_pass {P O B cO cB : Nat} {bl : Nat → Option Nat} {s : St} {w : World} (h : RIs P O B cO cB bl s w) (p o : Int) :
    Calls Try.prog 67 #[.pointer (some ⟨P, 0, none⟩), .int .i64 p, .int .i64 o] w fun e w' => e = .returned (.int .i64 (s.pass p o).1) ∧ RIs P O B cO cB bl (s.pass p o).2 w' ∧ Only (fun b => b = O) w w' := by
  have hc := ref_owner h p
  unfold St.pass
  rcases owner_sign h.ok p with ⟨hg, ho⟩ | ⟨hg, ho⟩
  · rw [hg]
    rw [ho] at hc
    have H := hid h
    clear hg h ho
    simp only [Bool.false_eq_true, if_false]
    go_enter Try.func67, Try.ntmps67
    go_wp2_with fail
    refine hc.mono ?_
    rintro e w' ⟨rfl, rfl⟩
    clear hc
    go_wp2_with fail
    go_ret
    exact ⟨rfl, H.out, Only.refl _ _⟩
  · obtain ⟨k, z, rfl, hk, hz, -⟩ := grB_at hg
    rw [hg, if_pos rfl]
    cases hoB : ownB o with
    | false =>
      have H := hid h
      have hcase := ownB_false hoB
      clear hg h hoB hz hk
      generalize ownerOf s.ow k = y at *
      simp only [Bool.false_eq_true, if_false]
      rcases hcase with h1 | ⟨h1, h2⟩
      all_goals
        go_enter Try.func67, Try.ntmps67
        go_wp2_with fail
        refine hc.mono ?_
        rintro e w' ⟨rfl, rfl⟩
        clear hc
        go_wp2_with fail
        go_ret
        exact ⟨rfl, H.out, Only.refl _ _⟩
    | true =>
      obtain ⟨o1, o2⟩ := ownB_range hoB
      have hP : w.cell? ⟨P, 1, none⟩ = some (.slice (some ⟨O, 0, none⟩) s.ow.length cO) := h.head.cell rfl
      obtain ⟨hO, hF⟩ := h.cellO hz
      have H := hid (h.setOw k (ownB_true hoB))
      have HO := hid ((Only.refl (fun b => b = O) w).setCell (p := ⟨O, k, none⟩) (.inl rfl) (.int .i64 o))
      clear hg h hz hoB
      rw [if_pos rfl, Int.toNat_natCast]
      generalize s.setOw k o = s' at *
      generalize ownerOf s.ow k = y at *
      generalize s.ow.length = n at *
      go_enter Try.func67, Try.ntmps67
      go_wp2_with fail
      refine hc.mono ?_
      rintro e w' ⟨rfl, rfl⟩
      clear hc
      go_wp2_with fail
      go_ret
      exact ⟨rfl, H.out, HO.out⟩

set_option maxHeartbeats 1000000 in
set_option maxRecDepth 100000 in
theorem ref_grant {P O B cO cB : Nat} {bl : Nat → Option Nat} {s : St} {w : World} (h : RIs P O B cO cB bl s w) (o : Int) :
    Calls Try.prog 61 #[.pointer (some ⟨P, 0, none⟩), .int .i64 o] w fun e w' => e = .returned (.tuple #[.int .i64 (s.grant o).1, .int .i64 (s.grant o).2.1]) ∧ RIs P O B cO cB bl (s.grant o).2.2 w' ∧ Only (fun b => b = O) w w' := by
  cases hoB : ownB o with
  | false =>
    unfold St.grant
    rw [hoB]
    have H := hid h
    have hcase := ownB_false hoB
    clear h hoB
    simp only [Bool.false_eq_true, if_false]
    rcases hcase with h1 | ⟨h1, h2⟩
    all_goals
      go_enter Try.func61, Try.ntmps61
      go_wp2_with fail
      go_ret2
      exact ⟨rfl, H.out, Only.refl _ _⟩
  | true =>
    obtain ⟨o1, o2⟩ := ownB_range hoB
    have hP : w.cell? ⟨P, 1, none⟩ = some (.slice (some ⟨O, 0, none⟩) s.ow.length cO) := h.head.cell rfl
    have hn := h.ok.n2
    have H := hid h
    have HT := hid hoB
    obtain ⟨G, hG⟩ : ∃ G, G = s.grant o := ⟨_, rfl⟩
    rw [← hG]
    have HG := hid hG
    obtain ⟨N, hN⟩ : ∃ N, N = s.ow.length := ⟨_, rfl⟩
    rw [← hN] at hn hP
    have HN := hid hN
    clear hN hG hoB h
    go_enter Try.func61, Try.ntmps61
    go_wp2_with fail
    go_loop [6] (fun i => ∃ k : Nat, k ≤ N ∧ i = .int .i64 k ∧ Hid (∀ (j : Nat) y, j < k → s.ow[j]? = some y → y ≠ -1)) (fun i => N - (intOf i).toNat)
    case atStart => exact ⟨0, Nat.zero_le _, rfl, hid fun j y hj => by omega⟩
    case round =>
      obtain ⟨k, hk, rfl, HK⟩ := hrel
      by_cases hlt : k < N
      · obtain ⟨z, hz⟩ : ∃ z, s.ow[k]? = some z := ⟨_, List.getElem?_eq_getElem (by rw [← HN.out]; exact hlt)⟩
        obtain ⟨hO, hF⟩ := H.out.cellO hz
        have ilt : (k : Int) < (N : Int) := by omega
        have hzr := (H.out.ok.ow z (List.mem_of_getElem? hz)).1
        by_cases hz1 : z = -1
        · subst hz1
          have hgr := HG.out
          rw [grant_at HT.out (fi_is hz HK.out)] at hgr
          subst hgr
          have HS := hid (H.out.setOw k (ownB_true HT.out))
          have HO := hid ((Only.refl (fun b => b = O) w).setCell (p := ⟨O, k, none⟩) (.inl rfl) (.int .i64 o))
          clear hz HK HG HN H HT hzr
          go_wp2_with fail
          go_ret2
          exact ⟨rfl, HS.out, HO.out⟩
        · have hz0 : 0 ≤ z := by omega
          have HK' : Hid (∀ (j : Nat) y, j < k + 1 → s.ow[j]? = some y → y ≠ -1) := hid (fun j y hj hy => by
            by_cases e : j = k
            · subst e
              rw [hz] at hy
              cases hy; exact hz1
            · exact HK.out j y (by omega) hy)
          clear hz HK HG HN H HT hzr hz1
          go_wp2_with fail
          go_round
          case rel => exact ⟨k + 1, by omega, by go_num, HK'⟩
          case measure => simp [intOf] <;> omega
      · obtain rfl : k = N := by omega
        have hgr := HG.out
        rw [grant_none HT.out (fi_none fun j y hy => HK.out j y (by have := (List.getElem?_eq_some_iff.1 hy).1; rw [HN.out]; exact this) hy)] at hgr
        subst hgr
        clear HK HG HN HT
        go_wp2_with fail
        go_ret2
        exact ⟨rfl, H.out, Only.refl _ _⟩
end Go.Proofs.Ytldfpacdlephcaa

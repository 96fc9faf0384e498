/-
  The document's own answer for layer 6 (ambryref06) at this program, more: Granted, Pages, page, Write, Read. No conditions but that the numbers are an int's.
-/
import Derived.Test.YtldfpacdlephcaaArenaRef
namespace Go.Proofs.Ytldfpacdlephcaa
open Go Go.RowKit Go.Lib

set_option maxHeartbeats 1000000 in
set_option maxRecDepth 100000 in
theorem ref_count {P O B cO cB : Nat} {bl : Nat → Option Nat} {s : St} {w : World} (h : RIs P O B cO cB bl s w) :
    Calls Try.prog 34 #[.pointer (some ⟨P, 0, none⟩)] w fun e w' => e = .returned (.int .i64 (cnt s.ow : Nat)) ∧ w = w' := by
  have hP : w.cell? ⟨P, 1, none⟩ = some (.slice (some ⟨O, 0, none⟩) s.ow.length cO) := h.head.cell rfl
  have hn := h.ok.n2
  have H := hid h
  obtain ⟨N, hN⟩ : ∃ N, N = s.ow.length := ⟨_, rfl⟩
  unfold cnt
  rw [← hN] at hn hP ⊢
  have HN := hid hN
  clear hN h
  go_enter Try.func34, Try.ntmps34
  go_wp2_with fail
  go_loop [3, 4] (fun a i => ∃ k : Nat, k ≤ N ∧ i = .int .i64 k ∧ a = .int .i64 (cntTo s.ow k : Nat)) (fun _ i => N - (intOf i).toNat)
  case atStart => exact ⟨0, Nat.zero_le _, rfl, by simp [cntTo]⟩
  case round =>
    obtain ⟨k, hk, rfl, rfl⟩ := hrel
    have hc1 := cntTo_le s.ow k
    by_cases hlt : k < N
    · obtain ⟨z, hz⟩ : ∃ z, s.ow[k]? = some z := ⟨_, List.getElem?_eq_getElem (by rw [← HN.out]; exact hlt)⟩
      obtain ⟨hO, -⟩ := H.out.cellO hz
      have ilt : (k : Int) < (N : Int) := by omega
      have hzr := (H.out.ok.ow z (List.mem_of_getElem? hz)).1
      by_cases hz1 : z = -1
      · have HE := hid (cntTo_same hz hz1)
        subst hz1
        clear hz H HN hzr
        go_wp2_with fail
        go_round
        case rel => exact ⟨k + 1, by omega, by go_num, by rw [HE.out]⟩
        case measure => simp [intOf] <;> omega
      · have HE := hid (cntTo_more hz hz1)
        have hz0 : 0 ≤ z := by omega
        clear hz H HN hzr hz1
        generalize cntTo s.ow k = c at *
        go_wp2_with fail
        go_round
        case rel => exact ⟨k + 1, by omega, by go_num, by rw [HE.out]; go_num⟩
        case measure => simp [intOf] <;> omega
    · obtain rfl : k = N := by omega
      clear H HN
      go_wp2_with fail
      go_ret
      exact ⟨rfl, rfl⟩

set_option maxHeartbeats 1000000 in
set_option maxRecDepth 100000 in
theorem ref_pages {P O B cO cB : Nat} {bl : Nat → Option Nat} {s : St} {w : World} (h : RIs P O B cO cB bl s w) (o : Int) :
    Calls Try.prog 70 #[.pointer (some ⟨P, 0, none⟩), .int .i64 o] w fun e w' => ∃ v, e = .returned v ∧ w'.ownsRow w.heap.size 3 1 v (pagesOf s.ow o).length (ic (pagesOf s.ow o)) ∧ Below w.heap.size w w' := by
  have hP0 : w.cell? ⟨P, 1, none⟩ = some (.slice (some ⟨O, 0, none⟩) s.ow.length cO) := h.head.cell rfl
  have hPlt := h.head.lt
  have hn := h.ok.n2
  have hn1 := h.ok.n1
  have H := hid h
  obtain ⟨N, hN⟩ : ∃ N, N = s.ow.length := ⟨_, rfl⟩
  rw [← hN] at hn hn1 hP0
  have HN := hid hN
  obtain ⟨i0, hi, hz0, hz1, hz2⟩ := info_parts infoInt
  have hOlt := h.lt O (.inr (.inl rfl))
  by_cases h0 : 0 ≤ o
  · unfold pagesOf
    rw [if_pos h0, ← hN]
    have HP := hid hP0
    clear hN h hP0
    go_enter Try.func70, Try.ntmps70
    go_wp2_with fail
    go_loopw [5, 6] (fun v i wr => ∃ k : Nat, k ≤ N ∧ i = .int .i64 k ∧ wr.ownsRow w.heap.size 3 1 v (pagesTo s.ow o k).length (ic (pagesTo s.ow o k)) ∧ Below w.heap.size w wr) (fun _ i _ => N - (intOf i).toNat)
    case atStart => exact ⟨0, Nat.zero_le _, rfl, World.ownsRow_nil _ _ _ _, Below.refl _ _⟩
    case round =>
      obtain ⟨k, hk, rfl, hown, hb⟩ := hrel
      have hsz := hb.size
      have hl := pagesTo_len s.ow o k
      have hP : wr.cell? ⟨P, 1, none⟩ = some (.slice (some ⟨O, 0, none⟩) N cO) := (hb.cell (p := ⟨P, 1, none⟩) hPlt).trans HP.out
      by_cases hlt : k < N
      · obtain ⟨z, hz⟩ : ∃ z, s.ow[k]? = some z := ⟨_, List.getElem?_eq_getElem (by rw [← HN.out]; exact hlt)⟩
        have ilt : (k : Int) < (N : Int) := by omega
        have hc : wr.cell? ⟨O, k, none⟩ = some (.int .i64 z) := (hb.cell (p := ⟨O, k, none⟩) hOlt).trans (H.out.cellO hz).1
        by_cases hzo : z = o
        · subst hzo
          have HE := hid (pagesTo_hit hz rfl)
          have HI := hid (ic_one (pagesTo s.ow z k) k)
          obtain ⟨a, c, rfl⟩ := row_form hown
          clear hz H HN HP
          go_wp2_with (at_builtin; refine wpList_append_own _ rfl _ _ 22 rfl w.heap.size 3 i0 (.int .i64 0) 1 8 Try.underlying22 hi hz0 hz1 hz2 rfl (by decide) _ _ _ rfl (hown.alloc _) ⟨wr.heap.size, 0, none⟩ 1 1 [.int .i64 k] rfl rfl (one_cell _ _ _) (one_ok _) (by unfold maxLen; omega) (by omega) (by simp; omega) ?_)
          intro v' w1 hown' hgrow _
          have hb2 := hb.trans (own_grown hown hsz hgrow)
          have ho : w1.ownsRow w.heap.size 3 1 v' (pagesTo s.ow z (k + 1)).length (ic (pagesTo s.ow z (k + 1))) := by
            rw [HE.out, ← HI.out, List.length_append]; exact hown'
          clear hown' hgrow hown hb
          go_wp2_with fail
          go_roundw
          case rel => exact ⟨k + 1, by omega, by go_num, ho, hb2⟩
          case measure => simp [intOf] <;> omega
        · have HE := hid (pagesTo_miss hz hzo)
          have hzo' : (z == o) = false := by simpa using hzo
          clear hz H HN hzo HP
          go_wp2_with fail
          go_roundw
          case rel => exact ⟨k + 1, by omega, by go_num, by rw [HE.out]; exact hown, hb⟩
          case measure => simp [intOf] <;> omega
      · obtain rfl : k = N := by omega
        clear H HN HP
        obtain ⟨a, c, rfl⟩ := row_form hown
        go_wp2_with fail
        go_ret
        exact ⟨_, rfl, hown, hb⟩
  · have e0 : pagesOf s.ow o = [] := by unfold pagesOf; rw [if_neg h0]
    rw [e0]
    have h1 : o < 0 := by omega
    have g1 : (0 : Int) < (N : Int) := by omega
    clear hN h H HN h0 e0
    go_enter Try.func70, Try.ntmps70
    go_wp2_with fail
    go_loop [5, 6] (fun v i => v = .slice none 0 0 ∧ i = .int .i64 0) (fun _ _ => 0)
    case atStart => exact ⟨rfl, rfl⟩
    case round =>
      obtain ⟨rfl, rfl⟩ := hrel
      go_wp2_with fail
      go_ret
      exact ⟨_, rfl, World.ownsRow_nil _ _ _ _, Below.refl _ _⟩

theorem RIs.cellB {P O B cO cB : Nat} {bl : Nat → Option Nat} {s : St} {w : World} (h : RIs P O B cO cB bl s w) {k : Nat} (hk : k < s.ow.length) : w.cell? ⟨B, k, none⟩ = some (slOf s.size (bl k)) ∧ w.frozen? ⟨B, k, none⟩ = false := by
  obtain ⟨c1, hb1, hx1⟩ := h.byt
  exact ⟨hb1.cell (hx1 k hk), hb1.frozen k⟩

/-- A page's bytes are laid where nobody had asked for them. -/
theorem RIs.lay {P O B cO cB : Nat} {bl : Nat → Option Nat} {s : St} {w w1 : World} (h : RIs P O B cO cB bl s w) {k : Nat} (hk : k < s.ow.length) (hn : bl k = none) (hw1 : w1 = ((w.setCell ⟨B, k, none⟩ (.slice (some ⟨w.heap.size, 0, none⟩) s.size s.size)).alloc (.cells (bc (List.replicate s.size 0)).toArray 5)).drew) :
    RIs P O B cO cB (fun i => if i = k then some w.heap.size else bl i) s w1 := by
  subst hw1
  obtain ⟨c1, hb1, hx1⟩ := h.own
  obtain ⟨c2, hb2, hx2⟩ := h.byt
  have lB := hb2.lt
  have n1 : P ≠ B := h.head.ne hb2 (by decide)
  have n2 : O ≠ B := hb1.ne hb2 (by decide)
  have hnew := Blk.new (w.setCell ⟨B, k, none⟩ (.slice (some ⟨w.heap.size, 0, none⟩) s.size s.size)) (bc (List.replicate s.size 0)).toArray 5
  have hsz : (w.setCell ⟨B, k, none⟩ (.slice (some ⟨w.heap.size, 0, none⟩) s.size s.size)).heap.size = w.heap.size := by simp [World.setCell]
  rw [hsz] at hnew
  refine ⟨h.ok, (h.head.setOther n1 _).alloc _, ⟨c1, (hb1.setOther n2 _).alloc _, hx1⟩, ⟨_, (hb2.set k _).alloc _, fun i hi => ?_⟩, fun i hi hbi => ?_, fun i g hg => ?_, fun i j g hg hg' => ?_, fun i hi => ?_⟩
  · rw [List.getElem?_set]
    by_cases e : k = i
    · subst e
      have := (List.getElem?_eq_some_iff.1 (hx2 k hk)).1
      rw [if_pos rfl, if_pos this, if_pos rfl]; rfl
    · rw [if_neg e, if_neg (fun e' => e e'.symm)]; exact hx2 i hi
  · by_cases e : i = k
    · simp [e] at hbi
    · rw [if_neg e] at hbi; exact h.zero i hi hbi
  · by_cases e : i = k
    · subst e
      rw [if_pos rfl] at hg
      cases hg
      rw [h.zero i hk hn]
      exact (by simpa using hnew : Blk _ _ _ _)
    · rw [if_neg e] at hg
      have hp := h.page i g hg
      exact (hp.setOther (hp.ne hb2 (by decide)) _).alloc _
  · by_cases e : i = k
    · by_cases e' : j = k
      · rw [e, e']
      · rw [if_pos e] at hg
        rw [if_neg e'] at hg'
        cases hg
        have := (h.page j _ hg').lt; omega
    · rw [if_neg e] at hg
      by_cases e' : j = k
      · rw [if_pos e'] at hg'
        cases hg'
        have := (h.page i _ hg).lt; omega
      · rw [if_neg e'] at hg'
        exact h.inj i j g hg hg'
  · show (if i = k then some w.heap.size else bl i) = none
    rw [if_neg (by omega)]; exact h.out i hi

set_option maxHeartbeats 1000000 in
set_option maxRecDepth 100000 in
theorem ref_page {P O B cO cB : Nat} {bl : Nat → Option Nat} {s : St} {w : World} (h : RIs P O B cO cB bl s w) (k : Nat) (hk : k < s.ow.length) :
    Calls Try.prog 82 #[.pointer (some ⟨P, 0, none⟩), .int .i64 k] w fun e w' => ∃ g, e = .returned (.slice (some ⟨g, 0, none⟩) s.size s.size) ∧ ∃ bl', RIs P O B cO cB bl' s w' ∧ bl' k = some g ∧ (∀ i b, bl' i = some b → bl i = some b ∨ w.heap.size ≤ b) ∧ Only (fun b => b = B) w w' := by
  have hP0 : w.cell? ⟨P, 0, none⟩ = some (.int .i64 (s.size : Int)) := h.head.cell rfl
  have hP2 : w.cell? ⟨P, 2, none⟩ = some (.slice (some ⟨B, 0, none⟩) s.ow.length cB) := h.head.cell rfl
  obtain ⟨hB, hF⟩ := h.cellB hk
  have hs1 := h.ok.s1
  have hs2 := h.ok.s2
  have ilt : (k : Int) < (s.ow.length : Int) := by omega
  cases hbl : bl k with
  | some g =>
    rw [hbl] at hB
    unfold slOf at hB
    have H := hid h
    have HB := hid hbl
    clear h hbl
    have hz : ¬ s.size = 0 := by omega
    obtain ⟨z, hz'⟩ : ∃ z, s.size = z := ⟨_, rfl⟩
    rw [hz'] at hP0 hB hs1 hs2 hz ⊢
    clear hz'
    generalize s.ow.length = n at *
    go_enter Try.func82, Try.ntmps82
    go_wp2_with fail
    go_ret
    exact ⟨g, rfl, bl, H.out, HB.out, fun i b hi => .inl hi, Only.refl _ _⟩
  | none =>
    rw [hbl] at hB
    unfold slOf at hB
    have hlay := h.lay hk hbl rfl
    have HL := hid hlay
    have lB := h.lt B (.inr (.inr (.inl rfl)))
    have hmk : ∀ W : World, (Instr.makeSlice 39 (.int .i64 (s.size : Int)) (.int .i64 (s.size : Int))).run Try.prog W = .ok (.slice (some ⟨W.heap.size, 0, none⟩) s.size s.size) (W.alloc (.cells (bc (List.replicate s.size 0)).toArray 5)) := fun W => by
      obtain ⟨i0, hi, hz0, hz1, hz2⟩ := info_parts infoByte
      have := run_make (P := Try.prog) W 39 5 i0 (.int .u8 0) Try.underlying39 hi hz0 .i64 .i64 (s.size : Int) (s.size : Int) (by omega) (by omega) (by rw [hz2]; omega) (by omega)
      rw [hz1, Int.toNat_natCast] at this
      rw [this, ← made_bytes]
    have hBP : ¬ B = P := fun e => by
      obtain ⟨c2, hb2, _⟩ := h.byt
      exact h.head.ne hb2 (by decide) e.symm
    have hPB : ¬ P = B := fun e => hBP e.symm
    have lP := h.head.lt
    clear h hlay hbl
    obtain ⟨Z, hZ⟩ : ∃ Z, (bc (List.replicate s.size 0)).toArray = Z := ⟨_, rfl⟩
    rw [hZ] at hmk HL
    clear hZ
    obtain ⟨z, hz'⟩ : ∃ z, s.size = z := ⟨_, rfl⟩
    rw [hz'] at hP0 hs1 hs2 hmk HL ⊢
    clear hz'
    generalize s.ow.length = n at *
    go_enter Try.func82, Try.ntmps82
    go_wp2_with fail
    go_region_held3 (fun w' => w'.cell? ⟨P, 2, none⟩ = some (.slice (some ⟨B, 0, none⟩) n cB) ∧ w'.cell? ⟨P, 0, none⟩ = some (.int .i64 (z : Int))) (go_keep) (first | fail)
    go_wp2_with fail
    go_ret
    refine ⟨w.heap.size, rfl, _, HL.out, if_pos rfl, fun i b hi => ?_, ?_⟩
    · by_cases e : i = k
      · rw [if_pos e] at hi
        cases hi; exact .inr (Nat.le_refl _)
      · rw [if_neg e] at hi; exact .inl hi
    · exact (((Only.refl (fun b => b = B) w).setCell (p := ⟨B, k, none⟩) (.inl rfl) _).alloc _).drew
end Go.Proofs.Ytldfpacdlephcaa

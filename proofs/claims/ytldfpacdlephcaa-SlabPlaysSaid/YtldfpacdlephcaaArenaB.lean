/-
  Package arena at this program, more: Granted, Return, Pass, Grant and slices.Index, of any arena and any numbers. No conditions.
-/
import Derived.Test.YtldfpacdlephcaaArena
namespace Go.Proofs.Ytldfpacdlephcaa
open Go Go.RowKit Go.Lib

/-- How many of the first k pages are granted. -/
def cntTo (ow : List Int) (k : Nat) : Nat := ((ow.take k).filter fun z => z != -1).length
theorem cntTo_le (ow : List Int) (k : Nat) : cntTo ow k ≤ k := by
  unfold cntTo
  exact Nat.le_trans (List.length_filter_le _ _) (by rw [List.length_take]; omega)
theorem cntTo_more {ow : List Int} {k : Nat} {z : Int} (h : ow[k]? = some z) (hz : z ≠ -1) : cntTo ow (k + 1) = cntTo ow k + 1 := by
  unfold cntTo
  rw [List.take_add_one, h, List.filter_append, List.length_append]
  simp [hz]
theorem cntTo_same {ow : List Int} {k : Nat} {z : Int} (h : ow[k]? = some z) (hz : z = -1) : cntTo ow (k + 1) = cntTo ow k := by
  unfold cntTo
  rw [List.take_add_one, h, List.filter_append, List.length_append]
  simp [hz]
/-- How many pages are granted. -/
def cnt (ow : List Int) : Nat := cntTo ow ow.length

set_option maxHeartbeats 1000000 in
set_option maxRecDepth 100000 in
theorem granted_count {P O R : Nat} {s : St} {w : World} (h : AIs P O R s w) :
    Calls Try.prog 30 #[.pointer (some ⟨P, 0, none⟩)] w fun e w' => e = .returned (.int .i64 (cnt s.ow : Nat)) ∧ w = w' := by
  have hP : w.cell? ⟨P, 1, none⟩ = some (.slice (some ⟨O, 0, none⟩) s.ow.length s.ow.length) := h.head.cell rfl
  have hn := h.ok.n2
  have hG := hid fun p => granted_any h p
  obtain ⟨N, hN⟩ : ∃ N, N = s.ow.length := ⟨_, rfl⟩
  unfold cnt
  rw [← hN] at hn hP ⊢
  have HN := hid hN
  clear hN h
  go_enter Try.func30, Try.ntmps30
  go_wp2_with fail
  go_loop [3, 4, 10] (fun a _ i => ∃ k : Nat, k ≤ N ∧ i = .int .i64 k ∧ a = .int .i64 (cntTo s.ow k : Nat)) (fun _ _ i => N - (intOf i).toNat)
  case atStart => exact ⟨0, Nat.zero_le _, rfl, by simp [cntTo]⟩
  case round =>
    obtain ⟨k, hk, rfl, rfl⟩ := hrel
    have hc1 := cntTo_le s.ow k
    by_cases hlt : k < N
    · obtain ⟨z, hz⟩ : ∃ z, s.ow[k]? = some z := ⟨_, List.getElem?_eq_getElem (by rw [← HN.out]; exact hlt)⟩
      have hcall := hG.out (k : Int)
      have ilt : (k : Int) < (N : Int) := by omega
      by_cases hz1 : z = -1
      · have hg : grB s.ow (k : Int) = false := by unfold grB; rw [ownerOf_at hz, hz1]; rfl
        rw [hg] at hcall
        have HE := hid (cntTo_same hz hz1)
        clear hz1 hg hz hG HN hP
        go_wp2_with fail
        refine hcall.mono ?_
        rintro e w' ⟨rfl, rfl⟩
        clear hcall
        go_wp2_with fail
        go_round
        case rel => exact ⟨k + 1, by omega, by go_num, by rw [HE.out]⟩
        case measure => simp [intOf] <;> omega
      · have hg : grB s.ow (k : Int) = true := by unfold grB; rw [ownerOf_at hz]; simp [hz1]
        rw [hg] at hcall
        have HE := hid (cntTo_more hz hz1)
        clear hz1 hg hz hG HN hP
        generalize cntTo s.ow k = c at *
        go_wp2_with fail
        refine hcall.mono ?_
        rintro e w' ⟨rfl, rfl⟩
        clear hcall
        go_wp2_with fail
        go_round
        case rel => exact ⟨k + 1, by omega, by go_num, by rw [HE.out]; go_num⟩
        case measure => simp [intOf] <;> omega
    · obtain rfl : k = N := by omega
      clear hG HN hP
      go_wp2_with fail
      go_ret
      exact ⟨rfl, rfl⟩

def St.setOw (s : St) (k : Nat) (z : Int) : St := { s with ow := s.ow.set k z }
theorem St.setOw_ok {s : St} (h : s.Ok) (k : Nat) {z : Int} (hz : -1 ≤ z ∧ z ≤ 62) : (s.setOw k z).Ok := by
  refine ⟨?_, ?_, h.s1, h.s2, fun y hy => ?_, fun p hp => ?_⟩
  · show 1 ≤ (s.ow.set k z).length; rw [List.length_set]; exact h.n1
  · show (s.ow.set k z).length ≤ 1024; rw [List.length_set]; exact h.n2
  · rcases List.mem_or_eq_of_mem_set hy with hy | rfl
    · exact h.ow y hy
    · exact hz
  · refine h.pg p ?_
    have hp' : p < (s.ow.set k z).length := hp
    rwa [List.length_set] at hp'
theorem AIs.setOw {P O R : Nat} {s : St} {w : World} (h : AIs P O R s w) (k : Nat) {z : Int} (hz : -1 ≤ z ∧ z ≤ 62) : AIs P O R (s.setOw k z) (w.setCell ⟨O, k, none⟩ (.int .i64 z)) := by
  obtain ⟨cs, hb, hR⟩ := h.row
  have hl : (s.setOw k z).ow.length = s.ow.length := by unfold St.setOw; simp
  refine ⟨s.setOw_ok h.ok k hz, h.po, h.pr, h.or, ?_, ?_, cs, hb.setOther (Ne.symm h.or) _, ?_⟩
  · rw [hl]; exact h.head.setOther h.po _
  · have := h.own.set k (.int .i64 z)
    rw [← ic_set] at this; exact this
  · rw [hl]; exact hR

theorem grB_at {ow : List Int} {p : Int} (h : grB ow p = true) : ∃ (k : Nat) (z : Int), p = k ∧ k < ow.length ∧ ow[k]? = some z ∧ z ≠ -1 := by
  by_cases hp : p < 0 ∨ (ow.length : Int) ≤ p
  · unfold grB at h; rw [ownerOf_out hp] at h; simp at h
  · refine ⟨p.toNat, ow[p.toNat]'(by omega), by omega, by omega, List.getElem?_eq_getElem (by omega), fun e => ?_⟩
    have h1 : ownerOf ow p = -1 := by
      rw [show p = ((p.toNat : Nat) : Int) by omega, ownerOf_at (List.getElem?_eq_getElem (by omega)), e]
    unfold grB at h; rw [h1] at h; simp at h

/-- A page is made free. -/
def St.ret (s : St) (p : Int) : Int × St := if grB s.ow p = true then (0, s.setOw p.toNat (-1)) else (7, s)

/-- A page is passed. -/
def St.pass (s : St) (p o : Int) : Int × St := if grB s.ow p = true then (if ownB o = true then (0, s.setOw p.toNat o) else (1, s)) else (7, s)
theorem ownB_true {o : Int} (h : ownB o = true) : -1 ≤ o ∧ o ≤ 62 := by
  unfold ownB at h; rw [decide_eq_true_iff] at h; omega

set_option maxRecDepth 100000 in
theorem pass_any {P O R : Nat} {s : St} {w : World} (h : AIs P O R s w) (p o : Int) :
    Calls Try.prog 56 #[.pointer (some ⟨P, 0, none⟩), .int .i64 p, .int .i64 o] w fun e w' => e = .returned (.int .i64 (s.pass p o).1) ∧ AIs P O R (s.pass p o).2 w' ∧ Only (fun b => b = O) w w' := by
  have hc := granted_any h p
  have hw := fun w => isOwner_any o w
  unfold St.pass
  cases hg : grB s.ow p with
  | false =>
    rw [hg] at hc
    have H := hid h
    clear hg h hw
    simp only [Bool.false_eq_true, if_false]
    go_enter Try.func56, Try.ntmps56
    go_wp2_with fail
    refine hc.mono ?_
    rintro e w' ⟨rfl, rfl⟩
    clear hc
    go_wp2_with fail
    go_ret
    exact ⟨rfl, H.out, Only.refl _ _⟩
  | true =>
    obtain ⟨k, z, rfl, hk, hz, -⟩ := grB_at hg
    rw [if_pos rfl]
    rw [hg] at hc
    cases ho : ownB o with
    | false =>
      rw [ho] at hw
      have H := hid h
      clear hg h ho hz hk
      simp only [Bool.false_eq_true, if_false]
      go_enter Try.func56, Try.ntmps56
      go_wp2_with fail
      refine hc.mono ?_
      rintro e w' ⟨rfl, rfl⟩
      clear hc
      go_wp2_with fail
      refine (hw _).mono ?_
      rintro e w' ⟨rfl, rfl⟩
      clear hw
      go_wp2_with fail
      go_ret
      exact ⟨rfl, H.out, Only.refl _ _⟩
    | true =>
      rw [ho] at hw
      have hP : w.cell? ⟨P, 1, none⟩ = some (.slice (some ⟨O, 0, none⟩) s.ow.length s.ow.length) := h.head.cell rfl
      have hO : w.cell? ⟨O, k, none⟩ = some (.int .i64 z) := h.own.cell (ic_at hz)
      have hF : w.frozen? ⟨O, k, none⟩ = false := h.own.frozen k
      have H := hid (h.setOw k (ownB_true ho))
      have HO := hid ((Only.refl (fun b => b = O) w).setCell (p := ⟨O, k, none⟩) (.inl rfl) (.int .i64 o))
      clear hg h hz ho
      rw [if_pos rfl, Int.toNat_natCast]
      generalize s.setOw k o = s' at *
      generalize s.ow.length = n at *
      go_enter Try.func56, Try.ntmps56
      go_wp2_with fail
      refine hc.mono ?_
      rintro e w' ⟨rfl, rfl⟩
      clear hc
      go_wp2_with fail
      refine (hw _).mono ?_
      rintro e w' ⟨rfl, rfl⟩
      clear hw
      go_wp2_with fail
      go_ret
      exact ⟨rfl, H.out, HO.out⟩

/-- The first place of x from k on; -1, if there is none. -/
def fi : List Int → Int → Nat → Int
  | [], _, _ => -1
  | y :: ys, x, k => if y = x then (k : Int) else fi ys x (k + 1)
theorem fi_hit {zs : List Int} {x y : Int} {k : Nat} (h : zs[k]? = some y) (he : y = x) (j : Nat) : fi (zs.drop k) x j = (j : Int) := by
  have hk : k < zs.length := (List.getElem?_eq_some_iff.1 h).1
  have hy : zs[k] = y := (List.getElem?_eq_some_iff.1 h).2
  rw [List.drop_eq_getElem_cons hk, hy, fi, if_pos he]
theorem fi_miss {zs : List Int} {x y : Int} {k : Nat} (h : zs[k]? = some y) (he : ¬ y = x) (j : Nat) : fi (zs.drop k) x j = fi (zs.drop (k + 1)) x (j + 1) := by
  have hk : k < zs.length := (List.getElem?_eq_some_iff.1 h).1
  have hy : zs[k] = y := (List.getElem?_eq_some_iff.1 h).2
  rw [List.drop_eq_getElem_cons hk, hy, fi, if_neg he]
theorem fi_end {zs : List Int} {x : Int} {k : Nat} (h : zs.length ≤ k) (j : Nat) : fi (zs.drop k) x j = -1 := by
  rw [List.drop_eq_nil_of_le h, fi]
theorem fi_facts : ∀ (zs : List Int) (x : Int) (j : Nat), (fi zs x j = -1 ∧ ∀ (i : Nat) z, zs[i]? = some z → z ≠ x) ∨
    (∃ k : Nat, fi zs x j = ((j + k : Nat) : Int) ∧ zs[k]? = some x ∧ ∀ (i : Nat) z, i < k → zs[i]? = some z → z ≠ x)
  | [], x, j => .inl ⟨rfl, fun i z h => by simp at h⟩
  | y :: ys, x, j => by
    by_cases hy : y = x
    · exact .inr ⟨0, by rw [fi, if_pos hy]; rfl, by simp [hy], fun i z hi _ => by omega⟩
    · rcases fi_facts ys x (j + 1) with ⟨h1, h2⟩ | ⟨k, h1, h2, h3⟩
      · refine .inl ⟨by rw [fi, if_neg hy]; exact h1, fun i z h => ?_⟩
        cases i with
        | zero => simp at h; rw [← h]; exact hy
        | succ i => exact h2 i z (by simpa using h)
      · refine .inr ⟨k + 1, by rw [fi, if_neg hy, h1]; congr 1; omega, by simpa using h2, fun i z hi h => ?_⟩
        cases i with
        | zero => simp at h; rw [← h]; exact hy
        | succ i => exact h3 i z (by omega) (by simpa using h)

set_option maxHeartbeats 1000000 in
set_option maxRecDepth 100000 in
theorem index_any (O : Nat) (zs : List Int) (x : Int) (w : World) (hl : zs.length ≤ 9223372036854775807) (hb : Blk w O 3 (ic zs)) :
    Calls Try.prog 83 #[.slice (some ⟨O, 0, none⟩) zs.length zs.length, .int .i64 x] w fun e w' => e = .returned (.int .i64 (fi zs x 0)) ∧ w = w' := by
  obtain ⟨r, hr⟩ : ∃ r, r = fi zs x 0 := ⟨_, rfl⟩
  rw [← hr]
  have HR : Hid (r = fi (zs.drop 0) x 0) := hid hr
  have HB := hid fun (k : Nat) z (h : zs[k]? = some z) => hb.cell (ic_at h)
  clear hr hb
  obtain ⟨N, hN⟩ : ∃ N, N = zs.length := ⟨_, rfl⟩
  rw [← hN] at hl ⊢
  have HN := hid hN
  clear hN
  go_enter Try.func83, Try.ntmps83
  go_wp2_with fail
  go_loop [5, 8] (fun _ i => ∃ k : Nat, k ≤ N ∧ i = .int .i64 k ∧ Hid (r = fi (zs.drop k) x k)) (fun _ i => N - (intOf i).toNat)
  case atStart => exact ⟨0, Nat.zero_le _, rfl, HR⟩
  case round =>
    obtain ⟨k, hk, rfl, HK⟩ := hrel
    clear HR
    by_cases hlt : k < N
    · obtain ⟨z, hz⟩ : ∃ z, zs[k]? = some z := ⟨_, List.getElem?_eq_getElem (by rw [← HN.out]; exact hlt)⟩
      have hc := HB.out k z hz
      have ilt : (k : Int) < (N : Int) := by omega
      by_cases hn : z = x
      · subst hn
        have HE : Hid (r = (k : Int)) := hid (by rw [HK.out, fi_hit hz rfl])
        clear hz HK HB HN
        go_wp2_with fail
        go_ret
        exact ⟨ret_i64 HE.out.symm, rfl⟩
      · have HK' : Hid (r = fi (zs.drop (k + 1)) x (k + 1)) := hid (by rw [HK.out, fi_miss hz hn])
        have hne : (x == z) = false := by simpa using fun e => hn e.symm
        clear hn hz HK HB HN
        go_wp2_with fail
        go_round
        case rel => exact ⟨k + 1, by omega, by go_num, HK'⟩
        case measure => simp [intOf] <;> omega
    · have HE : Hid (r = -1) := hid (by rw [HK.out, fi_end (by rw [← HN.out]; omega)])
      clear HK HB HN
      go_wp2_with fail
      go_ret
      exact ⟨ret_i64 HE.out.symm, rfl⟩

/-- The least free page is granted. -/
def St.grant (s : St) (o : Int) : Int × Int × St :=
  if ownB o = true then (if fi s.ow (-1) 0 = -1 then (-1, 5, s) else (fi s.ow (-1) 0, 0, s.setOw (fi s.ow (-1) 0).toNat o)) else (-1, 1, s)

set_option maxHeartbeats 1000000 in
set_option maxRecDepth 100000 in
theorem grant_any {P O R : Nat} {s : St} {w : World} (h : AIs P O R s w) (o : Int) :
    Calls Try.prog 71 #[.pointer (some ⟨P, 0, none⟩), .int .i64 o] w fun e w' => e = .returned (.tuple #[.int .i64 (s.grant o).1, .int .i64 (s.grant o).2.1]) ∧ AIs P O R (s.grant o).2.2 w' ∧ Only (fun b => b = O) w w' := by
  have hw := fun w => isOwner_any o w
  unfold St.grant
  cases ho : ownB o with
  | false =>
    rw [ho] at hw
    have H := hid h
    clear h ho
    simp only [Bool.false_eq_true, if_false]
    go_enter Try.func71, Try.ntmps71
    go_wp2_with fail
    refine (hw _).mono ?_
    rintro e w' ⟨rfl, rfl⟩
    clear hw
    go_wp2_with fail
    go_ret2
    exact ⟨rfl, H.out, Only.refl _ _⟩
  | true =>
    rw [if_pos rfl]
    rw [ho] at hw
    have hP : w.cell? ⟨P, 1, none⟩ = some (.slice (some ⟨O, 0, none⟩) s.ow.length s.ow.length) := h.head.cell rfl
    have hl := h.ok.n2
    have hi := index_any O s.ow (-1) w (by omega) h.own
    rcases fi_facts s.ow (-1) 0 with ⟨h1, -⟩ | ⟨k, h1, h2, -⟩
    · rw [h1] at hi ⊢
      have H := hid h
      clear h ho h1
      rw [if_pos rfl]
      generalize s.ow.length = n at *
      go_enter Try.func71, Try.ntmps71
      go_wp2_with fail
      refine (hw _).mono ?_
      rintro e w' ⟨rfl, rfl⟩
      clear hw
      go_wp2_with fail
      refine hi.mono ?_
      rintro e w' ⟨rfl, rfl⟩
      clear hi
      go_wp2_with fail
      go_ret2
      exact ⟨rfl, H.out, Only.refl _ _⟩
    · rw [Nat.zero_add] at h1
      rw [h1] at hi ⊢
      have hk : k < s.ow.length := (List.getElem?_eq_some_iff.1 h2).1
      have hO : w.cell? ⟨O, k, none⟩ = some (.int .i64 (-1)) := h.own.cell (ic_at h2)
      have hF : w.frozen? ⟨O, k, none⟩ = false := h.own.frozen k
      have H := hid (h.setOw k (ownB_true ho))
      have HO := hid ((Only.refl (fun b => b = O) w).setCell (p := ⟨O, k, none⟩) (.inl rfl) (.int .i64 o))
      clear h ho h1 h2
      rw [if_neg (by omega), Int.toNat_natCast]
      generalize s.setOw k o = s' at *
      generalize s.ow.length = n at *
      go_enter Try.func71, Try.ntmps71
      go_wp2_with fail
      refine (hw _).mono ?_
      rintro e w' ⟨rfl, rfl⟩
      clear hw
      go_wp2_with fail
      refine hi.mono ?_
      rintro e w' ⟨rfl, rfl⟩
      clear hi
      go_wp2_with fail
      go_ret2
      exact ⟨rfl, H.out, HO.out⟩
end Go.Proofs.Ytldfpacdlephcaa

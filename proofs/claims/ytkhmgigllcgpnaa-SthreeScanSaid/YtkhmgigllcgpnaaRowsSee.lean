/-
  The contracts of what only looks at rows: isRow, isID, Row, First, Last, Len. Conditions: the rows lie in memory.
-/
import Derived.Test.YtkhmgigllcgpnaaRowsObj
import Derived.Shelf.RegionOpen
import Derived.BigRegion
import Derived.BigQuiet
import Derived.WalkSpells
import Derived.Deep.DeepCutAuto
namespace Go.Proofs.Ytkhmgigllcgpnaa
open Go Go.RowKit Go.Lib

set_option maxRecDepth 100000 in
theorem isrow_any {P O M : Nat} {N : List (List Nd)} {w : World} (h : RM P O M N w) (r : Int) :
   Calls Try.prog 55 #[.pointer (some ⟨P, 0, none⟩), .int .i64 r] w fun e w' => e = .returned (.bool (decide (0 ≤ r ∧ r < N.length))) ∧ w = w' := by
  have c0 := h.p0
  generalize N.length = n at *
  clear h
  by_cases h0 : 0 ≤ r
  · by_cases h1 : r < n
    · have hd := hid (decide_eq_true (And.intro h0 h1))
      go_enter Try.func55, Try.ntmps55
      go_wp2_with fail
      go_ret
      exact ⟨ret_bool hd.out.symm, rfl⟩
    · have hd := hid (decide_eq_false (p := 0 ≤ r ∧ r < n) (fun e => h1 e.2))
      have h1' : (n : Int) ≤ r := by omega
      clear h1
      go_enter Try.func55, Try.ntmps55
      go_wp2_with fail
      go_ret
      exact ⟨ret_bool ((decide_eq_false (by omega)).trans hd.out.symm), rfl⟩
  · have hd := hid (decide_eq_false (p := 0 ≤ r ∧ r < n) (fun e => h0 e.1))
    have h1' : r < 0 := by omega
    clear h0
    go_enter Try.func55, Try.ntmps55
    go_wp2_with fail
    go_ret
    exact ⟨ret_bool (by rw [decide_eq_false (show ¬ 0 ≤ r by omega)]; rfl), rfl⟩
set_option maxRecDepth 100000 in
theorem isid_any (z : Int) (w : World) :
   Calls Try.prog 57 #[.int .i64 z] w fun e w' => e = .returned (.bool (decide (0 ≤ z ∧ z ≤ 4194303))) ∧ w = w' := by
  by_cases h0 : 0 ≤ z
  · by_cases h1 : z ≤ 4194303
    · have hd := hid (decide_eq_true (And.intro h0 h1))
      go_enter Try.func57, Try.ntmps57
      go_wp2_with fail
      go_ret
      exact ⟨ret_bool hd.out.symm, rfl⟩
    · have hd := hid (decide_eq_false (p := 0 ≤ z ∧ z ≤ 4194303) (fun e => h1 e.2))
      have h1' : 4194303 < z := by omega
      clear h1
      go_enter Try.func57, Try.ntmps57
      go_wp2_with fail
      go_ret
      exact ⟨ret_bool ((decide_eq_false (by omega)).trans hd.out.symm), rfl⟩
  · have hd := hid (decide_eq_false (p := 0 ≤ z ∧ z ≤ 4194303) (fun e => h0 e.1))
    have h1' : z < 0 := by omega
    clear h0
    go_enter Try.func57, Try.ntmps57
    go_wp2_with fail
    go_ret
    exact ⟨ret_bool (by rw [decide_eq_false (show ¬ 0 ≤ z by omega)]; rfl), rfl⟩

theorem rowAt_no {L : List (List Int)} {r : Int} (h : ¬ (0 ≤ r ∧ r < L.length)) : rowAt L r = [] := by
  unfold rowAt
  split
  · rename_i h0
    rw [List.getElem?_eq_none (by have : ¬ r < L.length := fun e => h ⟨h0, e⟩; omega)]; rfl
  · rfl
theorem rowAt_nat {L : List (List Int)} {i : Nat} {l : List Int} (h : L[i]? = some l) : rowAt L (i : Int) = l := by
  unfold rowAt
  rw [if_pos (by omega), Int.toNat_natCast, h]; rfl
theorem lst_nil (e : Pt) : lst e [] = e := rfl
theorem RowAt.first {w : World} {O i : Nat} {l : List Nd} (h : RowAt w O i l) : ∃ vb vo, w.cell? ⟨O, i * 5 + 3, none⟩ = some (.pointer (some ⟨vb, vo, none⟩)) ∧ w.cell? ⟨vb, vo, none⟩ = some (.int .i64 (firstOf (idl l))) := by
  refine ⟨(fst (edge O i) (pts l)).b, (fst (edge O i) (pts l)).o, ?_, ?_⟩
  · exact (ring_at (a := []) (b := pts l) h.seq).1
  · cases l with
    | nil => exact h.hd
    | cons x l => exact (h.node x (List.mem_cons_self ..)).1
theorem RowAt.last {w : World} {O i : Nat} {l : List Nd} (h : RowAt w O i l) : ∃ vb vo, w.cell? ⟨O, i * 5 + 2, none⟩ = some (.pointer (some ⟨vb, vo, none⟩)) ∧ w.cell? ⟨vb, vo, none⟩ = some (.int .i64 (lastOf (idl l))) := by
  refine ⟨(lst (edge O i) (pts l)).b, (lst (edge O i) (pts l)).o, ?_, ?_⟩
  · exact (ring_at (a := pts l) (b := []) (by rw [List.append_nil]; exact h.seq)).2
  · rcases List.eq_nil_or_concat l with rfl | ⟨a, x, rfl⟩
    · exact h.hd
    · rw [List.concat_eq_append] at h ⊢
      rw [pts_app, show pts [x] = [x.pt] from rfl, lst_snoc, show lastOf (idl (a ++ [x])) = x.id by unfold lastOf idl; simp]
      exact (h.node x (by simp)).1

set_option maxRecDepth 100000 in
theorem len_any {P O M : Nat} {N : List (List Nd)} {w : World} (h : RM P O M N w) (r : Int) :
   Calls Try.prog 59 #[.pointer (some ⟨P, 0, none⟩), .int .i64 r] w fun e w' => e = .returned (.int .i64 (rowAt (ids N) r).length) ∧ w = w' := by
  have hc := isrow_any h r
  by_cases hr : 0 ≤ r ∧ r < N.length
  · rw [decide_eq_true hr] at hc
    obtain ⟨i, rfl⟩ : ∃ i : Nat, r = i := ⟨r.toNat, by omega⟩
    have hi : i < N.length := by omega
    obtain ⟨l, hl⟩ : ∃ l, N[i]? = some l := ⟨_, List.getElem?_eq_getElem hi⟩
    clear hr
    have c0 := h.p0
    have c1 := (h.row i _ hl).ct
    replace c1 : w.cell? ⟨O, i * 5 + 4, none⟩ = some (.int .i64 (l.length : Nat)) := c1
    have hv : Hid ((rowAt (ids N) (i : Int)).length = l.length) := hid (by rw [rowAt_nat (ids_at hl)]; simp [idl])
    generalize l.length = K at *
    generalize N.length = n at *
    clear h hl
    go_enter Try.func59, Try.ntmps59
    go_wp2_with fail
    refine hc.mono ?_
    rintro e w1 ⟨rfl, rfl⟩
    go_wp2_with fail
    go_ret
    exact ⟨ret_i64 (by rw [hv.out]), rfl⟩
  · rw [decide_eq_false hr] at hc
    have hv := hid (rowAt_no (L := ids N) (by rw [ids_len]; exact hr))
    clear h hr
    go_enter Try.func59, Try.ntmps59
    go_wp2_with fail
    refine hc.mono ?_
    rintro e w1 ⟨rfl, rfl⟩
    go_wp2_with fail
    go_ret
    exact ⟨ret_i64 (by rw [hv.out]; rfl), rfl⟩
set_option maxRecDepth 100000 in
theorem last_any {P O M : Nat} {N : List (List Nd)} {w : World} (h : RM P O M N w) (r : Int) :
   Calls Try.prog 43 #[.pointer (some ⟨P, 0, none⟩), .int .i64 r] w fun e w' => e = .returned (.int .i64 (lastOf (rowAt (ids N) r))) ∧ w = w' := by
  have hc := isrow_any h r
  by_cases hr : 0 ≤ r ∧ r < N.length
  · rw [decide_eq_true hr] at hc
    obtain ⟨i, rfl⟩ : ∃ i : Nat, r = i := ⟨r.toNat, by omega⟩
    have hi : i < N.length := by omega
    obtain ⟨l, hl⟩ : ∃ l, N[i]? = some l := ⟨_, List.getElem?_eq_getElem hi⟩
    clear hr
    have c0 := h.p0
    obtain ⟨vb, vo, c1, c2⟩ := (h.row i _ hl).last
    have hv : Hid (lastOf (rowAt (ids N) (i : Int)) = lastOf (idl l)) := hid (by rw [rowAt_nat (ids_at hl)])
    generalize lastOf (idl l) = K at *
    generalize N.length = n at *
    clear h hl
    go_enter Try.func43, Try.ntmps43
    go_wp2_with fail
    refine hc.mono ?_
    rintro e w1 ⟨rfl, rfl⟩
    go_wp2_with fail
    go_ret
    exact ⟨ret_i64 (by rw [hv.out]), rfl⟩
  · rw [decide_eq_false hr] at hc
    have hv := hid (rowAt_no (L := ids N) (by rw [ids_len]; exact hr))
    clear h hr
    go_enter Try.func43, Try.ntmps43
    go_wp2_with fail
    refine hc.mono ?_
    rintro e w1 ⟨rfl, rfl⟩
    go_wp2_with fail
    go_ret
    exact ⟨ret_i64 (by rw [hv.out]; rfl), rfl⟩

/-- An id that stands, and its spot. -/
theorem RM.stands {P O M : Nat} {N : List (List Nd)} {w : World} (h : RM P O M N w) (z : Int) : (look N z = none ∧ rowOf (ids N) z = none) ∨ ∃ i a b x, x.id = z ∧ look N z = some x.b ∧ rowOf (ids N) z = some i ∧ N[i]? = some (a ++ x :: b) ∧ RowAt w O i (a ++ x :: b) := by
  cases e : look N z with
  | none =>
    refine .inl ⟨rfl, rowOf_none'.2 (fun hm => ?_)⟩
    rw [ids_flat] at hm
    obtain ⟨y, hy, e1⟩ := List.mem_map.1 hm
    rw [(look_iff h.idn).2 ⟨y, hy, e1, rfl⟩] at e; cases e
  | some c =>
    obtain ⟨x, hx, rfl, rfl⟩ := (look_iff h.idn).1 e
    obtain ⟨i, a, b, hi, hr⟩ := h.at_ hx
    exact .inr ⟨i, a, b, x, rfl, rfl, rowOf_at h.good.nd (ids_at hi) (List.mem_map.2 ⟨x, by simp, rfl⟩), hi, hr⟩
set_option maxRecDepth 100000 in
theorem row_any {P O M : Nat} {N : List (List Nd)} {w : World} (h : RM P O M N w) (z : Int) (hz : i64ok z) :
   Calls Try.prog 39 #[.pointer (some ⟨P, 0, none⟩), .int .i64 z] w fun e w' => e = .returned (.int .i64 (rv (rowOf (ids N) z))) ∧ w = w' := by
  have hL := h.map.look hz
  have c0 := h.p1
  rcases h.stands z with ⟨h1, h2⟩ | ⟨i, a, b, x, rfl, h1, h2, h3, h4⟩
  · rw [h1] at hL
    replace hL : (Instr.lookup 74 (.map (some M)) (.int .i64 z) false).run Try.prog w = .ok (.pointer none) w := hL
    have hv := hid h2
    clear h h1 h2
    go_enter Try.func39, Try.ntmps39
    go_wp2_with fail
    go_ret
    exact ⟨ret_i64 (by rw [hv.out]; rfl), rfl⟩
  · rw [h1] at hL
    replace hL : (Instr.lookup 74 (.map (some M)) (.int .i64 x.id) false).run Try.prog w = .ok (.pointer (some ⟨x.b, 0, none⟩)) w := hL
    have hv := hid h2
    have c2 := (h4.node x (by simp)).2
    replace c2 : w.cell? ⟨x.b, 1, none⟩ = some (.int .i64 i) := c2
    clear h h1 h2 h3 h4
    generalize x.id = z at *
    generalize x.b = B at *
    go_enter Try.func39, Try.ntmps39
    go_wp2_with fail
    go_ret
    exact ⟨ret_i64 (by rw [hv.out]; rfl), rfl⟩
end Go.Proofs.Ytkhmgigllcgpnaa

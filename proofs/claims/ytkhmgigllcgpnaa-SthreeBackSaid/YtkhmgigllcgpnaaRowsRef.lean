/-
  The document's own rows: how they lie in memory; the contracts of what looks at them, and of New and Take. Conditions: the rows lie in memory.
-/
import Derived.Test.YtkhmgigllcgpnaaRowsHeld
namespace Go.Proofs.Ytkhmgigllcgpnaa
open Go Go.RowKit Go.Lib

/-- The document's rows L lie at Q. -/
structure QM (Q R : Nat) (vs : List Value) (L : List (List Int)) (w : World) : Prop where
  good : GoodL L
  head : Blk w Q 70 [.slice (some ⟨R, 0, none⟩) L.length L.length]
  rows : Blk w R 43 vs
  len : vs.length = L.length
  row : ∀ (i : Nat) (v : Value) (l : List Int), vs[i]? = some v → L[i]? = some l → w.ownsRow 0 3 1 v l.length (ic l)
def QF (Q R : Nat) (vs : List Value) (b : Nat) : Prop := b = Q ∨ b = R ∨ ∃ v ∈ vs, v.ownBlock = some b
theorem own_ne {w : World} {base : Nat} {v : Value} {n : Nat} {xs : List Value} (h : w.ownsRow base 3 1 v n xs) {c : Nat} {t : TypeId} {cs : List Value} (hB : Blk w c t cs) (ht : 3 ≠ t) : ∀ b, v.ownBlock = some b → b ≠ c := fun b hb e => by
  subst e
  rcases h.2 with ⟨rfl, _⟩ | ⟨g, cap, cur, rfl, _, hg, _⟩
  · simp [Value.ownBlock] at hb
  · obtain rfl : g = b := by simpa [Value.ownBlock] using hb
    have hB' : w.heap[g]? = some (.cells cs.toArray t (0, 0)) := hB
    rw [hg] at hB'
    injection hB' with hB'; injection hB' with _ h2 _
    exact ht h2
theorem QM.val {Q R : Nat} {vs : List Value} {L : List (List Int)} {w : World} (h : QM Q R vs L w) {i : Nat} {l : List Int} (hi : L[i]? = some l) : ∃ v, vs[i]? = some v ∧ w.cell? ⟨R, i, none⟩ = some v ∧ w.ownsRow 0 3 1 v l.length (ic l) := by
  have hl := (List.getElem?_eq_some_iff.1 hi).1
  rw [← h.len] at hl
  exact ⟨vs[i], List.getElem?_eq_getElem hl, h.rows.cell (List.getElem?_eq_getElem hl), h.row i _ l (List.getElem?_eq_getElem hl) hi⟩
theorem QM.at_ {Q R : Nat} {vs : List Value} {L : List (List Int)} {w : World} (h : QM Q R vs L w) {v : Value} (hv : v ∈ vs) : ∃ l, w.ownsRow 0 3 1 v l.length (ic l) := by
  obtain ⟨i, hi⟩ := List.mem_iff_getElem?.1 hv
  have hl := (List.getElem?_eq_some_iff.1 hi).1
  rw [h.len] at hl
  exact ⟨_, h.row i v _ hi (List.getElem?_eq_getElem hl)⟩
theorem QM.lt {Q R : Nat} {vs : List Value} {L : List (List Int)} {w : World} (h : QM Q R vs L w) {b : Nat} (hb : QF Q R vs b) : b < w.heap.size := by
  rcases hb with rfl | rfl | ⟨v, hv, hb⟩
  · exact h.head.lt
  · exact h.rows.lt
  · obtain ⟨l, hl⟩ := h.at_ hv; exact (own_base_le hl hb).2
theorem QM.only {Q R : Nat} {vs : List Value} {L : List (List Int)} {w w' : World} {D : Nat → Prop} (h : QM Q R vs L w) (ho : Only D w w') (hd : ∀ b, QF Q R vs b → ¬ D b) : QM Q R vs L w' :=
  ⟨h.good, h.head.only ho (hd _ (.inl rfl)), h.rows.only ho (hd _ (.inr (.inl rfl))), h.len, fun i v l hv hl => own_only (h.row i v l hv hl) ho (fun b hb => hd b (.inr (.inr ⟨v, List.mem_of_getElem? hv, hb⟩)))⟩
theorem QM.below {Q R : Nat} {vs : List Value} {L : List (List Int)} {w w' : World} (h : QM Q R vs L w) (hb : Below w.heap.size w w') : QM Q R vs L w' := h.only (D := fun _ => False) (Below.only hb) (fun _ _ => id)
/-- Another row in one's place. -/
theorem QM.store {Q R : Nat} {vs : List Value} {L : List (List Int)} {w w1 : World} (h : QM Q R vs L w) (hb : Below w.heap.size w w1) {i : Nat} (hi : i < L.length) {v : Value} {l : List Int} (hv : w1.ownsRow w.heap.size 3 1 v l.length (ic l)) (hg : GoodL (L.set i l)) :
    QM Q R (vs.set i v) (L.set i l) (w1.setCell ⟨R, i, none⟩ v) ∧ Only (QF Q R vs) w (w1.setCell ⟨R, i, none⟩ v) ∧ ∀ b, QF Q R (vs.set i v) b → QF Q R vs b ∨ w.heap.size ≤ b := by
  have h1 := h.below hb
  have hQR : Q ≠ R := fun e => by
    have e1 : w.heap[Q]? = some (.cells _ _ (0, 0)) := h.head
    have e2 : w.heap[R]? = some (.cells _ _ (0, 0)) := h.rows
    rw [e, e2] at e1
    injection e1 with e1; injection e1 with _ e3 _
    exact absurd e3 (by decide)
  have ho : Only (fun b => b = R) w1 (w1.setCell ⟨R, i, none⟩ v) := Only.setCell (D := fun b => b = R) (Only.refl _ _) (p := ⟨R, i, none⟩) (.inl rfl) v
  have hv0 : w1.ownsRow 0 3 1 v l.length (ic l) := ⟨hv.1, hv.2.imp id (fun ⟨g, cap, cur, e, _, r⟩ => ⟨g, cap, cur, e, Nat.zero_le _, r⟩)⟩
  refine ⟨⟨hg, by rw [List.length_set]; exact h1.head.only ho hQR, h1.rows.set i v, by rw [List.length_set, List.length_set]; exact h1.len, fun j u m hu hm => ?_⟩, (Below.only (D := QF Q R vs) hb).setCell (p := ⟨R, i, none⟩) (.inl (.inr (.inl rfl))) v, fun b hb' => ?_⟩
  · rw [List.getElem?_set] at hu hm
    split at hu
    · rename_i e
      subst e
      rw [if_pos rfl, if_pos hi] at hm
      rw [if_pos (by rw [h.len]; exact hi)] at hu
      cases hu; cases hm
      exact own_only hv0 ho (fun b hb => own_ne hv0 h1.rows (by decide) b hb)
    · rename_i e
      rw [if_neg e] at hm
      exact own_only (h1.row j u m hu hm) ho (fun b hb => own_ne (h1.row j u m hu hm) h1.rows (by decide) b hb)
  · rcases hb' with e | e | ⟨u, hu, e⟩
    · exact .inl (.inl e)
    · exact .inl (.inr (.inl e))
    · rcases (List.mem_or_eq_of_mem_set hu) with hu | rfl
      · exact .inl (.inr (.inr ⟨u, hu, e⟩))
      · exact .inr (own_base_le hv e).1

set_option maxRecDepth 100000 in
theorem qmay_any {Q R : Nat} {vs : List Value} {L : List (List Int)} {w : World} (h : QM Q R vs L w) (r z : Int) :
    Calls Try.prog 61 #[.pointer (some ⟨Q, 0, none⟩), .int .i64 r, .int .i64 z] w fun e w' => e = .returned (.bool (decide (May L.length r z))) ∧ w = w' := by
  have c0 := h.head.cell (i := 0) rfl
  generalize L.length = n at *
  have hcase : (0 ≤ r ∧ r < n ∧ 0 ≤ z ∧ z ≤ 4194303) ∨ (r < 0) ∨ (0 ≤ r ∧ (n : Int) ≤ r) ∨ (0 ≤ r ∧ r < n ∧ z < 0) ∨ (0 ≤ r ∧ r < n ∧ 0 ≤ z ∧ 4194303 < z) := by omega
  clear h
  rcases hcase with ⟨h1, h2, h3, h4⟩ | h1 | ⟨h1, h2⟩ | ⟨h1, h2, h3⟩ | ⟨h1, h2, h3, h4⟩
  · have hd := hid (decide_eq_true (p := May n r z) ⟨h1, h2, h3, h4⟩)
    go_enter Try.func61, Try.ntmps61
    go_wp2_with fail
    go_ret
    exact ⟨by rw [hd.out]; exact ret_bool (by simp), rfl⟩
  all_goals
    have hd := hid (decide_eq_false (p := May n r z) (fun e => by unfold May at e; omega))
    go_enter Try.func61, Try.ntmps61
    go_wp2_with fail
    go_ret
    exact ⟨by rw [hd.out]; exact ret_bool (by simp <;> omega), rfl⟩
set_option maxRecDepth 100000 in
theorem qall_any {Q R : Nat} {vs : List Value} {L : List (List Int)} {w : World} (h : QM Q R vs L w) (r : Int) :
    Calls Try.prog 18 #[.pointer (some ⟨Q, 0, none⟩), .int .i64 r] w fun e w' => ∃ v, e = .returned v ∧ w.ownsRow 0 3 1 v (rowAt L r).length (ic (rowAt L r)) ∧ w = w' := by
  have c0 := h.head.cell (i := 0) rfl
  by_cases hr : 0 ≤ r ∧ r < L.length
  · obtain ⟨i, rfl⟩ : ∃ i : Nat, r = i := ⟨r.toNat, by omega⟩
    obtain ⟨l, hl⟩ : ∃ l, L[i]? = some l := ⟨_, List.getElem?_eq_getElem (by omega)⟩
    obtain ⟨v, hv, c1, ho⟩ := h.val hl
    have hin : (i : Int) < (L.length : Int) := hr.2
    have hn8 := h.good.n8
    rw [rowAt_nat hl]
    obtain ⟨a, c, rfl⟩ := row_form ho
    have HO := hid ho
    generalize L.length = n at *
    clear h hr ho
    go_enter Try.func18, Try.ntmps18
    go_wp2_with fail
    go_ret
    exact ⟨_, rfl, HO.out, rfl⟩
  · have hv := hid (rowAt_no hr)
    have hcase : r < 0 ∨ (0 ≤ r ∧ (L.length : Int) ≤ r) := by omega
    generalize L.length = n at *
    clear h hr
    rcases hcase with h0 | ⟨h0, h1⟩
    all_goals
      go_enter Try.func18, Try.ntmps18
      go_wp2_with fail
      go_ret
      exact ⟨.slice none 0 0, rfl, by rw [hv.out]; exact World.ownsRow_nil _ _ _ _, rfl⟩
set_option maxRecDepth 100000 in
theorem qlen_any {Q R : Nat} {vs : List Value} {L : List (List Int)} {w : World} (h : QM Q R vs L w) (r : Int) :
    Calls Try.prog 53 #[.pointer (some ⟨Q, 0, none⟩), .int .i64 r] w fun e w' => e = .returned (.int .i64 (rowAt L r).length) ∧ w = w' := by
  have hc := qall_any h r
  generalize rowAt L r = l at *
  clear h
  go_enter Try.func53, Try.ntmps53
  go_wp2_with fail
  refine hc.mono ?_
  rintro e w1 ⟨v, rfl, ho, rfl⟩
  obtain ⟨a, c, rfl⟩ := row_form ho
  clear ho
  go_wp2_with fail
  go_ret
  exact ⟨rfl, rfl⟩
theorem first_at {l : List Int} {z : Int} (h : l[0]? = some z) : firstOf l = z := by unfold firstOf; rw [List.head?_eq_getElem?, h]; rfl
theorem last_at {l : List Int} {m : Nat} {z : Int} (hm : l.length = m + 1) (h : l[m]? = some z) : lastOf l = z := by unfold lastOf; rw [List.getLast?_eq_getElem?, hm]; simp [h]
set_option maxRecDepth 100000 in
theorem qlast_any {Q R : Nat} {vs : List Value} {L : List (List Int)} {w : World} (h : QM Q R vs L w) (r : Int) :
    Calls Try.prog 54 #[.pointer (some ⟨Q, 0, none⟩), .int .i64 r] w fun e w' => e = .returned (.int .i64 (lastOf (rowAt L r))) ∧ w = w' := by
  have hc := qall_any h r
  have hlb : (rowAt L r).length ≤ 4194304 := by
    by_cases hr : 0 ≤ r ∧ r < L.length
    · obtain ⟨i, rfl⟩ : ∃ i : Nat, r = i := ⟨r.toNat, by omega⟩
      obtain ⟨l, hl⟩ : ∃ l, L[i]? = some l := ⟨_, List.getElem?_eq_getElem (by omega)⟩
      rw [rowAt_nat hl]; exact h.good.len hl
    · rw [rowAt_no hr]; exact Nat.zero_le _
  generalize rowAt L r = l at *
  clear h
  cases hl : l.length with
  | zero =>
    obtain rfl := List.length_eq_zero_iff.1 hl
    go_enter Try.func54, Try.ntmps54
    go_wp2_with fail
    refine hc.mono ?_
    rintro e w1 ⟨v, rfl, ho, rfl⟩
    obtain ⟨a, c, hv⟩ := row_form ho
    replace hv : v = .slice a 0 c := hv
    subst hv
    clear ho
    go_wp2_with fail
    go_ret
    exact ⟨rfl, rfl⟩
  | succ M =>
    obtain ⟨z, hz⟩ : ∃ z, l[M]? = some z := ⟨_, List.getElem?_eq_getElem (by omega)⟩
    rw [hl] at hc hlb
    have hv2 := hid (last_at hl hz)
    have HZ := hid hz
    clear hl hz
    go_enter Try.func54, Try.ntmps54
    go_wp2_with fail
    refine hc.mono ?_
    rintro e w1 ⟨v, rfl, ho, rfl⟩
    obtain ⟨g, cap, hv, _, _, _⟩ := row_pos ho (by omega)
    subst hv
    have hcz := cel_of ho M z HZ.out
    clear ho
    have hN2 : (((M : Int) + 1) == 0) = false := by rw [beq_eq_false_iff_ne]; omega
    go_wp2_with fail
    go_ret
    exact ⟨ret_i64 hv2.out.symm, rfl⟩
end Go.Proofs.Ytkhmgigllcgpnaa

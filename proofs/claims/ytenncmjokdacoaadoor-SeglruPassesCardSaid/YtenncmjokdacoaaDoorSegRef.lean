/-
  The document's own segmented row: how it lies in memory; the contracts of Active and idle. Conditions: it lies in memory.
-/
import Derived.Test.YtenncmjokdacoaaDoorSegFacts
namespace Go.Proofs.YtenncmjokdacoaaDoor.Sr
open Go Go.RowKit Go.Lib

/-- The document's rows, and the row of who is active, lie at P. -/
structure QP (P Q R : Nat) (vs : List Value) (v : Value) (L : List (List Int)) (xs : List Int) (w : World) : Prop where
  head : Blk w P 37 [.pointer (some ⟨Q, 0, none⟩), v]
  rows : QM Q R vs L w
  row : w.ownsRow 0 3 1 v xs.length (ic xs)
  len : xs.length ≤ 4194304
  out1 : ¬ QF Q R vs P
  out2 : ∀ b, v.ownBlock = some b → ¬ QF Q R vs b
def QPF (P Q R : Nat) (vs : List Value) (v : Value) (b : Nat) : Prop := b = P ∨ QF Q R vs b ∨ v.ownBlock = some b
section
variable {P Q R : Nat} {vs : List Value} {v : Value} {L : List (List Int)} {xs : List Int} {w w' : World}
theorem QP.ne (h : QP P Q R vs v L xs w) : ∀ b, v.ownBlock = some b → b ≠ P := own_ne h.row h.head (by decide)
theorem QP.lt (h : QP P Q R vs v L xs w) {b : Nat} (hb : QPF P Q R vs v b) : b < w.heap.size := by
  rcases hb with rfl | hb | hb
  · exact h.head.lt
  · exact h.rows.lt hb
  · exact (own_base_le h.row hb).2
theorem QP.only {D : Nat → Prop} (h : QP P Q R vs v L xs w) (ho : Only D w w') (hd : ∀ b, QPF P Q R vs v b → ¬ D b) : QP P Q R vs v L xs w' :=
  ⟨h.head.only ho (hd _ (.inl rfl)), h.rows.only ho (fun b hb => hd b (.inr (.inl hb))), own_only h.row ho (fun b hb => hd b (.inr (.inr hb))), h.len, h.out1, h.out2⟩
theorem QP.below (h : QP P Q R vs v L xs w) (hb : Below w.heap.size w w') : QP P Q R vs v L xs w' := h.only (D := fun _ => False) (Below.only hb) (fun _ _ => id)
/-- The rows turned. -/
theorem QP.go {vs' : List Value} {L' : List (List Int)} (h : QP P Q R vs v L xs w) (g : QGo Q R vs w vs' L' w') : QP P Q R vs' v L' xs w' ∧ Only (QPF P Q R vs v) w w' ∧ ∀ b, QPF P Q R vs' v b → QPF P Q R vs v b ∨ w.heap.size ≤ b := by
  have hlt : ∀ b, QPF P Q R vs v b → ¬ QF Q R vs b → ¬ QF Q R vs' b := fun b hb hn hq => (g.foot b hq).elim hn (fun e => absurd (h.lt hb) (Nat.not_lt.2 e))
  refine ⟨⟨h.head.only g.only h.out1, g.qm, own_only h.row g.only h.out2, h.len, hlt P (.inl rfl) h.out1, fun b hb => hlt b (.inr (.inr hb)) (h.out2 b hb)⟩, g.only.mono (fun b hb => .inr (.inl hb)), fun b hb => ?_⟩
  rcases hb with hb | hb | hb
  · exact .inl (.inl hb)
  · exact (g.foot b hb).imp (fun e => .inr (.inl e)) id
  · exact .inl (.inr (.inr hb))
/-- Another row of who is active. -/
theorem QP.store {v1 : Value} {ys : List Int} {w1 : World} (h : QP P Q R vs v L xs w) (ho : Only (fun b => v.ownBlock = some b) w w1) (hv : w1.ownsRow 0 3 1 v1 ys.length (ic ys)) (hf : ∀ b, v1.ownBlock = some b → v.ownBlock = some b ∨ w.heap.size ≤ b) (hl : ys.length ≤ 4194304) :
    QP P Q R vs v1 L ys (w1.setCell ⟨P, 1, none⟩ v1) ∧ Only (QPF P Q R vs v) w (w1.setCell ⟨P, 1, none⟩ v1) ∧ ∀ b, QPF P Q R vs v1 b → QPF P Q R vs v b ∨ w.heap.size ≤ b := by
  have h1 : Blk w1 P 37 [.pointer (some ⟨Q, 0, none⟩), v] := h.head.only ho (fun e => h.ne P e rfl)
  have h2 := h1.set 1 v1
  have ho2 : Only (fun b => b = P) w1 (w1.setCell ⟨P, 1, none⟩ v1) := Only.setCell (D := fun b => b = P) (Only.refl _ _) (p := ⟨P, 1, none⟩) (.inl rfl) v1
  refine ⟨⟨h2, (h.rows.only ho (fun b hb e => h.out2 b e hb)).only ho2 (fun b hb e => h.out1 (e ▸ hb)), own_only hv ho2 (fun b hb => own_ne hv h1 (by decide) b hb), hl, h.out1, fun b hb hq => (hf b hb).elim (fun e => h.out2 b e hq) (fun e => absurd (h.rows.lt hq) (Nat.not_lt.2 e))⟩,
    (ho.mono (fun b hb => .inr (.inr hb))).setCell (p := ⟨P, 1, none⟩) (.inl (.inl rfl)) v1, fun b hb => ?_⟩
  rcases hb with hb | hb | hb
  · exact .inl (.inl hb)
  · exact .inl (.inr (.inl hb))
  · exact (hf b hb).imp (fun e => .inr (.inr e)) id
end
theorem own_zero {w : World} {b : Nat} {e : TypeId} {v : Value} {n : Nat} {xs : List Value} (h : w.ownsRow b e 1 v n xs) : w.ownsRow 0 e 1 v n xs := ⟨h.1, h.2.imp id (fun ⟨g, cap, cur, e, _, r⟩ => ⟨g, cap, cur, e, Nat.zero_le _, r⟩)⟩

set_option maxRecDepth 100000 in
set_option maxHeartbeats 1000000 in
theorem qp_active {P Q R : Nat} {vs : List Value} {v : Value} {L : List (List Int)} {xs : List Int} {w : World} (h : QP P Q R vs v L xs w) (z : Int) :
    Calls Tryd.prog 22 #[.pointer (some ⟨P, 0, none⟩), .int .i64 z] w fun e w' => e = .returned (.bool (decide (z ∈ xs))) ∧ w = w' := by
  have c1 := h.head.cell (i := 1) rfl
  have hlb := h.len
  have HO := hid h.row
  obtain ⟨a, c, rfl⟩ := row_form h.row
  obtain ⟨K, hK⟩ : ∃ K, K = xs.length := ⟨_, rfl⟩
  rw [← hK] at hlb HO c1
  have HK := hid hK
  clear h hK
  go_enter Tryd.func22, Tryd.ntmps22
  go_wp2_with fail
  go_loopw [5] (fun p wr => ∃ k : Nat, p = .int .i64 k ∧ k ≤ K ∧ w = wr ∧ Hid (∀ (j : Nat) y, j < k → xs[j]? = some y → y ≠ z)) (fun p _ => K - (RowKit.intOf p).toNat)
  case atStart => exact ⟨0, rfl, Nat.zero_le _, rfl, hid (fun j y hj => absurd hj (Nat.not_lt_zero j))⟩
  case round =>
    obtain ⟨k, rfl, hk, rfl, hno2⟩ := hrel
    by_cases hlt2 : k < K
    · obtain ⟨y, hy⟩ : ∃ y, xs[k]? = some y := ⟨_, List.getElem?_eq_getElem (by rw [← HK.out]; exact hlt2)⟩
      obtain ⟨g, cap, hv, _, _, _⟩ := row_pos HO.out (by omega)
      cases hv
      have hcy := cel_of HO.out k y hy
      by_cases e : y = z
      · have hr : Hid (decide (z ∈ xs) = true) := hid (decide_eq_true (by rw [← e]; exact List.mem_of_getElem? hy))
        subst e
        clear hy
        go_wp2_with fail
        go_ret
        exact ⟨ret_bool hr.out.symm, rfl⟩
      · have hno3 : Hid (∀ (j : Nat) y, j < k + 1 → xs[j]? = some y → y ≠ z) := hid (fun j x hj hx => by
          by_cases e1 : j = k
          · subst e1; rw [hy] at hx; cases hx; exact e
          · exact hno2.out j x (by omega) hx)
        have hne : (y == z) = false := beq_eq_false_iff_ne.2 e
        clear hy e
        go_wp2_with fail
        go_roundw
        case rel => exact ⟨k + 1, by go_num, by omega, by first | rfl | trivial, hno3⟩
        case measure => simp [RowKit.intOf] <;> omega
    · obtain rfl : k = K := by omega
      have hr : Hid (decide (z ∈ xs) = false) := hid (decide_eq_false (fun hz => by
        obtain ⟨q, hq⟩ := List.mem_iff_getElem?.1 hz
        exact hno2.out q z (by rw [HK.out]; exact (List.getElem?_eq_some_iff.1 hq).1) hq rfl))
      go_wp2_with fail
      go_ret
      exact ⟨ret_bool hr.out.symm, rfl⟩

set_option maxRecDepth 100000 in
set_option maxHeartbeats 1000000 in
theorem qp_idle {P Q R : Nat} {vs : List Value} {v : Value} {L : List (List Int)} {xs : List Int} {w : World} (h : QP P Q R vs v L xs w) (z : Int) :
    Calls Tryd.prog 32 #[.pointer (some ⟨P, 0, none⟩), .int .i64 z] w fun e w' => e = .returned (.tuple #[]) ∧ ∃ v', QP P Q R vs v' L (xs.filter (fun y => decide (y ≠ z))) w' ∧ Only (QPF P Q R vs v) w w' ∧ ∀ b, QPF P Q R vs v' b → QPF P Q R vs v b ∨ w.heap.size ≤ b := by
  have c1 := h.head.cell (i := 1) rfl
  have hlb := h.len
  have l0 := h.head.lt
  have hfz := h.head.frozen 1
  obtain ⟨i0, hi0, hz0, hz1, hz2⟩ := info_parts infoInt
  have HO := hid h.row
  obtain ⟨a, c, rfl⟩ := row_form h.row
  obtain ⟨K, hK⟩ : ∃ K, K = xs.length := ⟨_, rfl⟩
  have hst : Hid (∀ w1 v1, Below w.heap.size w w1 → w1.ownsRow w.heap.size 3 1 v1 (xs.filter (fun y => decide (y ≠ z))).length (ic (xs.filter (fun y => decide (y ≠ z)))) → QP P Q R vs v1 L (xs.filter (fun y => decide (y ≠ z))) (w1.setCell ⟨P, 1, none⟩ v1) ∧ Only (QPF P Q R vs (.slice a K c)) w (w1.setCell ⟨P, 1, none⟩ v1) ∧ ∀ b, QPF P Q R vs v1 b → QPF P Q R vs (.slice a K c) b ∨ w.heap.size ≤ b) := hid (fun w1 v1 b1 o1 => by
    rw [hK]
    exact h.store (Below.only b1) (own_zero o1) (fun b hb => .inr (own_base_le o1 hb).1) (Nat.le_trans (List.length_filter_le _ _) h.len))
  rw [← hK] at hlb HO c1 ⊢
  have HK := hid hK
  clear h hK
  go_enter Tryd.func32, Tryd.ntmps32
  go_wp2_with fail
  go_loopw [4, 5] (fun p1 p2 wr => ∃ (k : Nat) (v : Value), v = p1 ∧ p2 = .int .i64 k ∧ k ≤ K ∧ Hid (wr.ownsRow w.heap.size 3 1 v ((xs.take k).filter (fun y => decide (y ≠ z))).length (ic ((xs.take k).filter (fun y => decide (y ≠ z))))) ∧ Hid (Below w.heap.size w wr)) (fun _ p _ => K - (RowKit.intOf p).toNat)
  case atStart => exact ⟨0, _, rfl, rfl, Nat.zero_le _, hid (World.ownsRow_nil _ _ _ _), hid (Below.refl _ _)⟩
  case round =>
    obtain ⟨k, v, rfl, rfl, hk, hOw, hB⟩ := hrel
    have d1 := (hB.out.cell (p := ⟨P, 1, none⟩) l0).trans c1
    by_cases hlt : k < K
    · obtain ⟨y, hy⟩ : ∃ y, xs[k]? = some y := ⟨_, List.getElem?_eq_getElem (by rw [← HK.out]; exact hlt)⟩
      obtain ⟨g, cap, hv, _, _, hgl⟩ := row_pos HO.out (by omega)
      cases hv
      have hcy := (hB.out.cell (p := ⟨g, k, none⟩) hgl).trans (cel_of HO.out k y hy)
      have hfs := filt_snoc (z := z) hy
      by_cases e : y = z
      · rw [if_pos e, List.append_nil] at hfs
        have HF := hid hfs
        subst e
        clear hy hfs
        go_wp2_with fail
        go_roundw
        case rel => exact ⟨k + 1, v, rfl, by go_num, by omega, hid (by rw [HF.out]; exact hOw.out), hB⟩
        case measure => simp [RowKit.intOf] <;> omega
      · rw [if_neg e] at hfs
        have HF := hid hfs
        have hne : (y == z) = false := beq_eq_false_iff_ne.2 e
        have hown := hOw.out
        have hsz := hB.out.size
        have hfl : ((xs.take k).filter (fun y => decide (y ≠ z))).length ≤ 4194304 := Nat.le_trans (List.length_filter_le _ _) (by rw [List.length_take]; omega)
        generalize (xs.take k).filter (fun y => decide (y ≠ z)) = fs at *
        clear hy hfs e
        go_wp2_with (at_builtin; refine wpList_append_own_at _ rfl _ _ 32 rfl w.heap.size 3 i0 (.int .i64 0) 1 8 Tryd.underlying32 hi0 hz0 hz1 hz2 rfl (by decide) v _ _ rfl (hown.alloc _) ⟨wr.heap.size, 0, none⟩ 1 1 [.int .i64 y] rfl rfl (one_cell _ _ _) (one_ok _) (by unfold maxLen; omega) (by omega) (by simp; omega) ?_; intro v6 w6 hown6 hgrow6 hnil6 hloc6)
        exact ⟨⟨k + 1, v6, rfl, rfl, by omega, hid (by rw [HF.out, show (fs ++ [y]).length = fs.length + 1 by simp, ic_snoc]; exact hown6), hid (hB.out.trans ((own_grown hown hsz hgrow6)))⟩, by simp [RowKit.intOf]; omega⟩
    · obtain rfl : k = K := by omega
      have hG := hst.out wr v hB.out (by have := hOw.out; rw [HK.out, List.take_length] at this; exact this)
      have hfz2 := (hB.out.frozen (p := ⟨P, 1, none⟩) l0).trans hfz
      have HG := hid hG
      obtain ⟨a6, c6, hv6⟩ := row_form hOw.out
      generalize ((xs.take k).filter (fun y => decide (y ≠ z))).length = N7 at hv6
      subst hv6
      clear hG hst hOw
      go_wp2_with fail
      go_end0
      exact ⟨rfl, _, HG.out⟩
end Go.Proofs.YtenncmjokdacoaaDoor.Sr

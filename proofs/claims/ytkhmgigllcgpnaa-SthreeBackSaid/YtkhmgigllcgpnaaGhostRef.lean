/-
  The document's own ghost: how it lies in memory; the contracts of New, Has, Remove. Conditions: the ghost lies in memory.
-/
import Derived.Test.YtkhmgigllcgpnaaGhostHeld
namespace Go.Proofs.Ytkhmgigllcgpnaa.Gh
open Go Go.RowKit Go.Lib

/-- The document's ghost with the numbers l and the bound m lies at Q. -/
structure QM (Q m : Nat) (v : Value) (l : List Int) (w : World) : Prop where
  len : l.length ≤ 4194304
  mb : (m : Int) ≤ 9223372036854775807
  head : Blk w Q 36 [.int .i64 m, v]
  row : w.ownsRow 0 29 1 v l.length (uc l)
def QF (Q : Nat) (v : Value) (b : Nat) : Prop := b = Q ∨ v.ownBlock = some b
theorem own_ne {w : World} {base : Nat} {v : Value} {n : Nat} {xs : List Value} (h : w.ownsRow base 29 1 v n xs) {c : Nat} {t : TypeId} {cs : List Value} (hB : Blk w c t cs) (ht : 29 ≠ t) : ∀ b, v.ownBlock = some b → b ≠ c := fun b hb e => by
  subst e
  rcases h.2 with ⟨rfl, _⟩ | ⟨g, cap, cur, rfl, _, hg, _⟩
  · simp [Value.ownBlock] at hb
  · obtain rfl : g = b := by simpa [Value.ownBlock] using hb
    have hB' : w.heap[g]? = some (.cells cs.toArray t (0, 0)) := hB
    rw [hg] at hB'
    injection hB' with hB'; injection hB' with _ h2 _
    exact ht h2
theorem QM.lt {Q m : Nat} {v : Value} {l : List Int} {w : World} (h : QM Q m v l w) {b : Nat} (hb : QF Q v b) : b < w.heap.size := by
  rcases hb with rfl | hb
  · exact h.head.lt
  · exact (own_base_le h.row hb).2
theorem QM.only {Q m : Nat} {v : Value} {l : List Int} {w w' : World} {D : Nat → Prop} (h : QM Q m v l w) (ho : Only D w w') (hd : ∀ b, QF Q v b → ¬ D b) : QM Q m v l w' :=
  ⟨h.len, h.mb, h.head.only ho (hd _ (.inl rfl)), own_only h.row ho (fun b hb => hd b (.inr hb))⟩
theorem QM.below {Q m : Nat} {v : Value} {l : List Int} {w w' : World} (h : QM Q m v l w) (hb : Below w.heap.size w w') : QM Q m v l w' := h.only (D := fun _ => False) (Below.only hb) (fun _ _ => id)
theorem own_zero {w : World} {b : Nat} {e : TypeId} {v : Value} {n : Nat} {xs : List Value} (h : w.ownsRow b e 1 v n xs) : w.ownsRow 0 e 1 v n xs := ⟨h.1, h.2.imp id (fun ⟨g, cap, cur, e, _, r⟩ => ⟨g, cap, cur, e, Nat.zero_le _, r⟩)⟩
/-- What a call leaves of the document's ghost. -/
structure QGo (Q : Nat) (v : Value) (w : World) (m : Nat) (v' : Value) (l' : List Int) (w' : World) : Prop where
  qm : QM Q m v' l' w'
  only : Only (QF Q v) w w'
  foot : ∀ b, QF Q v' b → QF Q v b ∨ w.heap.size ≤ b
theorem QGo.refl {Q m : Nat} {v : Value} {l : List Int} {w : World} (h : QM Q m v l w) : QGo Q v w m v l w := ⟨h, Only.refl _ _, fun _ hb => .inl hb⟩
theorem QGo.trans {Q m m' : Nat} {v v1 v2 : Value} {w w1 w2 : World} {l1 l2 : List Int} (h : QGo Q v w m v1 l1 w1) (k : QGo Q v1 w1 m' v2 l2 w2) : QGo Q v w m' v2 l2 w2 :=
  ⟨k.qm, h.only.trans k.only h.foot, fun b hb => (k.foot b hb).elim (h.foot b) (fun e => .inr (Nat.le_trans h.only.size e))⟩
/-- Another row in the place of its row. -/
theorem QM.store {Q m : Nat} {v v1 : Value} {l l1 : List Int} {w w1 : World} (h : QM Q m v l w) (ho : Only (fun b => v.ownBlock = some b) w w1) (hv : w1.ownsRow 0 29 1 v1 l1.length (uc l1)) (hf : ∀ b, v1.ownBlock = some b → v.ownBlock = some b ∨ w.heap.size ≤ b) (hl : l1.length ≤ 4194304) :
    QGo Q v w m v1 l1 (w1.setCell ⟨Q, 1, none⟩ v1) := by
  have h1 : Blk w1 Q 36 [.int .i64 m, v] := h.head.only ho (fun e => own_ne h.row h.head (by decide) Q e rfl)
  have h2 := h1.set 1 v1
  have ho2 : Only (fun b => b = Q) w1 (w1.setCell ⟨Q, 1, none⟩ v1) := Only.setCell (D := fun b => b = Q) (Only.refl _ _) (p := ⟨Q, 1, none⟩) (.inl rfl) v1
  exact ⟨⟨hl, h.mb, h2, own_only hv ho2 (fun b hb => own_ne hv h1 (by decide) b hb)⟩, (ho.mono (fun b hb => .inr hb)).setCell (p := ⟨Q, 1, none⟩) (.inl (.inl rfl)) v1, fun b hb => hb.elim (fun e => .inl (.inl e)) (fun e => (hf b e).imp .inr id)⟩

set_option maxRecDepth 100000 in
theorem qnew_any (mo : Int) (q : -9223372036854775808 ≤ mo ∧ mo ≤ 9223372036854775807) (w : World) : Calls Try.prog 27 #[.int .i64 mo] w fun e w' => ∃ Q v, e = .returned (.pointer (some ⟨Q, 0, none⟩)) ∧ QM Q mo.toNat v [] w' ∧ Below w.heap.size w w' ∧ ∀ b, QF Q v b → w.heap.size ≤ b := by
  obtain ⟨m, hm⟩ : ∃ m, m = mo.toNat := ⟨_, rfl⟩
  rw [← hm]
  have hmb : (m : Int) ≤ 9223372036854775807 := by omega
  have hfin : Hid (∀ w2, w.alloc (.cells #[.int .i64 m, .slice none 0 0] 36) = w2 → QM w.heap.size m (.slice none 0 0) [] w2 ∧ Below w.heap.size w w2) := hid (by
    rintro w2 rfl
    exact ⟨⟨by simp, hmb, Blk.new w #[.int .i64 m, .slice none 0 0] 36, World.ownsRow_nil _ _ _ _⟩, (Below.refl _ _).alloc (Nat.le_refl _) _⟩)
  clear hmb q
  rcases Int.lt_or_le mo 0 with h0 | h0
  · have e0 : m = 0 := by omega
    subst e0
    clear hm
    go_enter Try.func27, Try.ntmps27
    go_wp2_with fail
    go_ret
    obtain ⟨k1, k2⟩ := hfin.out _ rfl
    refine ⟨w.heap.size, _, rfl, k1, k2, fun b hb => ?_⟩
    rcases hb with rfl | hb
    · exact Nat.le_refl _
    · simp [Value.ownBlock] at hb
  · obtain rfl : mo = (m : Int) := by omega
    clear hm
    go_enter Try.func27, Try.ntmps27
    go_wp2_with fail
    go_ret
    obtain ⟨k1, k2⟩ := hfin.out _ rfl
    refine ⟨w.heap.size, _, rfl, k1, k2, fun b hb => ?_⟩
    rcases hb with rfl | hb
    · exact Nat.le_refl _
    · simp [Value.ownBlock] at hb

set_option maxRecDepth 100000 in
set_option maxHeartbeats 1000000 in
theorem qhas_any {Q m : Nat} {v : Value} {l : List Int} {w : World} (h : QM Q m v l w) (z : Int) :
    Calls Try.prog 60 #[.pointer (some ⟨Q, 0, none⟩), .int .u64 z] w fun e w' => e = .returned (.bool (decide (z ∈ l))) ∧ w = w' := by
  have c1 := h.head.cell (i := 1) rfl
  have hlb := h.len
  have HO := hid h.row
  obtain ⟨a, c, rfl⟩ := row_form h.row
  obtain ⟨K, hK⟩ : ∃ K, K = l.length := ⟨_, rfl⟩
  rw [← hK] at hlb HO c1
  have HK := hid hK
  clear h hK
  go_enter Try.func60, Try.ntmps60
  go_wp2_with fail
  go_loopw [5] (fun p wr => ∃ k : Nat, p = .int .i64 k ∧ k ≤ K ∧ w = wr ∧ Hid (∀ (j : Nat) y, j < k → l[j]? = some y → y ≠ z)) (fun p _ => K - (RowKit.intOf p).toNat)
  case atStart => exact ⟨0, rfl, Nat.zero_le _, rfl, hid (fun j y hj => absurd hj (Nat.not_lt_zero j))⟩
  case round =>
    obtain ⟨k, rfl, hk, rfl, hno2⟩ := hrel
    by_cases hlt2 : k < K
    · obtain ⟨y, hy⟩ : ∃ y, l[k]? = some y := ⟨_, List.getElem?_eq_getElem (by rw [← HK.out]; exact hlt2)⟩
      obtain ⟨g, cap, hv, _, _, _⟩ := row_pos HO.out (by omega)
      cases hv
      have hcy := cel_of HO.out k y hy
      by_cases e : y = z
      · have hr : Hid (decide (z ∈ l) = true) := hid (decide_eq_true (by rw [← e]; exact List.mem_of_getElem? hy))
        subst e
        clear hy
        go_wp2_with fail
        go_ret
        exact ⟨ret_bool hr.out.symm, rfl⟩
      · have hno3 : Hid (∀ (j : Nat) y, j < k + 1 → l[j]? = some y → y ≠ z) := hid (fun j x hj hx => by
          by_cases e1 : j = k
          · subst e1; rw [hy] at hx; cases hx; exact e
          · exact hno2.out j x (by omega) hx)
        have hne : (y == z) = false := beq_eq_false_iff_ne.2 e
        clear hy e
        go_wp2_with fail
        go_roundw
        case rel => exact ⟨k + 1, by go_num, by omega, by first | rfl | trivial, hno3⟩
        case measure => simp [RowKit.intOf] <;> omega
    · obtain rfl : k = K := by omega
      have hr : Hid (decide (z ∈ l) = false) := hid (decide_eq_false (fun hz => by
        obtain ⟨q, hq⟩ := List.mem_iff_getElem?.1 hz
        exact hno2.out q z (by rw [HK.out]; exact (List.getElem?_eq_some_iff.1 hq).1) hq rfl))
      go_wp2_with fail
      go_ret
      exact ⟨ret_bool hr.out.symm, rfl⟩
theorem filt_snoc {l : List Int} {k : Nat} {y z : Int} (h : l[k]? = some y) : rmL (l.take (k + 1)) z = rmL (l.take k) z ++ (if y = z then [] else [y]) := by
  unfold rmL
  rw [take_snoc h, List.filter_append]
  congr 1
  by_cases e : y = z
  · rw [if_pos e, List.filter_cons_of_neg (by simpa using e)]; rfl
  · rw [if_neg e, List.filter_cons_of_pos (by simpa using e)]; rfl

set_option maxRecDepth 100000 in
set_option maxHeartbeats 1000000 in
theorem qremove_any {Q m : Nat} {v : Value} {l : List Int} {w : World} (h : QM Q m v l w) (z : Int) :
    Calls Try.prog 46 #[.pointer (some ⟨Q, 0, none⟩), .int .u64 z] w fun e w' => e = .returned (.bool (decide (z ∈ l))) ∧ ∃ v', QGo Q v w m v' (rmL l z) w' := by
  have hro := qhas_any h z
  have c1 := h.head.cell (i := 1) rfl
  have hlb := h.len
  have l0 := h.head.lt
  have hfz := h.head.frozen 1
  obtain ⟨i0, hi0, hz0, hz1, hz2⟩ := info_parts infoU64
  have HO := hid h.row
  obtain ⟨a, c, rfl⟩ := row_form h.row
  obtain ⟨K, hK⟩ : ∃ K, K = l.length := ⟨_, rfl⟩
  have hst : Hid (∀ w1 v1, Below w.heap.size w w1 → w1.ownsRow w.heap.size 29 1 v1 (rmL l z).length (uc (rmL l z)) → QGo Q (.slice a K c) w m v1 (rmL l z) (w1.setCell ⟨Q, 1, none⟩ v1)) := hid (fun w1 v1 b1 o1 => by
    rw [hK]
    exact h.store (Below.only b1) (own_zero o1) (fun b hb => .inr (own_base_le o1 hb).1) (Nat.le_trans (rm_len l z) h.len))
  rw [← hK] at hlb HO c1 ⊢
  have HK := hid hK
  clear h hK
  generalize decide (z ∈ l) = A at *
  go_enter Try.func46, Try.ntmps46
  go_wp2_with fail
  refine hro.mono ?_
  rintro e w1 ⟨rfl, rfl⟩
  clear hro
  go_wp2_with fail
  go_loopw [6, 7] (fun p1 p2 wr => ∃ (k : Nat) (v : Value), v = p1 ∧ p2 = .int .i64 k ∧ k ≤ K ∧ Hid (wr.ownsRow w.heap.size 29 1 v (rmL (l.take k) z).length (uc (rmL (l.take k) z))) ∧ Hid (Below w.heap.size w wr)) (fun _ p _ => K - (RowKit.intOf p).toNat)
  case atStart => exact ⟨0, _, rfl, rfl, Nat.zero_le _, hid (World.ownsRow_nil _ _ _ _), hid (Below.refl _ _)⟩
  case round =>
    obtain ⟨k, v, rfl, rfl, hk, hOw, hB⟩ := hrel
    have d1 := (hB.out.cell (p := ⟨Q, 1, none⟩) l0).trans c1
    by_cases hlt : k < K
    · obtain ⟨y, hy⟩ : ∃ y, l[k]? = some y := ⟨_, List.getElem?_eq_getElem (by rw [← HK.out]; exact hlt)⟩
      obtain ⟨g, cap, hv, _, _, hgl⟩ := row_pos HO.out (by omega)
      cases hv
      have hcy := (hB.out.cell (p := ⟨g, k, none⟩) hgl).trans (cel_of HO.out k y hy)
      have hfs := filt_snoc (z := z) hy
      by_cases e : y = z
      · rw [if_pos e, List.append_nil] at hfs
        have HF := hid hfs
        subst e
        clear hy hfs
        go_wp2_with fail
        go_roundw
        case rel => exact ⟨k + 1, v, rfl, by go_num, by omega, hid (by rw [HF.out]; exact hOw.out), hB⟩
        case measure => simp [RowKit.intOf] <;> omega
      · rw [if_neg e] at hfs
        have HF := hid hfs
        have hne : (y == z) = false := beq_eq_false_iff_ne.2 e
        have hown := hOw.out
        have hsz := hB.out.size
        have hfl : (rmL (l.take k) z).length ≤ 4194304 := Nat.le_trans (rm_len _ _) (by rw [List.length_take]; omega)
        generalize rmL (l.take k) z = fs at *
        clear hy hfs e
        go_wp2_with (at_builtin; refine wpList_append_own_at _ rfl _ _ 32 rfl w.heap.size 29 i0 (.int .u64 0) 1 8 Try.underlying32 hi0 hz0 hz1 hz2 rfl (by decide) v _ _ rfl (hown.alloc _) ⟨wr.heap.size, 0, none⟩ 1 1 [.int .u64 y] rfl rfl (one_cell _ _ _) (one_u64 _) (by unfold maxLen; omega) (by omega) (by simp; omega) ?_; intro v6 w6 hown6 hgrow6 hnil6 hloc6)
        exact ⟨⟨k + 1, v6, rfl, rfl, by omega, hid (by rw [HF.out, show (fs ++ [y]).length = fs.length + 1 by simp, uc_snoc]; exact hown6), hid (hB.out.trans ((own_grown hown hsz hgrow6)))⟩, by simp [RowKit.intOf]; omega⟩
    · obtain rfl : k = K := by omega
      have hG := hst.out wr v hB.out (by have := hOw.out; rw [HK.out, List.take_length] at this; exact this)
      have hfz2 := (hB.out.frozen (p := ⟨Q, 1, none⟩) l0).trans hfz
      have HG := hid hG
      obtain ⟨a6, c6, hv6⟩ := row_form hOw.out
      generalize (rmL (l.take k) z).length = N7 at hv6
      subst hv6
      clear hG hst hOw
      go_wp2_with fail
      go_ret
      exact ⟨rfl, _, HG.out⟩
end Go.Proofs.Ytkhmgigllcgpnaa.Gh

/-
  The contracts of the document's own rows' Row, Take and New, and of Same. Conditions: the rows lie in memory.
-/
import Derived.Test.YtkhmgigllcgpnaaRowsRef
namespace Go.Proofs.Ytkhmgigllcgpnaa
open Go Go.RowKit Go.Lib

theorem take_set {L : List (List Int)} (hn : L.flatten.Nodup) {i : Nat} {l : List Int} {z : Int} (hi : L[i]? = some l) (hz : z ∈ l) : takeL L z = L.set i (l.filter (fun y => decide (y ≠ z))) := by
  obtain ⟨a, b, rfl⟩ := List.append_of_mem hz
  rw [take_split hn hi]
  congr 1
  have hl := (flat_nodup hn).1 _ (List.mem_of_getElem? hi)
  rw [List.nodup_append, List.nodup_cons] at hl
  obtain ⟨_, ⟨hzb, _⟩, hab⟩ := hl
  have hza : z ∉ a := fun h => hab z h z (List.mem_cons_self ..) rfl
  rw [List.filter_append, List.filter_cons_of_neg (by simp)]
  rw [List.filter_eq_self.2 (fun y hy => by simp only [decide_eq_true_eq]; rintro rfl; exact hza hy), List.filter_eq_self.2 (fun y hy => by simp only [decide_eq_true_eq]; rintro rfl; exact hzb hy)]

set_option maxRecDepth 100000 in
set_option maxHeartbeats 1000000 in
theorem qrow_any {Q R : Nat} {vs : List Value} {L : List (List Int)} {w : World} (h : QM Q R vs L w) (z : Int) :
    Calls Try.prog 50 #[.pointer (some ⟨Q, 0, none⟩), .int .i64 z] w fun e w' => e = .returned (.int .i64 (rv (rowOf L z))) ∧ w = w' := by
  have c0 := h.head.cell (i := 0) rfl
  have hn8 := h.good.n8
  have H := hid h
  obtain ⟨n, hn⟩ : ∃ n, n = L.length := ⟨_, rfl⟩
  rw [← hn] at c0 hn8
  have HN := hid hn
  clear h hn
  go_enter Try.func50, Try.ntmps50
  go_wp2_with fail
  go_loopw [5] (fun p wr => ∃ i : Nat, p = .int .i64 i ∧ i ≤ n ∧ w = wr ∧ Hid (∀ (j : Nat) l, j < i → L[j]? = some l → z ∉ l)) (fun p _ => n - (RowKit.intOf p).toNat)
  case atStart => exact ⟨0, rfl, Nat.zero_le _, rfl, hid (fun j l hj => absurd hj (Nat.not_lt_zero j))⟩
  case round =>
    obtain ⟨i, rfl, hi, rfl, hno⟩ := hrel
    by_cases hlt : i < n
    · obtain ⟨l, hl⟩ : ∃ l, L[i]? = some l := ⟨_, List.getElem?_eq_getElem (by rw [← HN.out]; exact hlt)⟩
      obtain ⟨v, hv, c1, ho⟩ := H.out.val hl
      have hlb := H.out.good.len hl
      obtain ⟨a, c, rfl⟩ := row_form ho
      obtain ⟨K, hK⟩ : ∃ K, K = l.length := ⟨_, rfl⟩
      rw [← hK] at ho c1 hlb
      have HO := hid ho
      have HK := hid hK
      have HL := hid hl
      clear ho hK hl hv
      go_wp2_with fail
      go_loopw [6] (fun p wr => ∃ k : Nat, p = .int .i64 k ∧ k ≤ K ∧ w = wr ∧ Hid (∀ (j : Nat) y, j < k → l[j]? = some y → y ≠ z)) (fun p _ => K - (RowKit.intOf p).toNat)
      case atStart => exact ⟨0, rfl, Nat.zero_le _, rfl, hid (fun j y hj => absurd hj (Nat.not_lt_zero j))⟩
      case round =>
        obtain ⟨k, rfl, hk, rfl, hno2⟩ := hrel
        by_cases hlt2 : k < K
        · obtain ⟨y, hy⟩ : ∃ y, l[k]? = some y := ⟨_, List.getElem?_eq_getElem (by rw [← HK.out]; exact hlt2)⟩
          obtain ⟨g, cap, hv, _, _, _⟩ := row_pos HO.out (by omega)
          cases hv
          have hcy := cel_of HO.out k y hy
          by_cases e : y = z
          · have hr : Hid (rowOf L z = some i) := hid (rowOf_at H.out.good.nd HL.out (by rw [← e]; exact List.mem_of_getElem? hy))
            subst e
            clear hy
            go_wp2_with fail
            go_ret
            exact ⟨ret_i64 (by rw [hr.out]; rfl), rfl⟩
          · have hno3 : Hid (∀ (j : Nat) y, j < k + 1 → l[j]? = some y → y ≠ z) := hid (fun j x hj hx => by
              by_cases e1 : j = k
              · subst e1; rw [hy] at hx; cases hx; exact e
              · exact hno2.out j x (by omega) hx)
            have hne : (y == z) = false := beq_eq_false_iff_ne.2 e
            clear hy e
            go_wp2_with fail
            go_roundw
            case rel => exact ⟨k + 1, by go_num, by omega, by first | rfl | trivial, hno3⟩
            case measure => simp [RowKit.intOf] <;> omega
        · obtain rfl : k = K := by omega
          have hno3 : Hid (∀ (j : Nat) m, j < i + 1 → L[j]? = some m → z ∉ m) := hid (fun j m hj hm => by
            by_cases e1 : j = i
            · subst e1
              rw [HL.out] at hm; cases hm
              intro hz
              obtain ⟨q, hq⟩ := List.mem_iff_getElem?.1 hz
              exact hno2.out q z (by rw [HK.out]; exact (List.getElem?_eq_some_iff.1 hq).1) hq rfl
            · exact hno.out j m (by omega) hm)
          go_wp2_with fail
          go_roundw
          case rel => exact ⟨i + 1, by go_num, by omega, by first | rfl | trivial, hno3⟩
          case measure => simp [RowKit.intOf] <;> omega
    · obtain rfl : i = n := by omega
      have hr : Hid (rowOf L z = none) := hid (rowOf_none.2 (fun l hl hz => by
        obtain ⟨j, hj⟩ := List.mem_iff_getElem?.1 hl
        exact hno.out j l (by rw [HN.out]; exact (List.getElem?_eq_some_iff.1 hj).1) hj hz))
      go_wp2_with fail
      go_ret
      exact ⟨ret_i64 (by rw [hr.out]; rfl), rfl⟩

/-- What a call leaves of the document's rows. -/
structure QGo (Q R : Nat) (vs : List Value) (w : World) (vs' : List Value) (L' : List (List Int)) (w' : World) : Prop where
  qm : QM Q R vs' L' w'
  only : Only (QF Q R vs) w w'
  foot : ∀ b, QF Q R vs' b → QF Q R vs b ∨ w.heap.size ≤ b
theorem QGo.trans {Q R : Nat} {vs vs1 vs2 : List Value} {w w1 w2 : World} {L1 L2 : List (List Int)} (h : QGo Q R vs w vs1 L1 w1) (k : QGo Q R vs1 w1 vs2 L2 w2) : QGo Q R vs w vs2 L2 w2 :=
  ⟨k.qm, h.only.trans k.only h.foot, fun b hb => (k.foot b hb).elim (h.foot b) (fun e => .inr (Nat.le_trans h.only.size e))⟩
theorem filt_snoc {l : List Int} {k : Nat} {y z : Int} (h : l[k]? = some y) : (l.take (k + 1)).filter (fun x => decide (x ≠ z)) = (l.take k).filter (fun x => decide (x ≠ z)) ++ (if y = z then [] else [y]) := by
  rw [take_snoc h, List.filter_append]
  congr 1
  by_cases e : y = z
  · rw [if_pos e, List.filter_cons_of_neg (by simpa using e)]; rfl
  · rw [if_neg e, List.filter_cons_of_pos (by simpa using e)]; rfl

set_option maxRecDepth 100000 in
set_option maxHeartbeats 1000000 in
theorem qtake_any {Q R : Nat} {vs : List Value} {L : List (List Int)} {w : World} (h : QM Q R vs L w) (z : Int) :
    Calls Try.prog 49 #[.pointer (some ⟨Q, 0, none⟩), .int .i64 z] w fun e w' => e = .returned (.bool (rowOf L z).isSome) ∧ ∃ vs', QGo Q R vs w vs' (takeL L z) w' := by
  have hro := qrow_any h z
  cases hrow : rowOf L z with
  | none =>
    rw [hrow] at hro
    replace hro : Calls _ _ _ _ fun e w' => e = .returned (.int .i64 (-1)) ∧ _ = w' := hro
    have hd : Hid (takeL L z = L) := hid (take_no (rowOf_none'.1 hrow))
    have H := hid h
    clear h hrow
    go_enter Try.func49, Try.ntmps49
    go_wp2_with fail
    refine hro.mono ?_
    rintro e w1 ⟨rfl, rfl⟩
    go_wp2_with fail
    go_ret
    exact ⟨rfl, vs, by rw [hd.out]; exact ⟨H.out, Only.refl _ _, fun _ hb => .inl hb⟩⟩
  | some i =>
    rw [hrow] at hro
    replace hro : Calls _ _ _ _ fun e w' => e = .returned (.int .i64 (i : Int)) ∧ _ = w' := hro
    obtain ⟨l, hl, hzl⟩ := rowOf_mem hrow
    obtain ⟨v, hv, c1, ho⟩ := h.val hl
    have hlb := h.good.len hl
    have hil := (List.getElem?_eq_some_iff.1 hl).1
    have c0 := h.head.cell (i := 0) rfl
    have hn8 := h.good.n8
    have l0 := h.head.lt
    have l1 := h.rows.lt
    have hd : Hid (takeL L z = L.set i (l.filter (fun y => decide (y ≠ z)))) := hid (take_set h.good.nd hl hzl)
    obtain ⟨i0, hi0, hz0, hz1, hz2⟩ := info_parts infoInt
    obtain ⟨a, c, rfl⟩ := row_form ho
    obtain ⟨K, hK⟩ : ∃ K, K = l.length := ⟨_, rfl⟩
    rw [← hK] at ho c1 hlb
    have hst : Hid (∀ w1 v1, Below w.heap.size w w1 → w1.ownsRow w.heap.size 3 1 v1 (l.filter (fun y => decide (y ≠ z))).length (ic (l.filter (fun y => decide (y ≠ z)))) → QGo Q R vs w (vs.set i v1) (takeL L z) (w1.setCell ⟨R, i, none⟩ v1)) := hid (fun w1 v1 b1 o1 => by
      obtain ⟨k1, k2, k3⟩ := h.store b1 hil o1 (by rw [← hd.out]; exact h.good.take z)
      rw [hd.out]
      exact ⟨k1, k2, k3⟩)
    have hfz := h.rows.frozen i
    have HO := hid ho
    have HK := hid hK
    generalize L.length = n at *
    clear h hrow hv hl hzl ho hK hd
    go_enter Try.func49, Try.ntmps49
    go_wp2_with fail
    refine hro.mono ?_
    rintro e w1 ⟨rfl, rfl⟩
    clear hro
    go_wp2_with fail
    go_loopw [6, 7] (fun p1 p2 wr => ∃ (k : Nat) (v : Value), v = p1 ∧ p2 = .int .i64 k ∧ k ≤ K ∧ Hid (wr.ownsRow w.heap.size 3 1 v ((l.take k).filter (fun y => decide (y ≠ z))).length (ic ((l.take k).filter (fun y => decide (y ≠ z))))) ∧ Hid (Below w.heap.size w wr)) (fun _ p _ => K - (RowKit.intOf p).toNat)
    case atStart => exact ⟨0, _, rfl, rfl, Nat.zero_le _, hid (World.ownsRow_nil _ _ _ _), hid (Below.refl _ _)⟩
    case round =>
      obtain ⟨k, v, rfl, rfl, hk, hOw, hB⟩ := hrel
      have d0 := (hB.out.cell (p := ⟨Q, 0, none⟩) l0).trans c0
      have d1 := (hB.out.cell (p := ⟨R, i, none⟩) l1).trans c1
      by_cases hlt : k < K
      · obtain ⟨y, hy⟩ : ∃ y, l[k]? = some y := ⟨_, List.getElem?_eq_getElem (by rw [← HK.out]; exact hlt)⟩
        obtain ⟨g, cap, hv, _, _, hgl⟩ := row_pos HO.out (by omega)
        cases hv
        have hcy := (hB.out.cell (p := ⟨g, k, none⟩) hgl).trans (cel_of HO.out k y hy)
        have hfs := filt_snoc (z := z) hy
        by_cases e : y = z
        · rw [if_pos e, List.append_nil] at hfs
          have HF := hid hfs
          subst e
          clear hy hfs
          go_wp2_with fail
          go_roundw
          case rel => exact ⟨k + 1, v, rfl, by go_num, by omega, hid (by rw [HF.out]; exact hOw.out), hB⟩
          case measure => simp [RowKit.intOf] <;> omega
        · rw [if_neg e] at hfs
          have HF := hid hfs
          have hne : (y == z) = false := beq_eq_false_iff_ne.2 e
          have hown := hOw.out
          have hsz := hB.out.size
          have hfl : ((l.take k).filter (fun y => decide (y ≠ z))).length ≤ 4194304 := Nat.le_trans (List.length_filter_le _ _) (by rw [List.length_take]; omega)
          generalize (l.take k).filter (fun y => decide (y ≠ z)) = fs at *
          clear hy hfs e
          go_wp2_with (at_builtin; refine wpList_append_own_at _ rfl _ _ 43 rfl w.heap.size 3 i0 (.int .i64 0) 1 8 Try.underlying43 hi0 hz0 hz1 hz2 rfl (by decide) v _ _ rfl (hown.alloc _) ⟨wr.heap.size, 0, none⟩ 1 1 [.int .i64 y] rfl rfl (one_cell _ _ _) (one_ok _) (by unfold maxLen; omega) (by omega) (by simp; omega) ?_; intro v6 w6 hown6 hgrow6 hnil6 hloc6)
          exact ⟨⟨k + 1, v6, rfl, rfl, by omega, hid (by rw [HF.out, show (fs ++ [y]).length = fs.length + 1 by simp, ic_snoc]; exact hown6), hid (hB.out.trans ((own_grown hown hsz hgrow6)))⟩, by simp [RowKit.intOf]; omega⟩
      · obtain rfl : k = K := by omega
        have hG := hst.out wr v hB.out (by have := hOw.out; rw [HK.out, List.take_length] at this; exact this)
        have hfz2 := (hB.out.frozen (p := ⟨R, i, none⟩) l1).trans hfz
        have HG := hid hG
        obtain ⟨a6, c6, hv6⟩ := row_form hOw.out
        generalize ((l.take k).filter (fun y => decide (y ≠ z))).length = N7 at hv6
        subst hv6
        clear hG hst hOw
        go_wp2_with fail
        go_ret
        exact ⟨rfl, _, HG.out⟩
end Go.Proofs.Ytkhmgigllcgpnaa

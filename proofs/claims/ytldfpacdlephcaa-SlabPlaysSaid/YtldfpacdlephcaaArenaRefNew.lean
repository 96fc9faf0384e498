/-
  The document's own answer for layer 6 (ambryref06) at this program: New. No conditions but the numbers' bounds.
-/
import Derived.Test.YtldfpacdlephcaaArenaRefD
namespace Go.Proofs.Ytldfpacdlephcaa
open Go Go.RowKit Go.Lib

theorem infoBytes : (Try.prog.info? 39).map (fun i => (i.zero, i.size, i.bytes)) = some (some (.slice none 0 0), 1, 24) := by kernel_rfl
theorem app_keep {W w1 : World} {base P : Nat} {T e : TypeId} {cs : List Value} {v : Value} {k : Nat} {xs : List Value} {tmp : Obj} (hB : Blk W P T cs) (hP : P < base) (hown : W.ownsRow base e 1 v k xs) (hgrow : (W.alloc tmp).grownBy w1 v.ownBlock) : Blk w1 P T cs := by
  have hlt := hown.lt
  have h1 := hB.alloc tmp
  exact (hgrow.block P h1.lt (fun e => by have := (hlt P e.symm).1; omega)).trans h1
theorem app_row {W w1 : World} {base : Nat} {e e2 : TypeId} {v v2 : Value} {k k2 : Nat} {xs xs2 : List Value} {tmp : Obj} (h2 : W.ownsRow base e2 1 v2 k2 xs2) (hown : W.ownsRow base e 1 v k xs) (hne : e ≠ e2) (hgrow : (W.alloc tmp).grownBy w1 v.ownBlock) : w1.ownsRow base e2 1 v2 k2 xs2 := by
  refine (h2.alloc tmp).kept hgrow ?_
  rcases h2.2 with ⟨rfl, _⟩ | ⟨g2, c2, cur2, rfl, _, hg2, _⟩
  · exact .inl rfl
  · refine .inr ?_
    rcases hown.2 with ⟨rfl, _⟩ | ⟨g1, c1, cur1, rfl, _, hg1, _⟩
    · simp [Value.ownBlock]
    · simp only [Value.ownBlock]
      intro e'
      have e'' : g2 = g1 := by simpa using e'
      subst e''
      rw [hg1] at hg2
      simp at hg2
      exact hne hg2.2
theorem one_sl (W : World) (t : TypeId) : ∀ j u, [Value.slice none 0 0][j]? = some u → (W.alloc (.cells #[.slice none 0 0] t)).cell? ((⟨W.heap.size, 0, none⟩ : Addr).add j) = some u := one_cell W _ t
theorem sl_ok : ∀ u ∈ [Value.slice none 0 0], u.oneCell' = true := by
  intro u hu; simp at hu; subst hu; rfl
theorem ic_more (k : Nat) : ic (List.replicate k (-1)) ++ [Value.int .i64 (-1)] = ic (List.replicate (k + 1) (-1)) := by
  rw [ic_one, List.replicate_succ']
theorem sl_more (k : Nat) : List.replicate k (Value.slice none 0 0) ++ [Value.slice none 0 0] = List.replicate (k + 1) (Value.slice none 0 0) := by
  rw [List.replicate_succ']

/-- The arena, while its rows are laid. -/
structure Laying (P base size k : Nat) (v1 v2 : Value) (w : World) : Prop where
  head : Blk w P 68 [.int .i64 (size : Int), v1, v2]
  own : w.ownsRow base 3 1 v1 k (ic (List.replicate k (-1)))
  byt : w.ownsRow base 39 1 v2 k (List.replicate k (.slice none 0 0))

theorem Laying.done {P base size n : Nat} {v1 v2 : Value} {w : World} (h : Laying P base size n v1 v2 w) (n1 : 1 ≤ n) (n2 : n ≤ 1024) (s1 : 512 ≤ size) (s2 : size ≤ 65536) :
    ∃ O B cO cB, RIs P O B cO cB (fun _ => none) (newSt n size) w ∧ base ≤ O ∧ base ≤ B := by
  have hl : (newSt n size).ow.length = n := List.length_replicate
  rcases h.own.2 with ⟨_, e⟩ | ⟨O, cO, cur, hv, hO, hg, _, _, _, ht⟩
  · omega
  rcases h.byt.2 with ⟨_, e⟩ | ⟨B, cB, cur', hv', hB, hg', _, _, _, ht'⟩
  · omega
  have hh := h.head
  rw [hv, hv'] at hh
  refine ⟨O, B, cO, cB, ⟨newSt_ok n1 n2 s1 s2, ?_, ⟨cur.toList, ?_, fun i z hz => ?_⟩, ⟨cur'.toList, ?_, fun i hi => ?_⟩, fun i _ _ => rfl, (fun i g hg => by cases hg), (fun i j g hg => by cases hg), fun _ _ => rfl⟩, hO, hB⟩
  · rw [hl]; exact hh
  · unfold Blk; rw [Array.toArray_toList]; exact hg
  · have hz' : (List.replicate n (-1 : Int))[i]? = some z := hz
    have h2 := ic_at hz'
    rw [← ht, List.getElem?_take] at h2
    split at h2
    · exact h2
    · cases h2
  · unfold Blk; rw [Array.toArray_toList]; exact hg'
  · rw [hl] at hi
    have h2 : (List.replicate n (Value.slice none 0 0))[i]? = some (.slice none 0 0) := by rw [List.getElem?_replicate, if_pos hi]
    rw [← ht', List.getElem?_take] at h2
    split at h2
    · exact h2
    · cases h2

set_option maxHeartbeats 2000000 in
set_option maxRecDepth 100000 in
theorem ref_new_ok (n size : Nat) (n1 : 1 ≤ n) (n2 : n ≤ 1024) (s1 : 512 ≤ size) (s2 : size ≤ 65536) (hp : (size : Int) % 8 = 0) (w : World) :
    Calls Try.prog 10 #[.int .i64 n, .int .i64 size] w fun e w' => ∃ P O B cO cB, e = .returned (.tuple #[.pointer (some ⟨P, 0, none⟩), .int .i64 0]) ∧ RIs P O B cO cB (fun _ => none) (newSt n size) w' ∧ Below w.heap.size w w' ∧ w.heap.size ≤ P ∧ w.heap.size ≤ O ∧ w.heap.size ≤ B := by
  obtain ⟨i0, hi, hz0, hz1, hz2⟩ := info_parts infoInt
  obtain ⟨j0, hj, hy0, hy1, hy2⟩ := info_parts infoBytes
  have g1 : (1 : Int) ≤ (n : Int) := by omega
  have g2 : (n : Int) ≤ 1024 := by omega
  have g3 : (512 : Int) ≤ (size : Int) := by omega
  have g4 : (size : Int) ≤ 65536 := by omega
  have hN := Blk.new w #[.int .i64 (size : Int), .slice none 0 0, .slice none 0 0] 68
  have HL0 : Hid (Laying w.heap.size (w.heap.size + 1) size 0 (.slice none 0 0) (.slice none 0 0) (w.alloc (.cells #[.int .i64 (size : Int), .slice none 0 0, .slice none 0 0] 68))) :=
    hid ⟨hN, World.ownsRow_nil _ _ _ _, World.ownsRow_nil _ _ _ _⟩
  have hb0 : Below w.heap.size w (w.alloc (.cells #[.int .i64 (size : Int), .slice none 0 0, .slice none 0 0] 68)) := (Below.refl _ w).alloc (Nat.le_refl _) _
  have HB0 := hid hb0
  clear hN hb0
  go_enter Try.func10, Try.ntmps10
  go_wp2_with fail
  go_loopw [7] (fun i wr => ∃ (k : Nat) (v1 v2 : Value), k ≤ n ∧ i = .int .i64 k ∧ Hid (Laying w.heap.size (w.heap.size + 1) size k v1 v2 wr) ∧ Below w.heap.size w wr) (fun i _ => n - (intOf i).toNat)
  case atStart => exact ⟨0, _, _, Nat.zero_le _, rfl, HL0, HB0.out⟩
  case round =>
    obtain ⟨k, v1, v2, hk, rfl, HL, hb⟩ := hrel
    clear HL0 HB0
    obtain ⟨a1, c1, rfl⟩ := row_form HL.out.own
    obtain ⟨a2, c2, rfl⟩ := row_form HL.out.byt
    have hc1 : wr.cell? ⟨w.heap.size, 1, none⟩ = some (.slice a1 k c1) := HL.out.head.cell rfl
    have hsz := HL.out.head.lt
    by_cases hlt : k < n
    · have ilt : (k : Int) < (n : Int) := by omega
      go_upto_region 8 with (at_builtin; refine wpList_append_own _ rfl _ _ 22 rfl (w.heap.size + 1) 3 i0 (.int .i64 0) 1 8 Try.underlying22 hi hz0 hz1 hz2 rfl (by decide) _ _ _ rfl (HL.out.own.alloc _) ⟨wr.heap.size, 0, none⟩ 1 1 [.int .i64 (-1)] rfl rfl (one_cell _ _ _) (one_ok _) (by unfold maxLen; omega) (by omega) (by simp; omega) ?_; intro v' w1 hown hgrow _; have hK := app_keep HL.out.head (by omega) HL.out.own hgrow; have hR := app_row HL.out.byt HL.out.own (by decide) hgrow; have hbb := own_grown HL.out.own (Nat.le_of_lt_succ (Nat.succ_lt_succ hsz)) hgrow; rw [ic_more] at hown; have HK := hid hK; have HR := hid hR; have HW := hid hown; have hk1 := hK.cell (i := 1) rfl; have hf1 := hK.frozen 1; clear hK hR hgrow; obtain ⟨a3, c3, rfl⟩ := row_form hown; clear hown)
      obtain ⟨W2, hW2⟩ : ∃ W2, W2 = w1.setCell ⟨w.heap.size, 1, none⟩ (.slice a3 (k + 1) c3) := ⟨_, rfl⟩
      have HK2 : Hid (Blk W2 w.heap.size 68 [.int .i64 (size : Int), .slice a3 (k + 1) c3, .slice a2 k c2]) := hid (by rw [hW2]; exact HK.out.set 1 _)
      have HR2 : Hid (W2.ownsRow (w.heap.size + 1) 39 1 (.slice a2 k c2) k (List.replicate k (.slice none 0 0))) := hid (by rw [hW2]; exact ownsRow_setCell_below HR.out (by show w.heap.size < w.heap.size + 1; omega) _)
      have HW3 : Hid (W2.ownsRow (w.heap.size + 1) 3 1 (.slice a3 (k + 1) c3) (k + 1) (ic (List.replicate (k + 1) (-1)))) := hid (by rw [hW2]; exact ownsRow_setCell_below HW.out (by show w.heap.size < w.heap.size + 1; omega) _)
      have hb2 : Below w.heap.size w W2 := by rw [hW2]; exact (hb.trans (hbb.mono (by omega))).setCell (Nat.le_refl _) _
      have hsz2 : w.heap.size + 1 ≤ W2.heap.size := HK2.out.lt
      rw [← hW2]
      have hc2 : W2.cell? ⟨w.heap.size, 2, none⟩ = some (.slice a2 k c2) := HK2.out.cell rfl
      clear hW2 HK HR HW hk1 hf1 hbb hb HL hc1 hsz
      go_wp2_with (at_builtin; refine wpList_append_own _ rfl _ _ 66 rfl (w.heap.size + 1) 39 j0 (.slice none 0 0) 1 24 Try.underlying66 hj hy0 hy1 hy2 rfl (by decide) _ _ _ rfl (HR2.out.alloc _) ⟨W2.heap.size, 0, none⟩ 1 1 [.slice none 0 0] rfl rfl (one_sl _ _) sl_ok (by unfold maxLen; omega) (by omega) (by simp; omega) ?_; intro v' w3 hown hgrow _; have hK := app_keep HK2.out (by omega) HR2.out hgrow; have hR := app_row HW3.out HR2.out (by decide) hgrow; have hbb := own_grown HR2.out hsz2 hgrow; rw [sl_more] at hown; have HK := hid hK; have HR := hid hR; have HW := hid hown; have hk1 := hK.cell (i := 2) rfl; have hf1 := hK.frozen 2; clear hK hR hgrow; obtain ⟨a4, c4, rfl⟩ := row_form hown; clear hown)
      have HL' : Hid (Laying w.heap.size (w.heap.size + 1) size (k + 1) (.slice a3 (k + 1) c3) (.slice a4 (k + 1) c4) (w3.setCell ⟨w.heap.size, 2, none⟩ (.slice a4 (k + 1) c4))) :=
        hid ⟨HK.out.set 2 _, ownsRow_setCell_below HR.out (by show w.heap.size < w.heap.size + 1; omega) _, ownsRow_setCell_below HW.out (by show w.heap.size < w.heap.size + 1; omega) _⟩
      have hb3 : Below w.heap.size w (w3.setCell ⟨w.heap.size, 2, none⟩ (.slice a4 (k + 1) c4)) := (hb2.trans (hbb.mono (by omega))).setCell (Nat.le_refl _) _
      clear HK HR HW HK2 HR2 HW3 hb2 hbb hc2 hk1 hf1
      go_wp2_with fail
      go_roundw
      case rel => exact ⟨k + 1, _, _, by omega, by go_num, HL', hb3⟩
      case measure => simp [intOf] <;> omega
    · obtain rfl : k = n := by omega
      obtain ⟨O, B, cO, cB, hR, hO, hB⟩ := HL.out.done n1 n2 s1 s2
      have HR := hid hR
      clear hR HL hc1 hsz
      go_wp2_with fail
      go_ret2
      exact ⟨w.heap.size, O, B, cO, cB, rfl, HR.out, hb, Nat.le_refl _, by omega, by omega⟩

set_option maxHeartbeats 1000000 in
set_option maxRecDepth 100000 in
theorem ref_new_bad (n size : Int) (h : (1 ≤ n ∧ n ≤ 1024 ∧ pageB size = true) → False) (w : World) :
    Calls Try.prog 10 #[.int .i64 n, .int .i64 size] w fun e w' => e = .returned (.tuple #[.pointer none, .int .i64 1]) ∧ w = w' := by
  have hcase : n < 1 ∨ (¬ n < 1 ∧ 1024 < n) ∨ (1 ≤ n ∧ n ≤ 1024 ∧ size < 512) ∨ (1 ≤ n ∧ n ≤ 1024 ∧ 512 ≤ size ∧ 65536 < size) ∨ (1 ≤ n ∧ n ≤ 1024 ∧ 512 ≤ size ∧ size ≤ 65536 ∧ (size % 8 != 0) = true) := by
    by_cases a : n < 1
    · exact .inl a
    · by_cases b : 1024 < n
      · exact .inr (.inl ⟨a, b⟩)
      · have hp : pageB size = false := by
          cases hp : pageB size with
          | false => rfl
          | true => exact (h ⟨by omega, by omega, hp⟩).elim
        unfold pageB at hp
        rw [decide_eq_false_iff_not] at hp
        by_cases c : size % 8 = 0
        · omega
        · have c' : (size % 8 != 0) = true := by simpa using c
          by_cases d : 512 ≤ size
          · by_cases e : size ≤ 65536
            · exact .inr (.inr (.inr (.inr ⟨by omega, by omega, d, e, c'⟩)))
            · exact .inr (.inr (.inr (.inl ⟨by omega, by omega, d, by omega⟩)))
          · exact .inr (.inr (.inl ⟨by omega, by omega, by omega⟩))
  clear h
  rcases hcase with h1 | ⟨h1, h2⟩ | ⟨h1, h2, h3⟩ | ⟨h1, h2, h3, h4⟩ | ⟨h1, h2, h3, h4, h5⟩
  all_goals
    go_enter Try.func10, Try.ntmps10
    go_wp2_with fail
    go_ret2
    exact ⟨rfl, rfl⟩
end Go.Proofs.Ytldfpacdlephcaa

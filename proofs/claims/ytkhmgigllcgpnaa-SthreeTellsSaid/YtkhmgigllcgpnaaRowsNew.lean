/-
  The contract of New. No conditions.
-/
import Derived.Test.YtkhmgigllcgpnaaM1
namespace Go.Proofs.Ytkhmgigllcgpnaa
open Go Go.RowKit Go.Lib

def lineF (O j k : Nat) : Value := if k % 5 = 0 then (if k / 5 < j then .int .i64 (-1) else .int .i64 0) else if k % 5 = 1 then .int .i64 0 else if k % 5 = 4 then .int .i64 0 else if k / 5 < j then .pointer (some ⟨O, k / 5 * 5, none⟩) else .pointer none
def lcells (O n j : Nat) : List Value := (List.range (n * 5)).map (lineF O j)
theorem lcells_at {O n j k : Nat} (h : k < n * 5) : (lcells O n j)[k]? = some (lineF O j k) := by simp [lcells, h]
theorem lcells_round {O n j : Nat} (hj : j < n) : (((lcells O n j).set (j * 5) (.int .i64 (-1))).set (j * 5 + 2) (.pointer (some ⟨O, j * 5, none⟩))).set (j * 5 + 3) (.pointer (some ⟨O, j * 5, none⟩)) = lcells O n (j + 1) := by
  apply List.ext_getElem?
  intro k
  simp only [List.getElem?_set, List.length_set]
  by_cases hk : k < n * 5
  · have hl : (lcells O n j).length = n * 5 := by simp [lcells]
    rw [lcells_at hk, lcells_at hk, hl]
    by_cases h3 : j * 5 + 3 = k
    · subst h3
      rw [if_pos rfl, if_pos (by omega)]
      have a1 : (j * 5 + 3) % 5 = 3 := by omega
      have a2 : (j * 5 + 3) / 5 = j := by omega
      unfold lineF; rw [a1, a2]; simp
    · rw [if_neg h3]
      by_cases h2 : j * 5 + 2 = k
      · subst h2
        rw [if_pos rfl, if_pos (by omega)]
        have a1 : (j * 5 + 2) % 5 = 2 := by omega
        have a2 : (j * 5 + 2) / 5 = j := by omega
        unfold lineF; rw [a1, a2]; simp
      · rw [if_neg h2]
        by_cases h0 : j * 5 = k
        · subst h0
          rw [if_pos rfl, if_pos (by omega)]
          have a1 : (j * 5) % 5 = 0 := by omega
          have a2 : (j * 5) / 5 = j := by omega
          unfold lineF; rw [a1, a2]; simp
        · rw [if_neg h0]
          unfold lineF
          by_cases e : k / 5 = j
          · by_cases e1 : k % 5 = 1
            · simp [e1]
            · have e4 : k % 5 = 4 := by omega
              simp [e4]
          · have e1 : k / 5 < j ↔ k / 5 < j + 1 := by omega
            simp only [e1]
  · rw [List.getElem?_eq_none (by simp [lcells]; omega), if_neg (by omega), if_neg (by omega), if_neg (by omega), List.getElem?_eq_none (by simp [lcells]; omega)]
theorem infoLine : (Try.prog.info? 81).map (fun i => (i.zero, i.size, i.bytes)) = some (some (.agg #[.int .i64 0, .int .i64 0, .pointer none, .pointer none, .int .i64 0]), 5, 40) := by kernel_rfl
theorem line_zero (O k : Nat) : (#[Value.int .i64 0, .int .i64 0, .pointer none, .pointer none, .int .i64 0] : Array Value)[k % 5]! = lineF O 0 k := by
  have h : k % 5 = 0 ∨ k % 5 = 1 ∨ k % 5 = 2 ∨ k % 5 = 3 ∨ k % 5 = 4 := by omega
  unfold lineF
  rcases h with h | h | h | h | h <;> rw [h] <;> simp
theorem make_lines (n : Nat) (h1 : n ≤ 8) (W : World) : (Instr.makeSlice 73 (.int .i64 (n : Int)) (.int .i64 (n : Int))).run Try.prog W = .ok (.slice (some ⟨W.heap.size, 0, none⟩) n n) (W.alloc (.cells (lcells W.heap.size n 0).toArray 81)) := by
  obtain ⟨i0, hi, hz0, hz1, hz2⟩ := info_parts infoLine
  have := run_make (P := Try.prog) W 73 81 i0 _ Try.underlying73 hi hz0 .i64 .i64 (n : Int) (n : Int) (by omega) (by omega) (by rw [hz2]; omega) (by omega)
  rw [hz1, Int.toNat_natCast] at this
  rw [this]
  have e : madeCells (Value.agg #[.int .i64 0, .int .i64 0, .pointer none, .pointer none, .int .i64 0]).cells (n * 5) = (lcells W.heap.size n 0).toArray := by
    apply Array.ext'
    unfold madeCells lcells
    rw [Array.toList_map, Array.toList_range]
    exact List.map_congr_left (fun k _ => line_zero W.heap.size k)
  rw [e]
theorem rows_none (n : Nat) : (List.replicate n ([] : List Nd)).flatten = [] := by induction n with | zero => rfl | succ n ih => rw [List.replicate_succ, List.flatten_cons, ih]; rfl
theorem look_none (n : Nat) : look (List.replicate n []) = fun _ => none := by funext z; unfold look; rw [rows_none]; rfl
theorem ids_none (n : Nat) : ids (List.replicate n []) = List.replicate n [] := by unfold ids; rw [List.map_replicate]; rfl
theorem good_none {n : Nat} (h1 : 1 ≤ n) (h2 : n ≤ 8) : GoodL (ids (List.replicate n [])) :=
  ⟨by rw [ids_len, List.length_replicate]; exact h1, by rw [ids_len, List.length_replicate]; exact h2, by rw [ids_flat, rows_none]; exact List.nodup_nil, fun z hz => by rw [ids_flat, rows_none] at hz; cases hz⟩
/-- What New leaves. -/
theorem new_rm {P O M n : Nat} {w : World} (h1 : 1 ≤ n) (h2 : n ≤ 8) (hO : Blk w O 81 (lcells O n n)) (p0 : w.cell? ⟨P, 0, none⟩ = some (.slice (some ⟨O, 0, none⟩) n n)) (p1 : w.cell? ⟨P, 1, none⟩ = some (.map (some M)))
    (hM : PM w M 0 (fun _ => none)) (q1 : P ≠ O) (q2 : P ≠ M) (q3 : O ≠ M) : RM P O M (List.replicate n []) w := by
  refine ⟨good_none h1 h2, by rw [List.length_replicate]; exact p0, p1, fun i l hi => ?_, by rw [rows_none, look_none]; exact hM, by rw [rows_none]; exact List.nodup_nil, q1, q2, q3, fun x hx => (by rw [rows_none] at hx; cases hx), ⟨_, _, hO⟩, fun x hx => (by rw [rows_none] at hx; cases hx)⟩
  obtain ⟨hi1, hi2⟩ := List.getElem?_eq_some_iff.1 hi
  rw [List.length_replicate] at hi1
  rw [List.getElem_replicate] at hi2
  subst hi2
  have hc : ∀ k, k < 5 → w.cell? ((edge O i).at_ k) = some (lineF O n (i * 5 + k)) := fun k hk => hO.cell (lcells_at (show i * 5 + k < n * 5 by omega))
  have d : ∀ k, k < 5 → (i * 5 + k) % 5 = k ∧ (i * 5 + k) / 5 = i := fun k hk => by omega
  have e0 := hc 0 (by omega)
  have e2 := hc 2 (by omega)
  have e3 := hc 3 (by omega)
  have e4 := hc 4 (by omega)
  unfold lineF at e0 e2 e3 e4
  rw [(d 0 (by omega)).1, (d 0 (by omega)).2] at e0
  rw [(d 2 (by omega)).1, (d 2 (by omega)).2] at e2
  rw [(d 3 (by omega)).1, (d 3 (by omega)).2] at e3
  rw [(d 4 (by omega)).1, (d 4 (by omega)).2] at e4
  simp [hi1] at e0 e2 e3 e4
  exact ⟨⟨e3, e2, trivial⟩, e0, e4, fun x hx => by cases hx⟩

set_option maxRecDepth 100000 in
theorem new_bad (n : Int) (h : ¬ (1 ≤ n ∧ n ≤ 8)) (w : World) : Calls Try.prog 24 #[.int .i64 n] w fun e w' => e = .returned (.pointer none) ∧ w = w' := by
  by_cases h1 : n < 1
  · clear h
    go_enter Try.func24, Try.ntmps24
    go_wp2_with fail
    go_ret
    exact ⟨rfl, rfl⟩
  · have h2 : 8 < n := by omega
    have h1' : 1 ≤ n := by omega
    clear h h1
    go_enter Try.func24, Try.ntmps24
    go_wp2_with fail
    go_ret
    exact ⟨rfl, rfl⟩
set_option maxRecDepth 100000 in
set_option maxHeartbeats 1000000 in
theorem new_any (n : Nat) (h1 : 1 ≤ n) (h2 : n ≤ 8) (w : World) : Calls Try.prog 24 #[.int .i64 n] w fun e w' => ∃ P O M, e = .returned (.pointer (some ⟨P, 0, none⟩)) ∧ RM P O M (List.replicate n []) w' ∧ Below w.heap.size w w' ∧ w.heap.size ≤ P ∧ w.heap.size ≤ O ∧ w.heap.size ≤ M := by
  have hml := make_lines n h2 w
  have hmm := @run_makeMap Try.prog
  have hB := Blk.new w (lcells w.heap.size n 0).toArray 81
  have hb1 : Below w.heap.size w (w.alloc (.cells (lcells w.heap.size n 0).toArray 81)) := (Below.refl _ _).alloc (Nat.le_refl _) _
  have hz1 : (w.alloc (.cells (lcells w.heap.size n 0).toArray 81)).heap.size = w.heap.size + 1 := by simp
  have hF : Hid (∀ w3, ((w.alloc (.cells (lcells w.heap.size n 0).toArray 81)).alloc (.map #[] 0)).alloc (.cells #[.slice (some ⟨w.heap.size, 0, none⟩) n n, .map (some (w.heap.size + 1))] 76) = w3 →
      Hid (Blk w3 w.heap.size 81 (lcells w.heap.size n 0)) ∧ w3.cell? ⟨w.heap.size + 2, 0, none⟩ = some (.slice (some ⟨w.heap.size, 0, none⟩) n n) ∧ w3.cell? ⟨w.heap.size + 2, 1, none⟩ = some (.map (some (w.heap.size + 1))) ∧
        Hid (PM w3 (w.heap.size + 1) 0 (fun _ => none)) ∧ Hid (Below w.heap.size w w3)) := hid (by
    rintro w3 rfl
    have hM := PM.new (w.alloc (.cells (lcells w.heap.size n 0).toArray 81))
    rw [hz1] at hM
    have hz2 : ((w.alloc (.cells (lcells w.heap.size n 0).toArray 81)).alloc (.map #[] 0)).heap.size = w.heap.size + 2 := by simp
    have hP := Blk.new ((w.alloc (.cells (lcells w.heap.size n 0).toArray 81)).alloc (.map #[] 0)) #[.slice (some ⟨w.heap.size, 0, none⟩) n n, .map (some (w.heap.size + 1))] 76
    rw [hz2] at hP
    exact ⟨hid ((hB.alloc _).alloc _), hP.cell (i := 0) rfl, hP.cell (i := 1) rfl, hid (hM.keep (Below.heap_alloc _ _ _ (by omega))), hid ((hb1.alloc (by omega) _).alloc (by omega) _)⟩)
  clear hB hb1
  go_enter Try.func24, Try.ntmps24
  go_wp2_with fail
  generalize hw3 : ((w.alloc (.cells (lcells w.heap.size n 0).toArray 81)).alloc (.map #[] 0)).alloc (.cells #[.slice (some ⟨w.heap.size, 0, none⟩) n n, .map (some (w.heap.size + 1))] 76) = w3
  obtain ⟨HB, c0, c1, HM, HW⟩ := hF.out w3 hw3
  clear hF hw3 hml hmm hz1
  have C0 := hid c0
  have C1 := hid c1
  clear c0 c1
  go_loopw [22] (fun p wr => ∃ j : Nat, j ≤ n ∧ p = .int .i64 j ∧ Hid (Blk wr w.heap.size 81 (lcells w.heap.size n j)) ∧ Hid (Only (fun b => b = w.heap.size) w3 wr)) (fun p _ => n - (RowKit.intOf p).toNat)
  case atStart => exact ⟨0, Nat.zero_le _, rfl, HB, hid (Only.refl _ _)⟩
  case round =>
    obtain ⟨j, hj, rfl, hBr, hOr⟩ := hrel
    have hl0 := cell_lt C0.out
    have c0 := (hOr.out.cell (p := ⟨w.heap.size + 2, 0, none⟩) hl0 (by show ¬ (w.heap.size + 2 = w.heap.size); omega)).trans C0.out
    by_cases hlt : j < n
    · have d : ∀ k, k < 5 → (j * 5 + k) % 5 = k ∧ (j * 5 + k) / 5 = j := fun k hk => by omega
      have e0 := hBr.out.cell (lcells_at (O := w.heap.size) (n := n) (j := j) (show j * 5 + 0 < n * 5 by omega))
      have e2 := hBr.out.cell (lcells_at (O := w.heap.size) (n := n) (j := j) (show j * 5 + 2 < n * 5 by omega))
      have e3 := hBr.out.cell (lcells_at (O := w.heap.size) (n := n) (j := j) (show j * 5 + 3 < n * 5 by omega))
      have f0 := hBr.out.frozen (j * 5)
      have f2 := hBr.out.frozen (j * 5 + 2)
      have f3 := hBr.out.frozen (j * 5 + 3)
      have g2 := setc_other (v := .int .i64 (-1)) e2 (a := ⟨w.heap.size, j * 5, none⟩) (fun e => by have := congrArg Addr.off e; simp at this)
      have g3 := setc_other (v := .pointer (some ⟨w.heap.size, j * 5, none⟩)) (setc_other (v := .int .i64 (-1)) e3 (a := ⟨w.heap.size, j * 5, none⟩) (fun e => by have := congrArg Addr.off e; simp at this)) (a := ⟨w.heap.size, j * 5 + 2, none⟩) (fun e => by have := congrArg Addr.off e; simp at this)
      have hfin : Hid (∀ wz, ((wr.setCell ⟨w.heap.size, j * 5, none⟩ (.int .i64 (-1))).setCell ⟨w.heap.size, j * 5 + 2, none⟩ (.pointer (some ⟨w.heap.size, j * 5, none⟩))).setCell ⟨w.heap.size, j * 5 + 3, none⟩ (.pointer (some ⟨w.heap.size, j * 5, none⟩)) = wz →
          Hid (Blk wz w.heap.size 81 (lcells w.heap.size n (j + 1))) ∧ Hid (Only (fun b => b = w.heap.size) w3 wz)) := hid (by
        rintro wz rfl
        refine ⟨hid ?_, hid (((hOr.out.setCell (p := ⟨w.heap.size, j * 5, none⟩) (.inl rfl) _).setCell (p := ⟨w.heap.size, j * 5 + 2, none⟩) (.inl rfl) _).setCell (p := ⟨w.heap.size, j * 5 + 3, none⟩) (.inl rfl) _)⟩
        rw [← lcells_round hlt]
        exact ((hBr.out.set _ _).set _ _).set _ _)
      clear hl0 d
      generalize lineF w.heap.size j (j * 5 + 0) = z0 at *
      generalize lineF w.heap.size j (j * 5 + 2) = z2 at *
      generalize lineF w.heap.size j (j * 5 + 3) = z3 at *
      replace e0 : wr.cell? ⟨w.heap.size, j * 5, none⟩ = some z0 := e0
      go_wp2_with fail
      exact ⟨⟨j + 1, by omega, rfl, (hfin.out _ rfl).1, (hfin.out _ rfl).2⟩, by simp [RowKit.intOf]; omega⟩
    · obtain rfl : j = n := by omega
      clear hl0
      go_wp2_with fail
      go_ret
      have hl1 := cell_lt C1.out
      have c1 := (hOr.out.cell (p := ⟨w.heap.size + 2, 1, none⟩) hl1 (by show ¬ (w.heap.size + 2 = w.heap.size); omega)).trans C1.out
      have hM := HM.out.keep (hOr.out.block (w.heap.size + 1) HM.out.lt (by show ¬ (w.heap.size + 1 = w.heap.size); omega))
      have hb := HW.out.trans (hOr.out.below (B := w.heap.size) HW.out.size (fun x hx => by subst hx; exact Nat.le_refl _))
      exact ⟨w.heap.size + 2, w.heap.size, w.heap.size + 1, rfl, new_rm h1 h2 hBr.out c0 c1 hM (by omega) (by omega) (by omega), hb, by omega, by omega, by omega⟩
end Go.Proofs.Ytkhmgigllcgpnaa

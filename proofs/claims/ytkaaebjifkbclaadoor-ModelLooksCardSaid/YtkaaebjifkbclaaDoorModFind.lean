/-
  The contract of the document's own Find: where a key's item stands. Conditions: the state's items can be read.
-/
import Derived.Test.YtkaaebjifkbclaaDoorModLive
import Derived.BigQuiet
namespace Go.Proofs.YtkaaebjifkbclaaDoor.Md
open Go Go.RowKit Go.Lib

/-- How many stand ahead of a key. -/
def pos (l : List It) (k : ByteArray) : Nat := (l.takeWhile (fun x => klt x.key k)).length
def isAt (l : List It) (k : ByteArray) : Bool := (find l k).isSome
theorem pos_cons (x : It) (l : List It) (k : ByteArray) : pos (x :: l) k = if klt x.key k = true then pos l k + 1 else 0 := by
  unfold pos
  rw [List.takeWhile_cons]
  cases h : klt x.key k <;> simp
theorem pos_le (l : List It) (k : ByteArray) : pos l k ≤ l.length := by
  induction l with
  | nil => exact Nat.le_refl _
  | cons x l ih => rw [pos_cons, List.length_cons]; split <;> omega
theorem all_below {x : It} {l : List It} {k : ByteArray} (h : Sorted (x :: l)) (hx : klt x.key k = false) : ∀ y ∈ l, klt y.key k = false := fun y hy => by
  have h' := (List.pairwise_cons.1 h).1 y hy
  rw [Bool.eq_false_iff]
  intro e
  rw [klt_trans h' e] at hx; cases hx
theorem pos_take {l : List It} (h : Sorted l) (k : ByteArray) : l.take (pos l k) = l.filter (fun y => klt y.key k) := by
  induction l with
  | nil => rfl
  | cons x l ih =>
    have h' := List.pairwise_cons.1 h
    rw [pos_cons, List.filter_cons]
    cases e : klt x.key k
    · rw [if_neg (by decide), if_neg (by decide), List.take_zero]
      exact (List.filter_eq_nil_iff.2 (fun y hy => by rw [all_below h e y hy]; decide)).symm
    · rw [if_pos rfl, if_pos rfl, List.take_succ_cons, ih h'.2]
theorem pos_drop {l : List It} (h : Sorted l) (k : ByteArray) : l.drop (if isAt l k then pos l k + 1 else pos l k) = l.filter (fun y => klt k y.key) := by
  induction l with
  | nil => simp [isAt, find_nil, pos]
  | cons x l ih =>
    have h' := List.pairwise_cons.1 h
    unfold isAt
    rw [pos_cons, List.filter_cons, find_cons]
    cases e : klt x.key k
    · have hl : ∀ y ∈ l, klt x.key y.key = true := h'.1
      by_cases ek : x.key = k
      · have e2 : klt k x.key = false := by rw [ek]; exact klt_irrefl k
        rw [if_pos ek, e2]
        simp only [Option.isSome_some, if_true, Bool.false_eq_true, if_false, Nat.zero_add, List.drop_succ_cons, List.drop_zero]
        exact (List.filter_eq_self.2 (fun y hy => by rw [← ek]; exact hl y hy)).symm
      · have e2 : klt k x.key = true := by
          cases e3 : klt k x.key
          · exact absurd (klt_total e e3) ek
          · rfl
        have hn : find l k = none := find_none.2 (fun y hy hk => by
          have := klt_trans e2 (hl y hy)
          rw [hk, klt_irrefl] at this; cases this)
        rw [if_neg ek, hn, e2, List.filter_eq_self.2 (fun y hy => klt_trans e2 (hl y hy))]
        simp only [Option.isSome_none, if_true, Bool.false_eq_true, if_false, List.drop_zero]
    · have ek : x.key ≠ k := klt_ne e
      rw [if_neg ek, klt_asymm e, ← ih h'.2]
      unfold isAt
      simp only [if_true, Bool.false_eq_true, if_false]
      cases find l k <;> simp only [Option.isSome_some, Option.isSome_none, if_true, Bool.false_eq_true, if_false, List.drop_succ_cons]
theorem pos_at {l : List It} (h : Sorted l) (k : ByteArray) : isAt l k = true → l[pos l k]? = find l k := by
  induction l with
  | nil => intro e; simp [isAt, find_nil] at e
  | cons x l ih =>
    have h' := List.pairwise_cons.1 h
    unfold isAt
    rw [pos_cons, find_cons]
    cases e : klt x.key k
    · by_cases ek : x.key = k
      · rw [if_pos ek, if_neg (by decide)]; intro _; rfl
      · rw [if_neg ek, if_neg (by decide)]
        intro hs
        cases hf : find l k with
        | none => rw [hf] at hs; cases hs
        | some y =>
          obtain ⟨hy, hk⟩ := find_some hf
          have := all_below h e y hy
          have h2 := h'.1 y hy
          rw [hk] at h2
          rw [h2] at e; cases e
    · have ek : x.key ≠ k := klt_ne e
      rw [if_neg ek, if_pos rfl]
      intro hs
      rw [List.getElem?_cons_succ]
      exact ih h'.2 hs
/-- What stands at the place, and ahead of it. -/
theorem pos_fwd (l : List It) (k : ByteArray) (j : Nat) (x : It) (hj : l[j]? = some x) (hlt : j < pos l k) : klt x.key k = true := by
  induction l generalizing j with
  | nil => simp at hj
  | cons y l ih =>
    rw [pos_cons] at hlt
    split at hlt
    · rename_i e
      cases j with
      | zero => simp at hj; rw [← hj]; exact e
      | succ j => exact ih j (by simpa using hj) (by omega)
    · omega
theorem pos_stop (l : List It) (k : ByteArray) (x : It) (hj : l[pos l k]? = some x) : klt x.key k = false := by
  induction l with
  | nil => simp at hj
  | cons y l ih =>
    rw [pos_cons] at hj
    split at hj
    · exact ih (by simpa using hj)
    · rename_i e; simp at hj; rw [← hj]; simpa using e
theorem pos_key {l : List It} (h : Sorted l) (k : ByteArray) (x : It) (hj : l[pos l k]? = some x) : decide (x.key = k) = isAt l k := by
  cases e : isAt l k
  · rw [decide_eq_false]
    intro hk
    unfold isAt at e
    cases hf : find l k with
    | none => exact find_none.1 hf x (List.mem_of_getElem? hj) hk
    | some y => rw [hf] at e; cases e
  · have := pos_at h k e
    rw [hj] at this
    exact decide_eq_true (find_some this.symm).2
theorem pos_end {l : List It} (h : Sorted l) (k : ByteArray) (hj : pos l k = l.length) : isAt l k = false := by
  cases e : isAt l k
  · rfl
  · have := pos_at h k e
    rw [hj, List.getElem?_eq_none (Nat.le_refl _)] at this
    unfold isAt at e
    rw [← this] at e; cases e
theorem key_beq (a b : ByteArray) : (a.toList == b.toList) = decide (a = b) := by
  rw [Bool.eq_iff_iff, beq_iff_eq, decide_eq_true_iff, Lib.toList_data, Lib.toList_data]
  exact ⟨key_eq, fun h => by rw [h]⟩
theorem below_drewN (B : Nat) (w : World) (n : Nat) : Below B w (w.drewN n) := ⟨rfl, rfl, rfl, Nat.le_refl _, fun _ _ => rfl⟩
set_option maxRecDepth 100000 in
set_option maxHeartbeats 4000000 in
theorem ref_find {s : Ms} {V : Value} {w : World} (h : Sv w V s) (hs : Sorted s.its) (hlen : s.its.length ≤ 4194304) (k : ByteArray) :
    Calls Tryd.prog 23 #[V, .string k] w fun e w' => e = .returned (.tuple #[.int .i64 (pos s.its k), .bool (isAt s.its k)]) ∧ Below w.heap.size w w' := by
  obtain ⟨v, rfl, hI⟩ := h
  obtain ⟨a, c, rfl⟩ := hI.form
  have HI := hid hI
  clear hI
  unfold msv
  obtain ⟨N, hN⟩ : ∃ N, N = s.its.length := ⟨_, rfl⟩
  rw [← hN] at HI hlen ⊢
  have hpn : pos s.its k ≤ N := by rw [hN]; exact pos_le _ _
  have HF := hid (pos_fwd s.its k)
  have HS := hid (pos_stop s.its k)
  have HK := hid (pos_key hs k)
  have HE := hid (pos_end hs k)
  have HN := hid hN
  clear hN hs
  have HB : Hid (∀ W, W = w.alloc (.cells #[.slice a N c, .int .u64 s.cas, .int .i64 s.fl] 25) → W.cell? ⟨w.heap.size, 0, none⟩ = some (.slice a N c) ∧ Below w.heap.size w W) := hid (by
    rintro W rfl
    exact ⟨(Blk.new w #[.slice a N c, .int .u64 s.cas, .int .i64 s.fl] 25).cell (i := 0) rfl, abelow _ _⟩)
  generalize hP : pos s.its k = P at *
  generalize hA : isAt s.its k = A at *
  clear hA
  go_enter Tryd.func23, Tryd.ntmps23
  go_wp2_with fail
  obtain ⟨c0, hb⟩ := HB.out _ rfl
  have HB2 := hid hb
  generalize w.alloc (.cells #[.slice a N c, .int .u64 s.cas, .int .i64 s.fl] 25) = W0 at *
  clear HB hb
  go_loopw [6] (fun i wr => ∃ (j : Nat), i = .int .i64 j ∧ j ≤ P ∧ W0 = wr) (fun i _ => P - (RowKit.intOf i).toNat)
  case atStart => exact ⟨0, rfl, Nat.zero_le _, rfl⟩
  case round =>
    obtain ⟨j, rfl, hj, rfl⟩ := hrel
    have j0 : (0 : Int) ≤ (j : Int) := by omega
    by_cases hlt : j < P
    · have hlt1 : (j : Int) < (N : Int) := by omega
      obtain ⟨x, hx⟩ : ∃ x, s.its[j]? = some x := ⟨_, List.getElem?_eq_getElem (by rw [← HN.out]; omega)⟩
      obtain ⟨b, o, rfl, d0, -⟩ := (HI.out.below HB2.out).at hx
      have hk : Op.bytesLess x.key.toList k.toList = true := HF.out j x hx (by omega)
      clear HF HS HK HE hP
      go_wp2_with fail
      go_roundw
      case rel => exact ⟨j + 1, by go_num, by omega, by first | rfl | trivial⟩
      case measure => simp [RowKit.intOf] <;> omega
    · obtain rfl : j = P := by omega
      by_cases hend : j < N
      · have hlt1 : (j : Int) < (N : Int) := by omega
        obtain ⟨x, hx⟩ : ∃ x, s.its[j]? = some x := ⟨_, List.getElem?_eq_getElem (by rw [← HN.out]; omega)⟩
        obtain ⟨b, o, rfl, d0, -⟩ := (HI.out.below HB2.out).at hx
        have hk : Op.bytesLess x.key.toList k.toList = false := HS.out x hx
        have hk2 : (x.key.toList == k.toList) = A := by rw [key_beq]; exact HK.out x hx
        clear HF HS HK HE hP
        go_wp2_with fail
        go_quiet (fail)
        go_wp2_with fail
        go_ret2
        exact ⟨rfl, Below.trans HB2.out (below_drewN _ _ _)⟩
      · have hlt1 : ¬ (j : Int) < (N : Int) := by omega
        have hd : decide ((j : Int) < (N : Int)) = false := decide_eq_false hlt1
        have hA : A = false := HE.out (by have := HN.out; omega)
        subst hA
        clear HF HS HK HE hP
        go_wp2_with fail
        go_quiet (fail)
        go_wp2_with fail
        go_ret2
        exact ⟨rfl, Below.trans HB2.out (below_drewN _ _ _)⟩
end Go.Proofs.YtkaaebjifkbclaaDoor.Md

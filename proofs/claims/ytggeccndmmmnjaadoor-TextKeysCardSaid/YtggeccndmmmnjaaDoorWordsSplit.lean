/-
  Contracts of words.each, its iterator, and words.Split at this program: Split answers a slice of its own that holds the line's words in order. Condition: the line has at most 2^43 words.
-/
import Derived.Test.YtggeccndmmmnjaaDoorWords
import Derived.RangeFuncNested
import Derived.RangeFuncBound
import Derived.RangeFuncCalls
import Derived.RangeFuncLeaves
import Derived.RangeFuncBox
import Derived.Shelf.Abstract
import Derived.Shelf.RegionOpen
import Derived.OwnWalkIn
import Derived.TacticsInMore
import Derived.LoopNIn
import Derived.LoopIn
import Derived.Maps.AppendAt
namespace Go.Proofs.YtggeccndmmmnjaaDoor
open Go Go.Shelf Go.RowKit

attribute [local go_sem] Oper.semAt_some

/-- How many bytes a text has: the loop's measure. -/
def strSize : Value → Nat
  | .string s => s.size
  | _ => 0

theorem cut_blank (l : List UInt8) : ∃ b, cutv (S l) 32 = .tuple #[.string (S (upTo 32 l)), .string (S (past 32 l)), .bool b] := by
  unfold cutv
  rw [S_list]
  by_cases h : 32 ∈ l
  · exact ⟨true, by rw [if_pos h]⟩
  · refine ⟨false, ?_⟩
    rw [if_neg h, upTo_none h]
    have : past 32 l = [] := by unfold past; rw [upTo_none h, List.drop_of_length_le (by omega)]
    rw [this]; rfl
theorem S_empty : S [] = ⟨#[]⟩ := rfl
theorem S_full {l : List UInt8} (h : l ≠ []) : (S l).toList.isEmpty = false := by
  rw [Lib.toList_data, S_list]; cases l with
  | nil => exact absurd rfl h
  | cons a r => rfl

set_option maxRecDepth 100000 in
set_option maxHeartbeats 1000000 in
/-- The iterator, for every loop body that keeps what lay below n₀. -/
theorem each1_in (n : Nat) (l Bn n₀ : Nat) (s : ByteArray) (hs : s.size ≤ 9223372036854775807) (J Jx : List (List UInt8) → World → Prop) (W : World)
    (hJd : ∀ pre A B, J pre A → Below A.heap.size A B → J pre B)
    (hY : ∀ pre x W, J pre W → pre.length < (splitS s.data.toList).length → YieldAt Fence.wide (n - 1) Tryd.prog l #[.string (S x)] W fun e W' =>
      (e = .returned (.bool true) ∧ J (pre ++ [x]) W' ∧ Below n₀ W W') ∨ (e = .returned (.bool false) ∧ Jx (pre ++ [x]) W'))
    (hBn : W.cell? ⟨Bn, 0, none⟩ = some (.string s)) (h0 : J [] W) :
    CallsIn Fence.wide n Tryd.prog 23 #[.func (.yield l) #[] #[], .pointer (some ⟨Bn, 0, none⟩)] W fun e W' => (∃ v, e = .returned v) ∧
      ((∃ ys, ys = splitS s.data.toList ∧ J ys W') ∨ (∃ pre, pre <+: splitS s.data.toList ∧ Jx pre W')) := by
  refine callsIn_of_wp Tryd.func23 rfl trivial ?_ rfl
  simp only [Tryd.ntmps23, List.size_toArray, List.length_cons, List.length_nil, Nat.reduceAdd, Nat.reduceSub, Array.replicate_succ, Array.replicate_zero, List.push_toArray, List.append_toArray, List.nil_append, List.cons_append]
  gi_wp2_with (refine ⟨trivial, fun h => (by cases h), ?_⟩; gi_at_call 24; refine (callsIn_wide.2 (trim_left s _)).mono ?_; rintro e w' ⟨rfl, rfl⟩)
  gi_loopw [3] (fun p wr => ∃ (pre : List (List UInt8)) (t : List UInt8), p = .string (S (Lib.trimLeftB t 32)) ∧ Hid (splitS s.data.toList = pre ++ splitS t) ∧ t.length ≤ s.size ∧ J pre wr)
    (fun p _ => strSize p)
  case atStart =>
    exact ⟨[], s.data.toList, rfl, hid rfl, by rw [size_len]; exact Nat.le_refl _, h0⟩
  case round =>
    obtain ⟨pre, t, rfl, hx, ht, hJs⟩ := hrel
    have htl := trim_le t
    by_cases hn : Lib.trimLeftB t 32 = []
    · have hE : Hid (splitS s.data.toList = pre) := hid (by rw [hx.out, splitS_end hn, List.append_nil])
      rw [hn, S_empty]
      gi_wp2
      go_end0
      exact ⟨⟨_, rfl⟩, .inl ⟨pre, hE.out.symm, hJs⟩⟩
    · have hE : Hid (splitS s.data.toList = pre ++ upTo 32 (Lib.trimLeftB t 32) :: splitS (past 32 (Lib.trimLeftB t 32))) := hid (by rw [hx.out, splitS_step hn])
      have hp := past_lt (c := 32) hn
      obtain ⟨b, hcv⟩ := cut_blank (Lib.trimLeftB t 32)
      have hcut : ∀ w, _ := fun w => cut_one (S (Lib.trimLeftB t 32)) 32 w (by rw [S_size]; omega)
      rw [hcv] at hcut
      have hsz : strSize (.string (S (Lib.trimLeftB t 32))) = (Lib.trimLeftB t 32).length := S_size _
      have hf := S_full hn
      clear hcv hn
      generalize Lib.trimLeftB t 32 = r at *
      generalize hX : upTo 32 r = x at *
      generalize hQ : past 32 r = q at *
      clear hX hQ
      have hlen : pre.length < (splitS s.data.toList).length := by rw [hE.out]; simp
      generalize S r = R at *
      gi_wp2_with (refine ⟨trivial, fun h => (by cases h), ?_⟩; gi_at_call 15; refine (callsIn_wide.2 (hcut _)).mono ?_; rintro e w1 ⟨rfl, b1⟩; obtain ⟨fn, tmps, assign, body, hy, hR⟩ := hY pre x w1 (hJd _ _ _ hJs b1) hlen)
      refine ⟨fun h => (by cases h), hR.mono ?_⟩
      rintro e W3 (⟨rfl, hJ3, hk3⟩ | ⟨rfl, hJx3⟩)
      · clear hR hy
        gi_wp2_with (refine ⟨trivial, fun h => (by cases h), ?_⟩; gi_at_call 24; refine (callsIn_wide.2 (trim_left (S q) _)).mono ?_; rintro e w' ⟨rfl, rfl⟩)
        go_roundw
        case rel => exact ⟨pre ++ [x], q, by rw [S_list], hid (by rw [hE.out]; simp), by omega, hJ3⟩
        case measure =>
          have h9 := trim_le q
          rw [hsz, S_list]
          show (S (Lib.trimLeftB q 32)).size < _
          rw [S_size]; omega
      · clear hR hy
        gi_wp2
        refine bodyPost_ret (results_none rfl _ _ _) rfl ?_
        exact ⟨⟨_, rfl⟩, .inr ⟨pre ++ [x], ⟨splitS q, by rw [hE.out]; simp⟩, hJx3⟩⟩

set_option maxHeartbeats 1000000 in
/-- words.each: the line is boxed; the function value captures the box. -/
theorem each_in (n : Nat) (s : ByteArray) (w : World) :
    CallsIn Fence.wide n Tryd.prog 17 #[.string s] w fun e w' => e = .returned (.func (.func 23) #[] #[.pointer (some ⟨w.heap.size, 0, none⟩)]) ∧ w' = w.alloc (.cells #[.string s] 9) := by
  refine callsIn_of_wp Tryd.func17 rfl trivial ?_ rfl
  simp only [Tryd.ntmps17, List.size_toArray, List.length_cons, List.length_nil, Nat.reduceAdd, Nat.reduceSub, Array.replicate_succ, Array.replicate_zero, List.push_toArray, List.append_toArray, List.nil_append, List.cons_append]
  gi_wp2
  go_ret
  exact ⟨rfl, rfl⟩

/-- What it hands back goes through all words in order, or stops where a round says so. -/
theorem each_stops (n : Nat) (Bn n₀ : Nat) (s : ByteArray) (hs : s.size ≤ 9223372036854775807) (w : World) (hBn : Bn < w.heap.size) (hc : w.cell? ⟨Bn, 0, none⟩ = some (.string s)) :
    SeqStopsK Fence.wide n Tryd.prog 23 #[.pointer (some ⟨Bn, 0, none⟩)] (fun x : List UInt8 => #[Value.string (S x)]) (Below n₀) (fun ys => ys = splitS s.data.toList) (fun pre => pre <+: splitS s.data.toList) (splitS s.data.toList).length w := fun l J Jx W hW hJ hJx hY h0 =>
  each1_in n l Bn n₀ s hs J Jx W (fun pre A B h hb => hJ _ _ _ none h (grown_of_below hb) (fun r e => by cases e)) hY
    ((hW.cell (p := ⟨Bn, 0, none⟩) hBn).trans hc) h0

theorem infoString : (Tryd.prog.info? 9).map (fun i => (i.zero, i.size, i.bytes)) = some (some (.string ByteArray.empty), 1, 16) := by kernel_rfl

/-- The cells of a row of texts. -/
def cellsOf (xs : List (List UInt8)) : List Value := xs.map fun x => .string (S x)

theorem own_plain (n₀ : Nat) : Own (fun (pre : List (List UInt8)) W => ∃ v, Boxed W n₀ 25 v ∧ W.ownsRow n₀ 9 1 v pre.length (cellsOf pre)) := by
  intro s X Y row h hg hrow
  obtain ⟨v, hv, hr⟩ := h
  obtain ⟨v, hv, hr, _⟩ := holdsRow_own n₀ n₀ 25 9 1 (fun pre : List (List UInt8) => pre.length) cellsOf (fun _ _ => True) s X Y row ⟨v, hv, hr, trivial⟩ hg hrow
  exact ⟨v, hv, hr⟩

set_option maxRecDepth 100000 in
set_option maxHeartbeats 2000000 in
/-- words.Split: a slice of its own that holds the words in order. -/
theorem split_any (s : ByteArray) (hs : s.size ≤ 9223372036854775807) (hN : (splitS s.data.toList).length * 16 ≤ 140737488355328) (w : World) :
    Calls Tryd.prog 11 #[.string s] w fun e W' => ∃ v, e = .returned v ∧ W'.ownsRow w.heap.size 9 1 v (splitS s.data.toList).length (cellsOf (splitS s.data.toList)) ∧ Below w.heap.size w W' := by
  refine (callsIn_wide (n := 5)).1 ?_
  obtain ⟨i0, hi, hz0, hz1, hz2⟩ := info_parts infoString
  refine callsIn_of_wp_marks Tryd.func11 rfl trivial ?_ rfl
  simp only [Tryd.ntmps11, List.size_toArray, List.length_cons, List.length_nil, Nat.reduceAdd, Nat.reduceSub, Array.replicate_succ, Array.replicate_zero, List.push_toArray, List.append_toArray, List.nil_append, List.cons_append]
  gi_wp2_with (refine ⟨trivial, ?_⟩; gi_at_call 17; refine (each_in _ s _).mono ?_; rintro e w' ⟨rfl, rfl⟩)
  have bO := Boxed.new w 25 (.slice none 0 0)
  have bN := Boxed.new (w.alloc (.cells #[.slice none 0 0] 25)) 9 (.string s)
  rw [World.size_alloc] at bN
  have hB0 : Below w.heap.size w ((w.alloc (.cells #[.slice none 0 0] 25)).alloc (.cells #[.string s] 9)) := ((Below.refl _ w).alloc (Nat.le_refl _) _).alloc (by simp) _
  refine wpIn_rangeFunc_ownG rfl (by omega) (gf := 23) (lb := #[.pointer (some ⟨w.heap.size + 1, 0, none⟩)]) rfl trivial (enters_of Tryd.func23 (by kernel_rfl) rfl)
    (each_stops _ (w.heap.size + 1) w.heap.size s hs _ (by simp) bN.cell) belowK_t (belowK_b (by simp; omega)) (Below.refl _ _) (fun _ => rfl)
    (fun pre W => (∃ v, Boxed W w.heap.size 25 v ∧ W.ownsRow w.heap.size 9 1 v pre.length (cellsOf pre)) ∧ Below w.heap.size w W)
    (fun _ _ _ => False)
    (OwnFrom.and (Own.from (own_plain w.heap.size) _) (ownFrom_below (Nat.le_refl _) (by simp; omega)))
    (fun _ _ _ _ _ hs _ _ => hs)
    ⟨⟨_, bO.alloc _, World.ownsRow_nil _ _ _ _⟩, hB0⟩
    (fun x => { tmps := #[.string s, undef, .slice none 0 0, .pointer (some ⟨w.heap.size, 0, none⟩), .string (S x), .string s, .func (.func 23) #[] #[.pointer (some ⟨w.heap.size + 1, 0, none⟩)], .string (S x), undef, undef, undef, undef, undef], defers := [] }) ?assign ?body ?done ?stop
  case assign =>
    intro l x W K hK
    gi_wp2
    exact hK
  case body =>
    rintro l pre x W ⟨⟨v, hv, hrow⟩, hB⟩ hlt
    have hc := hv.cell
    gi_wp2_with (gi_at_builtin; refine wpListIn_append_own _ rfl _ _ 25 rfl w.heap.size 9 i0 (.string ByteArray.empty) 1 16 Tryd.underlying25 hi hz0 hz1 hz2 rfl (by decide) _ _ _ rfl (hrow.alloc _) ⟨W.heap.size, 0, none⟩ 1 1 [.string (S x)] rfl rfl (cell_one_new _ _ _) (by simp [Value.oneCell']) (by unfold maxLen; omega) (by omega) (by have := hB.size; simp; omega) ?_; intro v' w1 hown' hgrow _; obtain ⟨g', cap', rfl⟩ := ownsRow_succ hown'; obtain ⟨hv1, hv2, hr2, hk2, hb2⟩ := hv.appended (by decide) hrow hB.size (Nat.le_refl _) hown' hgrow; have hc1 := hv1.cell; have hf1 := hv1.frozen)
    exact ⟨hk2.from _, hb2, ⟨_, hv2, by simpa [cellsOf] using hr2⟩, hB.trans hb2⟩
  case done =>
    rintro D ys W hD rfl ⟨⟨v, hv, hrow⟩, hB⟩ hK
    have hc := hv.cell
    gi_wp2
    refine ⟨by simp, .inl ⟨_, _, rfl, run_takeDeferred hK, ?_⟩⟩
    exact ⟨_, results_tmp rfl _ _ _, v, rfl, ownsRow_putObj hrow _ hK rfl, hB.trans (belowK_b (w := w) (Nat.le_refl _) W D _ _ (by simp at hD; omega) hK rfl rfl)⟩
  case stop =>
    rintro D c pre W _ _ h _
    exact h.elim
end Go.Proofs.YtggeccndmmmnjaaDoor

/-
  slices.Backward over bools at this program, as an iterator: the places of a slice from the highest down, for every loop body that keeps the slice and its box. No further conditions.
-/
import Derived.Test.YtldfpacdlephcaaSlabFree
import Derived.RangeFuncNested
import Derived.RangeFuncBound
import Derived.RangeFuncCalls
import Derived.RangeFuncLeaves
import Derived.RangeFuncBox
import Derived.Shelf.Abstract
import Derived.Shelf.RegionOpen
import Derived.OwnWalkIn
import Derived.TacticsInMore
import Derived.LoopNIn
import Derived.LoopIn
namespace Go.Proofs.Ytldfpacdlephcaa
open Go Go.Shelf Go.RowKit Go.Lib

attribute [local go_sem] Oper.semAt_some

/-- A place and whether it is used. -/
abbrev Pl := { x : Nat × Bool // x.1 < 4096 }
def pls (l : List Pl) : List (Nat × Bool) := l.map (·.1)
theorem pls_len (l : List Pl) : (pls l).length = l.length := by simp [pls]
theorem pls_app (l : List Pl) (x : Pl) : pls (l ++ [x]) = pls l ++ [x.1] := by simp [pls]

set_option maxRecDepth 100000 in
set_option maxHeartbeats 2000000 in
/-- The closure: from the last place down to the first. -/
theorem back1_in (n l Bs V N cp : Nat) (hN1 : 1 ≤ N) (hN : N ≤ 1024) (used : List Bool) (hlen : N ≤ used.length) (D : Nat → Prop) (hDB : ¬ D Bs) (hDV : ¬ D V) (J Jx : List Pl → World → Prop)
    (hY : ∀ pre (x : Pl) W, J pre W → pre.length < N → YieldAt Fence.wide (n - 1) Try.prog l #[.int .i64 (x.1.1 : Int), .bool x.1.2] W fun e W' =>
      (e = .returned (.bool true) ∧ J (pre ++ [x]) W' ∧ Only D W W') ∨ (e = .returned (.bool false) ∧ Jx (pre ++ [x]) W'))
    (W : World) (hBl : Bs < W.heap.size) (hVl : V < W.heap.size) (hBs : W.cell? ⟨Bs, 0, none⟩ = some (.slice (some ⟨V, 0, none⟩) N cp)) (hc : ∀ j b, used[j]? = some b → W.cell? ⟨V, j, none⟩ = some (.bool b)) (h0 : J [] W) :
    CallsIn Fence.wide n Try.prog 85 #[.func (.yield l) #[] #[], .pointer (some ⟨Bs, 0, none⟩)] W fun e W' => (∃ v, e = .returned v) ∧
      ((∃ ys, pls ys = back used N N ∧ J ys W') ∨ (∃ pre, True ∧ Jx pre W')) := by
  have HC := hid hc
  have g1 : (0 : Int) ≤ (N : Int) - 1 := by omega
  obtain ⟨M, hM⟩ : ∃ M : Nat, N = M + 1 := ⟨N - 1, by omega⟩
  clear hc
  refine callsIn_of_wp Try.func85 rfl trivial ?_ rfl
  simp only [Try.ntmps85, List.size_toArray, List.length_cons, List.length_nil, Nat.reduceAdd, Nat.reduceSub, Array.replicate_succ, Array.replicate_zero, List.push_toArray, List.append_toArray, List.nil_append, List.cons_append]
  gi_wp2
  gi_loopw [3] (fun i wr => ((∃ m : Nat, m < N ∧ i = .int .i64 m ∧ ∃ ys, pls ys = back used N (N - 1 - m) ∧ J ys wr) ∨ (i = .int .i64 (-1) ∧ ∃ ys, pls ys = back used N N ∧ J ys wr)) ∧ Only D W wr)
    (fun i _ => (intOf i + 1).toNat)
  case atStart => exact ⟨.inl ⟨N - 1, by omega, by congr 1; omega, [], by rw [Nat.sub_self]; rfl, h0⟩, Only.refl _ _⟩
  case round =>
    obtain ⟨⟨m, hm, rfl, ys, hys, hJ⟩ | ⟨rfl, ys, hys, hJ⟩, ho⟩ := hrel
    · have hm4 : m < 4096 := Nat.lt_of_lt_of_le hm (Nat.le_trans hN (by decide))
      have hb : wr.cell? ⟨Bs, 0, none⟩ = some (.slice (some ⟨V, 0, none⟩) N cp) := (ho.cell (p := ⟨Bs, 0, none⟩) hBl hDB).trans hBs
      obtain ⟨b, hu⟩ : ∃ b, used[m]? = some b := ⟨_, List.getElem?_eq_getElem (by omega)⟩
      have hv : wr.cell? ⟨V, m, none⟩ = some (.bool b) := (ho.cell (p := ⟨V, m, none⟩) hVl hDV).trans (HC.out m b hu)
      obtain ⟨fn, tmps, assign, body, hy, hR⟩ := hY ys ⟨(m, b), hm4⟩ wr hJ (by rw [← pls_len, hys, back_len]; omega)
      have e1 : pls (ys ++ [⟨(m, b), hm4⟩]) = back used N (N - m) := by
        rw [pls_app, hys, show N - m = (N - 1 - m) + 1 by omega, back_succ, show N - 1 - (N - 1 - m) = m by omega, List.getD, hu]; rfl
      dsimp only at hy
      have HE := hid e1
      have HU := hid hu
      have hmN : (m : Int) < (N : Int) := by omega
      clear hu e1 hM hys
      gi_wp2
      refine ⟨fun h => (by cases h), hR.mono ?_⟩
      rintro e W3 (⟨rfl, hJ3, hk3⟩ | ⟨rfl, hJx3⟩)
      · have ho3 := ho.trans hk3 (fun _ h => .inl h)
        clear hR hy hb hv
        gi_wp2
        go_roundw
        case rel =>
          refine ⟨?_, ho3⟩
          cases m with
          | zero => exact .inr ⟨rfl, _, HE.out, hJ3⟩
          | succ m =>
            refine .inl ⟨m, by omega, by go_num, _, ?_, hJ3⟩
            rw [show N - 1 - m = N - (m + 1) by omega]; exact HE.out
        case measure => simp [intOf] <;> omega
      · gi_wp2
        refine bodyPost_ret (results_none rfl _ _ _) rfl ?_
        exact ⟨⟨_, rfl⟩, .inr ⟨_, trivial, hJx3⟩⟩
    · clear hM
      gi_wp2
      go_end0
      exact ⟨⟨_, rfl⟩, .inl ⟨_, hys, hJ⟩⟩

set_option maxHeartbeats 1000000 in
/-- slices.Backward: the slice is boxed; the function value captures the box. -/
theorem back_in (n : Nat) (a : Option Addr) (len cap : Nat) (w : World) :
    CallsIn Fence.wide n Try.prog 77 #[.slice a len cap] w fun e w' => e = .returned (.func (.func 85) #[] #[.pointer (some ⟨w.heap.size, 0, none⟩)]) ∧ w' = w.alloc (.cells #[.slice a len cap] 56) := by
  refine callsIn_of_wp Try.func77 rfl trivial ?_ rfl
  simp only [Try.ntmps77, List.size_toArray, List.length_cons, List.length_nil, Nat.reduceAdd, Nat.reduceSub, Array.replicate_succ, Array.replicate_zero, List.push_toArray, List.append_toArray, List.nil_append, List.cons_append]
  gi_wp2
  go_ret
  exact ⟨rfl, rfl⟩

/-- What it hands back goes through all places, or stops where a round says so. -/
theorem back_stops (n Bs V N cp : Nat) (hN1 : 1 ≤ N) (hN : N ≤ 1024) (used : List Bool) (hlen : N ≤ used.length) (D : Nat → Prop) (hDB : ¬ D Bs) (hDV : ¬ D V) (w : World) (hBl : Bs < w.heap.size) (hVl : V < w.heap.size)
    (hBs : w.cell? ⟨Bs, 0, none⟩ = some (.slice (some ⟨V, 0, none⟩) N cp)) (hc : ∀ j b, used[j]? = some b → w.cell? ⟨V, j, none⟩ = some (.bool b)) :
    SeqStopsK Fence.wide n Try.prog 85 #[.pointer (some ⟨Bs, 0, none⟩)] (fun x : Pl => #[Value.int .i64 (x.1.1 : Int), Value.bool x.1.2]) (Only D) (fun ys => pls ys = back used N N) (fun _ => True) N w := fun l J Jx W hW _ _ hY h0 =>
  back1_in n l Bs V N cp hN1 hN used hlen D hDB hDV J Jx hY W (Nat.lt_of_lt_of_le hBl hW.size) (Nat.lt_of_lt_of_le hVl hW.size) ((hW.cell (p := ⟨Bs, 0, none⟩) hBl).trans hBs) (fun j b hj => (hW.cell (p := ⟨V, j, none⟩) hVl).trans (hc j b hj)) h0
end Go.Proofs.Ytldfpacdlephcaa

/-
  slices.Backward over bools at this program, as an iterator: the places of a slice from the highest down, for every loop body that keeps the slice and its box. No further conditions.
  A region that draws its order, in a round of a range over a function: what holds of it in whatever order outside of a round holds in one. No program in it. No conditions.
-/
import Derived.Test.YtldfpacdlephcaaSlabFree
import Derived.RangeFuncNested
import Derived.RangeFuncBound
import Derived.RangeFuncCalls
import Derived.RangeFuncLeaves
import Derived.RangeFuncBox
import Derived.Shelf.Abstract
import Derived.Shelf.RegionOpen
import Derived.OwnWalkIn
import Derived.TacticsInMore
import Derived.LoopNIn
import Derived.LoopIn
import Derived.Deep.RegionHeld3
namespace Go.Proofs.Ytldfpacdlephcaa
open Go Go.Shelf Go.RowKit Go.Lib

attribute [local go_sem] Oper.semAt_some

/-- A place and whether it is used. -/
abbrev Pl := { x : Nat × Bool // x.1 < 4096 }
def pls (l : List Pl) : List (Nat × Bool) := l.map (·.1)
theorem pls_len (l : List Pl) : (pls l).length = l.length := by simp [pls]
theorem pls_app (l : List Pl) (x : Pl) : pls (l ++ [x]) = pls l ++ [x.1] := by simp [pls]

set_option maxRecDepth 100000 in
set_option maxHeartbeats 2000000 in
/-- The closure: from the last place down to the first. -/
theorem back1_in (n l Bs V N cp : Nat) (hN1 : 1 ≤ N) (hN : N ≤ 1024) (used : List Bool) (hlen : N ≤ used.length) (D : Nat → Prop) (hDB : ¬ D Bs) (hDV : ¬ D V) (J Jx : List Pl → World → Prop)
    (hY : ∀ pre (x : Pl) W, J pre W → pre.length < N → YieldAt Fence.wide (n - 1) Try.prog l #[.int .i64 (x.1.1 : Int), .bool x.1.2] W fun e W' =>
      (e = .returned (.bool true) ∧ J (pre ++ [x]) W' ∧ Only D W W') ∨ (e = .returned (.bool false) ∧ Jx (pre ++ [x]) W'))
    (W : World) (hBl : Bs < W.heap.size) (hVl : V < W.heap.size) (hBs : W.cell? ⟨Bs, 0, none⟩ = some (.slice (some ⟨V, 0, none⟩) N cp)) (hc : ∀ j b, used[j]? = some b → W.cell? ⟨V, j, none⟩ = some (.bool b)) (h0 : J [] W) :
    CallsIn Fence.wide n Try.prog 85 #[.func (.yield l) #[] #[], .pointer (some ⟨Bs, 0, none⟩)] W fun e W' => (∃ v, e = .returned v) ∧
      ((∃ ys, pls ys = back used N N ∧ J ys W') ∨ (∃ pre, True ∧ Jx pre W')) := by
  have HC := hid hc
  have g1 : (0 : Int) ≤ (N : Int) - 1 := by omega
  obtain ⟨M, hM⟩ : ∃ M : Nat, N = M + 1 := ⟨N - 1, by omega⟩
  clear hc
  refine callsIn_of_wp Try.func85 rfl trivial ?_ rfl
  simp only [Try.ntmps85, List.size_toArray, List.length_cons, List.length_nil, Nat.reduceAdd, Nat.reduceSub, Array.replicate_succ, Array.replicate_zero, List.push_toArray, List.append_toArray, List.nil_append, List.cons_append]
  gi_wp2
  gi_loopw [3] (fun i wr => ((∃ m : Nat, m < N ∧ i = .int .i64 m ∧ ∃ ys, pls ys = back used N (N - 1 - m) ∧ J ys wr) ∨ (i = .int .i64 (-1) ∧ ∃ ys, pls ys = back used N N ∧ J ys wr)) ∧ Only D W wr)
    (fun i _ => (intOf i + 1).toNat)
  case atStart => exact ⟨.inl ⟨N - 1, by omega, by congr 1; omega, [], by rw [Nat.sub_self]; rfl, h0⟩, Only.refl _ _⟩
  case round =>
    obtain ⟨⟨m, hm, rfl, ys, hys, hJ⟩ | ⟨rfl, ys, hys, hJ⟩, ho⟩ := hrel
    · have hm4 : m < 4096 := Nat.lt_of_lt_of_le hm (Nat.le_trans hN (by decide))
      have hb : wr.cell? ⟨Bs, 0, none⟩ = some (.slice (some ⟨V, 0, none⟩) N cp) := (ho.cell (p := ⟨Bs, 0, none⟩) hBl hDB).trans hBs
      obtain ⟨b, hu⟩ : ∃ b, used[m]? = some b := ⟨_, List.getElem?_eq_getElem (by omega)⟩
      have hv : wr.cell? ⟨V, m, none⟩ = some (.bool b) := (ho.cell (p := ⟨V, m, none⟩) hVl hDV).trans (HC.out m b hu)
      obtain ⟨fn, tmps, assign, body, hy, hR⟩ := hY ys ⟨(m, b), hm4⟩ wr hJ (by rw [← pls_len, hys, back_len]; omega)
      have e1 : pls (ys ++ [⟨(m, b), hm4⟩]) = back used N (N - m) := by
        rw [pls_app, hys, show N - m = (N - 1 - m) + 1 by omega, back_succ, show N - 1 - (N - 1 - m) = m by omega, List.getD, hu]; rfl
      dsimp only at hy
      have HE := hid e1
      have HU := hid hu
      have hmN : (m : Int) < (N : Int) := by omega
      clear hu e1 hM hys
      gi_wp2
      refine ⟨fun h => (by cases h), hR.mono ?_⟩
      rintro e W3 (⟨rfl, hJ3, hk3⟩ | ⟨rfl, hJx3⟩)
      · have ho3 := ho.trans hk3 (fun _ h => .inl h)
        clear hR hy hb hv
        gi_wp2
        go_roundw
        case rel =>
          refine ⟨?_, ho3⟩
          cases m with
          | zero => exact .inr ⟨rfl, _, HE.out, hJ3⟩
          | succ m =>
            refine .inl ⟨m, by omega, by go_num, _, ?_, hJ3⟩
            rw [show N - 1 - m = N - (m + 1) by omega]; exact HE.out
        case measure => simp [intOf] <;> omega
      · gi_wp2
        refine bodyPost_ret (results_none rfl _ _ _) rfl ?_
        exact ⟨⟨_, rfl⟩, .inr ⟨_, trivial, hJx3⟩⟩
    · clear hM
      gi_wp2
      go_end0
      exact ⟨⟨_, rfl⟩, .inl ⟨_, hys, hJ⟩⟩

set_option maxHeartbeats 1000000 in
/-- slices.Backward: the slice is boxed; the function value captures the box. -/
theorem back_in (n : Nat) (a : Option Addr) (len cap : Nat) (w : World) :
    CallsIn Fence.wide n Try.prog 77 #[.slice a len cap] w fun e w' => e = .returned (.func (.func 85) #[] #[.pointer (some ⟨w.heap.size, 0, none⟩)]) ∧ w' = w.alloc (.cells #[.slice a len cap] 56) := by
  refine callsIn_of_wp Try.func77 rfl trivial ?_ rfl
  simp only [Try.ntmps77, List.size_toArray, List.length_cons, List.length_nil, Nat.reduceAdd, Nat.reduceSub, Array.replicate_succ, Array.replicate_zero, List.push_toArray, List.append_toArray, List.nil_append, List.cons_append]
  gi_wp2
  go_ret
  exact ⟨rfl, rfl⟩

/-- What it hands back goes through all places, or stops where a round says so. -/
theorem back_stops (n Bs V N cp : Nat) (hN1 : 1 ≤ N) (hN : N ≤ 1024) (used : List Bool) (hlen : N ≤ used.length) (D : Nat → Prop) (hDB : ¬ D Bs) (hDV : ¬ D V) (w : World) (hBl : Bs < w.heap.size) (hVl : V < w.heap.size)
    (hBs : w.cell? ⟨Bs, 0, none⟩ = some (.slice (some ⟨V, 0, none⟩) N cp)) (hc : ∀ j b, used[j]? = some b → w.cell? ⟨V, j, none⟩ = some (.bool b)) :
    SeqStopsK Fence.wide n Try.prog 85 #[.pointer (some ⟨Bs, 0, none⟩)] (fun x : Pl => #[Value.int .i64 (x.1.1 : Int), Value.bool x.1.2]) (Only D) (fun ys => pls ys = back used N N) (fun _ => True) N w := fun l J Jx W hW _ _ hY h0 =>
  back1_in n l Bs V N cp hN1 hN used hlen D hDB hDV J Jx hY W (Nat.lt_of_lt_of_le hBl hW.size) (Nat.lt_of_lt_of_le hVl hW.size) ((hW.cell (p := ⟨Bs, 0, none⟩) hBl).trans hBs) (fun j b hj => (hW.cell (p := ⟨V, j, none⟩) hVl).trans (hc j b hj)) h0
end Go.Proofs.Ytldfpacdlephcaa
namespace Go.Proofs.Ytldfpacdlephcaa
open Go Go.Shelf Go.RowKit Go.Lib

/-- No operation defers a call. -/
def noDef (ops : Array Oper) : Bool := ops.toList.all fun o => match o.op with | .defer _ => false | _ => true
theorem noDef_at {ops : Array Oper} (h : noDef ops = true) {j : Nat} {o : Oper} (ho : ops[j]? = some o) (c : Call) : o.op ≠ .defer c := by
  intro e
  have hm : o ∈ ops.toList := List.mem_of_getElem? (i := j) (by rw [Array.getElem?_toList]; exact ho)
  have h1 := List.all_eq_true.1 h o hm
  rw [e] at h1
  cases h1

section
variable {P : Program} {ops : Array Oper} {Q : Exit → Act → World → Prop} {md : Region.Mode}
theorem wpOp_round {l n i : Nat} {K K' : Act → World → Prop} {a : Act} {w : World} (hQ : ¬ LetsOut Q) (hnd : noDef ops = true) (hK : ∀ a w, K a w → K' a w) (h : wpOp P ops Q i K a w) : wpOpIn (Fence.wide.inRound l) n P ops Q i K' a w := by
  unfold wpOp at h
  unfold wpOpIn
  cases ho : ops[i]? with
  | none => rw [ho] at h; exact hK _ _ h
  | some o =>
    rw [ho] at h
    dsimp only at h ⊢
    split
    · rename_i hw
      rw [if_pos hw] at h
      rcases h with h | ⟨_, h⟩
      · unfold Oper.wp at h
        unfold Oper.wpIn
        refine ⟨fun f _ => trivial, ?_⟩
        rw [Oper.semAt_eq _ _ _ (fun c => noDef_at hnd ho c)]
        generalize (execOp a.eval o).run P w = r at h ⊢
        cases r with
        | ok x w' =>
          cases x <;> simp only [Oper.upon, Oper.uponIn] at h ⊢ <;>
            first
              | exact hK _ _ h
              | exact ⟨fun e => (by cases e), CallsIn.inRound l (callsIn_wide.2 (Calls.mono h (fun e w'' he => by cases e <;> first | exact hK _ _ he | exact he)))⟩
              | exact ⟨fun e => (by cases e), fun c cs _ => by
                  obtain ⟨v, w2, r, st⟩ := Rows.mono h (fun _ _ he => hK _ _ he) c cs
                  exact ⟨v, w2, r, stepsIn_wide.2 st⟩⟩
        | halt x w' => cases x <;> simp only [Oper.upon, Oper.uponIn] at h ⊢ <;> exact h
      · exact (hQ h).elim
    · rename_i hw
      rw [if_neg hw] at h
      exact ⟨fun f _ => trivial, hK _ _ h⟩
theorem wpAny_round {l n : Nat} (hQ : ¬ LetsOut Q) (hnd : noDef ops = true) : ∀ (fuel : Nat) (listed : Array Bool) (a : Act) (w : World), wpAny P md ops Q fuel listed a w → wpAnyIn (Fence.wide.inRound l) n P md ops Q fuel listed a w
  | 0, _, _, _, h => h
  | fuel + 1, _, _, _, h => ⟨h.1, fun i hi => wpOp_round hQ hnd (fun a w h => wpAny_round hQ hnd fuel _ a w h) (h.2 i hi)⟩
/-- The beginning of such a walk. -/
theorem wpIn_region_round {l n id : Nat} {a : Act} {w : World} (S : World → Prop) (hm : P.follows .mixedOrders = true) (hQ : ¬ LetsOut Q) (hnd : noDef ops = true)
    (h : wpAnyH P .any ops Q S ops.size (Array.replicate ops.size false) a w.drew) : (Code.region id ops true).wpIn (Fence.wide.inRound l) n P Q a w :=
  wpIn_region_any hm (wpAny_round hQ hnd _ _ _ _ (wpAny_of_held _ _ _ _ h))
end
end Go.Proofs.Ytldfpacdlephcaa

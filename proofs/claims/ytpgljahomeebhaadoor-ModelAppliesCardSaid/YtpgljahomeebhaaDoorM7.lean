/-
  '!=' on items and answers that are the same; the document's Same of two states that are the same. Conditions: a state has at most 4194304 items.
  More plain regions of the laws of stage 16, each in one step: a box of a state, an answer's load, '!=' of two answers that are the same. No conditions.
-/
import Derived.Test.YtpgljahomeebhaaDoorM6
import Derived.BigQuiet
import Derived.Test.YtpgljahomeebhaaDoorMpApp
namespace Go.Proofs.YtpgljahomeebhaaDoor.Md
open Go Go.RowKit Go.Lib

theorem item_equal (x : It) (W : World) : (Op.equalIn 10000 33 x.v x.v).run Tryd.prog W = .ok true W := by
  obtain ⟨k, f, v, e, c, l, s, o⟩ := x
  simp only [It.v, It.cells]
  rw [run_equalIn_agg W 9999 33 _ _ (by kernel_rfl) (by kernel_rfl)]
  simp only [Program.fieldsOf, Tryd.underlying33]
  simp [go_sem, Tryd.underlying9, Tryd.underlying26, Tryd.underlying23, Tryd.underlying2, Tryd.underlying4]
theorem item_neq (x : It) (W : World) : (binOp .neq 33 x.v x.v).run Tryd.prog W = .ok (.bool false) W := by
  have h := item_equal x W
  unfold It.v at h ⊢
  rw [run_neq_struct, h]; rfl
theorem answer_equal (a : An) (W : World) : (Op.equalIn 10000 35 a.v a.v).run Tryd.prog W = .ok true W := by
  obtain ⟨st, ⟨k, f, v, e, c, l, s, o⟩, n, w, x, z⟩ := a
  simp only [An.v, An.cells]
  rw [run_equalIn_agg W 9999 35 _ _ (by kernel_rfl) (by kernel_rfl)]
  simp only [Program.fieldsOf, Tryd.underlying35]
  simp [go_sem, Tryd.underlying3, Tryd.underlying33, Tryd.underlying9, Tryd.underlying26, Tryd.underlying23, Tryd.underlying2, Tryd.underlying4]
theorem answer_neq (a : An) (W : World) : (binOp .neq 35 a.v a.v).run Tryd.prog W = .ok (.bool false) W := by
  have h := answer_equal a W
  unfold An.v at h ⊢
  rw [run_neq_struct, h]; rfl
set_option maxRecDepth 100000 in
set_option maxHeartbeats 4000000 in
theorem same_yes {a1 a2 : Option Addr} {N c1 c2 : Nat} {l : List It} {cas : Nat} {fl : Int} {w : World} (h1 : Its w (.slice a1 N c1) l) (h2 : Its w (.slice a2 N c2) l) (hlen : l.length ≤ 4194304) :
    Calls Tryd.prog 18 #[.agg #[.slice a1 N c1, .int .u64 cas, .int .i64 fl], .agg #[.slice a2 N c2, .int .u64 cas, .int .i64 fl]] w fun e w' => e = .returned (.bool true) ∧ Below w.heap.size w w' := by
  have hN : N = l.length := its_len h1
  obtain ⟨P, hP⟩ : ∃ P, w.heap.size = P := ⟨_, rfl⟩
  obtain ⟨W1, hW1⟩ : ∃ W1, w.alloc (.cells #[.slice a1 N c1, .int .u64 cas, .int .i64 fl] 25) = W1 := ⟨_, rfl⟩
  obtain ⟨W2, hW2⟩ : ∃ W2, W1.alloc (.cells #[.slice a2 N c2, .int .u64 cas, .int .i64 fl] 25) = W2 := ⟨_, rfl⟩
  have hs1 : W1.heap.size = P + 1 := by rw [← hW1, World.size_alloc, hP]
  have hB1 : Bxr w [(P, 25, [.slice a1 N c1, .int .u64 cas, .int .i64 fl])] [] W1 := by
    have := (Bxr.begin w).new #[.slice a1 N c1, .int .u64 cas, .int .i64 fl] 25
    rw [hP, hW1] at this; exact this
  have hB2 : Bxr w [(P + 1, 25, [.slice a2 N c2, .int .u64 cas, .int .i64 fl]), (P, 25, [.slice a1 N c1, .int .u64 cas, .int .i64 fl])] [] W2 := by
    have := hB1.new #[.slice a2 N c2, .int .u64 cas, .int .i64 fl] 25
    rw [hs1, hW2] at this; exact this
  have x0 := (hB2.1.get 1 rfl).cell (i := 0) rfl
  have x1 := (hB2.1.get 1 rfl).cell (i := 1) rfl
  have x2 := (hB2.1.get 1 rfl).cell (i := 2) rfl
  have y0 := (hB2.1.get 0 rfl).cell (i := 0) rfl
  have y1 := (hB2.1.get 0 rfl).cell (i := 1) rfl
  have y2 := (hB2.1.get 0 rfl).cell (i := 2) rfl
  have HB := hid hB2.1.1
  have H1 := hid (h1.below HB.out)
  have H2 := hid (h2.below HB.out)
  have HN := hid hN
  have HL := hid hlen
  clear hB1 hB2 h1 h2 hN hlen
  go_enter Tryd.func18, Tryd.ntmps18
  go_wp2_with fail
  go_loopw [5] (fun p wr => ∃ (i : Nat), p = .int .i64 i ∧ i ≤ N ∧ Hid (Below W2.heap.size W2 wr)) (fun p _ => N - (RowKit.intOf p).toNat)
  case atStart => exact ⟨0, rfl, Nat.zero_le _, hid (Below.refl _ _)⟩
  case round =>
    obtain ⟨i, rfl, hi, HR⟩ := hrel
    have z0 := (HR.out.cell (cell_lt x0)).trans x0
    have u0 := (HR.out.cell (cell_lt y0)).trans y0
    by_cases hlt : i < N
    · have l1 : (i : Int) < (N : Int) := by omega
      have l0 : (0 : Int) ≤ (i : Int) := by omega
      have lw : IntKind.i64.wrap ((i : Int) + 1) = ((i + 1 : Nat) : Int) := by rw [IntKind.wrap_i64]; have := HL.out; have := HN.out; omega
      obtain ⟨x, hx⟩ : ∃ x, l[i]? = some x := ⟨_, List.getElem?_eq_getElem (by rw [← HN.out]; omega)⟩
      obtain ⟨b, o, rfl, d0, d1, d2, d3, d4, d5, d6, d7⟩ := (H1.out.below HR.out).at hx
      obtain ⟨b', o', rfl, e0, e1, e2, e3, e4, e5, e6, e7⟩ := (H2.out.below HR.out).at hx
      have hq : ∀ W, (binOp .neq 33 (.agg #[.string x.key, .int .u32 x.flags, .string x.val, .int .i64 x.exp, .int .u64 x.cas, .int .i64 x.last, .bool x.stale, .bool x.won]) (.agg #[.string x.key, .int .u32 x.flags, .string x.val, .int .i64 x.exp, .int .u64 x.cas, .int .i64 x.last, .bool x.stale, .bool x.won])).run Tryd.prog W = .ok (.bool false) W := fun W => item_neq x W
      clear x0 x1 x2 y0 y1 y2
      go_wp2_with fail
      go_quiet (fail)
      go_wp2_with fail
      go_roundw
      case rel => exact ⟨i + 1, by first | rfl | go_num, by omega, hid (Below.then HR.out (below_drewN _ _ _))⟩
      case measure => simp [RowKit.intOf] <;> omega
    · have l2 : decide ((i : Int) < (N : Int)) = false := decide_eq_false (by omega)
      go_wp2_with fail
      go_ret
      exact ⟨rfl, Below.trans HB.out (HR.out.mono (by have := HB.out.size; omega))⟩
end Go.Proofs.YtpgljahomeebhaaDoor.Md
namespace Go.Proofs.YtpgljahomeebhaaDoor.Md
open Go Go.RowKit Go.Lib
section
variable {ops : Array Oper} {Q : Exit → Act → World → Prop} {rest : List Oper} {a : Act} {w w' : World}
/-- A state in a box of its own. -/
theorem newS {w0 : World} {bs : List (Nat × TypeId × List Value)} {rs : List (Value × List It)} {oL oS : Oper} {dL : Nat} {y : Operand} {cs : List Value} (hB : Bxr w0 bs rs w) (gL : oL.guard = none) (tL : oL.dst = some dL) (pL : oL.op = .alloc 25) (gS : oS.guard = none) (tS : oS.dst = none) (pS : oS.op = .store 25 (.tmp dL) y)
    (hy : a.eval y = .agg cs.toArray) (hap : apartX y dL = true) (hsz : ∃ n, a.tmps.size = n ∧ dL < n) (hl : cs.length = 3) (h1 : cs.all (·.oneCell') = true)
    (fin : ∀ b W, Bxr w0 ((b, 25, cs) :: bs) rs W → Q .normal (a.put (some dL) (.pointer (some ⟨b, 0, none⟩))) W) : wpList Tryd.prog ops Q [oL, oS] a w := by
  obtain ⟨n, hn, hd⟩ := hsz
  refine wpList_val (v := .pointer (some ⟨w.heap.size, 0, none⟩)) (w' := w.alloc (.cells zST 25)) gL (by unfold execOp; rw [pL]; dsimp only; kernel_rfl) ?_
  rw [tL]
  have h := hB.new zST 25
  refine wpList_stor (b := w.heap.size) (cs := cs) gS tS pS (put_same _ (by omega) _) (by rw [put_eval _ hap]; exact hy) (h.1.get 0 rfl) (by rw [hl]; rfl) (by rw [hl]; kernel_rfl) h1 ?_
  exact fin _ _ (h.setc 0 (vs := cs) rfl (by rw [hl]; rfl))
theorem loadA {o : Oper} {x : Operand} {b : Nat} {cs : List Value} (hg : o.guard = none) (ho : o.op = .load 35 x) (hx : a.eval x = .pointer (some ⟨b, 0, none⟩)) (hb : Blk w b 35 cs) (hl : cs.length = 13) (h : wpList Tryd.prog ops Q rest (a.put o.dst (.agg cs.toArray)) w) : wpList Tryd.prog ops Q (o :: rest) a w :=
  wpList_load_mid hg 35 x ho b 0 hx cs _ (Blk.range hb) Tryd.underlying35 rfl (by rw [hl]; kernel_rfl) h
theorem neqA {o : Oper} {x y : Operand} {r : TypeId} {A : An} (hg : o.guard = none) (ho : o.op = .binOp .neq 35 x y r) (hx : a.eval x = A.v) (hy : a.eval y = A.v) (h : wpList Tryd.prog ops Q rest (a.put o.dst (.bool false)) w) : wpList Tryd.prog ops Q (o :: rest) a w := by
  refine wpList_val (v := .bool false) (w' := w) hg ?_ h
  unfold execOp
  rw [ho]
  dsimp only
  rw [hx, hy]
  have h1 : (eqGuard .neq 35 x y A.v A.v).run Tryd.prog w = .ok () w := by
    unfold An.v
    kernel_rfl
  simp only [Sem.run_bind, h1, Result.andThen_ok, answer_neq, Sem.run_pure]
end
theorem Bxr.drop1 {w0 w : World} {x : Nat × TypeId × List Value} {bs : List (Nat × TypeId × List Value)} {rs : List (Value × List It)} (h : Bxr w0 (x :: bs) rs w) : Bxr w0 bs rs w :=
  ⟨⟨h.1.1, fun b hb => h.1.2.1 b (List.mem_cons_of_mem _ hb), (List.pairwise_cons.1 h.1.2.2).2⟩, fun r hr => by
    obtain ⟨G, h1, h2⟩ := h.2 r hr
    exact ⟨G, h1, fun b hb => ⟨fun y hy => (h2 b hb).1 y (List.mem_cons_of_mem _ hy), (h2 b hb).2⟩⟩⟩
end Go.Proofs.YtpgljahomeebhaaDoor.Md

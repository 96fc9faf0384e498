/-
  The program's Count: each command and answer adds what the plain mathematics says (S1). Conditions: the counts lie in one block, each below 2^64.
-/
import Derived.Test.YtfoggbgemdlhbaaDoorStsMem
namespace Go.Proofs.YtfoggbgemdlhbaaDoor.Sc
open Go Go.RowKit Go.Lib

theorem SP.put {P : Nat} {f : Nat → Nat} {w : World} (h : SP P f w) (j i : Nat) {v : Nat} (hv : v < 18446744073709551616) (e : (pc f).set j (u v) = pc (up f i v)) :
    SP P (up f i v) (w.setCell ⟨P, j, none⟩ (u v)) ∧ Only (fun b => b = P) w (w.setCell ⟨P, j, none⟩ (u v)) := by
  obtain ⟨a, b⟩ := stored h.2 e
  exact ⟨⟨h.1.up i hv, a⟩, b⟩
theorem SP.one {P : Nat} {f : Nat → Nat} {w : World} (h : SP P f w) (j i : Nat) (e : ∀ v, (pc f).set j (u v) = pc (up f i v)) :
    SP P (inc f i) (w.setCell ⟨P, j, none⟩ (.int .u64 (IntKind.u64.wrap ((f i : Int) + 1)))) ∧ Only (fun b => b = P) w (w.setCell ⟨P, j, none⟩ (.int .u64 (IntKind.u64.wrap ((f i : Int) + 1)))) := by
  rw [u_inc]
  exact h.put j i (Nat.mod_lt _ (by decide)) (e _)
theorem SP.two {P : Nat} {f : Nat → Nat} {w : World} (h : SP P f w) (j i k l : Nat) (x : Nat) (hx : inc f i l = x) (e : ∀ v, (pc f).set j (u v) = pc (up f i v)) (e2 : ∀ v, (pc (inc f i)).set k (u v) = pc (up (inc f i) l v)) :
    SP P (inc (inc f i) l) ((w.setCell ⟨P, j, none⟩ (.int .u64 (IntKind.u64.wrap ((f i : Int) + 1)))).setCell ⟨P, k, none⟩ (.int .u64 (IntKind.u64.wrap ((x : Int) + 1)))) ∧
      Only (fun b => b = P) w ((w.setCell ⟨P, j, none⟩ (.int .u64 (IntKind.u64.wrap ((f i : Int) + 1)))).setCell ⟨P, k, none⟩ (.int .u64 (IntKind.u64.wrap ((x : Int) + 1)))) := by
  subst hx
  obtain ⟨a, b⟩ := h.one j i e
  obtain ⟨c, d⟩ := a.one k l e2
  exact ⟨c, b.trans d fun _ hx => .inl hx⟩
theorem SP.cell {P : Nat} {f : Nat → Nat} {w : World} (h : SP P f w) {j i : Nat} (e : (pc f)[j]? = some (u (f i))) : w.cell? ⟨P, j, none⟩ = some (.int .u64 (f i : Int)) := h.2.cell e

theorem sp_tri {P : Nat} {f : Nat → Nat} {w : World} (h : SP P f w) (o k m : Nat) (e1 : (pc f)[o]? = some (u (f k))) (e2 : (pc f)[o + 1]? = some (u (f m))) (e3 : ∀ v, (pc f).set o (u v) = pc (up f k v)) (e4 : ∀ v, (pc f).set (o + 1) (u v) = pc (up f m v)) (st hit : Int) :
    Calls Tryd.prog 18 #[.pointer (some ⟨P, o, none⟩), .int .i64 st, .int .i64 hit] w fun e w' => e = .returned (.tuple #[]) ∧ SP P (tri f k m st hit) w' ∧ Only (fun b => b = P) w w' := by
  refine (tries_any h.2 e1 e2 st hit).mono ?_
  rintro e w' ⟨rfl, hb, ho⟩
  refine ⟨rfl, ⟨h.1.tri _ _ _ _, ?_⟩, ho⟩
  unfold triC at hb
  unfold tri
  split
  · rename_i hq; rw [if_pos hq, e3] at hb; exact hb
  · rename_i hq; rw [if_neg hq] at hb
    split
    · rename_i hr; rw [if_pos hr, e4] at hb; exact hb
    · rename_i hr; rw [if_neg hr] at hb; exact hb

set_option maxRecDepth 100000 in
theorem getc_any {P : Nat} {f : Nat → Nat} {w : World} (h : SP P f w) (st : Int) :
    Calls Tryd.prog 15 #[.pointer (some ⟨P, 0, none⟩), .int .i64 st] w fun e w' => e = .returned (.tuple #[]) ∧ SP P (getC f st) w' ∧ Only (fun b => b = P) w w' := by
  have c0 := h.cell (j := 0) (i := 0) rfl
  have f0 := h.2.frozen 0
  unfold getC
  by_cases h1 : st = 1
  · rw [if_pos h1]
    subst h1
    have c4 := h.cell (j := 4) (i := 4) rfl
    have f4 := h.2.frozen 4
    have HB := hidc (h.two 0 0 4 4 (f 4) rfl (fun _ => rfl) (fun _ => rfl))
    clear h
    go_enter Tryd.func15, Tryd.ntmps15
    go_wp2_with fail
    go_end0
    exact ⟨rfl, HB.out⟩
  · rw [if_neg h1]
    have c5 := h.cell (j := 5) (i := 5) rfl
    have f5 := h.2.frozen 5
    have HB := hidc (h.two 0 0 5 5 (f 5) rfl (fun _ => rfl) (fun _ => rfl))
    clear h
    go_enter Tryd.func15, Tryd.ntmps15
    go_wp2_with fail
    go_end0
    exact ⟨rfl, HB.out⟩

set_option maxRecDepth 100000 in
theorem matc_any {P : Nat} {f : Nat → Nat} {w : World} (h : SP P f w) (st : Int) (dn : Bool) :
    Calls Tryd.prog 17 #[.pointer (some ⟨P, 0, none⟩), .int .i64 st, .bool dn] w fun e w' => e = .returned (.tuple #[]) ∧ SP P (matC f st dn) w' ∧ Only (fun b => b = P) w w' := by
  cases dn with
  | true =>
    have hc := sp_tri h 10 10 11 rfl rfl (fun _ => rfl) (fun _ => rfl) st 6
    go_enter Tryd.func17, Tryd.ntmps17
    go_wp2_with fail
    refine hc.mono ?_
    rintro e w1 ⟨rfl, hb⟩
    go_wp2_with fail
    go_end0
    exact ⟨rfl, hb⟩
  | false =>
    have hc := sp_tri h 8 8 9 rfl rfl (fun _ => rfl) (fun _ => rfl) st 6
    go_enter Tryd.func17, Tryd.ntmps17
    go_wp2_with fail
    refine hc.mono ?_
    rintro e w1 ⟨rfl, hb⟩
    go_wp2_with fail
    go_end0
    exact ⟨rfl, hb⟩

set_option maxRecDepth 100000 in
theorem stoc_any {P : Nat} {f : Nat → Nat} {w : World} (h : SP P f w) (st : Int) (hc : Bool) :
    Calls Tryd.prog 16 #[.pointer (some ⟨P, 0, none⟩), .int .i64 st, .bool hc] w fun e w' => e = .returned (.tuple #[]) ∧ SP P (stoC f st hc) w' ∧ Only (fun b => b = P) w w' := by
  have c0 := h.cell (j := 1) (i := 1) rfl
  have f0 := h.2.frozen 1
  have HB := hidc (h.one 1 1 (fun _ => rfl))
  clear h
  unfold stoC
  cases hc with
  | false =>
    go_enter Tryd.func16, Tryd.ntmps16
    go_wp2_with fail
    refine bodyPost_ret (results_none rfl _ _ _) rfl ?_
    exact ⟨rfl, HB.out⟩
  | true =>
    have hq := sp_tri HB.out.1 12 12 14 rfl rfl (fun _ => rfl) (fun _ => rfl) st 2
    rw [if_pos rfl]
    unfold bad
    by_cases h4 : st = 4
    · rw [if_pos h4]
      subst h4
      go_enter Tryd.func16, Tryd.ntmps16
      go_wp2_with fail
      refine hq.mono ?_
      rintro e w1 ⟨rfl, h1, o1⟩
      have c1 := h1.cell (j := 16) (i := 13) rfl
      have f1 := h1.2.frozen 16
      have HC := hidc (h1.one 16 13 (fun _ => rfl))
      have HO := hidc (HB.out.2.trans (o1.trans HC.out.2 fun _ hx => .inl hx) fun _ hx => .inl hx)
      clear h1 o1 hq HB
      go_wp2_with fail
      go_end0
      exact ⟨rfl, HC.out.1, HO.out⟩
    · rw [if_neg h4]
      go_enter Tryd.func16, Tryd.ntmps16
      go_wp2_with fail
      refine hq.mono ?_
      rintro e w1 ⟨rfl, h1, o1⟩
      go_wp2_with fail
      go_end0
      exact ⟨rfl, h1, HB.out.2.trans o1 fun _ hx => .inl hx⟩

/-- A command and an answer as values. -/
def cc (c : Md.Cm) : List Value := [.int .i64 c.op, .int .i64 c.mode, .string c.key, .string c.val, .int .u32 c.flags, .int .i64 c.exp, .bool c.hasExp, .int .u64 c.cas, .bool c.hasCas, .int .u64 c.delta, .int .u64 c.init, .bool c.down, .bool c.viv, .int .i64 c.vive, .int .i64 c.rcc, .bool c.inv]
def ac (st : Int) : List Value := [.int .i64 st, .string ⟨#[]⟩, .int .u32 0, .string ⟨#[]⟩, .int .i64 0, .int .u64 0, .int .i64 0, .bool false, .bool false, .int .u64 0, .bool false, .bool false, .bool false]
/-- The world in which Count begins: its two boxes. -/
def boxed (w : World) (c : Md.Cm) (st : Int) : World := (w.alloc (.cells (cc c).toArray 35)).alloc (.cells (ac st).toArray 39)
theorem boxed_below (w : World) (c : Md.Cm) (st : Int) : Below w.heap.size w (boxed w c st) := ((Below.refl _ w).alloc (Nat.le_refl _) _).alloc (by simp) _
theorem boxed_c (w : World) (c : Md.Cm) (st : Int) : Blk (boxed w c st) w.heap.size 35 (cc c) := (Blk.new w (cc c).toArray 35).alloc _
theorem boxed_a (w : World) (c : Md.Cm) (st : Int) : Blk (boxed w c st) (w.heap.size + 1) 39 (ac st) := by
  have h := Blk.new (w.alloc (.cells (cc c).toArray 35)) (ac st).toArray 39
  simpa [boxed] using h
theorem loss_no {f : Nat → Nat} {z : Int} (h : ¬ 0 < z) : loss f z = f := if_neg h
theorem wrap_lost {z : Int} (h : 0 < z) (h1 : z ≤ 9223372036854775807) : IntKind.u64.wrap z = (z.toNat : Int) := by
  rw [IntKind.wrap_u64]; omega
theorem wrap_two (a b : Nat) : IntKind.u64.wrap ((a : Int) + (b : Int)) = (((a + b) % 18446744073709551616 : Nat) : Int) := by
  rw [IntKind.wrap_u64]; omega

set_option maxRecDepth 100000 in
theorem count_bad {P : Nat} {f : Nat → Nat} {w : World} (h : SP P f w) (c : Md.Cm) (st z : Int) (hs : st < 1 ∨ 12 < st) :
    Calls Tryd.prog 8 #[.pointer (some ⟨P, 0, none⟩), .agg (cc c).toArray, .agg (ac st).toArray, .int .i64 z] w fun e w' => e = .returned (.tuple #[]) ∧ SP P f w' ∧ Only (fun b => b = P) w w' := by
  have HB := hidc (show SP P f (boxed w c st) ∧ Only (fun b => b = P) w (boxed w c st) from ⟨h.below (boxed_below w c st), Below.only (boxed_below w c st)⟩)
  unfold boxed at HB
  rcases hs with hs | hs
  all_goals
    go_enter Tryd.func8, Tryd.ntmps8
    unfold ac cc at *
    go_wp2_with fail
    refine bodyPost_ret (results_none rfl _ _ _) rfl ?_
    exact ⟨rfl, HB.out⟩
end Go.Proofs.YtfoggbgemdlhbaaDoor.Sc

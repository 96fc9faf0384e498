/-
  A region that draws its order: a call, a call on its result that tells two values, and one or two boxes for them, in whatever order. No program in it. No conditions.
-/
import Derived.Test.YtpgljahomeebhaaDoorM1
namespace Go.Proofs.YtpgljahomeebhaaDoor.Md
open Go Go.RowKit Go.Lib

def setAll (l : Array Bool) (is : List Nat) : Array Bool := is.foldl (fun l i => l.setIfInBounds i true) l
theorem setAll_get (is : List Nat) : ∀ (l : Array Bool) (j : Nat), (setAll l is)[j]? = (l[j]?).map (fun b => b || is.contains j) := by
  induction is with
  | nil => intro l j; simp [setAll]
  | cons i is ih =>
    intro l j
    show (setAll (l.setIfInBounds i true) is)[j]? = _
    rw [ih, Array.getElem?_setIfInBounds]
    by_cases h : i = j
    · subst h
      by_cases hb : i < l.size
      · simp [hb]
      · simp [hb]
    · rw [if_neg h]
      cases l[j]? with
      | none => rfl
      | some b => simp [Ne.symm h]
theorem setAll_ext {l : Array Bool} {a b : List Nat} (h : ∀ j, j ∈ a ↔ j ∈ b) : setAll l a = setAll l b := by
  refine Array.ext_getElem? (fun j => ?_)
  rw [setAll_get, setAll_get]
  have : a.contains j = b.contains j := by
    rw [Bool.eq_iff_iff, List.contains_iff_mem, List.contains_iff_mem]; exact h j
  rw [this]
theorem setAll_snoc (l : Array Bool) (a : List Nat) (i : Nat) : (setAll l a).setIfInBounds i true = setAll l (a ++ [i]) := by
  unfold setAll
  rw [List.foldl_append]; rfl
/-- With a box, if it is there. -/
def bx (a : Act) (d : Nat) : Option Nat → Act
  | none => a
  | some b => a.put (some d) (.pointer (some ⟨b, 0, none⟩))
theorem put_comm (a : Act) {d e : Nat} (h : d ≠ e) (v u : Value) : (a.put (some d) v).put (some e) u = (a.put (some e) u).put (some d) v := by
  unfold Act.put
  dsimp only
  rw [Array.setIfInBounds_comm _ _ h]
theorem bx_put (a : Act) {d e : Nat} (h : d ≠ e) (p : Option Nat) (u : Value) : (bx a d p).put (some e) u = bx (a.put (some e) u) d p := by
  cases p with
  | none => rfl
  | some b => exact put_comm a h _ _
def apartX (x : Operand) (d : Nat) : Bool := match x with | .tmp n => n != d | _ => true
theorem put_eval (a : Act) {x : Operand} {d : Nat} (h : apartX x d = true) (v : Value) : (a.put (some d) v).eval x = a.eval x := by
  cases x with
  | tmp n =>
    have h : n ≠ d := by simpa [apartX] using h
    show (a.tmps.setIfInBounds d v).getD n undef = a.tmps.getD n undef
    rw [Array.getD_eq_getD_getElem?, Array.getD_eq_getD_getElem?, Array.getElem?_setIfInBounds, if_neg h.symm]
  | const c => rfl
  | global g => rfl
  | func f => rfl
theorem bx_eval (a : Act) {x : Operand} {d : Nat} (h : apartX x d = true) (p : Option Nat) : (bx a d p).eval x = a.eval x := by
  cases p with
  | none => rfl
  | some b => exact put_eval a h _
theorem put_same (a : Act) {d : Nat} (h : d < a.tmps.size) (v : Value) : (a.put (some d) v).eval (.tmp d) = v := by
  show (a.tmps.setIfInBounds d v).getD d undef = v
  rw [Array.getD_eq_getD_getElem?, Array.getElem?_setIfInBounds, if_pos rfl, if_pos h]; rfl
theorem put_size (a : Act) (d : Option Nat) (v : Value) : (a.put d v).tmps.size = a.tmps.size := by
  cases d with
  | none => rfl
  | some d => exact Array.size_setIfInBounds
theorem bx_size (a : Act) (d : Nat) (p : Option Nat) : (bx a d p).tmps.size = a.tmps.size := by
  cases p with
  | none => rfl
  | some d => exact put_size _ _ _
section
variable {P : Program} {ops : Array Oper} {Q : Exit → Act → World → Prop} {md : Region.Mode} {S : World → Prop} {st : Nat}
theorem wpOp_val {i : Nat} {o : Oper} {K : Act → World → Prop} {a : Act} {w w' : World} {v : Value} (hi : ops[i]? = some o) (hg : o.guard = none) (hr : (execOp a.eval o).run P w = .ok (.value v) w') (h : K (a.put o.dst v) w') : wpOp P ops Q i K a w := by
  unfold wpOp
  rw [hi]
  dsimp only
  rw [if_pos (by simp [Region.wanted, hg])]
  left
  unfold Oper.wp
  rw [hr]
  exact h
theorem wpOp_call {i : Nat} {o : Oper} {K : Act → World → Prop} {a : Act} {w : World} {f : FuncId} {args : Array Value} (hi : ops[i]? = some o) (hg : o.guard = none) (hr : (execOp a.eval o).run P w = .ok (.enter f args) w) (h : Calls P f args w fun e w' => ∃ v, e = .returned v ∧ K (a.put o.dst v) w') : wpOp P ops Q i K a w := by
  unfold wpOp
  rw [hi]
  dsimp only
  rw [if_pos (by simp [Region.wanted, hg])]
  left
  unfold Oper.wp
  rw [hr, Oper.upon_enter]
  refine h.mono ?_
  rintro e w' ⟨v, rfl, hk⟩
  exact hk
theorem wpAnyE_node {n : Nat} {l : Array Bool} {a : Act} {w : World} (hne : (Region.ready md ops l).isEmpty = false)
    (h : ∀ i ∈ Region.ready md ops l, wpOp P ops Q i (fun a' w' => ((l.setIfInBounds i true).getD st true = false → S w') ∧ wpAnyE P md ops Q S st n (l.setIfInBounds i true) a' w') a w) : wpAnyE P md ops Q S st (n + 1) l a w :=
  ⟨fun e => (by rw [e] at hne; cases hne), h⟩
theorem wpAnyE_firstU {i : Nat} {oi : Oper} {v : Value} (hi : ops[i]? = some oi) (hsel : ∀ (j : Nat) (o : Oper) cs b, ops[j]? = some o → o.op ≠ .select cs b)
    (hQ : ∀ c a w, Q (.panic c) (a.put oi.dst v) w → Q (.panic c) a w) (his : i ≠ st) : ∀ (fuel : Nat) (listed : Array Bool) (a : Act) (w : World),
      (∀ j oj, ops[j]? = some oj → j ≠ i → listed.getD j true = false → (∀ e ∈ oj.after, Region.binds md e = true → e.on ≠ i) → oi.apart ops oj = true) →
      i ∈ Region.ready md ops listed → YieldsIf P ops (fun _ => True) oi v a → (listed.getD st true = false → S w) →
      wpAnyE P md ops Q S st fuel (listed.setIfInBounds i true) (a.put oi.dst v) w → wpAnyE P md ops Q S st (fuel + 1) listed a w := by
  intro fuel
  induction fuel with
  | zero =>
    intro listed a w _ hr hy hs H
    refine ⟨fun h => (by rw [h] at hr; cases hr), fun j hj => ?_⟩
    by_cases hji : j = i
    · subst hji; exact hy.wpOp hi trivial ⟨fun h => hs (by rw [getD_set_ne true his] at h; exact h), H⟩
    · have := ready_mono hj hji
      rw [H.1] at this
      cases this
  | succ fuel ih =>
    intro listed a w hfree hr hy hs H
    refine ⟨fun h => (by rw [h] at hr; cases hr), fun j hj => ?_⟩
    by_cases hji : j = i
    · subst hji; exact hy.wpOp hi trivial ⟨fun h => hs (by rw [getD_set_ne true his] at h; exact h), H⟩
    · have h1 := H.2 j (ready_mono hj hji)
      obtain ⟨hjun, oj, hoj, hall⟩ := mem_ready.1 hj
      have hnot : ∀ e ∈ oj.after, Region.binds md e = true → e.on ≠ i := fun e he hb heq => by
        have h1 := hall e he hb
        have h0 := (mem_ready.1 hr).1
        rw [heq] at h1
        rcases Nat.lt_or_ge i listed.size with h' | h'
        · simp [h'] at h0 h1; rw [h0] at h1; cases h1
        · simp [Array.getElem?_eq_none h'] at h1
      have h2 := wpOp_putIf hoj (hfree j oj hoj hji hjun hnot) (fun cs b => hsel i oi cs b hi) (fun cs b => hsel j oj cs b hoj) hQ hy h1
      have hfree' : ∀ k ok, ops[k]? = some ok → k ≠ i → (listed.setIfInBounds j true).getD k true = false →
          (∀ e ∈ ok.after, Region.binds md e = true → e.on ≠ i) → oi.apart ops ok = true := fun k ok hk hki hun hno => by
        refine hfree k ok hk hki ?_ hno
        by_cases hjk : j = k
        · subst hjk; exact hjun
        · rw [getD_set_ne true hjk] at hun; exact hun
      have key : ∀ w' : World, (((listed.setIfInBounds i true).setIfInBounds j true).getD st true = false → S w') → ((listed.setIfInBounds j true).getD st true = false → S w') := fun w' h3 h4 => h3 (by
        rw [Array.setIfInBounds_comm _ _ (Ne.symm hji), getD_set_ne true his]; exact h4)
      refine wpOp_mono (fun a' w' h3 => ⟨key w' h3.2.1, ih (listed.setIfInBounds j true) a' w' hfree' (ready_mono hr (Ne.symm hji)) h3.1 (key w' h3.2.1) ?_⟩) h2
      rw [Array.setIfInBounds_comm _ _ hji]
      exact h3.2.2
/-- Take number 'i' first, that reads no memory. -/
theorem wpAnyE_takeU {i : Nat} {oi : Oper} {v : Value} {fuel : Nat} {listed : Array Bool} {a : Act} {w : World} (hi : ops[i]? = some oi)
    (hs : Region.noSelect ops = true) (hf : Region.free md ops listed i = true) (hr : (Region.ready md ops listed).contains i = true)
    (hQ : ∀ c a w, Q (.panic c) (a.put oi.dst v) w → Q (.panic c) a w) (his : i ≠ st) (hS : S w) (hy : YieldsIf P ops (fun _ => True) oi v a)
    (h : wpAnyE P md ops Q S st fuel (listed.setIfInBounds i true) (a.put oi.dst v) w) : wpAnyE P md ops Q S st (fuel + 1) listed a w :=
  wpAnyE_firstU hi (Region.noSelect_spec hs) hQ his fuel listed a w (Region.free_spec hi hf) (by simpa using hr) hy (fun _ => hS) h
end
def bls : List Bool := [false, true]
theorem bls_mem (b : Bool) : b ∈ bls := by cases b <;> decide
def lsB (L0 L1 : Nat) (p q : Bool) : List Nat := (if p then [L0] else []) ++ (if q then [L1] else [])
def rOk (md : Region.Mode) (ops : Array Oper) (l : Array Bool) (X L0 L1 : Nat) (ls : List Nat) : Bool :=
  bls.all fun p => bls.all fun q => !(Region.ready md ops (setAll l (ls ++ lsB L0 L1 p q))).isEmpty && (Region.ready md ops (setAll l (ls ++ lsB L0 L1 p q))).all fun i => i == X || ((!p && i == L0) || (!q && i == L1))
def tOk (md : Region.Mode) (ops : Array Oper) (l : Array Bool) (st X L0 L1 : Nat) (ls : List Nat) : Bool :=
  bls.all fun p => bls.all fun q => (Region.ready md ops (setAll l (ls ++ lsB L0 L1 p q))).contains X && (Region.free md ops (setAll l (ls ++ lsB L0 L1 p q)) X && X != st)
def eOk (md : Region.Mode) (ops : Array Oper) (l : Array Bool) (L0 L1 : Nat) (ls : List Nat) : Bool :=
  bls.all fun p => bls.all fun q => (p && q) || (!(Region.ready md ops (setAll l (ls ++ lsB L0 L1 p q))).isEmpty && (Region.ready md ops (setAll l (ls ++ lsB L0 L1 p q))).all fun i => ((!p && i == L0) || (!q && i == L1)))
/-- The order's small facts, looked at by the kernel. -/
def diaOk (md : Region.Mode) (ops : Array Oper) (l : Array Bool) (st G A M E0 E1 L0 L1 : Nat) : Bool :=
  Region.noSelect ops && (
  (rOk md ops l G L0 L1 [] && (rOk md ops l A L0 L1 [G] && (eOk md ops l L0 L1 [G, A, M, E0, E1] &&
  (tOk md ops l st M L0 L1 [G, A] && (tOk md ops l st E0 L0 L1 [G, A, M] && tOk md ops l st E1 L0 L1 [G, A, M, E0]))))))
section
variable {P : Program} {ops : Array Oper} {Q : Exit → Act → World → Prop} {md : Region.Mode} {S : World → Prop} {st : Nat}
theorem all2 {f : Bool → Bool → Bool} (h : (bls.all fun p => bls.all fun q => f p q) = true) (p q : Bool) : f p q = true :=
  List.all_eq_true.1 (List.all_eq_true.1 h p (bls_mem p)) q (bls_mem q)
def nb : Option Nat → Nat
  | none => 1
  | some _ => 0
/-- A chain's next one, or a box. -/
theorem boxes {n : Nat} {l : Array Bool} {B : Act} {X L0 L1 : Nat} {ls : List Nat} {oL0 oL1 : Oper} {d0 d1 : Nat} {z0 z1 : Obj} {J : Option Nat → Option Nat → World → Prop}
    (iL0 : ops[L0]? = some oL0) (iL1 : ops[L1]? = some oL1) (g0 : oL0.guard = none) (g1 : oL1.guard = none) (t0 : oL0.dst = some d0) (t1 : oL1.dst = some d1) (n01 : d0 ≠ d1)
    (r0 : ∀ (b : Act) (W : World), (execOp b.eval oL0).run P W = .ok (.value (.pointer (some ⟨W.heap.size, 0, none⟩))) (W.alloc z0))
    (r1 : ∀ (b : Act) (W : World), (execOp b.eval oL1).run P W = .ok (.value (.pointer (some ⟨W.heap.size, 0, none⟩))) (W.alloc z1))
    (s : ∀ p q W, J p q W → S W) (j0 : ∀ q W, J none q W → J (some W.heap.size) q (W.alloc z0)) (j1 : ∀ p W, J p none W → J p (some W.heap.size) (W.alloc z1))
    (X' : Bool → Bool → Bool) (hr : ∀ p q, (Region.ready md ops (setAll l (ls ++ lsB L0 L1 p q))).isEmpty = false ∧ ∀ i ∈ Region.ready md ops (setAll l (ls ++ lsB L0 L1 p q)), (i = X ∧ X' p q = true) ∨ ((p = false ∧ i = L0) ∨ (q = false ∧ i = L1)))
    (hX : ∀ p q W, X' p.isSome q.isSome = true → J p q W → wpOp P ops Q X (fun a' w' => (((setAll l (ls ++ lsB L0 L1 p.isSome q.isSome)).setIfInBounds X true).getD st true = false → S w') ∧ wpAnyE P md ops Q S st (n + nb p + nb q) ((setAll l (ls ++ lsB L0 L1 p.isSome q.isSome)).setIfInBounds X true) a' w') (bx (bx B d0 p) d1 q) W) :
    ∀ p q W, J p q W → wpAnyE P md ops Q S st (n + 1 + nb p + nb q) (setAll l (ls ++ lsB L0 L1 p.isSome q.isSome)) (bx (bx B d0 p) d1 q) W := by
  have css : ∀ b0 b1 W, J (some b0) (some b1) W → wpAnyE P md ops Q S st (n + 1) (setAll l (ls ++ lsB L0 L1 true true)) (bx (bx B d0 (some b0)) d1 (some b1)) W := fun b0 b1 W hj => by
    have k := hr true true
    refine wpAnyE_node k.1 (fun i hi => ?_)
    rcases k.2 i hi with ⟨rfl, hx⟩ | ⟨h, _⟩ | ⟨h, _⟩
    · exact hX (some b0) (some b1) W hx hj
    · cases h
    · cases h
  have csn : ∀ b0 W, J (some b0) none W → wpAnyE P md ops Q S st (n + 1 + 1) (setAll l (ls ++ lsB L0 L1 true false)) (bx (bx B d0 (some b0)) d1 none) W := fun b0 W hj => by
    have k := hr true false
    refine wpAnyE_node k.1 (fun i hi => ?_)
    rcases k.2 i hi with ⟨rfl, hx⟩ | ⟨h, _⟩ | ⟨_, rfl⟩
    · exact hX (some b0) none W hx hj
    · cases h
    · refine wpOp_val iL1 g1 (r1 _ _) ?_
      have hj2 := j1 (some b0) W hj
      refine ⟨fun _ => s _ _ _ hj2, ?_⟩
      rw [setAll_snoc, t1, setAll_ext (b := ls ++ lsB L0 i true true) (fun j => by simp [lsB])]
      exact css _ _ _ hj2
  have cns : ∀ b1 W, J none (some b1) W → wpAnyE P md ops Q S st (n + 1 + 1) (setAll l (ls ++ lsB L0 L1 false true)) (bx (bx B d0 none) d1 (some b1)) W := fun b1 W hj => by
    have k := hr false true
    refine wpAnyE_node k.1 (fun i hi => ?_)
    rcases k.2 i hi with ⟨rfl, hx⟩ | ⟨_, rfl⟩ | ⟨h, _⟩
    · exact hX none (some b1) W hx hj
    · refine wpOp_val iL0 g0 (r0 _ _) ?_
      have hj2 := j0 (some b1) W hj
      refine ⟨fun _ => s _ _ _ hj2, ?_⟩
      rw [setAll_snoc, t0, setAll_ext (b := ls ++ lsB i L1 true true) (fun j => by simp [lsB]; grind), bx_put _ (Ne.symm n01)]
      exact css _ _ _ hj2
    · cases h
  intro p q W hj
  cases p with
  | some b0 =>
    cases q with
    | some b1 => exact css _ _ _ hj
    | none => exact csn _ _ hj
  | none =>
    cases q with
    | some b1 => exact cns _ _ hj
    | none =>
      have k := hr false false
      refine wpAnyE_node (n := n + 1 + 1) k.1 (fun i hi => ?_)
      rcases k.2 i hi with ⟨rfl, hx⟩ | ⟨_, rfl⟩ | ⟨_, rfl⟩
      · exact hX none none W hx hj
      · refine wpOp_val iL0 g0 (r0 _ _) ?_
        have hj2 := j0 none W hj
        refine ⟨fun _ => s _ _ _ hj2, ?_⟩
        show wpAnyE P md ops Q S st (n + 1 + 1) ((setAll l (ls ++ lsB i L1 false false)).setIfInBounds i true) _ _
        rw [setAll_snoc, t0, setAll_ext (b := ls ++ lsB i L1 true false) (fun j => by simp [lsB])]
        exact csn _ _ hj2
      · refine wpOp_val iL1 g1 (r1 _ _) ?_
        have hj2 := j1 none W hj
        refine ⟨fun _ => s _ _ _ hj2, ?_⟩
        show wpAnyE P md ops Q S st (n + 1 + 1) ((setAll l (ls ++ lsB L0 i false false)).setIfInBounds i true) _ _
        rw [setAll_snoc, t1, setAll_ext (b := ls ++ lsB L0 i false true) (fun j => by simp [lsB])]
        exact cns _ _ hj2
theorem rOk_spec {l : Array Bool} {X L0 L1 : Nat} {ls : List Nat} (h : rOk md ops l X L0 L1 ls = true) (p q : Bool) : (Region.ready md ops (setAll l (ls ++ lsB L0 L1 p q))).isEmpty = false ∧ ∀ i ∈ Region.ready md ops (setAll l (ls ++ lsB L0 L1 p q)), (i = X ∧ (fun _ _ => true) p q = true) ∨ ((p = false ∧ i = L0) ∨ (q = false ∧ i = L1)) := by
  have k := all2 (by unfold rOk at h; exact h) p q
  rw [Bool.and_eq_true, List.all_eq_true] at k
  exact ⟨by simpa using k.1, fun i hi => by simpa using k.2 i hi⟩
theorem tOk_spec {l : Array Bool} {X L0 L1 : Nat} {ls : List Nat} (h : tOk md ops l st X L0 L1 ls = true) (p q : Bool) : (Region.ready md ops (setAll l (ls ++ lsB L0 L1 p q))).contains X = true ∧ Region.free md ops (setAll l (ls ++ lsB L0 L1 p q)) X = true ∧ X ≠ st := by
  have k := all2 (by unfold tOk at h; exact h) p q
  rw [Bool.and_eq_true, Bool.and_eq_true] at k
  exact ⟨k.1, k.2.1, by simpa using k.2.2⟩
theorem eOk_spec {l : Array Bool} {L0 L1 : Nat} {ls : List Nat} (h : eOk md ops l L0 L1 ls = true) (p q : Bool) (hpq : (p && q) = false) : (Region.ready md ops (setAll l (ls ++ lsB L0 L1 p q))).isEmpty = false ∧ ∀ i ∈ Region.ready md ops (setAll l (ls ++ lsB L0 L1 p q)), (p = false ∧ i = L0) ∨ (q = false ∧ i = L1) := by
  have k := all2 (by unfold eOk at h; exact h) p q
  rw [hpq, Bool.false_or, Bool.and_eq_true, List.all_eq_true] at k
  exact ⟨by simpa using k.1, fun i hi => by simpa using k.2 i hi⟩
theorem dia {R : Type} (F : Nat) (l : Array Bool) (a : Act) (w : World) (G A M E0 E1 L0 L1 : Nat) {oG oA oM oE0 oE1 oL0 oL1 : Oper} {dG dA dM e0 e1 d0 d1 : Nat} {xG y1 y2 : Operand} {vx v1 v2 v4 vG : Value} {fG fA : FuncId} (u0 u1 : R → Value) (z0 z1 : Obj)
    (J0 J1 : Option Nat → Option Nat → World → Prop) (J2 : R → Option Nat → Option Nat → World → Prop)
    (iG : ops[G]? = some oG) (iA : ops[A]? = some oA) (iM : ops[M]? = some oM) (iE0 : ops[E0]? = some oE0) (iE1 : ops[E1]? = some oE1) (iL0 : ops[L0]? = some oL0) (iL1 : ops[L1]? = some oL1)
    (gd : (oG.guard, oA.guard, oM.guard, oE0.guard, oE1.guard, oL0.guard, oL1.guard) = (none, none, none, none, none, none, none))
    (ds : (oG.dst, oA.dst, oM.dst, oE0.dst, oE1.dst, oL0.dst, oL1.dst) = (some dG, some dA, some dM, some e0, some e1, some d0, some d1))
    (pM : oM.op = .move (.tmp dA)) (pE0 : oE0.op = .extract (.tmp dM) 0) (pE1 : oE1.op = .extract (.tmp dM) 1)
    (hok : diaOk md ops l st G A M E0 E1 L0 L1 = true)
    (hne : [d0, d1, dG].Nodup ∧ [d0, d1, dA, dM, e0, e1].Nodup)
    (hap : (apartX xG d0 && (apartX xG d1 && (apartX y1 d0 && (apartX y1 d1 && (apartX y1 dG && (apartX y2 d0 && (apartX y2 d1 && apartX y2 dG))))))) = true)
    (hsz : ∃ n, a.tmps.size = n ∧ dG < n ∧ dA < n ∧ dM < n)
    (hx : a.eval xG = vx) (h1 : a.eval y1 = v1) (h2 : a.eval y2 = v2)
    (rG : ∀ (b : Act) W, b.eval xG = vx → (execOp b.eval oG).run P W = .ok (.enter fG #[vx]) W)
    (rA : ∀ (b : Act) W, b.eval y1 = v1 → b.eval y2 = v2 → b.eval (.tmp dG) = vG → (execOp b.eval oA).run P W = .ok (.enter fA #[v1, v2, vG, v4]) W)
    (r0 : ∀ (b : Act) (W : World), (execOp b.eval oL0).run P W = .ok (.value (.pointer (some ⟨W.heap.size, 0, none⟩))) (W.alloc z0))
    (r1 : ∀ (b : Act) (W : World), (execOp b.eval oL1).run P W = .ok (.value (.pointer (some ⟨W.heap.size, 0, none⟩))) (W.alloc z1))
    (hQ : ∀ (d : Nat) c b v W, Q (.panic c) (b.put (some d) v) W → Q (.panic c) b W)
    (s0 : ∀ p q W, J0 p q W → S W) (s1 : ∀ p q W, J1 p q W → S W) (s2 : ∀ r p q W, J2 r p q W → S W)
    (j00 : ∀ q W, J0 none q W → J0 (some W.heap.size) q (W.alloc z0)) (j10 : ∀ q W, J1 none q W → J1 (some W.heap.size) q (W.alloc z0)) (j20 : ∀ r q W, J2 r none q W → J2 r (some W.heap.size) q (W.alloc z0))
    (j01 : ∀ p W, J0 p none W → J0 p (some W.heap.size) (W.alloc z1)) (j11 : ∀ p W, J1 p none W → J1 p (some W.heap.size) (W.alloc z1)) (j21 : ∀ r p W, J2 r p none W → J2 r p (some W.heap.size) (W.alloc z1))
    (cG : ∀ p q W, J0 p q W → Calls P fG #[vx] W fun e W' => e = .returned vG ∧ J1 p q W')
    (cA : ∀ p q W, J1 p q W → Calls P fA #[v1, v2, vG, v4] W fun e W' => ∃ r, e = .returned (.tuple #[u0 r, u1 r]) ∧ J2 r p q W')
    (hJ : J0 none none w)
    (fin : ∀ r b0 b1 W, J2 r (some b0) (some b1) W → wpAnyE P md ops Q S st F (setAll l [G, A, M, E0, E1, L0, L1]) (((((((a.put (some dG) vG).put (some dA) (.tuple #[u0 r, u1 r])).put (some dM) (.tuple #[u0 r, u1 r])).put (some e0) (u0 r)).put (some e1) (u1 r)).put (some d0) (.pointer (some ⟨b0, 0, none⟩))).put (some d1) (.pointer (some ⟨b1, 0, none⟩))) W) :
    wpAnyE P md ops Q S st (F + 7) l a w := by
  unfold diaOk at hok
  simp only [Bool.and_eq_true] at hok
  obtain ⟨k0, k4, k5, k6, k7, k8, k9⟩ := hok
  simp only [Bool.and_eq_true] at hap
  obtain ⟨p0, p1, p2, p3, p4, p5, p6, p7⟩ := hap
  obtain ⟨N, hN, nG, nA, nM⟩ := hsz
  simp only [Prod.mk.injEq] at gd ds
  obtain ⟨gG, gA, gM, gE0, gE1, g0, g1⟩ := gd
  obtain ⟨tG, tA, tM, tE0, tE1, t0, t1⟩ := ds
  simp only [List.nodup_cons, List.mem_cons, List.not_mem_nil, or_false, not_or] at hne
  obtain ⟨⟨⟨n01, n0G⟩, n1G, -⟩, ⟨⟨-, n0A, n0M, n0e0, n0e1⟩, ⟨n1A, n1M, n1e0, n1e1⟩, ⟨nAM, -, -⟩, ⟨nMe0, nMe1⟩, -⟩⟩ := hne
  have C2 : ∀ r p q W, J2 r p q W → wpAnyE P md ops Q S st (F + nb p + nb q) (setAll l ([G, A, M, E0, E1] ++ lsB L0 L1 p.isSome q.isSome))
      (bx (bx (((((a.put (some dG) vG).put (some dA) (.tuple #[u0 r, u1 r])).put (some dM) (.tuple #[u0 r, u1 r])).put (some e0) (u0 r)).put (some e1) (u1 r)) d0 p) d1 q) W := by
    intro r p q W hj
    generalize hB : (((((a.put (some dG) vG).put (some dA) (.tuple #[u0 r, u1 r])).put (some dM) (.tuple #[u0 r, u1 r])).put (some e0) (u0 r)).put (some e1) (u1 r)) = B at *
    have fin' : ∀ b0 b1 W, J2 r (some b0) (some b1) W → wpAnyE P md ops Q S st F (setAll l [G, A, M, E0, E1, L0, L1]) (bx (bx B d0 (some b0)) d1 (some b1)) W := fun b0 b1 W h => by
      have := fin r b0 b1 W h
      rw [hB] at this; exact this
    have ek := eOk_spec k6
    have c01 : ∀ b0 W, J2 r (some b0) none W → wpAnyE P md ops Q S st (F + 1) (setAll l ([G, A, M, E0, E1] ++ lsB L0 L1 true false)) (bx (bx B d0 (some b0)) d1 none) W := fun b0 W hj => by
      obtain ⟨h1, h2⟩ := ek true false rfl
      refine wpAnyE_node h1 (fun i hi => ?_)
      have hi : i = L1 := by simpa using h2 i hi
      subst hi
      refine wpOp_val iL1 g1 (r1 _ _) ?_
      have hj2 := j21 r (some b0) W hj
      refine ⟨fun _ => s2 _ _ _ _ hj2, ?_⟩
      rw [setAll_snoc, t1]
      exact fin' _ _ _ hj2
    have c10 : ∀ b1 W, J2 r none (some b1) W → wpAnyE P md ops Q S st (F + 1) (setAll l ([G, A, M, E0, E1] ++ lsB L0 L1 false true)) (bx (bx B d0 none) d1 (some b1)) W := fun b1 W hj => by
      obtain ⟨h1, h2⟩ := ek false true rfl
      refine wpAnyE_node h1 (fun i hi => ?_)
      have hi : i = L0 := by simpa using h2 i hi
      subst hi
      refine wpOp_val iL0 g0 (r0 _ _) ?_
      have hj2 := j20 r (some b1) W hj
      refine ⟨fun _ => s2 _ _ _ _ hj2, ?_⟩
      rw [setAll_snoc, t0, setAll_ext (b := [G, A, M, E0, E1, i, L1]) (fun j => by simp [lsB]; grind), bx_put _ (Ne.symm n01)]
      exact fin' _ _ _ hj2
    cases p with
    | some b0 =>
      cases q with
      | some b1 => exact fin' _ _ _ hj
      | none => exact c01 _ _ hj
    | none =>
      cases q with
      | some b1 => exact c10 _ _ hj
      | none =>
        obtain ⟨h1, h2⟩ := ek false false rfl
        refine wpAnyE_node (n := F + 1) h1 (fun i hi => ?_)
        have hi : i = L0 ∨ i = L1 := by simpa using h2 i hi
        rcases hi with rfl | rfl
        · refine wpOp_val iL0 g0 (r0 _ _) ?_
          have hj2 := j20 r none W hj
          refine ⟨fun _ => s2 _ _ _ _ hj2, ?_⟩
          show wpAnyE P md ops Q S st (F + 1) ((setAll l ([G, A, M, E0, E1] ++ lsB i L1 false false)).setIfInBounds i true) _ _
          rw [setAll_snoc, t0]
          exact c01 _ _ hj2
        · refine wpOp_val iL1 g1 (r1 _ _) ?_
          have hj2 := j21 r none W hj
          refine ⟨fun _ => s2 _ _ _ _ hj2, ?_⟩
          show wpAnyE P md ops Q S st (F + 1) ((setAll l ([G, A, M, E0, E1] ++ lsB L0 i false false)).setIfInBounds i true) _ _
          rw [setAll_snoc, t1]
          exact c10 _ _ hj2
  have C1 : ∀ p q W, J1 p q W → wpAnyE P md ops Q S st (F + 3 + 1 + nb p + nb q) (setAll l ([G] ++ lsB L0 L1 p.isSome q.isSome)) (bx (bx (a.put (some dG) vG) d0 p) d1 q) W := by
    refine boxes iL0 iL1 g0 g1 t0 t1 n01 r0 r1 s1 j10 j11 (fun _ _ => true) (rOk_spec k5) (fun p q W _ hj => ?_)
    refine wpOp_call iA gA (rA _ _ ?_ ?_ ?_) ?_
    · rw [bx_eval _ p3, bx_eval _ p2, put_eval _ p4]; exact h1
    · rw [bx_eval _ p6, bx_eval _ p5, put_eval _ p7]; exact h2
    · rw [bx_eval _ (by simpa [apartX] using Ne.symm n1G), bx_eval _ (by simpa [apartX] using Ne.symm n0G), put_same _ (by omega)]
    · refine (cA p q W hj).mono ?_
      rintro e W' ⟨r, rfl, hj2⟩
      refine ⟨_, rfl, fun _ => s2 _ _ _ _ hj2, ?_⟩
      rw [tA, show F + 3 + nb p + nb q = F + nb p + nb q + 3 by omega, setAll_snoc, setAll_ext (b := [G, A] ++ lsB L0 L1 p.isSome q.isSome) (fun j => by simp; grind)]
      rw [bx_put _ n1A, bx_put _ n0A]
      have hs2 : S W' := s2 _ _ _ _ hj2
      obtain ⟨m1, m2, m3⟩ := tOk_spec k7 p.isSome q.isSome
      refine wpAnyE_takeU (i := M) (v := .tuple #[u0 r, u1 r]) iM k0 m2 m1 (fun c b W h => hQ _ c b _ W (by rw [tM] at h; exact h)) m3 hs2 (.inl ⟨by simp [Region.wanted, gM], fun W2 _ => ?_⟩) ?_
      · unfold execOp
        rw [pM]
        have : (bx (bx ((a.put (some dG) vG).put (some dA) (.tuple #[u0 r, u1 r])) d0 p) d1 q).eval (.tmp dA) = .tuple #[u0 r, u1 r] := by
          rw [bx_eval _ (by simpa [apartX] using Ne.symm n1A), bx_eval _ (by simpa [apartX] using Ne.symm n0A), put_same _ (by rw [put_size]; omega)]
        dsimp only
        rw [this]; rfl
      rw [tM, bx_put _ n1M, bx_put _ n0M, setAll_snoc, setAll_ext (b := [G, A, M] ++ lsB L0 L1 p.isSome q.isSome) (fun j => by simp; grind)]
      obtain ⟨m1, m2, m3⟩ := tOk_spec k8 p.isSome q.isSome
      refine wpAnyE_takeU (i := E0) (v := u0 r) iE0 k0 m2 m1 (fun c b W h => hQ _ c b _ W (by rw [tE0] at h; exact h)) m3 hs2 (.inl ⟨by simp [Region.wanted, gE0], fun W2 _ => ?_⟩) ?_
      · unfold execOp
        rw [pE0]
        have : (bx (bx (((a.put (some dG) vG).put (some dA) (.tuple #[u0 r, u1 r])).put (some dM) (.tuple #[u0 r, u1 r])) d0 p) d1 q).eval (.tmp dM) = .tuple #[u0 r, u1 r] := by
          rw [bx_eval _ (by simpa [apartX] using Ne.symm n1M), bx_eval _ (by simpa [apartX] using Ne.symm n0M), put_same _ (by rw [put_size, put_size]; omega)]
        dsimp only
        rw [this]; rfl
      rw [tE0, bx_put _ n1e0, bx_put _ n0e0, setAll_snoc, setAll_ext (b := [G, A, M, E0] ++ lsB L0 L1 p.isSome q.isSome) (fun j => by simp; grind)]
      obtain ⟨m1, m2, m3⟩ := tOk_spec k9 p.isSome q.isSome
      refine wpAnyE_takeU (i := E1) (v := u1 r) iE1 k0 m2 m1 (fun c b W h => hQ _ c b _ W (by rw [tE1] at h; exact h)) m3 hs2 (.inl ⟨by simp [Region.wanted, gE1], fun W2 _ => ?_⟩) ?_
      · unfold execOp
        rw [pE1]
        have : (bx (bx ((((a.put (some dG) vG).put (some dA) (.tuple #[u0 r, u1 r])).put (some dM) (.tuple #[u0 r, u1 r])).put (some e0) (u0 r)) d0 p) d1 q).eval (.tmp dM) = .tuple #[u0 r, u1 r] := by
          rw [bx_eval _ (by simpa [apartX] using Ne.symm n1M), bx_eval _ (by simpa [apartX] using Ne.symm n0M), put_eval _ (by simpa [apartX] using nMe0), put_same _ (by rw [put_size, put_size]; omega)]
        dsimp only
        rw [this]; rfl
      rw [tE1, bx_put _ n1e1, bx_put _ n0e1, setAll_snoc, setAll_ext (b := [G, A, M, E0, E1] ++ lsB L0 L1 p.isSome q.isSome) (fun j => by simp; grind)]
      exact C2 r p q W' hj2
  have C0 : ∀ p q W, J0 p q W → wpAnyE P md ops Q S st (F + 3 + 1 + 1 + nb p + nb q) (setAll l ([] ++ lsB L0 L1 p.isSome q.isSome)) (bx (bx a d0 p) d1 q) W := by
    refine boxes iL0 iL1 g0 g1 t0 t1 n01 r0 r1 s0 j00 j01 (fun _ _ => true) (rOk_spec k4) (fun p q W _ hj => ?_)
    refine wpOp_call iG gG (rG _ _ ?_) ?_
    · rw [bx_eval _ p1, bx_eval _ p0]; exact hx
    · refine (cG p q W hj).mono ?_
      rintro e W' ⟨rfl, hj2⟩
      refine ⟨_, rfl, fun _ => s1 _ _ _ hj2, ?_⟩
      rw [tG, setAll_snoc, setAll_ext (b := [G] ++ lsB L0 L1 p.isSome q.isSome) (fun j => by simp; grind), bx_put _ n1G, bx_put _ n0G]
      exact C1 p q W' hj2
  exact C0 none none w hJ

/-! The same with one box -/
def lsA (L1 : Nat) (q : Bool) : List Nat := if q then [L1] else []
def rOk1 (md : Region.Mode) (ops : Array Oper) (l : Array Bool) (X L1 : Nat) (ls : List Nat) : Bool :=
  bls.all fun q => !(Region.ready md ops (setAll l (ls ++ lsA L1 q))).isEmpty && (Region.ready md ops (setAll l (ls ++ lsA L1 q))).all fun i => i == X || (!q && i == L1)
def tOk1 (md : Region.Mode) (ops : Array Oper) (l : Array Bool) (st X L1 : Nat) (ls : List Nat) : Bool :=
  bls.all fun q => (Region.ready md ops (setAll l (ls ++ lsA L1 q))).contains X && (Region.free md ops (setAll l (ls ++ lsA L1 q)) X && X != st)
def eOk1 (md : Region.Mode) (ops : Array Oper) (l : Array Bool) (L1 : Nat) (ls : List Nat) : Bool :=
  !(Region.ready md ops (setAll l ls)).isEmpty && (Region.ready md ops (setAll l ls)).all fun i => i == L1
def diaOk1 (md : Region.Mode) (ops : Array Oper) (l : Array Bool) (st G A M E0 E1 L1 : Nat) : Bool :=
  Region.noSelect ops && (
  (rOk1 md ops l G L1 [] && (rOk1 md ops l A L1 [G] && (eOk1 md ops l L1 [G, A, M, E0, E1] &&
  (tOk1 md ops l st M L1 [G, A] && (tOk1 md ops l st E0 L1 [G, A, M] && tOk1 md ops l st E1 L1 [G, A, M, E0]))))))
theorem boxes1 {n : Nat} {l : Array Bool} {B : Act} {X L1 : Nat} {ls : List Nat} {oL1 : Oper} {d1 : Nat} {z1 : Obj} {J : Option Nat → World → Prop}
    (iL1 : ops[L1]? = some oL1) (g1 : oL1.guard = none) (t1 : oL1.dst = some d1)
    (r1 : ∀ (b : Act) (W : World), (execOp b.eval oL1).run P W = .ok (.value (.pointer (some ⟨W.heap.size, 0, none⟩))) (W.alloc z1))
    (s : ∀ q W, J q W → S W) (j1 : ∀ W, J none W → J (some W.heap.size) (W.alloc z1))
    (hr : ∀ q, (Region.ready md ops (setAll l (ls ++ lsA L1 q))).isEmpty = false ∧ ∀ i ∈ Region.ready md ops (setAll l (ls ++ lsA L1 q)), i = X ∨ (q = false ∧ i = L1))
    (hX : ∀ q W, J q W → wpOp P ops Q X (fun a' w' => (((setAll l (ls ++ lsA L1 q.isSome)).setIfInBounds X true).getD st true = false → S w') ∧ wpAnyE P md ops Q S st (n + nb q) ((setAll l (ls ++ lsA L1 q.isSome)).setIfInBounds X true) a' w') (bx B d1 q) W) :
    ∀ q W, J q W → wpAnyE P md ops Q S st (n + 1 + nb q) (setAll l (ls ++ lsA L1 q.isSome)) (bx B d1 q) W := by
  have css : ∀ b1 W, J (some b1) W → wpAnyE P md ops Q S st (n + 1) (setAll l (ls ++ lsA L1 true)) (bx B d1 (some b1)) W := fun b1 W hj => by
    have k := hr true
    refine wpAnyE_node k.1 (fun i hi => ?_)
    rcases k.2 i hi with rfl | ⟨h, _⟩
    · exact hX (some b1) W hj
    · cases h
  intro q W hj
  cases q with
  | some b1 => exact css _ _ hj
  | none =>
    have k := hr false
    refine wpAnyE_node (n := n + 1) k.1 (fun i hi => ?_)
    rcases k.2 i hi with rfl | ⟨_, rfl⟩
    · exact hX none W hj
    · refine wpOp_val iL1 g1 (r1 _ _) ?_
      have hj2 := j1 W hj
      refine ⟨fun _ => s _ _ hj2, ?_⟩
      show wpAnyE P md ops Q S st (n + 1) ((setAll l (ls ++ lsA i false)).setIfInBounds i true) _ _
      rw [setAll_snoc, t1, setAll_ext (b := ls ++ lsA i true) (fun j => by simp [lsA])]
      exact css _ _ hj2
theorem all1 {f : Bool → Bool} (h : (bls.all fun p => f p) = true) (p : Bool) : f p = true := List.all_eq_true.1 h p (bls_mem p)
theorem rOk1_spec {l : Array Bool} {X L1 : Nat} {ls : List Nat} (h : rOk1 md ops l X L1 ls = true) (q : Bool) : (Region.ready md ops (setAll l (ls ++ lsA L1 q))).isEmpty = false ∧ ∀ i ∈ Region.ready md ops (setAll l (ls ++ lsA L1 q)), i = X ∨ (q = false ∧ i = L1) := by
  have k := all1 (by unfold rOk1 at h; exact h) q
  rw [Bool.and_eq_true, List.all_eq_true] at k
  exact ⟨by simpa using k.1, fun i hi => by simpa using k.2 i hi⟩
theorem tOk1_spec {l : Array Bool} {X L1 : Nat} {ls : List Nat} (h : tOk1 md ops l st X L1 ls = true) (q : Bool) : (Region.ready md ops (setAll l (ls ++ lsA L1 q))).contains X = true ∧ Region.free md ops (setAll l (ls ++ lsA L1 q)) X = true ∧ X ≠ st := by
  have k := all1 (by unfold tOk1 at h; exact h) q
  rw [Bool.and_eq_true, Bool.and_eq_true] at k
  exact ⟨k.1, k.2.1, by simpa using k.2.2⟩
theorem eOk1_spec {l : Array Bool} {L1 : Nat} {ls : List Nat} (h : eOk1 md ops l L1 ls = true) : (Region.ready md ops (setAll l ls)).isEmpty = false ∧ ∀ i ∈ Region.ready md ops (setAll l ls), i = L1 := by
  unfold eOk1 at h
  rw [Bool.and_eq_true, List.all_eq_true] at h
  exact ⟨by simpa using h.1, fun i hi => by simpa using h.2 i hi⟩
theorem dia1 {R : Type} (F : Nat) (l : Array Bool) (a : Act) (w : World) (G A M E0 E1 L1 : Nat) {oG oA oM oE0 oE1 oL1 : Oper} {dG dA dM e0 e1 d1 : Nat} {xG y1 y2 : Operand} {vx v1 v2 v4 vG : Value} {fG fA : FuncId} (u0 u1 : R → Value) (z1 : Obj)
    (J0 J1 : Option Nat → World → Prop) (J2 : R → Option Nat → World → Prop)
    (iG : ops[G]? = some oG) (iA : ops[A]? = some oA) (iM : ops[M]? = some oM) (iE0 : ops[E0]? = some oE0) (iE1 : ops[E1]? = some oE1) (iL1 : ops[L1]? = some oL1)
    (gd : (oG.guard, oA.guard, oM.guard, oE0.guard, oE1.guard, oL1.guard) = (none, none, none, none, none, none))
    (ds : (oG.dst, oA.dst, oM.dst, oE0.dst, oE1.dst, oL1.dst) = (some dG, some dA, some dM, some e0, some e1, some d1))
    (pM : oM.op = .move (.tmp dA)) (pE0 : oE0.op = .extract (.tmp dM) 0) (pE1 : oE1.op = .extract (.tmp dM) 1)
    (hok : diaOk1 md ops l st G A M E0 E1 L1 = true)
    (hne : [d1, dG].Nodup ∧ [d1, dA, dM, e0, e1].Nodup)
    (hap : (apartX xG d1 && (apartX y1 d1 && (apartX y1 dG && (apartX y2 d1 && apartX y2 dG)))) = true)
    (hsz : ∃ n, a.tmps.size = n ∧ dG < n ∧ dA < n ∧ dM < n)
    (hx : a.eval xG = vx) (h1 : a.eval y1 = v1) (h2 : a.eval y2 = v2)
    (rG : ∀ (b : Act) W, b.eval xG = vx → (execOp b.eval oG).run P W = .ok (.enter fG #[vx]) W)
    (rA : ∀ (b : Act) W, b.eval y1 = v1 → b.eval y2 = v2 → b.eval (.tmp dG) = vG → (execOp b.eval oA).run P W = .ok (.enter fA #[v1, v2, vG, v4]) W)
    (r1 : ∀ (b : Act) (W : World), (execOp b.eval oL1).run P W = .ok (.value (.pointer (some ⟨W.heap.size, 0, none⟩))) (W.alloc z1))
    (hQ : ∀ (d : Nat) c b v W, Q (.panic c) (b.put (some d) v) W → Q (.panic c) b W)
    (s0 : ∀ q W, J0 q W → S W) (s1 : ∀ q W, J1 q W → S W) (s2 : ∀ r q W, J2 r q W → S W)
    (j01 : ∀ W, J0 none W → J0 (some W.heap.size) (W.alloc z1)) (j11 : ∀ W, J1 none W → J1 (some W.heap.size) (W.alloc z1)) (j21 : ∀ r W, J2 r none W → J2 r (some W.heap.size) (W.alloc z1))
    (cG : ∀ q W, J0 q W → Calls P fG #[vx] W fun e W' => e = .returned vG ∧ J1 q W')
    (cA : ∀ q W, J1 q W → Calls P fA #[v1, v2, vG, v4] W fun e W' => ∃ r, e = .returned (.tuple #[u0 r, u1 r]) ∧ J2 r q W')
    (hJ : J0 none w)
    (fin : ∀ r b1 W, J2 r (some b1) W → wpAnyE P md ops Q S st F (setAll l [G, A, M, E0, E1, L1]) ((((((a.put (some dG) vG).put (some dA) (.tuple #[u0 r, u1 r])).put (some dM) (.tuple #[u0 r, u1 r])).put (some e0) (u0 r)).put (some e1) (u1 r)).put (some d1) (.pointer (some ⟨b1, 0, none⟩))) W) :
    wpAnyE P md ops Q S st (F + 6) l a w := by
  unfold diaOk1 at hok
  simp only [Bool.and_eq_true] at hok
  obtain ⟨k0, k4, k5, k6, k7, k8, k9⟩ := hok
  simp only [Bool.and_eq_true] at hap
  obtain ⟨p1, p3, p4, p6, p7⟩ := hap
  obtain ⟨N, hN, nG, nA, nM⟩ := hsz
  simp only [Prod.mk.injEq] at gd ds
  obtain ⟨gG, gA, gM, gE0, gE1, g1⟩ := gd
  obtain ⟨tG, tA, tM, tE0, tE1, t1⟩ := ds
  simp only [List.nodup_cons, List.mem_cons, List.not_mem_nil, or_false, not_or] at hne
  obtain ⟨⟨n1G, -⟩, ⟨⟨n1A, n1M, n1e0, n1e1⟩, ⟨nAM, -, -⟩, ⟨nMe0, nMe1⟩, -⟩⟩ := hne
  have C2 : ∀ r q W, J2 r q W → wpAnyE P md ops Q S st (F + nb q) (setAll l ([G, A, M, E0, E1] ++ lsA L1 q.isSome))
      (bx (((((a.put (some dG) vG).put (some dA) (.tuple #[u0 r, u1 r])).put (some dM) (.tuple #[u0 r, u1 r])).put (some e0) (u0 r)).put (some e1) (u1 r)) d1 q) W := by
    intro r q W hj
    cases q with
    | some b1 => exact fin _ _ _ hj
    | none =>
      obtain ⟨h1, h2⟩ := eOk1_spec k6
      refine wpAnyE_node (n := F) h1 (fun i hi => ?_)
      obtain rfl := h2 i hi
      refine wpOp_val iL1 g1 (r1 _ _) ?_
      have hj2 := j21 r W hj
      refine ⟨fun _ => s2 _ _ _ hj2, ?_⟩
      show wpAnyE P md ops Q S st F ((setAll l [G, A, M, E0, E1]).setIfInBounds i true) _ _
      rw [setAll_snoc, t1]
      exact fin _ _ _ hj2
  have C1 : ∀ q W, J1 q W → wpAnyE P md ops Q S st (F + 3 + 1 + nb q) (setAll l ([G] ++ lsA L1 q.isSome)) (bx (a.put (some dG) vG) d1 q) W := by
    refine boxes1 iL1 g1 t1 r1 s1 j11 (rOk1_spec k5) (fun q W hj => ?_)
    refine wpOp_call iA gA (rA _ _ ?_ ?_ ?_) ?_
    · rw [bx_eval _ p3, put_eval _ p4]; exact h1
    · rw [bx_eval _ p6, put_eval _ p7]; exact h2
    · rw [bx_eval _ (by simpa [apartX] using Ne.symm n1G), put_same _ (by omega)]
    · refine (cA q W hj).mono ?_
      rintro e W' ⟨r, rfl, hj2⟩
      refine ⟨_, rfl, fun _ => s2 _ _ _ hj2, ?_⟩
      rw [tA, show F + 3 + nb q = F + nb q + 3 by omega, setAll_snoc, setAll_ext (b := [G, A] ++ lsA L1 q.isSome) (fun j => by simp; grind)]
      rw [bx_put _ n1A]
      have hs2 : S W' := s2 _ _ _ hj2
      obtain ⟨m1, m2, m3⟩ := tOk1_spec k7 q.isSome
      refine wpAnyE_takeU (i := M) (v := .tuple #[u0 r, u1 r]) iM k0 m2 m1 (fun c b W h => hQ _ c b _ W (by rw [tM] at h; exact h)) m3 hs2 (.inl ⟨by simp [Region.wanted, gM], fun W2 _ => ?_⟩) ?_
      · unfold execOp
        rw [pM]
        have : (bx ((a.put (some dG) vG).put (some dA) (.tuple #[u0 r, u1 r])) d1 q).eval (.tmp dA) = .tuple #[u0 r, u1 r] := by
          rw [bx_eval _ (by simpa [apartX] using Ne.symm n1A), put_same _ (by rw [put_size]; omega)]
        dsimp only
        rw [this]; rfl
      rw [tM, bx_put _ n1M, setAll_snoc, setAll_ext (b := [G, A, M] ++ lsA L1 q.isSome) (fun j => by simp; grind)]
      obtain ⟨m1, m2, m3⟩ := tOk1_spec k8 q.isSome
      refine wpAnyE_takeU (i := E0) (v := u0 r) iE0 k0 m2 m1 (fun c b W h => hQ _ c b _ W (by rw [tE0] at h; exact h)) m3 hs2 (.inl ⟨by simp [Region.wanted, gE0], fun W2 _ => ?_⟩) ?_
      · unfold execOp
        rw [pE0]
        have : (bx (((a.put (some dG) vG).put (some dA) (.tuple #[u0 r, u1 r])).put (some dM) (.tuple #[u0 r, u1 r])) d1 q).eval (.tmp dM) = .tuple #[u0 r, u1 r] := by
          rw [bx_eval _ (by simpa [apartX] using Ne.symm n1M), put_same _ (by rw [put_size, put_size]; omega)]
        dsimp only
        rw [this]; rfl
      rw [tE0, bx_put _ n1e0, setAll_snoc, setAll_ext (b := [G, A, M, E0] ++ lsA L1 q.isSome) (fun j => by simp; grind)]
      obtain ⟨m1, m2, m3⟩ := tOk1_spec k9 q.isSome
      refine wpAnyE_takeU (i := E1) (v := u1 r) iE1 k0 m2 m1 (fun c b W h => hQ _ c b _ W (by rw [tE1] at h; exact h)) m3 hs2 (.inl ⟨by simp [Region.wanted, gE1], fun W2 _ => ?_⟩) ?_
      · unfold execOp
        rw [pE1]
        have : (bx ((((a.put (some dG) vG).put (some dA) (.tuple #[u0 r, u1 r])).put (some dM) (.tuple #[u0 r, u1 r])).put (some e0) (u0 r)) d1 q).eval (.tmp dM) = .tuple #[u0 r, u1 r] := by
          rw [bx_eval _ (by simpa [apartX] using Ne.symm n1M), put_eval _ (by simpa [apartX] using nMe0), put_same _ (by rw [put_size, put_size]; omega)]
        dsimp only
        rw [this]; rfl
      rw [tE1, bx_put _ n1e1, setAll_snoc, setAll_ext (b := [G, A, M, E0, E1] ++ lsA L1 q.isSome) (fun j => by simp; grind)]
      exact C2 r q W' hj2
  have C0 : ∀ q W, J0 q W → wpAnyE P md ops Q S st (F + 3 + 1 + 1 + nb q) (setAll l ([] ++ lsA L1 q.isSome)) (bx a d1 q) W := by
    refine boxes1 iL1 g1 t1 r1 s0 j01 (rOk1_spec k4) (fun q W hj => ?_)
    refine wpOp_call iG gG (rG _ _ ?_) ?_
    · rw [bx_eval _ p1]; exact hx
    · refine (cG q W hj).mono ?_
      rintro e W' ⟨rfl, hj2⟩
      refine ⟨_, rfl, fun _ => s1 _ _ hj2, ?_⟩
      rw [tG, setAll_snoc, setAll_ext (b := [G] ++ lsA L1 q.isSome) (fun j => by simp; grind), bx_put _ n1G]
      exact C1 q W' hj2
  exact C0 none w hJ
end
end Go.Proofs.YtpgljahomeebhaaDoor.Md

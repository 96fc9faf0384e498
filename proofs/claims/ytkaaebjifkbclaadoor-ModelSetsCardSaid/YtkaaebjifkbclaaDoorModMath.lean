/-
  Plain mathematics of a store's model: states, commands, answers; what a command makes of a state. No program in it. No conditions.
-/
import Derived.Test.YtkaaebjifkbclaaDoorItemMath
import Derived.Test.YtkaaebjifkbclaaDoorNumsMath
import Derived.Sort.Walk0
namespace Go.Proofs.YtkaaebjifkbclaaDoor.Md
open Go

/-! Keys in their order -/
def klt (a b : ByteArray) : Bool := Op.bytesLess a.toList b.toList
theorem klt_lt (a b : ByteArray) : klt a b = true ↔ a.data.toList < b.data.toList := by
  unfold klt
  rw [Go.Proofs.bytesLess_eq, decide_eq_true_iff, Lib.toList_data, Lib.toList_data]
theorem klt_irrefl (a : ByteArray) : klt a a = false := by
  rw [Bool.eq_false_iff]; intro h
  exact List.lt_irrefl _ ((klt_lt a a).1 h)
theorem klt_trans {a b c : ByteArray} (h : klt a b = true) (k : klt b c = true) : klt a c = true := (klt_lt a c).2 (List.lt_trans ((klt_lt a b).1 h) ((klt_lt b c).1 k))
theorem klt_asymm {a b : ByteArray} (h : klt a b = true) : klt b a = false := by
  rw [Bool.eq_false_iff]; intro k
  have := klt_trans h k
  rw [klt_irrefl] at this; cases this
theorem key_eq {a b : ByteArray} (h : a.data.toList = b.data.toList) : a = b := by
  cases a; cases b; congr; exact Array.toList_inj.1 h
theorem klt_total {a b : ByteArray} (h : klt a b = false) (k : klt b a = false) : a = b := by
  have h1 : ¬ a.data.toList < b.data.toList := fun e => by rw [(klt_lt a b).2 e] at h; cases h
  have h2 : ¬ b.data.toList < a.data.toList := fun e => by rw [(klt_lt b a).2 e] at k; cases k
  exact key_eq (List.le_antisymm (List.not_lt.1 h2) (List.not_lt.1 h1))
theorem klt_ne {a b : ByteArray} (h : klt a b = true) : a ≠ b := fun e => by rw [e, klt_irrefl] at h; cases h

/-! Items by their keys -/
def find (l : List It) (k : ByteArray) : Option It := l.find? (fun x => decide (x.key = k))
def put (l : List It) (x : It) : List It := l.filter (fun y => klt y.key x.key) ++ x :: l.filter (fun y => klt x.key y.key)
def drp (l : List It) (k : ByteArray) : List It := l.filter (fun y => decide (y.key ≠ k))
def Sorted (l : List It) : Prop := l.Pairwise (fun a b => klt a.key b.key = true)
theorem find_nil (k : ByteArray) : find [] k = none := rfl
theorem find_cons (x : It) (l : List It) (k : ByteArray) : find (x :: l) k = if x.key = k then some x else find l k := by
  unfold find
  rw [List.find?_cons]
  by_cases h : x.key = k
  · rw [if_pos h, decide_eq_true h]
  · rw [if_neg h, decide_eq_false h]
theorem find_some {l : List It} {k : ByteArray} {x : It} (h : find l k = some x) : x ∈ l ∧ x.key = k := by
  unfold find at h
  exact ⟨List.mem_of_find?_eq_some h, of_decide_eq_true (p := x.key = k) (List.find?_some (p := fun x : It => decide (x.key = k)) h)⟩
theorem find_none {l : List It} {k : ByteArray} : find l k = none ↔ ∀ x ∈ l, x.key ≠ k := by
  unfold find
  rw [List.find?_eq_none]
  simp
theorem find_app (a b : List It) (k : ByteArray) : find (a ++ b) k = (find a k).or (find b k) := by unfold find; exact List.find?_append
theorem find_filter {l : List It} {p : It → Bool} {k : ByteArray} (h : ∀ x ∈ l, x.key = k → p x = true) : find (l.filter p) k = find l k := by
  induction l with
  | nil => rfl
  | cons x l ih =>
    have ih := ih (fun y hy => h y (List.mem_cons_of_mem _ hy))
    by_cases e : x.key = k
    · rw [List.filter_cons, if_pos (h x List.mem_cons_self e), find_cons, find_cons, if_pos e, if_pos e]
    · rw [find_cons, if_neg e, ← ih, List.filter_cons]
      split
      · rw [find_cons, if_neg e]
      · rfl
theorem find_filter_no {l : List It} {p : It → Bool} {k : ByteArray} (h : ∀ x ∈ l, x.key = k → p x = false) : find (l.filter p) k = none := by
  rw [find_none]
  intro x hx e
  have := List.mem_filter.1 hx
  rw [h x this.1 e] at this
  exact absurd this.2 (by decide)
theorem find_put (l : List It) (x : It) (k : ByteArray) : find (put l x) k = if k = x.key then some x else find l k := by
  unfold put
  rw [find_app, find_cons]
  by_cases e : k = x.key
  · subst e
    rw [if_pos rfl, if_pos rfl, find_filter_no (fun y _ hy => by rw [hy]; exact klt_irrefl _)]; rfl
  · rw [if_neg (fun h => e h.symm), if_neg e]
    cases h1 : klt k x.key
    · cases h2 : klt x.key k
      · exact absurd (klt_total h1 h2) e
      · rw [find_filter_no (fun y _ hy => by rw [hy]; exact h1), find_filter (fun y _ hy => by rw [hy]; exact h2)]; rfl
    · rw [find_filter (fun y _ hy => by rw [hy]; exact h1), find_filter_no (p := fun y => klt x.key y.key) (fun y _ hy => by rw [hy]; exact klt_asymm h1)]
      cases find l k <;> rfl
theorem find_drp (l : List It) (k0 k : ByteArray) : find (drp l k0) k = if k = k0 then none else find l k := by
  unfold drp
  by_cases e : k = k0
  · rw [if_pos e, find_filter_no (fun y _ hy => by rw [hy, e]; simp)]
  · rw [if_neg e, find_filter (fun y _ hy => by rw [hy]; simpa using e)]
theorem Sorted.filter {l : List It} (h : Sorted l) (p : It → Bool) : Sorted (l.filter p) := List.Pairwise.filter _ h
theorem find_mem {l : List It} (h : Sorted l) {x : It} (hx : x ∈ l) : find l x.key = some x := by
  induction l with
  | nil => cases hx
  | cons y l ih =>
    have h' := List.pairwise_cons.1 h
    rw [find_cons]
    rcases List.mem_cons.1 hx with e | hx
    · rw [if_pos (by rw [e]), e]
    · rw [if_neg (klt_ne (h'.1 x hx)), ih h'.2 hx]
theorem find_filt {l : List It} (h : Sorted l) (p : It → Bool) (k : ByteArray) : find (l.filter p) k = (find l k).filter p := by
  cases e : find l k with
  | none => exact find_filter_no (fun x hx hk => absurd hk (find_none.1 e x hx))
  | some x =>
    obtain ⟨hx, hk⟩ := find_some e
    cases hp : p x
    · rw [show (some x).filter p = none by simp [Option.filter, hp]]
      refine find_filter_no (fun y hy hy2 => ?_)
      have h1 := find_mem h hy
      rw [hy2, e] at h1
      rw [← Option.some.inj h1]; exact hp
    · rw [show (some x).filter p = some x by simp [Option.filter, hp], ← e]
      refine find_filter (fun y hy hy2 => ?_)
      have h1 := find_mem h hy
      rw [hy2, e] at h1
      rw [← Option.some.inj h1]; exact hp
theorem Sorted.put {l : List It} (h : Sorted l) (x : It) : Sorted (put l x) := by
  unfold Md.put Sorted
  rw [List.pairwise_append]
  refine ⟨h.filter _, List.pairwise_cons.2 ⟨fun y hy => (List.mem_filter.1 hy).2, h.filter _⟩, fun a ha b hb => ?_⟩
  have ha := (List.mem_filter.1 ha).2
  rcases List.mem_cons.1 hb with e | hb
  · rw [e]; exact ha
  · exact klt_trans ha (List.mem_filter.1 hb).2
theorem Sorted.drp {l : List It} (h : Sorted l) (k : ByteArray) : Sorted (drp l k) := h.filter _
theorem mem_put {l : List It} {x y : It} (h : y ∈ put l x) : y = x ∨ y ∈ l := by
  unfold put at h
  rcases List.mem_append.1 h with h | h
  · exact .inr (List.mem_filter.1 h).1
  · rcases List.mem_cons.1 h with h | h
    · exact .inl h
    · exact .inr (List.mem_filter.1 h).1
theorem mem_drp {l : List It} {k : ByteArray} {y : It} (h : y ∈ drp l k) : y ∈ l := (List.mem_filter.1 h).1
theorem put_len (l : List It) (x : It) : (put l x).length ≤ l.length + 1 := by
  unfold put
  rw [List.length_append, List.length_cons]
  have : ∀ l : List It, (l.filter (fun y => klt y.key x.key)).length + (l.filter (fun y => klt x.key y.key)).length ≤ l.length := fun l => by
    induction l with
    | nil => simp
    | cons y l ih =>
      rw [List.filter_cons, List.filter_cons, List.length_cons]
      cases h1 : klt y.key x.key
      · split
        · contradiction
        · split
          · rw [List.length_cons]; omega
          · omega
      · rw [klt_asymm h1, if_pos rfl, if_neg (by decide), List.length_cons]; omega
  have := this l
  omega

/-! States, commands, answers -/
structure Ms where
  its : List It
  cas : Nat
  fl : Int
structure Cm where
  op : Int
  mode : Int
  key : ByteArray
  val : ByteArray
  flags : Nat
  exp : Int
  hasExp : Bool
  cas : Nat
  hasCas : Bool
  delta : Nat
  init : Nat
  down : Bool
  viv : Bool
  vive : Int
  rcc : Int
  inv : Bool
structure An where
  st : Int
  it : It
  n : Nat
  w : Bool
  x : Bool
  z : Bool
def emp : ByteArray := ⟨#[]⟩
def noIt : It := ⟨emp, 0, emp, 0, 0, 0, false, false⟩
def An.of (st : Int) : An := ⟨st, noIt, 0, false, false, false⟩
def An.is (st : Int) (x : It) : An := ⟨st, x, 0, false, false, false⟩
def noMs : Ms := ⟨[], 0, 0⟩
def farM (e : Int) : Bool := decide (-1099511627776 ≤ e) && decide (e ≤ 1099511627776)
def may (c : Cm) : Bool := decide (1 ≤ c.op) && (decide (c.op ≤ 7) && ((keyB c.key.data.toList || decide (c.op = 6)) && (decide (0 ≤ c.mode) && (decide (c.mode ≤ 4) && (decide (c.val.size ≤ 65536) && (farM c.exp && (farM c.vive && farM c.rcc)))))))
def moment (now e : Int) : Int := if e = 0 then 0 else if e < 0 then now else if e ≤ 2592000 then now + e else e
def gone (now : Int) (x : It) : Bool := decide (x.exp ≠ 0) && decide (x.exp ≤ now)
def live (s : Ms) (now : Int) : Ms := if s.fl ≠ 0 ∧ s.fl ≤ now then ⟨[], s.cas, 0⟩ else ⟨s.its.filter (fun x => !gone now x), s.cas, s.fl⟩
def bump (cas : Nat) : Nat := (cas + 1) % 18446744073709551616
/-- What a command does to the item of its key. -/
inductive Eff where
  | keep
  | put (y : It)
  | drp
def Eff.on (e : Eff) (l : List It) (k : ByteArray) : List It :=
  match e with
  | .keep => l
  | .put y => Md.put l y
  | .drp => Md.drp l k
def Eff.at (e : Eff) (o : Option It) : Option It :=
  match e with
  | .keep => o
  | .put y => some y
  | .drp => none
def Eff.For (e : Eff) (k : ByteArray) : Prop := ∀ y, e = .put y → y.key = k
theorem on_find {e : Eff} {k : ByteArray} (h : e.For k) (l : List It) (k' : ByteArray) : find (e.on l k) k' = if k' = k then e.at (find l k) else find l k' := by
  cases e with
  | keep => show find l k' = _; split <;> simp_all [Eff.at]
  | put y => show find (put l y) k' = _; rw [find_put, h y rfl]; rfl
  | drp => show find (drp l k) k' = _; rw [find_drp]; rfl
structure Out where
  e : Eff
  cas : Nat
  a : An
def Out.no (cas : Nat) (st : Int) : Out := ⟨.keep, cas, An.of st⟩
def getO (now : Int) (c : Cm) (cas : Nat) : Option It → Out
  | none => if c.viv then ⟨.put ⟨c.key, 0, emp, moment now c.vive, bump cas, 0, false, true⟩, bump cas, ⟨1, ⟨c.key, 0, emp, moment now c.vive, bump cas, 0, false, true⟩, 0, true, false, false⟩⟩ else Out.no cas 5
  | some x =>
    let wn := !x.won && (x.stale || (decide (0 ≤ c.rcc) && (decide (x.exp ≠ 0) && decide (x.exp - now < c.rcc))))
    let y : It := { x with won := x.won || wn, exp := if c.hasExp then moment now c.exp else x.exp, last := now }
    ⟨.put y, cas, ⟨1, y, 0, wn, x.stale, x.won⟩⟩
/-- What is stored, but for its token. -/
def stoY (now : Int) (c : Cm) (o : Option It) (stale : Bool) : It :=
  match o with
  | some x => if 3 ≤ c.mode then { x with val := if c.mode = 3 then x.val ++ c.val else c.val ++ x.val, stale := stale, won := false } else ⟨c.key, c.flags, c.val, moment now c.exp, 0, 0, stale, false⟩
  | none => ⟨c.key, c.flags, c.val, moment now c.exp, 0, 0, stale, false⟩
def stoE (most : Int) (cas : Nat) (y : It) : Out :=
  if most < ((y.key.size + y.val.size : Nat) : Int) then Out.no cas 11 else ⟨.put { y with cas := bump cas }, bump cas, An.is 2 { y with cas := bump cas }⟩
def stoO (now : Int) (c : Cm) (most : Int) (cas : Nat) (o : Option It) : Out :=
  if (c.mode = 1 ∧ o.isSome = true) ∨ (2 ≤ c.mode ∧ o.isSome = false) then Out.no cas 3
  else if c.hasCas = true then
    match o with
    | none => Out.no cas 5
    | some x => if x.cas ≠ c.cas ∧ ¬ (c.inv = true ∧ c.cas < x.cas) then Out.no cas 4 else stoE most cas (stoY now c o (decide (x.cas ≠ c.cas)))
  else stoE most cas (stoY now c o false)
def matE (most : Int) (cas : Nat) (y : It) (v : ByteArray) : Out :=
  if most < ((y.key.size + v.size : Nat) : Int) then Out.no cas 11
  else ⟨.put { y with cas := bump cas, val := v }, bump cas, ⟨6, { y with cas := bump cas, val := v }, (Nu.parseU v.data.toList).getD 0, false, false, false⟩⟩
def addU (l : List UInt8) (d : Nat) : Option (List UInt8) := (Nu.parseU l).map fun n => Lib.decDigits ((n + d) % 18446744073709551616)
def subU (l : List UInt8) (d : Nat) : Option (List UInt8) := (Nu.parseU l).map fun n => Lib.decDigits (n - d)
def matO (now : Int) (c : Cm) (most : Int) (cas : Nat) : Option It → Out
  | none => if c.viv then matE most cas ⟨c.key, 0, emp, moment now c.vive, 0, 0, false, false⟩ (S (Lib.decDigits c.init)) else Out.no cas 5
  | some x =>
    if c.hasCas = true ∧ x.cas ≠ c.cas then Out.no cas 4
    else
      match (if c.down then subU x.val.data.toList c.delta else addU x.val.data.toList c.delta) with
      | none => Out.no cas 7
      | some v => matE most cas (if c.hasExp then { x with exp := moment now c.exp } else x) (S v)
def touO (now : Int) (c : Cm) (cas : Nat) : Option It → Out
  | none => Out.no cas 5
  | some x => ⟨.put { x with exp := moment now c.exp }, cas, An.is 8 { x with exp := moment now c.exp }⟩
def delY (now : Int) (c : Cm) (cas : Nat) (x : It) : It := { x with cas := bump cas, stale := true, won := false, exp := if c.hasExp then moment now c.exp else x.exp }
def delO (now : Int) (c : Cm) (cas : Nat) : Option It → Out
  | none => Out.no cas 5
  | some x =>
    if c.hasCas = true ∧ x.cas ≠ c.cas then Out.no cas 4
    else if c.inv = false then ⟨.drp, cas, An.of 9⟩
    else ⟨.put (delY now c cas x), bump cas, An.is 9 (delY now c cas x)⟩
def looO (cas : Nat) : Option It → Out
  | none => Out.no cas 5
  | some x => ⟨.keep, cas, An.is 1 x⟩
def core (now : Int) (c : Cm) (most : Int) (cas : Nat) (o : Option It) : Out :=
  if c.op = 1 then getO now c cas o
  else if c.op = 2 then stoO now c most cas o
  else if c.op = 3 then matO now c most cas o
  else if c.op = 4 then touO now c cas o
  else if c.op = 5 then delO now c cas o
  else looO cas o
def fine (now : Int) (c : Cm) : Bool := may c && (decide (1 ≤ now) && decide (now ≤ 1099511627776))
def apply (s : Ms) (now : Int) (c : Cm) (most : Int) : Ms × An :=
  if fine now c = false then (noMs, An.of 0)
  else if c.op = 6 then
    (if now < moment now c.exp then ⟨(live s now).its, (live s now).cas, moment now c.exp⟩ else ⟨[], (live s now).cas, 0⟩, An.of 10)
  else
    let o := core now c most (live s now).cas (find (live s now).its c.key)
    (⟨o.e.on (live s now).its c.key, o.cas, (live s now).fl⟩, o.a)
end Go.Proofs.YtkaaebjifkbclaaDoor.Md

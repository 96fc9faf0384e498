/-
  Plain mathematics of the text protocol (T1), no program in it: which request bytes begin with, and that it is the same whatever stands behind it. No conditions.
-/
import Derived.Test.YtggeccndmmmnjaaDoorBaseA
import Derived.Test.YtggeccndmmmnjaaDoorWordsMath
namespace Go.Proofs.YtggeccndmmmnjaaDoor.Tx
open Go Md

/-- 'get' -/
abbrev wGet : List UInt8 := [103, 101, 116]
/-- 'gets' -/
abbrev wGets : List UInt8 := [103, 101, 116, 115]
/-- 'gat' -/
abbrev wGat : List UInt8 := [103, 97, 116]
/-- 'gats' -/
abbrev wGats : List UInt8 := [103, 97, 116, 115]
/-- 'set' -/
abbrev wSet : List UInt8 := [115, 101, 116]
/-- 'cas' -/
abbrev wCas : List UInt8 := [99, 97, 115]
/-- 'add' -/
abbrev wAdd : List UInt8 := [97, 100, 100]
/-- 'replace' -/
abbrev wReplace : List UInt8 := [114, 101, 112, 108, 97, 99, 101]
/-- 'append' -/
abbrev wAppend : List UInt8 := [97, 112, 112, 101, 110, 100]
/-- 'prepend' -/
abbrev wPrepend : List UInt8 := [112, 114, 101, 112, 101, 110, 100]
/-- 'incr' -/
abbrev wIncr : List UInt8 := [105, 110, 99, 114]
/-- 'decr' -/
abbrev wDecr : List UInt8 := [100, 101, 99, 114]
/-- 'touch' -/
abbrev wTouch : List UInt8 := [116, 111, 117, 99, 104]
/-- 'delete' -/
abbrev wDelete : List UInt8 := [100, 101, 108, 101, 116, 101]
/-- 'flush_all' -/
abbrev wFlush : List UInt8 := [102, 108, 117, 115, 104, 95, 97, 108, 108]
/-- 'version' -/
abbrev wVersion : List UInt8 := [118, 101, 114, 115, 105, 111, 110]
/-- 'verbosity' -/
abbrev wVerbosity : List UInt8 := [118, 101, 114, 98, 111, 115, 105, 116, 121]
/-- 'stats' -/
abbrev wStats : List UInt8 := [115, 116, 97, 116, 115]
/-- 'quit' -/
abbrev wQuit : List UInt8 := [113, 117, 105, 116]
/-- 'noreply' -/
abbrev wNoreply : List UInt8 := [110, 111, 114, 101, 112, 108, 121]
/-- 'ERROR' -/
abbrev mError : List UInt8 := [69, 82, 82, 79, 82]
/-- 'CLIENT_ERROR bad command line format' -/
abbrev mLine : List UInt8 := [67, 76, 73, 69, 78, 84, 95, 69, 82, 82, 79, 82, 32, 98, 97, 100, 32, 99, 111, 109, 109, 97, 110, 100, 32, 108, 105, 110, 101, 32, 102, 111, 114, 109, 97, 116]
/-- 'CLIENT_ERROR invalid exptime argument' -/
abbrev mSec : List UInt8 := [67, 76, 73, 69, 78, 84, 95, 69, 82, 82, 79, 82, 32, 105, 110, 118, 97, 108, 105, 100, 32, 101, 120, 112, 116, 105, 109, 101, 32, 97, 114, 103, 117, 109, 101, 110, 116]
/-- 'SERVER_ERROR object too large for cache' -/
abbrev mLarge : List UInt8 := [83, 69, 82, 86, 69, 82, 95, 69, 82, 82, 79, 82, 32, 111, 98, 106, 101, 99, 116, 32, 116, 111, 111, 32, 108, 97, 114, 103, 101, 32, 102, 111, 114, 32, 99, 97, 99, 104, 101]
/-- 'CLIENT_ERROR line too long' -/
abbrev mLong : List UInt8 := [67, 76, 73, 69, 78, 84, 95, 69, 82, 82, 79, 82, 32, 108, 105, 110, 101, 32, 116, 111, 111, 32, 108, 111, 110, 103]
/-- 'CLIENT_ERROR bad data chunk' -/
abbrev mData : List UInt8 := [67, 76, 73, 69, 78, 84, 95, 69, 82, 82, 79, 82, 32, 98, 97, 100, 32, 100, 97, 116, 97, 32, 99, 104, 117, 110, 107]
/-- 'CLIENT_ERROR invalid numeric delta argument' -/
abbrev mDelta : List UInt8 := [67, 76, 73, 69, 78, 84, 95, 69, 82, 82, 79, 82, 32, 105, 110, 118, 97, 108, 105, 100, 32, 110, 117, 109, 101, 114, 105, 99, 32, 100, 101, 108, 116, 97, 32, 97, 114, 103, 117, 109, 101, 110, 116]
/-- 'END and its end' -/
abbrev mEnd : List UInt8 := [69, 78, 68, 13, 10]

/-- A request as plain data: what it says beyond these is empty. -/
structure Rq where
  kind : Int
  cmds : List Cm
  quiet : Bool
  tokens : Bool
  reply : List UInt8
  arg : List UInt8
  skip : Nat
  close : Bool
def noRq : Rq := ⟨0, [], false, false, [], [], 0, false⟩
def badQ (why : List UInt8) (skip : Nat) : Rq := ⟨2, [], false, false, why, [], skip, false⟩
def command (op : Int) : Cm := ⟨op, 0, emp, emp, 0, 0, false, 0, false, 0, 0, false, false, 0, -1, false⟩
def oneQ (c : Cm) (quiet : Bool) : Rq := ⟨1, [c], quiet, false, [], [], 0, false⟩

/-- What the reading of a line comes to: a request and how many bytes behind the line are its own; or it is given up. -/
inductive Rd where
  | done (q : Rq) (used : Nat)
  | up (why : List UInt8) (skip used : Nat)

def at_ (ws : List (List UInt8)) (i : Nat) : List UInt8 := ws[i]?.getD []
def offW (ws : List (List UInt8)) : List (List UInt8) := if ws.getLast? = some wNoreply then ws.dropLast else ws
def offQ (ws : List (List UInt8)) : Bool := decide (ws.getLast? = some wNoreply)
def numU (w : List UInt8) (most : Nat) : Option Nat :=
  match Nu.parseU w with
  | none => none
  | some n => if most < n then none else some n
def secs (w : List UInt8) : Option Int :=
  match Nu.signedU w with
  | none => none
  | some n => if n < -1099511627776 ∨ 1099511627776 < n then none else some n
def withKey (c : Cm) (k : List UInt8) : Cm := { c with key := S k }
def eachR (ks : List (List UInt8)) (c : Cm) (tokens : Bool) : Rd :=
  if ks.all keyB then .done ⟨1, ks.map (withKey c), false, tokens, [], [], 0, false⟩ 0 else .up mLine 0 0
def getR (ws : List (List UInt8)) (tokens : Bool) : Rd :=
  if ws.length < 1 ∨ 2048 < ws.length then .up mError 0 0 else eachR ws (command 1) tokens
def gatC (x : Int) : Cm := { command 1 with exp := x, hasExp := true }
def gatR (ws : List (List UInt8)) (tokens : Bool) : Rd :=
  if ws.length < 2 ∨ 2048 < ws.length then .up mError 0 0 else
  match secs (at_ ws 0) with
  | none => .up mSec 0 0
  | some x => eachR (ws.drop 1) (gatC x) tokens
def modeN (name : List UInt8) : Int :=
  if name = wAdd then 1 else if name = wReplace then 2 else if name = wAppend then 3 else if name = wPrepend then 4 else 0
def storeC (name key : List UInt8) (f : Nat) (x : Int) (cas : Nat) (v : List UInt8) : Cm :=
  ⟨2, modeN name, S key, S v, f, x, false, cas, decide (name = wCas), 0, 0, false, false, 0, -1, false⟩
def valueR (name key : List UInt8) (f : Nat) (x : Int) (cas n : Nat) (quiet : Bool) (behind : List UInt8) : Rd :=
  if 65536 < n then .up mLarge (n + 2) 0 else
  if behind.length < n + 2 then .done noRq 0 else
  if (behind.take (n + 2)).drop n = [13, 10] then .done (oneQ (storeC name key f x cas (behind.take n)) quiet) (n + 2) else .up mData 0 (n + 2)
def casR (name : List UInt8) (ws : List (List UInt8)) : Option Nat := if name = wCas then numU (at_ ws 4) 18446744073709551615 else some 0
def storeU (name : List UInt8) (us : List (List UInt8)) (qt : Bool) (behind : List UInt8) : Rd :=
  if us.length ≠ (if name = wCas then 5 else 4) then .up mError 0 0 else
  match numU (at_ us 3) 1073741824 with
  | none => .up mLine 0 0
  | some n =>
    if keyB (at_ us 0) = false then .up mLine (n + 2) 0 else
    match numU (at_ us 1) 4294967295 with
    | none => .up mLine (n + 2) 0
    | some f =>
      match secs (at_ us 2) with
      | none => .up mLine (n + 2) 0
      | some x =>
        match casR name us with
        | none => .up mLine (n + 2) 0
        | some cas => valueR name (at_ us 0) f x cas n qt behind
def storeR (name : List UInt8) (ws : List (List UInt8)) (behind : List UInt8) : Rd := storeU name (offW ws) (offQ ws) behind
def mathC (key : List UInt8) (n : Nat) (down : Bool) : Cm := ⟨3, 0, S key, emp, 0, 0, false, 0, false, n, 0, down, false, 0, -1, false⟩
def mathU (us : List (List UInt8)) (qt : Bool) (down : Bool) : Rd :=
  if us.length ≠ 2 then .up mError 0 0 else
  if keyB (at_ us 0) = false then .up mLine 0 0 else
  match numU (at_ us 1) 18446744073709551615 with
  | none => .up mDelta 0 0
  | some n => .done (oneQ (mathC (at_ us 0) n down) qt) 0
def mathR (ws : List (List UInt8)) (down : Bool) : Rd := mathU (offW ws) (offQ ws) down
def touchC (key : List UInt8) (x : Int) : Cm := ⟨4, 0, S key, emp, 0, x, false, 0, false, 0, 0, false, false, 0, -1, false⟩
def touchU (us : List (List UInt8)) (qt : Bool) : Rd :=
  if us.length ≠ 2 then .up mError 0 0 else
  if keyB (at_ us 0) = false then .up mLine 0 0 else
  match secs (at_ us 1) with
  | none => .up mSec 0 0
  | some x => .done (oneQ (touchC (at_ us 0) x) qt) 0
def touchR (ws : List (List UInt8)) : Rd := touchU (offW ws) (offQ ws)
def delC (key : List UInt8) : Cm := ⟨5, 0, S key, emp, 0, 0, false, 0, false, 0, 0, false, false, 0, -1, false⟩
def delU (us : List (List UInt8)) (qt : Bool) : Rd :=
  if us.length < 1 ∨ 2 < us.length then .up mError 0 0 else
  if keyB (at_ us 0) = false then .up mLine 0 0 else
  if us.length = 2 ∧ at_ us 1 ≠ [48] then .up mLine 0 0 else
  .done (oneQ (delC (at_ us 0)) qt) 0
def delR (ws : List (List UInt8)) : Rd := delU (offW ws) (offQ ws)
def flushC (x : Int) : Cm := ⟨6, 0, emp, emp, 0, x, false, 0, false, 0, 0, false, false, 0, -1, false⟩
def flushU (us : List (List UInt8)) (qt : Bool) : Rd :=
  if 1 < us.length then .up mError 0 0 else
  if us.length = 1 then
    match secs (at_ us 0) with
    | none => .up mSec 0 0
    | some x => .done (oneQ (flushC x) qt) 0
  else .done (oneQ (flushC 0) qt) 0
def flushR (ws : List (List UInt8)) : Rd := flushU (offW ws) (offQ ws)
def versionR (ws : List (List UInt8)) : Rd := if 0 < ws.length then .up mError 0 0 else .done ⟨3, [], false, false, [], [], 0, false⟩ 0
def verbU (us : List (List UInt8)) (qt : Bool) : Rd := if us.length ≠ 1 then .up mError 0 0 else .done ⟨4, [], qt, false, [], [], 0, false⟩ 0
def verbR (ws : List (List UInt8)) : Rd := verbU (offW ws) (offQ ws)
def statsR (ws : List (List UInt8)) : Rd := if 1 < ws.length then .up mError 0 0 else .done ⟨5, [], false, false, [], Lib.join ws [32], 0, false⟩ 0
def quitR (ws : List (List UInt8)) : Rd := if 0 < ws.length then .up mError 0 0 else .done ⟨6, [], false, false, [], [], 0, true⟩ 0
def isStore (name : List UInt8) : Prop := name = wSet ∨ name = wCas ∨ name = wAdd ∨ name = wReplace ∨ name = wAppend ∨ name = wPrepend
instance (name : List UInt8) : Decidable (isStore name) := by unfold isStore; exact inferInstance
def namedR (name : List UInt8) (ws : List (List UInt8)) (behind : List UInt8) : Rd :=
  if name = wGet then getR ws false else if name = wGets then getR ws true else
  if name = wGat then gatR ws false else if name = wGats then gatR ws true else
  if isStore name then storeR name ws behind else
  if name = wIncr then mathR ws false else if name = wDecr then mathR ws true else
  if name = wTouch then touchR ws else if name = wDelete then delR ws else
  if name = wFlush then flushR ws else if name = wVersion then versionR ws else
  if name = wVerbosity then verbR ws else if name = wStats then statsR ws else
  if name = wQuit then quitR ws else .up mError 0 0
def readR (ws : List (List UInt8)) (behind : List UInt8) : Rd :=
  match ws with
  | [] => .up mError 0 0
  | name :: r => namedR name r behind
/-- The request, the line having so many bytes. -/
def Rd.fin (len : Nat) : Rd → Rq × Nat
  | .done q used => if q.kind = 0 then (q, 0) else (q, len + used)
  | .up why skip used => (badQ why skip, len + used)
def longQ : Rq := ⟨2, [], false, false, mLong, [], 0, true⟩
def parse (b : List UInt8) : Rq × Nat :=
  if 10 ∈ b.take 2048 then (readR (splitS (lineS (b.take 2048))) (b.drop (lineN (b.take 2048)))).fin (lineN (b.take 2048))
  else if b.length < 2048 then (noRq, 0) else (longQ, 2048)

/-! What is a request already stays so -/
/-- With more behind: the same, unless there was too little. -/
def Rd.Keeps (m : Nat) (x y : Rd) : Prop :=
  match x with
  | .done q used => (q.kind = 0 ∧ q = noRq ∧ used = 0) ∨ (x = y ∧ used ≤ m)
  | .up _ _ used => x = y ∧ used ≤ m
theorem Rd.Keeps.rfl_done {m : Nat} (q : Rq) : Rd.Keeps m (.done q 0) (.done q 0) := .inr ⟨rfl, Nat.zero_le _⟩
theorem Rd.Keeps.rfl_up {m : Nat} (why : List UInt8) (s : Nat) : Rd.Keeps m (.up why s 0) (.up why s 0) := ⟨rfl, Nat.zero_le _⟩
theorem value_more (name key : List UInt8) (f : Nat) (x : Int) (cas n : Nat) (quiet : Bool) (behind r : List UInt8) :
    Rd.Keeps behind.length (valueR name key f x cas n quiet behind) (valueR name key f x cas n quiet (behind ++ r)) := by
  unfold valueR
  by_cases h1 : 65536 < n
  · rw [if_pos h1, if_pos h1]; exact .rfl_up _ _
  · rw [if_neg h1, if_neg h1]
    by_cases h2 : behind.length < n + 2
    · rw [if_pos h2]; exact .inl ⟨rfl, rfl, rfl⟩
    · have e1 : (behind ++ r).take (n + 2) = behind.take (n + 2) := List.take_append_of_le_length (by omega)
      have e2 : (behind ++ r).take n = behind.take n := List.take_append_of_le_length (by omega)
      have h2' : ¬ (behind ++ r).length < n + 2 := by rw [List.length_append]; omega
      rw [if_neg h2, if_neg h2', e1, e2]
      by_cases h3 : (behind.take (n + 2)).drop n = [13, 10]
      · rw [if_pos h3]; exact .inr ⟨rfl, by omega⟩
      · rw [if_neg h3]; exact ⟨rfl, by omega⟩
theorem keeps_same (x : Rd) (m : Nat) (h : ∀ q u, x = .done q u → u = 0) (h' : ∀ y s u, x = .up y s u → u = 0) : Rd.Keeps m x x := by
  cases x with
  | done q u => rw [h q u rfl]; exact .rfl_done q
  | up y s u => rw [h' y s u rfl]; exact .rfl_up y s
/-- None of the bytes behind the line are its own. -/
def Rd.Bare : Rd → Prop
  | .done _ u => u = 0
  | .up _ _ u => u = 0
theorem Rd.Bare.keeps {x : Rd} (h : x.Bare) (m : Nat) : Rd.Keeps m x x :=
  keeps_same x m (fun q u e => by subst e; exact h) (fun y s u e => by subst e; exact h)
theorem each_bare (ks : List (List UInt8)) (c : Cm) (t : Bool) : (eachR ks c t).Bare := by unfold eachR; split <;> rfl
theorem get_bare (ws : List (List UInt8)) (t : Bool) : (getR ws t).Bare := by
  unfold getR; split
  · rfl
  · exact each_bare _ _ _
theorem gat_bare (ws : List (List UInt8)) (t : Bool) : (gatR ws t).Bare := by
  unfold gatR; split
  · rfl
  · split
    · rfl
    · exact each_bare _ _ _
theorem math_bare (ws : List (List UInt8)) (d : Bool) : (mathR ws d).Bare := by
  unfold mathR mathU; split
  · rfl
  · split
    · rfl
    · split <;> rfl
theorem touch_bare (ws : List (List UInt8)) : (touchR ws).Bare := by
  unfold touchR touchU; split
  · rfl
  · split
    · rfl
    · split <;> rfl
theorem del_bare (ws : List (List UInt8)) : (delR ws).Bare := by
  unfold delR delU; split
  · rfl
  · split
    · rfl
    · split <;> rfl
theorem flush_bare (ws : List (List UInt8)) : (flushR ws).Bare := by
  unfold flushR flushU; split
  · rfl
  · split
    · split <;> rfl
    · rfl
theorem version_bare (ws : List (List UInt8)) : (versionR ws).Bare := by unfold versionR; split <;> rfl
theorem verb_bare (ws : List (List UInt8)) : (verbR ws).Bare := by unfold verbR verbU; split <;> rfl
theorem stats_bare (ws : List (List UInt8)) : (statsR ws).Bare := by unfold statsR; split <;> rfl
theorem quit_bare (ws : List (List UInt8)) : (quitR ws).Bare := by unfold quitR; split <;> rfl
theorem store_more (name : List UInt8) (ws : List (List UInt8)) (behind r : List UInt8) : Rd.Keeps behind.length (storeR name ws behind) (storeR name ws (behind ++ r)) := by
  unfold storeR storeU
  by_cases h0 : (offW ws).length ≠ (if name = wCas then 5 else 4)
  · rw [if_pos h0, if_pos h0]; exact .rfl_up _ _
  · rw [if_neg h0, if_neg h0]
    split
    · exact .rfl_up _ _
    · split
      · exact .rfl_up _ _
      · split
        · exact .rfl_up _ _
        · split
          · exact .rfl_up _ _
          · split
            · exact .rfl_up _ _
            · exact value_more _ _ _ _ _ _ _ _ _
theorem keeps_ite {m : Nat} {c : Prop} [Decidable c] {a b a' b' : Rd} (h1 : Rd.Keeps m a a') (h2 : Rd.Keeps m b b') : Rd.Keeps m (if c then a else b) (if c then a' else b') := by
  by_cases h : c
  · rw [if_pos h, if_pos h]; exact h1
  · rw [if_neg h, if_neg h]; exact h2
theorem named_more (name : List UInt8) (ws : List (List UInt8)) (behind r : List UInt8) : Rd.Keeps behind.length (namedR name ws behind) (namedR name ws (behind ++ r)) := by
  unfold namedR
  refine keeps_ite ((get_bare _ _).keeps _) (keeps_ite ((get_bare _ _).keeps _) (keeps_ite ((gat_bare _ _).keeps _) (keeps_ite ((gat_bare _ _).keeps _) (keeps_ite (store_more _ _ _ _) ?_))))
  refine keeps_ite ((math_bare _ _).keeps _) (keeps_ite ((math_bare _ _).keeps _) (keeps_ite ((touch_bare _).keeps _) (keeps_ite ((del_bare _).keeps _) (keeps_ite ((flush_bare _).keeps _) ?_))))
  exact keeps_ite ((version_bare _).keeps _) (keeps_ite ((verb_bare _).keeps _) (keeps_ite ((stats_bare _).keeps _) (keeps_ite ((quit_bare _).keeps _) (.rfl_up _ _))))
theorem read_more (ws : List (List UInt8)) (behind r : List UInt8) : Rd.Keeps behind.length (readR ws behind) (readR ws (behind ++ r)) := by
  cases ws with
  | nil => exact .rfl_up _ _
  | cons name ws => exact named_more _ _ _ _

theorem upTo_mem {c : UInt8} {p : List UInt8} (h : c ∈ p) (q : List UInt8) : upTo c (p ++ q) = upTo c p := by
  induction p with
  | nil => simp at h
  | cons d p ih =>
    by_cases hd : d = c
    · subst hd; rw [List.cons_append, upTo_cons_eq, upTo_cons_eq]
    · rw [List.cons_append, upTo_cons_ne hd, upTo_cons_ne hd, ih (by simpa [Ne.symm hd] using h)]
theorem line_more {p : List UInt8} (h : 10 ∈ p) (q : List UInt8) : lineS (p ++ q) = lineS p ∧ lineN (p ++ q) = lineN p := by
  unfold lineS lineN
  rw [if_pos h, if_pos h, if_pos (by simp [h]), if_pos (by simp [h]), upTo_mem h]
  exact ⟨rfl, rfl⟩
theorem lineN_le {p : List UInt8} : lineN p ≤ p.length := by
  unfold lineN
  split
  · rename_i h; have := upTo_lt h; omega
  · omega
theorem lineN_pos {p : List UInt8} (h : 10 ∈ p) : 0 < lineN p := by unfold lineN; rw [if_pos h]; omega
theorem fin_kind {x : Rd} {n : Nat} (h : (x.fin n).1.kind = 0) : (x.fin n).2 = 0 := by
  cases x with
  | done q u =>
    unfold Rd.fin at h ⊢
    by_cases e : q.kind = 0
    · simp [e]
    · simp [e] at h
  | up y s u => exact absurd h (by simp [Rd.fin, badQ])
theorem parse_none {b : List UInt8} (h : (parse b).1.kind = 0) : (parse b).2 = 0 := by
  unfold parse at h ⊢
  split
  · rename_i h1; rw [if_pos h1] at h; exact fin_kind h
  · rename_i h1
    rw [if_neg h1] at h
    split
    · rfl
    · rename_i h2; rw [if_neg h2] at h; exact absurd h (by simp [longQ])
/-- What stands behind a request does not matter. -/
theorem parse_more {b : List UInt8} (r : List UInt8) (h : (parse b).1.kind ≠ 0) : parse (b ++ r) = parse b ∧ 0 < (parse b).2 ∧ (parse b).2 ≤ b.length := by
  by_cases h1 : 10 ∈ b.take 2048
  · have ht : ∃ q, (b ++ r).take 2048 = b.take 2048 ++ q := by rw [List.take_append]; exact ⟨_, rfl⟩
    obtain ⟨q, hq⟩ := ht
    have h2 : 10 ∈ (b ++ r).take 2048 := by rw [hq]; simp [h1]
    obtain ⟨e1, e2⟩ := line_more h1 q
    have hle : lineN (b.take 2048) ≤ b.length := Nat.le_trans lineN_le (by rw [List.length_take]; omega)
    have hd : (b ++ r).drop (lineN (b.take 2048)) = b.drop (lineN (b.take 2048)) ++ r := by
      rw [List.drop_append_of_le_length hle]
    have hp : parse b = (readR (splitS (lineS (b.take 2048))) (b.drop (lineN (b.take 2048)))).fin (lineN (b.take 2048)) := by unfold parse; rw [if_pos h1]
    have hp' : parse (b ++ r) = (readR (splitS (lineS (b.take 2048))) (b.drop (lineN (b.take 2048)) ++ r)).fin (lineN (b.take 2048)) := by
      unfold parse; rw [if_pos h2, hq, e1, e2, hd]
    have hk := read_more (splitS (lineS (b.take 2048))) (b.drop (lineN (b.take 2048))) r
    have hpos := lineN_pos h1
    rw [hp] at h
    rw [hp, hp']
    generalize lineN (b.take 2048) = n at *
    rw [List.length_drop] at hk
    generalize readR (splitS (lineS (b.take 2048))) (b.drop n) = x at *
    generalize readR (splitS (lineS (b.take 2048))) (b.drop n ++ r) = y at *
    cases x with
    | done q u =>
      rcases hk with ⟨k0, -, -⟩ | ⟨e, hu⟩
      · exact absurd (by simp [Rd.fin, k0]) h
      · refine ⟨by rw [e], ?_⟩
        have hq0 : q.kind ≠ 0 := fun e0 => h (by simp [Rd.fin, e0])
        simp only [Rd.fin, if_neg hq0]; omega
    | up y s u =>
      obtain ⟨e, hu⟩ := hk
      refine ⟨by rw [e], ?_⟩
      simp only [Rd.fin]; omega
  · by_cases h2 : b.length < 2048
    · exact absurd (by unfold parse; rw [if_neg h1, if_pos h2]; rfl) h
    · have e : (b ++ r).take 2048 = b.take 2048 := List.take_append_of_le_length (by omega)
      have hp : parse b = (longQ, 2048) := by unfold parse; rw [if_neg h1, if_neg h2]
      have hp' : parse (b ++ r) = (longQ, 2048) := by unfold parse; rw [e, if_neg h1, if_neg (by rw [List.length_append]; omega)]
      rw [hp, hp']
      exact ⟨rfl, by show 0 < 2048; decide, by show 2048 ≤ b.length; omega⟩
/-- A line of words. -/
theorem parse_words {ws : List (List UInt8)} (h : ∀ x ∈ ws, keyB x = true) (hl : (Lib.join ws [32]).length + 2 ≤ 2048) (r : List UInt8) :
    parse (Lib.join ws [32] ++ [13, 10] ++ r) = (readR ws r).fin ((Lib.join ws [32]).length + 2) := by
  have ht : (Lib.join ws [32] ++ [13, 10] ++ r).take 2048 = Lib.join ws [32] ++ [13, 10] ++ r.take (2048 - (Lib.join ws [32]).length - 2) := by
    rw [List.take_append, List.take_of_length_le (by simp; omega)]
    congr 2
    simp; omega
  obtain ⟨e1, e2⟩ := line_join_cr h (r.take (2048 - (Lib.join ws [32]).length - 2))
  unfold parse
  rw [ht, if_pos (by simp), e1, e2, splitS_join h]
  congr 2
  rw [List.drop_append_of_le_length (by simp), List.drop_of_length_le (by simp), List.nil_append]
theorem parse_words_lf {ws : List (List UInt8)} (h : ∀ x ∈ ws, keyB x = true) (hl : (Lib.join ws [32]).length + 1 ≤ 2048) (r : List UInt8) :
    parse (Lib.join ws [32] ++ [10] ++ r) = (readR ws r).fin ((Lib.join ws [32]).length + 1) := by
  have ht : (Lib.join ws [32] ++ [10] ++ r).take 2048 = Lib.join ws [32] ++ [10] ++ r.take (2048 - (Lib.join ws [32]).length - 1) := by
    rw [List.take_append, List.take_of_length_le (by simp; omega)]
    congr 2
    simp; omega
  obtain ⟨e1, e2⟩ := line_join h (r.take (2048 - (Lib.join ws [32]).length - 1))
  unfold parse
  rw [ht, if_pos (by simp), e1, e2, splitS_join h]
  congr 2
  rw [List.drop_append_of_le_length (by simp), List.drop_of_length_le (by simp), List.nil_append]
end Go.Proofs.YtggeccndmmmnjaaDoor.Tx

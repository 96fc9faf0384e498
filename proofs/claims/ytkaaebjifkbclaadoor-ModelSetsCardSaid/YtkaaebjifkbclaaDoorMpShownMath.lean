/-
  Plain mathematics: the commands that each law of stage 16 begins with. No conditions.
-/
import Derived.Test.YtkaaebjifkbclaaDoorModFit
namespace Go.Proofs.YtkaaebjifkbclaaDoor.Md
open Go

def kK : ByteArray := ⟨#[107]⟩
def k5 : ByteArray := ⟨#[53]⟩
def k8 : ByteArray := ⟨#[56]⟩
def cSto (k v : ByteArray) (fl : Nat) (e rc : Int) : Cm := ⟨2, 0, k, v, fl, e, false, 0, false, 0, 0, false, false, 0, rc, false⟩
def cMat (k : ByteArray) (d : Nat) (dn : Bool) : Cm := ⟨3, 0, k, emp, 0, 0, false, 0, false, d, 0, dn, false, 0, -1, false⟩
def cGet (k : ByteArray) : Cm := ⟨1, 0, k, emp, 0, 0, false, 0, false, 0, 0, false, false, 0, -1, false⟩
def sh1 : It := ⟨kK, 0, k5, 110, 1, 0, false, false⟩
def sh2 : It := ⟨kK, 0, k8, 110, 2, 0, false, false⟩
def sh3 : It := ⟨kK, 0, k8, 110, 2, 109, false, false⟩
theorem kK_fine : keyB kK.data.toList = true := by decide
theorem sh_one : apply ⟨[], 0, 0⟩ 100 (cSto kK k5 0 10 0) 900 = (⟨[sh1], 1, 0⟩, An.is 2 sh1) :=
  (one_step (o := none) (cas := 0) (now := 100) (c := cSto kK k5 0 10 0) (most := 900) (fun x h => by cases h) (by decide) (by decide)).trans rfl
theorem add58 : addU k5.data.toList 3 = some [56] := by
  have h : Nu.parseU k5.data.toList = some 5 := by decide
  unfold addU
  rw [h]
  show some (Lib.decDigits 8) = _
  rw [Lib.decDigits_one (by decide)]; rfl
theorem mat_some (now : Int) (c : Cm) (most : Int) (cas : Nat) (x : It) : matO now c most cas (some x) = (if c.hasCas = true ∧ x.cas ≠ c.cas then Out.no cas 4 else match (if c.down then subU x.val.data.toList c.delta else addU x.val.data.toList c.delta) with | none => Out.no cas 7 | some v => matE most cas (if c.hasExp then { x with exp := moment now c.exp } else x) (S v)) := rfl
theorem mat_up {now : Int} {c : Cm} {most : Int} {cas : Nat} {x : It} {v : List UInt8} (h1 : c.hasCas = false) (h2 : c.hasExp = false) (hd : (if c.down then subU x.val.data.toList c.delta else addU x.val.data.toList c.delta) = some v) : matO now c most cas (some x) = matE most cas x (S v) := by
  rw [mat_some, if_neg (by rw [h1]; rintro ⟨e, _⟩; cases e), hd, h2]; rfl
theorem mat_bad {now : Int} {c : Cm} {most : Int} {cas : Nat} {x : It} (h1 : c.hasCas = false) (hd : (if c.down then subU x.val.data.toList c.delta else addU x.val.data.toList c.delta) = none) : matO now c most cas (some x) = Out.no cas 7 := by
  rw [mat_some, if_neg (by rw [h1]; rintro ⟨e, _⟩; cases e), hd]
set_option maxRecDepth 10000 in
theorem sh_two : apply ⟨[sh1], 1, 0⟩ 105 (cMat kK 3 false) 900 = (⟨[sh2], 2, 0⟩, ⟨6, sh2, 8, false, false, false⟩) := by
  rw [show (⟨[sh1], 1, 0⟩ : Ms) = ⟨(some sh1).toList, 1, 0⟩ from rfl]
  refine (one_step (o := some sh1) (cas := 1) (now := 105) (c := cMat kK 3 false) (most := 900) (fun x h => by cases h; rfl) (by decide) (by decide)).trans ?_
  have h1 : core 105 (cMat kK 3 false) 900 1 ((some sh1).filter fun x => !gone 105 x) = ⟨.put sh2, 2, ⟨6, sh2, 8, false, false, false⟩⟩ := by
    rw [show (some sh1).filter (fun x => !gone 105 x) = some sh1 from rfl]
    show matO 105 (cMat kK 3 false) 900 1 (some sh1) = _
    rw [mat_up (c := cMat kK 3 false) (x := sh1) (v := [56]) rfl rfl add58]
    have h8 : Nu.parseU (S [56]).data.toList = some 8 := by decide
    unfold matE
    rw [h8]
    rfl
  rw [h1]; rfl
theorem sh_three : apply ⟨[sh2], 2, 0⟩ 109 (cGet kK) 900 = (⟨[sh3], 2, 0⟩, An.is 1 sh3) :=
  (one_step (o := some sh2) (cas := 2) (now := 109) (c := cGet kK) (most := 900) (fun x h => by cases h; rfl) (by decide) (by decide)).trans rfl
theorem sh_four : apply ⟨[sh2], 2, 0⟩ 110 (cGet kK) 900 = (⟨[], 2, 0⟩, An.of 5) :=
  (one_step (o := some sh2) (cas := 2) (now := 110) (c := cGet kK) (most := 900) (fun x h => by cases h; rfl) (by decide) (by decide)).trans rfl
end Go.Proofs.YtkaaebjifkbclaaDoor.Md

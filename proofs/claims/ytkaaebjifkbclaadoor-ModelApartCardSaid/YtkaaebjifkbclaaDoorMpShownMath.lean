/-
  Plain mathematics: the commands that each law of stage 16 begins with. No conditions.
  Plain mathematics: what is stored is told, till its moment. No conditions.
  Plain mathematics: what is touched. No conditions.
-/
import Derived.Test.YtkaaebjifkbclaaDoorBaseA
namespace Go.Proofs.YtkaaebjifkbclaaDoor.Md
open Go

def kK : ByteArray := ⟨#[107]⟩
def k5 : ByteArray := ⟨#[53]⟩
def k8 : ByteArray := ⟨#[56]⟩
def cSto (k v : ByteArray) (fl : Nat) (e rc : Int) : Cm := ⟨2, 0, k, v, fl, e, false, 0, false, 0, 0, false, false, 0, rc, false⟩
def cMat (k : ByteArray) (d : Nat) (dn : Bool) : Cm := ⟨3, 0, k, emp, 0, 0, false, 0, false, d, 0, dn, false, 0, -1, false⟩
def cGet (k : ByteArray) : Cm := ⟨1, 0, k, emp, 0, 0, false, 0, false, 0, 0, false, false, 0, -1, false⟩
def sh1 : It := ⟨kK, 0, k5, 110, 1, 0, false, false⟩
def sh2 : It := ⟨kK, 0, k8, 110, 2, 0, false, false⟩
def sh3 : It := ⟨kK, 0, k8, 110, 2, 109, false, false⟩
theorem kK_fine : keyB kK.data.toList = true := by decide
theorem sh_one : apply ⟨[], 0, 0⟩ 100 (cSto kK k5 0 10 0) 900 = (⟨[sh1], 1, 0⟩, An.is 2 sh1) :=
  (one_step (o := none) (cas := 0) (now := 100) (c := cSto kK k5 0 10 0) (most := 900) (fun x h => by cases h) (by decide) (by decide)).trans rfl
theorem add58 : addU k5.data.toList 3 = some [56] := by
  have h : Nu.parseU k5.data.toList = some 5 := by decide
  unfold addU
  rw [h]
  show some (Lib.decDigits 8) = _
  rw [Lib.decDigits_one (by decide)]; rfl
theorem mat_some (now : Int) (c : Cm) (most : Int) (cas : Nat) (x : It) : matO now c most cas (some x) = (if c.hasCas = true ∧ x.cas ≠ c.cas then Out.no cas 4 else match (if c.down then subU x.val.data.toList c.delta else addU x.val.data.toList c.delta) with | none => Out.no cas 7 | some v => matE most cas (if c.hasExp then { x with exp := moment now c.exp } else x) (S v)) := rfl
theorem mat_up {now : Int} {c : Cm} {most : Int} {cas : Nat} {x : It} {v : List UInt8} (h1 : c.hasCas = false) (h2 : c.hasExp = false) (hd : (if c.down then subU x.val.data.toList c.delta else addU x.val.data.toList c.delta) = some v) : matO now c most cas (some x) = matE most cas x (S v) := by
  rw [mat_some, if_neg (by rw [h1]; rintro ⟨e, _⟩; cases e), hd, h2]; rfl
theorem mat_bad {now : Int} {c : Cm} {most : Int} {cas : Nat} {x : It} (h1 : c.hasCas = false) (hd : (if c.down then subU x.val.data.toList c.delta else addU x.val.data.toList c.delta) = none) : matO now c most cas (some x) = Out.no cas 7 := by
  rw [mat_some, if_neg (by rw [h1]; rintro ⟨e, _⟩; cases e), hd]
set_option maxRecDepth 10000 in
theorem sh_two : apply ⟨[sh1], 1, 0⟩ 105 (cMat kK 3 false) 900 = (⟨[sh2], 2, 0⟩, ⟨6, sh2, 8, false, false, false⟩) := by
  rw [show (⟨[sh1], 1, 0⟩ : Ms) = ⟨(some sh1).toList, 1, 0⟩ from rfl]
  refine (one_step (o := some sh1) (cas := 1) (now := 105) (c := cMat kK 3 false) (most := 900) (fun x h => by cases h; rfl) (by decide) (by decide)).trans ?_
  have h1 : core 105 (cMat kK 3 false) 900 1 ((some sh1).filter fun x => !gone 105 x) = ⟨.put sh2, 2, ⟨6, sh2, 8, false, false, false⟩⟩ := by
    rw [show (some sh1).filter (fun x => !gone 105 x) = some sh1 from rfl]
    show matO 105 (cMat kK 3 false) 900 1 (some sh1) = _
    rw [mat_up (c := cMat kK 3 false) (x := sh1) (v := [56]) rfl rfl add58]
    have h8 : Nu.parseU (S [56]).data.toList = some 8 := by decide
    unfold matE
    rw [h8]
    rfl
  rw [h1]; rfl
theorem sh_three : apply ⟨[sh2], 2, 0⟩ 109 (cGet kK) 900 = (⟨[sh3], 2, 0⟩, An.is 1 sh3) :=
  (one_step (o := some sh2) (cas := 2) (now := 109) (c := cGet kK) (most := 900) (fun x h => by cases h; rfl) (by decide) (by decide)).trans rfl
theorem sh_four : apply ⟨[sh2], 2, 0⟩ 110 (cGet kK) 900 = (⟨[], 2, 0⟩, An.of 5) :=
  (one_step (o := some sh2) (cas := 2) (now := 110) (c := cGet kK) (most := 900) (fun x h => by cases h; rfl) (by decide) (by decide)).trans rfl
end Go.Proofs.YtkaaebjifkbclaaDoor.Md
namespace Go.Proofs.YtkaaebjifkbclaaDoor.Md
open Go

/-- What is stored by a plain store, where nothing is. -/
def stoX (k v : ByteArray) (fl : Nat) (e now : Int) : It := ⟨k, fl, v, moment now e, 1, 0, false, false⟩
theorem sto_new {k v : ByteArray} {fl : Nat} {e rc now most : Int} (hf : fine now (cSto k v fl e rc) = true) (hm : ((k.size + v.size : Nat) : Int) ≤ most) :
    apply ⟨[], 0, 0⟩ now (cSto k v fl e rc) most = (⟨[stoX k v fl e now], 1, 0⟩, An.is 2 (stoX k v fl e now)) := by
  refine (one_step (o := none) (cas := 0) (now := now) (c := cSto k v fl e rc) (most := most) (fun x h => by cases h) hf (by show ¬ (2 : Int) = 6; decide)).trans ?_
  have h1 : core now (cSto k v fl e rc) most 0 ((none : Option It).filter fun x => !gone now x) = ⟨.put (stoX k v fl e now), 1, An.is 2 (stoX k v fl e now)⟩ := by
    show (if most < ((k.size + v.size : Nat) : Int) then Out.no 0 11 else _) = _
    rw [if_neg (by omega)]; rfl
  rw [h1]; rfl
theorem sto_large {k v : ByteArray} {fl : Nat} {e rc now most : Int} (hf : fine now (cSto k v fl e rc) = true) (hm : ¬ ((k.size + v.size : Nat) : Int) ≤ most) :
    apply ⟨[], 0, 0⟩ now (cSto k v fl e rc) most = (⟨[], 0, 0⟩, An.of 11) := by
  refine (one_step (o := none) (cas := 0) (now := now) (c := cSto k v fl e rc) (most := most) (fun x h => by cases h) hf (by show ¬ (2 : Int) = 6; decide)).trans ?_
  have h1 : core now (cSto k v fl e rc) most 0 ((none : Option It).filter fun x => !gone now x) = Out.no 0 11 := by
    show (if most < ((k.size + v.size : Nat) : Int) then Out.no 0 11 else _) = _
    rw [if_pos (by omega)]
  rw [h1]; rfl
theorem app_no {s : Ms} {now : Int} {c : Cm} {most : Int} (hf : fine now c = false) : apply s now c most = (⟨[], 0, 0⟩, An.of 0) := by
  unfold apply
  rw [if_pos hf]; rfl
theorem get_fine {k : ByteArray} {now : Int} (hk : keyB k.data.toList = true) (h1 : 1 ≤ now) (h2 : now ≤ 1099511627776) : fine now (cGet k) = true := by
  unfold fine may farM cGet
  simp [hk, h1, h2, emp]
  exact decide_eq_true (show (0 : Nat) ≤ 65536 by omega)
/-- What a get finds that lives and isn't won. -/
def gotX (x : It) (now : Int) : It := { x with last := now }
theorem get_live {x : It} {k : ByteArray} {cas : Nat} {now most : Int} (hf : fine now (cGet k) = true) (hk : x.key = k) (hg : gone now x = false) (hw : x.won = false) (hs : x.stale = false) :
    apply ⟨[x], cas, 0⟩ now (cGet k) most = (⟨[gotX x now], cas, 0⟩, An.is 1 (gotX x now)) := by
  refine (one_step (o := some x) (cas := cas) (now := now) (c := cGet k) (most := most) (fun y h => by cases h; exact hk) hf (by show ¬ (1 : Int) = 6; decide)).trans ?_
  have h1 : (some x).filter (fun x => !gone now x) = some x := by simp [Option.filter, hg]
  obtain ⟨xk, xf, xv, xe, xc, xl, xs, xw⟩ := x
  change xw = false at hw
  change xs = false at hs
  subst hw; subst hs
  rw [h1]
  rfl
theorem get_gone {x : It} {k : ByteArray} {cas : Nat} {now most : Int} (hf : fine now (cGet k) = true) (hk : x.key = k) (hg : gone now x = true) :
    apply ⟨[x], cas, 0⟩ now (cGet k) most = (⟨[], cas, 0⟩, An.of 5) := by
  refine (one_step (o := some x) (cas := cas) (now := now) (c := cGet k) (most := most) (fun y h => by cases h; exact hk) hf (by show ¬ (1 : Int) = 6; decide)).trans ?_
  have h1 : (some x).filter (fun x => !gone now x) = none := by simp [Option.filter, hg]
  rw [h1]
  rfl
theorem sto_key {k v : ByteArray} {fl : Nat} {e rc now : Int} (hf : fine now (cSto k v fl e rc) = true) : keyB k.data.toList = true := by
  obtain ⟨_, _, h, _⟩ := fine_parts hf
  rcases h with h | h
  · exact h
  · have h : (2 : Int) = 6 := h
    omega
end Go.Proofs.YtkaaebjifkbclaaDoor.Md
namespace Go.Proofs.YtkaaebjifkbclaaDoor.Md
open Go

def cTou (k : ByteArray) (e : Int) : Cm := ⟨4, 0, k, emp, 0, e, false, 0, false, 0, 0, false, false, 0, -1, false⟩
def touX (x : It) (now e : Int) : It := { x with exp := moment now e }
theorem tou_live {x : It} {k : ByteArray} {cas : Nat} {now e most : Int} (hf : fine now (cTou k e) = true) (hk : x.key = k) (hg : gone now x = false) :
    apply ⟨[x], cas, 0⟩ now (cTou k e) most = (⟨[touX x now e], cas, 0⟩, An.is 8 (touX x now e)) := by
  refine (one_step (o := some x) (cas := cas) (now := now) (c := cTou k e) (most := most) (fun y h => by cases h; exact hk) hf (by show ¬ (4 : Int) = 6; decide)).trans ?_
  have h1 : (some x).filter (fun x => !gone now x) = some x := by simp [Option.filter, hg]
  rw [h1]
  rfl
end Go.Proofs.YtkaaebjifkbclaaDoor.Md

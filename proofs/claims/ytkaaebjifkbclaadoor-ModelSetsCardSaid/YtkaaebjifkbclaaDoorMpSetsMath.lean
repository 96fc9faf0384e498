/-
  Plain mathematics: what is stored is told, till its moment. No conditions.
-/
import Derived.Test.YtkaaebjifkbclaaDoorMpShownMath
namespace Go.Proofs.YtkaaebjifkbclaaDoor.Md
open Go

/-- What is stored by a plain store, where nothing is. -/
def stoX (k v : ByteArray) (fl : Nat) (e now : Int) : It := ⟨k, fl, v, moment now e, 1, 0, false, false⟩
theorem sto_new {k v : ByteArray} {fl : Nat} {e rc now most : Int} (hf : fine now (cSto k v fl e rc) = true) (hm : ((k.size + v.size : Nat) : Int) ≤ most) :
    apply ⟨[], 0, 0⟩ now (cSto k v fl e rc) most = (⟨[stoX k v fl e now], 1, 0⟩, An.is 2 (stoX k v fl e now)) := by
  refine (one_step (o := none) (cas := 0) (now := now) (c := cSto k v fl e rc) (most := most) (fun x h => by cases h) hf (by show ¬ (2 : Int) = 6; decide)).trans ?_
  have h1 : core now (cSto k v fl e rc) most 0 ((none : Option It).filter fun x => !gone now x) = ⟨.put (stoX k v fl e now), 1, An.is 2 (stoX k v fl e now)⟩ := by
    show (if most < ((k.size + v.size : Nat) : Int) then Out.no 0 11 else _) = _
    rw [if_neg (by omega)]; rfl
  rw [h1]; rfl
theorem sto_large {k v : ByteArray} {fl : Nat} {e rc now most : Int} (hf : fine now (cSto k v fl e rc) = true) (hm : ¬ ((k.size + v.size : Nat) : Int) ≤ most) :
    apply ⟨[], 0, 0⟩ now (cSto k v fl e rc) most = (⟨[], 0, 0⟩, An.of 11) := by
  refine (one_step (o := none) (cas := 0) (now := now) (c := cSto k v fl e rc) (most := most) (fun x h => by cases h) hf (by show ¬ (2 : Int) = 6; decide)).trans ?_
  have h1 : core now (cSto k v fl e rc) most 0 ((none : Option It).filter fun x => !gone now x) = Out.no 0 11 := by
    show (if most < ((k.size + v.size : Nat) : Int) then Out.no 0 11 else _) = _
    rw [if_pos (by omega)]
  rw [h1]; rfl
theorem app_no {s : Ms} {now : Int} {c : Cm} {most : Int} (hf : fine now c = false) : apply s now c most = (⟨[], 0, 0⟩, An.of 0) := by
  unfold apply
  rw [if_pos hf]; rfl
theorem get_fine {k : ByteArray} {now : Int} (hk : keyB k.data.toList = true) (h1 : 1 ≤ now) (h2 : now ≤ 1099511627776) : fine now (cGet k) = true := by
  unfold fine may farM cGet
  simp [hk, h1, h2, emp]
  exact decide_eq_true (show (0 : Nat) ≤ 65536 by omega)
/-- What a get finds that lives and isn't won. -/
def gotX (x : It) (now : Int) : It := { x with last := now }
theorem get_live {x : It} {k : ByteArray} {cas : Nat} {now most : Int} (hf : fine now (cGet k) = true) (hk : x.key = k) (hg : gone now x = false) (hw : x.won = false) (hs : x.stale = false) :
    apply ⟨[x], cas, 0⟩ now (cGet k) most = (⟨[gotX x now], cas, 0⟩, An.is 1 (gotX x now)) := by
  refine (one_step (o := some x) (cas := cas) (now := now) (c := cGet k) (most := most) (fun y h => by cases h; exact hk) hf (by show ¬ (1 : Int) = 6; decide)).trans ?_
  have h1 : (some x).filter (fun x => !gone now x) = some x := by simp [Option.filter, hg]
  obtain ⟨xk, xf, xv, xe, xc, xl, xs, xw⟩ := x
  change xw = false at hw
  change xs = false at hs
  subst hw; subst hs
  rw [h1]
  rfl
theorem get_gone {x : It} {k : ByteArray} {cas : Nat} {now most : Int} (hf : fine now (cGet k) = true) (hk : x.key = k) (hg : gone now x = true) :
    apply ⟨[x], cas, 0⟩ now (cGet k) most = (⟨[], cas, 0⟩, An.of 5) := by
  refine (one_step (o := some x) (cas := cas) (now := now) (c := cGet k) (most := most) (fun y h => by cases h; exact hk) hf (by show ¬ (1 : Int) = 6; decide)).trans ?_
  have h1 : (some x).filter (fun x => !gone now x) = none := by simp [Option.filter, hg]
  rw [h1]
  rfl
theorem sto_key {k v : ByteArray} {fl : Nat} {e rc now : Int} (hf : fine now (cSto k v fl e rc) = true) : keyB k.data.toList = true := by
  obtain ⟨_, _, h, _⟩ := fine_parts hf
  rcases h with h | h
  · exact h
  · have h : (2 : Int) = 6 := h
    omega
end Go.Proofs.YtkaaebjifkbclaaDoor.Md

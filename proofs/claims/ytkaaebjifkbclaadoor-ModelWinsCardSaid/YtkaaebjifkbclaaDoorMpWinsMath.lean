/-
  Plain mathematics: of those who get a stale item one wins. No conditions.
-/
import Derived.Test.YtkaaebjifkbclaaDoorMpFlushMath
namespace Go.Proofs.YtkaaebjifkbclaaDoor.Md
open Go

def cDel (k : ByteArray) : Cm := ⟨5, 0, k, emp, 0, 0, false, 0, false, 0, 0, false, false, 0, -1, true⟩
def wnX (k v : ByteArray) (cas : Nat) (last : Int) (stale won : Bool) : It := ⟨k, 0, v, 0, cas, last, stale, won⟩
theorem cdel_ok (k : ByteArray) : (cDel k).Ok := ⟨⟨by show (-9223372036854775808 : Int) ≤ _; simp [cDel], by show _ ≤ (9223372036854775807 : Int); simp [cDel]⟩, ⟨by show (-9223372036854775808 : Int) ≤ _; simp [cDel], by show _ ≤ (9223372036854775807 : Int); simp [cDel]⟩, zf, ⟨by show (-9223372036854775808 : Int) ≤ _; simp [cDel], by show _ ≤ (9223372036854775807 : Int); simp [cDel]⟩, zc, zc, zc, ⟨by show (-9223372036854775808 : Int) ≤ _; simp [cDel], by show _ ≤ (9223372036854775807 : Int); simp [cDel]⟩, ⟨by show (-9223372036854775808 : Int) ≤ _; simp [cDel], by show _ ≤ (9223372036854775807 : Int); simp [cDel]⟩⟩
section
variable {k v : ByteArray} {cas : Nat} {now most : Int} {last : Int} {stale won : Bool}
theorem wn_live (k v : ByteArray) (cas : Nat) (last : Int) (stale won : Bool) (now : Int) : (some (wnX k v cas last stale won)).filter (fun x => !gone now x) = some (wnX k v cas last stale won) := by simp [Option.filter, gone, wnX]
theorem wn_del (hk : keyB k.data.toList = true) : apply ⟨[wnX k v 1 0 false false], 1, 0⟩ 5 (cDel k) 65536 = (⟨[wnX k v 2 0 true false], 2, 0⟩, An.is 9 (wnX k v 2 0 true false)) := by
  have hf : fine 5 (cDel k) = true := by
    unfold fine may farM cDel
    simp [hk, emp]
    exact decide_eq_true (show (0 : Nat) ≤ 65536 by omega)
  refine (one_step (o := some (wnX k v 1 0 false false)) (cas := 1) (now := 5) (c := cDel k) (most := 65536) (fun y h => by cases h; rfl) hf (by show ¬ (5 : Int) = 6; decide)).trans ?_
  rw [wn_live]
  rfl
theorem wn_first (hf : fine now (cGet k) = true) : apply ⟨[wnX k v 2 0 true false], 2, 0⟩ now (cGet k) 65536 = (⟨[wnX k v 2 now true true], 2, 0⟩, ⟨1, wnX k v 2 now true true, 0, true, true, false⟩) := by
  refine (one_step (o := some (wnX k v 2 0 true false)) (cas := 2) (now := now) (c := cGet k) (most := 65536) (fun y h => by cases h; rfl) hf (by show ¬ (1 : Int) = 6; decide)).trans ?_
  rw [wn_live]
  rfl
theorem wn_more (hf : fine now (cGet k) = true) : apply ⟨[wnX k v 2 last true true], 2, 0⟩ now (cGet k) 65536 = (⟨[wnX k v 2 now true true], 2, 0⟩, ⟨1, wnX k v 2 now true true, 0, false, true, true⟩) := by
  refine (one_step (o := some (wnX k v 2 last true true)) (cas := 2) (now := now) (c := cGet k) (most := 65536) (fun y h => by cases h; rfl) hf (by show ¬ (1 : Int) = 6; decide)).trans ?_
  rw [wn_live]
  rfl
theorem wn_anew (hf : fine now (cSto k v 0 0 (-1)) = true) (hs : ((k.size + v.size : Nat) : Int) ≤ most) : apply ⟨[wnX k v 2 last true true], 2, 0⟩ now (cSto k v 0 0 (-1)) most = (⟨[wnX k v 3 0 false false], 3, 0⟩, An.is 2 (wnX k v 3 0 false false)) := by
  refine (one_step (o := some (wnX k v 2 last true true)) (cas := 2) (now := now) (c := cSto k v 0 0 (-1)) (most := most) (fun y h => by cases h; rfl) hf (by show ¬ (2 : Int) = 6; decide)).trans ?_
  rw [wn_live]
  have h2 : core now (cSto k v 0 0 (-1)) most 2 (some (wnX k v 2 last true true)) = ⟨.put (wnX k v 3 0 false false), 3, An.is 2 (wnX k v 3 0 false false)⟩ := by
    show (if most < ((k.size + v.size : Nat) : Int) then Out.no 2 11 else _) = _
    rw [if_neg (by omega)]; rfl
  rw [h2]; rfl
end
end Go.Proofs.YtkaaebjifkbclaaDoor.Md

/-
  Plain mathematics: stores by a token. No conditions.
-/
import Derived.Test.YtkaaebjifkbclaaDoorMpFlushMath
namespace Go.Proofs.YtkaaebjifkbclaaDoor.Md
open Go

def kV : ByteArray := ⟨#[118]⟩
def cCas (k v : ByteArray) (mode : Int) : Cm := ⟨2, mode, k, v, 0, 0, false, 1, true, 0, 0, false, false, 0, -1, false⟩
def casX (k v : ByteArray) (cas : Nat) (last : Int) : It := ⟨k, 0, v, 0, cas, last, false, false⟩
theorem ccas_ok (k v : ByteArray) {m : Int} (h2 : -9223372036854775808 ≤ m) (h3 : m ≤ 9223372036854775807) : (cCas k v m).Ok :=
  ⟨⟨by show (-9223372036854775808 : Int) ≤ _; simp [cCas], by show _ ≤ (9223372036854775807 : Int); simp [cCas]⟩, ⟨h2, h3⟩, zf, ⟨by show (-9223372036854775808 : Int) ≤ _; simp [cCas], by show _ ≤ (9223372036854775807 : Int); simp [cCas]⟩, (by show (1 : Nat) ≤ 18446744073709551615; decide), zc, zc, ⟨by show (-9223372036854775808 : Int) ≤ _; simp [cCas], by show _ ≤ (9223372036854775807 : Int); simp [cCas]⟩, ⟨by show (-9223372036854775808 : Int) ≤ _; simp [cCas], by show _ ≤ (9223372036854775807 : Int); simp [cCas]⟩⟩
theorem ccas_fine {k v : ByteArray} {m now : Int} (hk : keyB k.data.toList = true) (hv : v.size ≤ 65536) (hm : m = 0 ∨ m = 2) (h1 : 1 ≤ now) (h2 : now ≤ 1099511627776) : fine now (cCas k v m) = true := by
  unfold fine may farM cCas
  rcases hm with rfl | rfl <;> simp [hk, h1, h2, hv]
theorem cas_yes {k u v : ByteArray} {m now most : Int} (hf : fine now (cCas k v m) = true) (hm : m = 0 ∨ m = 2) (hs : ((k.size + v.size : Nat) : Int) ≤ most) :
    apply ⟨[casX k u 1 0], 1, 0⟩ now (cCas k v m) most = (⟨[casX k v 2 0], 2, 0⟩, An.is 2 (casX k v 2 0)) := by
  refine (one_step (o := some (casX k u 1 0)) (cas := 1) (now := now) (c := cCas k v m) (most := most) (fun y h => by cases h; rfl) hf (by show ¬ (2 : Int) = 6; decide)).trans ?_
  have h1 : (some (casX k u 1 0)).filter (fun x => !gone now x) = some (casX k u 1 0) := by simp [Option.filter, gone, casX]
  rw [h1]
  have h2 : core now (cCas k v m) most 1 (some (casX k u 1 0)) = ⟨.put (casX k v 2 0), 2, An.is 2 (casX k v 2 0)⟩ := by
    show stoO now (cCas k v m) most 1 (some (casX k u 1 0)) = _
    have h3 : stoE most 1 (stoY now (cCas k v m) (some (casX k u 1 0)) false) = ⟨.put (casX k v 2 0), 2, An.is 2 (casX k v 2 0)⟩ := by
      have : stoY now (cCas k v m) (some (casX k u 1 0)) false = ⟨k, 0, v, 0, 0, 0, false, false⟩ := by rcases hm with rfl | rfl <;> rfl
      rw [this]
      unfold stoE
      rw [if_neg (by show ¬ most < ((k.size + v.size : Nat) : Int); omega)]
      rfl
    unfold stoO
    rw [if_neg (by
      show ¬ ((m = 1 ∧ true = true) ∨ (2 ≤ m ∧ true = false))
      rcases hm with rfl | rfl <;> simp)]
    rw [if_pos (show (cCas k v m).hasCas = true from rfl)]
    dsimp only
    rw [if_neg (by show ¬ ((1 : Nat) ≠ 1 ∧ _); simp)]
    exact h3
  rw [h2]; rfl
theorem cas_exists {k u v : ByteArray} {m now most : Int} (hf : fine now (cCas k v m) = true) (hm : m = 0 ∨ m = 2) :
    apply ⟨[casX k u 2 0], 2, 0⟩ now (cCas k v m) most = (⟨[casX k u 2 0], 2, 0⟩, An.of 4) := by
  refine (one_step (o := some (casX k u 2 0)) (cas := 2) (now := now) (c := cCas k v m) (most := most) (fun y h => by cases h; rfl) hf (by show ¬ (2 : Int) = 6; decide)).trans ?_
  have h1 : (some (casX k u 2 0)).filter (fun x => !gone now x) = some (casX k u 2 0) := by simp [Option.filter, gone, casX]
  rw [h1]
  rcases hm with rfl | rfl <;> rfl
theorem cas_none {k v : ByteArray} {now most : Int} (hf : fine now (cCas k v 0) = true) : apply ⟨[], 0, 0⟩ now (cCas k v 0) most = (⟨[], 0, 0⟩, An.of 5) :=
  (one_step (o := none) (cas := 0) (now := now) (c := cCas k v 0) (most := most) (fun y h => by cases h) hf (by show ¬ (2 : Int) = 6; decide)).trans rfl
theorem cas_nots {k v : ByteArray} {now most : Int} (hf : fine now (cCas k v 2) = true) : apply ⟨[], 0, 0⟩ now (cCas k v 2) most = (⟨[], 0, 0⟩, An.of 3) :=
  (one_step (o := none) (cas := 0) (now := now) (c := cCas k v 2) (most := most) (fun y h => by cases h) hf (by show ¬ (2 : Int) = 6; decide)).trans rfl
end Go.Proofs.YtkaaebjifkbclaaDoor.Md

/-
  Plain mathematics: a flush that is to come. No conditions.
-/
import Derived.Test.YtkaaebjifkbclaaDoorMpShownMath
import Derived.ProofKit
namespace Go.Proofs.YtkaaebjifkbclaaDoor.Md
open Go

def kA : ByteArray := ⟨#[97]⟩
def kB : ByteArray := ⟨#[98]⟩
def k1 : ByteArray := ⟨#[49]⟩
def cFlu (e : Int) : Cm := ⟨6, 0, emp, emp, 0, e, false, 0, false, 0, 0, false, false, 0, -1, false⟩
def flA (last : Int) : It := ⟨kA, 0, k1, 0, 1, last, false, false⟩
def flB (cas : Nat) (last : Int) : It := ⟨kB, 0, k1, 0, cas, last, false, false⟩
theorem fsto_ok : (cSto kA k1 0 0 (-1)).Ok := ⟨by decide, by decide, by decide, by decide, by decide, by decide, by decide, by decide, by decide⟩
theorem fstob_ok : (cSto kB k1 0 0 (-1)).Ok := ⟨by decide, by decide, by decide, by decide, by decide, by decide, by decide, by decide, by decide⟩
theorem cflu_ok {e : Int} (h2 : -9223372036854775808 ≤ e) (h3 : e ≤ 9223372036854775807) : (cFlu e).Ok :=
  ⟨⟨by show (-9223372036854775808 : Int) ≤ _; simp [cFlu], by show _ ≤ (9223372036854775807 : Int); simp [cFlu]⟩, ⟨by show (-9223372036854775808 : Int) ≤ _; simp [cFlu], by show _ ≤ (9223372036854775807 : Int); simp [cFlu]⟩, zf, ⟨h2, h3⟩, zc, zc, zc, ⟨by show (-9223372036854775808 : Int) ≤ _; simp [cFlu], by show _ ≤ (9223372036854775807 : Int); simp [cFlu]⟩, ⟨by show (-9223372036854775808 : Int) ≤ _; simp [cFlu], by show _ ≤ (9223372036854775807 : Int); simp [cFlu]⟩⟩
theorem kA_fine : keyB kA.data.toList = true := by decide
theorem kB_fine : keyB kB.data.toList = true := by decide
/-- Apply of a state whose live one is known. -/
theorem apply_live {s s1 : Ms} {now most : Int} {c : Cm} {r : Ms × An} (hf : fine now c = true) (h6 : c.op ≠ 6) (hl : live s now = s1) (hr : ((⟨(core now c most s1.cas (find s1.its c.key)).e.on s1.its c.key, (core now c most s1.cas (find s1.its c.key)).cas, s1.fl⟩ : Ms), (core now c most s1.cas (find s1.its c.key)).a) = r) : apply s now c most = r := by
  unfold apply
  rw [if_neg (by rw [hf]; decide), if_neg h6, hl]
  exact hr
theorem fl_one : apply ⟨[], 0, 0⟩ 10 (cSto kA k1 0 0 (-1)) 99 = (⟨[flA 0], 1, 0⟩, An.is 2 (flA 0)) :=
  (one_step (o := none) (cas := 0) (now := 10) (c := cSto kA k1 0 0 (-1)) (most := 99) (fun x h => by cases h) (by decide) (by decide)).trans rfl
theorem fl_two : apply ⟨[flA 0], 1, 0⟩ 10 (cSto kB k1 0 0 (-1)) 99 = (⟨[flA 0, flB 2 0], 2, 0⟩, An.is 2 (flB 2 0)) :=
  apply_live (s1 := ⟨[flA 0], 1, 0⟩) (by decide) (by decide) rfl (by kernel_rfl)
theorem fl_three {e : Int} (h1 : 1 ≤ e) (h2 : e ≤ 1048576) : apply ⟨[flA 0, flB 2 0], 2, 0⟩ 10 (cFlu e) 99 = (⟨[flA 0, flB 2 0], 2, 10 + e⟩, An.of 10) := by
  have hm : moment 10 e = 10 + e := by unfold moment; rw [if_neg (by omega), if_neg (by omega), if_pos (by omega)]
  have hf : fine 10 (cFlu e) = true := by
    unfold fine may farM cFlu
    simp [emp]
    exact ⟨decide_eq_true (show (0 : Nat) ≤ 65536 by omega), by omega⟩
  unfold apply
  rw [if_neg (by rw [hf]; decide), if_pos (show (cFlu e).op = 6 from rfl)]
  rw [show (cFlu e).exp = e from rfl, hm, if_pos (by omega)]
  rfl
theorem live_on {a b : It} {cas : Nat} {T now : Int} (h : ¬ T ≤ now) (ha : a.exp = 0) (hb : b.exp = 0) : live ⟨[a, b], cas, T⟩ now = ⟨[a, b], cas, T⟩ := by
  unfold live
  rw [if_neg (fun e => h e.2)]
  simp [gone, ha, hb]
theorem live_off {l : List It} {cas : Nat} {T now : Int} (h0 : T ≠ 0) (h : T ≤ now) : live ⟨l, cas, T⟩ now = ⟨[], cas, 0⟩ := by
  unfold live
  rw [if_pos ⟨h0, h⟩]
end Go.Proofs.YtkaaebjifkbclaaDoor.Md

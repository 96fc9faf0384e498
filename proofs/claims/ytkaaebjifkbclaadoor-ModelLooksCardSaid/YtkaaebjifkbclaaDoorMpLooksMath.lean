/-
  Plain mathematics: looking changes nothing. No conditions.
-/
import Derived.Test.YtkaaebjifkbclaaDoorMpApartMath
import Derived.Test.YtkaaebjifkbclaaDoorMpShownMath
namespace Go.Proofs.YtkaaebjifkbclaaDoor.Md
open Go

def cLook (k : ByteArray) : Cm := ⟨7, 0, k, emp, 0, 0, false, 0, false, 0, 0, false, false, 0, -1, false⟩
theorem clook_ok (k : ByteArray) : (cLook k).Ok := ⟨⟨by show (-9223372036854775808 : Int) ≤ _; simp [cLook], by show _ ≤ (9223372036854775807 : Int); simp [cLook]⟩, ⟨by show (-9223372036854775808 : Int) ≤ _; simp [cLook], by show _ ≤ (9223372036854775807 : Int); simp [cLook]⟩, zf, ⟨by show (-9223372036854775808 : Int) ≤ _; simp [cLook], by show _ ≤ (9223372036854775807 : Int); simp [cLook]⟩, zc, zc, zc, ⟨by show (-9223372036854775808 : Int) ≤ _; simp [cLook], by show _ ≤ (9223372036854775807 : Int); simp [cLook]⟩, ⟨by show (-9223372036854775808 : Int) ≤ _; simp [cLook], by show _ ≤ (9223372036854775807 : Int); simp [cLook]⟩⟩
/-- Two states that are one at any moment from now on. -/
def Agree (now : Int) (s t : Ms) : Prop := ∀ n, now ≤ n → live s n = live t n
theorem Agree.later {now now' : Int} {s t : Ms} (h : Agree now s t) (hn : now ≤ now') : Agree now' s t := fun n hn' => h n (Int.le_trans hn hn')
theorem Agree.apply {now : Int} {s t : Ms} (h : Agree now s t) (c : Cm) (most : Int) : apply s now c most = apply t now c most := by
  unfold Md.apply
  rw [h now (Int.le_refl _)]
theorem live_live (s : Ms) {now n : Int} (h : now ≤ n) : live (live s now) n = live s n := by
  by_cases h1 : s.fl ≠ 0 ∧ s.fl ≤ now
  · have e1 : live s now = ⟨[], s.cas, 0⟩ := by unfold live; rw [if_pos h1]
    have e2 : live s n = ⟨[], s.cas, 0⟩ := by unfold live; rw [if_pos ⟨h1.1, Int.le_trans h1.2 h⟩]
    rw [e1, e2]; rfl
  · have e1 : live s now = ⟨s.its.filter (fun x => !gone now x), s.cas, s.fl⟩ := by unfold live; rw [if_neg h1]
    rw [e1]
    by_cases h2 : s.fl ≠ 0 ∧ s.fl ≤ n
    · have e2 : live s n = ⟨[], s.cas, 0⟩ := by unfold live; rw [if_pos h2]
      rw [e2]
      unfold live
      rw [if_pos h2]
    · have e2 : live s n = ⟨s.its.filter (fun x => !gone n x), s.cas, s.fl⟩ := by unfold live; rw [if_neg h2]
      rw [e2]
      unfold live
      rw [if_neg h2]
      dsimp only
      rw [List.filter_filter]
      congr 1
      refine List.filter_congr (fun x _ => ?_)
      cases hg : gone now x
      · simp
      · simp [gone_mono h hg]
theorem look_fine (k : ByteArray) (now : Int) : fine now (cLook k) = fine now (cGet k) := rfl
theorem look_state {s : Ms} {now most : Int} {k : ByteArray} (hf : fine now (cLook k) = true) : (apply s now (cLook k) most).1 = live s now := by
  unfold apply
  rw [if_neg (by rw [hf]; decide), if_neg (show ¬ (cLook k).op = 6 by show ¬ (7 : Int) = 6; decide)]
  have h : ∀ o : Option It, (core now (cLook k) most (live s now).cas o).e = .keep ∧ (core now (cLook k) most (live s now).cas o).cas = (live s now).cas := fun o => by
    cases o <;> exact ⟨rfl, rfl⟩
  dsimp only
  rw [(h _).1, (h _).2]
  rfl
theorem agree_look {s : Ms} {now most : Int} {k : ByteArray} (hf : fine now (cLook k) = true) : Agree now (apply s now (cLook k) most).1 s := fun n hn => by
  rw [look_state hf, live_live s hn]
theorem look_get {s : Ms} {now most : Int} (k : ByteArray) : (apply s now (cLook k) most).2.st = (apply s now (cGet k) most).2.st ∧ (apply s now (cLook k) most).2.it.val = (apply s now (cGet k) most).2.it.val ∧ (apply s now (cLook k) most).2.it.cas = (apply s now (cGet k) most).2.it.cas := by
  cases hf : fine now (cLook k)
  · rw [app_no hf, app_no (by rw [← look_fine]; exact hf)]
    exact ⟨rfl, rfl, rfl⟩
  · have hf2 : fine now (cGet k) = true := hf
    unfold apply
    rw [if_neg (by rw [hf]; decide), if_neg (show ¬ (cLook k).op = 6 by show ¬ (7 : Int) = 6; decide), if_neg (by rw [hf2]; decide), if_neg (show ¬ (cGet k).op = 6 by show ¬ (1 : Int) = 6; decide)]
    dsimp only
    have e1 : ∀ o, (core now (cLook k) most (live s now).cas o).a = (looO (live s now).cas o).a := fun o => rfl
    have e2 : ∀ o, (core now (cGet k) most (live s now).cas o).a = (getO now (cGet k) (live s now).cas o).a := fun o => rfl
    rw [e1, e2]
    show (looO (live s now).cas (find (live s now).its k)).a.st = (getO now (cGet k) (live s now).cas (find (live s now).its k)).a.st ∧ _ = (getO now (cGet k) (live s now).cas (find (live s now).its k)).a.it.val ∧ _ = (getO now (cGet k) (live s now).cas (find (live s now).its k)).a.it.cas
    show _ ∧ (looO (live s now).cas (find (live s now).its k)).a.it.val = _ ∧ (looO (live s now).cas (find (live s now).its k)).a.it.cas = _
    cases find (live s now).its k with
    | none => exact ⟨rfl, rfl, rfl⟩
    | some x => exact ⟨rfl, rfl, rfl⟩
theorem look_zero {s : Ms} {now most : Int} {k : ByteArray} (h : (apply s now (cLook k) most).2.st ≠ 0) : fine now (cLook k) = true := by
  cases hf : fine now (cLook k)
  · rw [app_no hf] at h
    exact absurd rfl h
  · rfl
end Go.Proofs.YtkaaebjifkbclaaDoor.Md

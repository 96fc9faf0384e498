/-
  The law ModelTouches for all arguments. Conditions: numbers are in their types' ranges; the library's variables are as they begin.
-/
import Derived.Test.YtkaaebjifkbclaaDoorMpTouch
import Derived.Test.YtkaaebjifkbclaaDoorMpSetsH
import Derived.Test.YtkaaebjifkbclaaDoorMpClose
namespace Go.Proofs.YtkaaebjifkbclaaDoor.Md
open Go Go.RowKit Go.Lib

theorem touch_law (v : ByteArray) (fl : Nat) (hfl : fl ≤ 4294967295) (sec : Int) (_ : -9223372036854775808 ≤ sec) (_ : sec ≤ 9223372036854775807) (later : Int) (_ : -9223372036854775808 ≤ later) (_ : later ≤ 9223372036854775807) (w : World) (hv : Nu.Vars w) :
    Calls Tryd.prog 10 #[.string v, .int .u32 fl, .int .i64 sec, .int .i64 later] w fun e w' => e = .returned (.bool true) ∧ Below w.heap.size w w' := by
  have a1 := mask20i sec
  have a2 := mask21i later
  obtain ⟨T, hT⟩ : ∃ T, T = sec % 1048576 := ⟨_, rfl⟩
  obtain ⟨L, hL⟩ : ∃ L, L = later % 2097152 := ⟨_, rfl⟩
  obtain ⟨T2, hT2⟩ : ∃ T2, T2 = 11 + L := ⟨_, rfl⟩
  rw [← hT] at a1
  rw [← hL] at a2
  have m5 : IntKind.i64.wrap T2 = T2 := by rw [IntKind.wrap_i64]; omega
  by_cases hl : (3000 : Int) < (v.size : Nat)
  · exact touch_long hv a1 a2 hl
  · have hcok : (cSto kK v fl 50 (-1)).Ok := csto_ok hfl (by decide) (by decide) (by decide) (by decide)
    have htok : (cTou kK T).Ok := ctou_ok kK (by omega) (by omega)
    have hvs : v.size ≤ 3000 := by omega
    have f1 : fine 10 (cSto kK v fl 50 (-1)) = true := kfine _ _ (by
      unfold may farM cSto
      simp [kK_fine]
      omega) (by decide) (by decide)
    have f2 : fine 11 (cTou kK T) = true := kfine _ _ (by
      unfold may farM cTou
      simp [kK_fine, emp]
      exact ⟨by exact decide_eq_true (show (0 : Nat) ≤ 65536 by omega), by omega⟩) (by decide) (by decide)
    have hks : kK.size = 1 := rfl
    have hr1 := sto_new (rc := -1) (most := 9000) f1 (by rw [hks]; omega)
    have hf1 : Fit 1 65536 ⟨[stoX kK v fl 50 10], 1, 0⟩ := by
      have h := (fit_no 0 65536).apply (now := 10) hcok (most := 9000) (by decide)
      rw [show noMs = (⟨[], 0, 0⟩ : Ms) from rfl, hr1] at h; exact h
    have hr2 := tou_live (x := stoX kK v fl 50 10) (cas := 1) (most := 9000) f2 rfl (by
      show (decide ((60 : Int) ≠ 0) && decide ((60 : Int) ≤ 11)) = false
      decide)
    have hf2 : Fit 2 65536 ⟨[touX (stoX kK v fl 50 10) 11 T], 1, 0⟩ := by
      have h := hf1.apply (now := 11) htok (most := 9000) (by decide)
      rw [hr2] at h; exact h
    have hg := get_fine (k := kK) (now := T2) kK_fine (by omega) (by omega)
    have hgo : gone T2 (touX (stoX kK v fl 50 10) 11 T) = (decide (moment 11 T ≠ 0) && decide (moment 11 T ≤ T2)) := rfl
    by_cases c0 : T = 0
    · refine touch_live hv a1 a2 (decide_eq_false hl) hcok htok hr1 hf1 hr2 hf2 hT2.symm m5 (get_live hg rfl (by rw [hgo, c0]; rfl) rfl rfl) (.inl c0)
    · have hm : moment 11 T = 11 + T := by unfold moment; rw [if_neg c0, if_neg (by omega), if_pos (by omega)]
      rw [hm] at hgo
      have hb : (T == 0) = false := beq_eq_false_iff_ne.2 c0
      by_cases c1 : L < T
      · refine touch_live hv a1 a2 (decide_eq_false hl) hcok htok hr1 hf1 hr2 hf2 hT2.symm m5 (get_live hg rfl (by rw [hgo, decide_eq_false (show ¬ 11 + T ≤ T2 by omega), Bool.and_false]) rfl rfl) (.inr ⟨c0, hb, c1, decide_eq_true c1⟩)
      · refine touch_gone hv a1 a2 (decide_eq_false hl) hcok htok hr1 hf1 hr2 hf2 hT2.symm m5 (get_gone hg rfl (by rw [hgo, decide_eq_true (show 11 + T ≤ T2 by omega), decide_eq_true (show 11 + T ≠ 0 by omega)]; rfl)) hb (decide_eq_false c1)
end Go.Proofs.YtkaaebjifkbclaaDoor.Md

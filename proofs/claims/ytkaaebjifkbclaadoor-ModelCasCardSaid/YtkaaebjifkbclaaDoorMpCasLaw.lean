/-
  The law ModelCas for all arguments. Conditions: numbers are in their types' ranges; the library's variables are as they begin.
-/
import Derived.Test.YtkaaebjifkbclaaDoorMpCas
import Derived.Test.YtkaaebjifkbclaaDoorMpClose
namespace Go.Proofs.YtkaaebjifkbclaaDoor.Md
open Go Go.RowKit Go.Lib

theorem cas_law (k one two : ByteArray) (mode : Int) (_ : -9223372036854775808 ≤ mode) (_ : mode ≤ 9223372036854775807) (w : World) (hv : Nu.Vars w) :
    Calls Tryd.prog 5 #[.string k, .string one, .string two, .int .i64 mode] w fun e w' => e = .returned (.bool true) ∧ Below w.heap.size w w' := by
  have hcok : (cSto k kV 0 0 (-1)).Ok := csto_ok (by decide) (by decide) (by decide) (by decide) (by decide)
  cases hf : fine 5 (cSto k kV 0 0 (-1))
  · exact cas_no hv hcok (app_no hf)
  · have hk := sto_key hf
    have hks : k.size ≤ 250 := keyfine hf (by show ¬ (2 : Int) = 6; decide)
    have hvs : kV.size = 1 := rfl
    have hr1 : apply ⟨[], 0, 0⟩ 5 (cSto k kV 0 0 (-1)) 60000 = (⟨[casX k kV 1 0], 1, 0⟩, An.is 2 (casX k kV 1 0)) := sto_new hf (by rw [hvs]; omega)
    by_cases h1 : (20000 : Int) < (one.size : Nat)
    · exact cas_long1 hv hcok hr1 h1
    · by_cases h2 : (20000 : Int) < (two.size : Nat)
      · exact cas_long2 hv hcok hr1 (decide_eq_false h1) h2
      · have hf1 : Fit 1 65536 ⟨[casX k kV 1 0], 1, 0⟩ := by
          have h := (fit_no 0 65536).apply (now := 5) hcok (most := 60000) (by decide)
          rw [show noMs = (⟨[], 0, 0⟩ : Ms) from rfl, hr1] at h; exact h
        have f2 : ∀ m : Int, m = 0 ∨ m = 2 → Fit 2 65536 ⟨[casX k one 2 0], 2, 0⟩ := fun m hm => by
          have h := hf1.apply (now := 6) (ccas_ok k one (m := m) (by rcases hm with rfl | rfl <;> decide) (by rcases hm with rfl | rfl <;> decide)) (most := 60000) (by decide)
          rw [cas_yes (ccas_fine hk (by omega) hm (by decide) (by decide)) hm (by omega)] at h; exact h
        have g4 : apply ⟨[casX k one 2 0], 2, 0⟩ 7 (cGet k) 60000 = (⟨[casX k one 2 7], 2, 0⟩, An.is 1 (casX k one 2 7)) := get_live (x := casX k one 2 0) (get_fine hk (by decide) (by decide)) rfl (by rfl) rfl rfl
        have hm1 := mask1i mode
        by_cases hm : mode % 2 = 1
        · exact cas_rep hv hcok hr1 (decide_eq_false h1) (decide_eq_false h2) (by rw [hm1, hm]) (ccas_ok k one (by decide) (by decide)) (ccas_ok k two (by decide) (by decide)) hf1 (f2 2 (.inr rfl))
            (cas_yes (ccas_fine hk (by omega) (.inr rfl) (by decide) (by decide)) (.inr rfl) (by omega)) (cas_exists (ccas_fine hk (by omega) (.inr rfl) (by decide) (by decide)) (.inr rfl)) g4 (cas_nots (ccas_fine hk (by omega) (.inr rfl) (by decide) (by decide)))
        · exact cas_set hv hcok hr1 (decide_eq_false h1) (decide_eq_false h2) (by rw [hm1]; omega) (ccas_ok k one (by decide) (by decide)) (ccas_ok k two (by decide) (by decide)) hf1 (f2 0 (.inl rfl))
            (cas_yes (ccas_fine hk (by omega) (.inl rfl) (by decide) (by decide)) (.inl rfl) (by omega)) (cas_exists (ccas_fine hk (by omega) (.inl rfl) (by decide) (by decide)) (.inl rfl)) g4 (cas_none (ccas_fine hk (by omega) (.inl rfl) (by decide) (by decide)))
end Go.Proofs.YtkaaebjifkbclaaDoor.Md

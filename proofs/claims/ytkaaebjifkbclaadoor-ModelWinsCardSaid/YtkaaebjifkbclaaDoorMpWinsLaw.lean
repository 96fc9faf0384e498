/-
  The law ModelWins for all arguments. Conditions: numbers are in their types' ranges; the library's variables are as they begin.
-/
import Derived.Test.YtkaaebjifkbclaaDoorMpWins
import Derived.Test.YtkaaebjifkbclaaDoorMpClose
namespace Go.Proofs.YtkaaebjifkbclaaDoor.Md
open Go Go.RowKit Go.Lib

theorem wins_law (k v : ByteArray) (times : Int) (_ : -9223372036854775808 ≤ times) (_ : times ≤ 9223372036854775807) (w : World) (hv : Nu.Vars w) :
    Calls Tryd.prog 7 #[.string k, .string v, .int .i64 times] w fun e w' => e = .returned (.bool true) ∧ Below w.heap.size w w' := by
  have hcok : (cSto k v 0 0 (-1)).Ok := csto_ok (by decide) (by decide) (by decide) (by decide) (by decide)
  cases hf : fine 5 (cSto k v 0 0 (-1))
  · exact wins_no hv hcok (app_no hf)
  · by_cases hs : ((k.size + v.size : Nat) : Int) ≤ 65536
    · have hk := sto_key hf
      have hm := mask4i times
      obtain ⟨m, h1, h2⟩ : ∃ m : Nat, bits .and .i64 times 15 = (m : Int) ∧ m ≤ 15 := ⟨(times % 16).toNat, by rw [hm]; omega, by omega⟩
      have hr1 : apply ⟨[], 0, 0⟩ 5 (cSto k v 0 0 (-1)) 65536 = (⟨[wnX k v 1 0 false false], 1, 0⟩, An.is 2 (wnX k v 1 0 false false)) := sto_new hf hs
      have hf7 : fine 7 (cSto k v 0 0 (-1)) = true := by
        have h5 := hf
        unfold fine at h5 ⊢
        rw [Bool.and_eq_true] at h5
        rw [h5.1]; decide
      have g6 : fine 6 (cGet k) = true := get_fine hk (by decide) (by decide)
      have g8 : fine 8 (cGet k) = true := get_fine hk (by decide) (by decide)
      have hf1 : Fit 1 65536 ⟨[wnX k v 1 0 false false], 1, 0⟩ := by
        have h := (fit_no 0 65536).apply (now := 5) hcok (most := 65536) (by decide)
        rw [show noMs = (⟨[], 0, 0⟩ : Ms) from rfl, hr1] at h; exact h
      have hf2 : Fit 2 65536 ⟨[wnX k v 2 0 true false], 2, 0⟩ := by
        have h := hf1.apply (now := 5) (cdel_ok k) (most := 65536) (by decide)
        rw [wn_del hk] at h; exact h
      have hf3 : Fit 3 65536 ⟨[wnX k v 2 6 true true], 2, 0⟩ := by
        have h := hf2.apply (now := 6) (cget_ok k) (most := 65536) (by decide)
        rw [wn_first g6] at h; exact h
      have hf4 : Fit 4 65536 ⟨[wnX k v 3 0 false false], 3, 0⟩ := by
        have h := hf3.apply (now := 7) hcok (most := 65536) (by decide)
        rw [wn_anew hf7 hs] at h; exact h
      exact wins_yes hv hcok h2 h1 (cdel_ok k) hr1 hf1 hf2 hf3 hf4 (wn_del hk) (wn_first g6) (wn_more g6) (wn_anew hf7 hs) (get_live (x := wnX k v 3 0 false false) g8 rfl (by rfl) rfl rfl)
    · exact wins_large hv hcok (sto_large hf hs)
end Go.Proofs.YtkaaebjifkbclaaDoor.Md

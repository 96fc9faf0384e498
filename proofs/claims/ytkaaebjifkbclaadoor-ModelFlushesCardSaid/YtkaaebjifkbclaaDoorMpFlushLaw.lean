/-
  The law ModelFlushes for all arguments. Conditions: numbers are in their types' ranges; the library's variables are as they begin.
-/
import Derived.Test.YtkaaebjifkbclaaDoorMpFlush
import Derived.Test.YtkaaebjifkbclaaDoorMpClose
namespace Go.Proofs.YtkaaebjifkbclaaDoor.Md
open Go Go.RowKit Go.Lib

theorem flush_law (sec : Int) (_ : -9223372036854775808 ≤ sec) (_ : sec ≤ 9223372036854775807) (later : Int) (_ : -9223372036854775808 ≤ later) (_ : later ≤ 9223372036854775807) (w : World) (hv : Nu.Vars w) :
    Calls Tryd.prog 9 #[.int .i64 sec, .int .i64 later] w fun e w' => e = .returned (.bool true) ∧ Below w.heap.size w w' := by
  have a1 := mask20i sec
  have a2 := mask20i later
  obtain ⟨C, hC⟩ : ∃ C, C = 1 + sec % 1048576 := ⟨_, rfl⟩
  obtain ⟨L, hL⟩ : ∃ L, L = later % 1048576 := ⟨_, rfl⟩
  rw [← hL] at a2
  have m1 : 1 + bits .and .i64 sec 1048575 = C := by rw [a1, hC]
  have c1 : 1 ≤ C := by omega
  have c2 : C ≤ 1048576 := by omega
  have l1 : 0 ≤ L := by omega
  have l2 : L ≤ 1048575 := by omega
  have m2 : IntKind.i64.wrap C = C := by rw [IntKind.wrap_i64]; omega
  have m5 : IntKind.i64.wrap (10 + L) = 10 + L := by rw [IntKind.wrap_i64]; omega
  have m7 : IntKind.i64.wrap (10 + C) = 10 + C := by rw [IntKind.wrap_i64]; omega
  have m9 : IntKind.i64.wrap (10 + C + L) = 10 + C + L := by rw [IntKind.wrap_i64]; omega
  have hflu : (cFlu C).Ok := cflu_ok (by omega) (by omega)
  have ha3 := fl_three c1 c2
  have hf1 : Fit 1 65536 ⟨[flA 0], 1, 0⟩ := by
    have h := (fit_no 0 65536).apply (now := 10) fsto_ok (most := 99) (by decide)
    rw [show noMs = (⟨[], 0, 0⟩ : Ms) from rfl, fl_one] at h; exact h
  have hf2 : Fit 2 65536 ⟨[flA 0, flB 2 0], 2, 0⟩ := by
    have h := hf1.apply (now := 10) fstob_ok (most := 99) (by decide)
    rw [fl_two] at h; exact h
  have hf3 : Fit 3 65536 ⟨[flA 0, flB 2 0], 2, 10 + C⟩ := by
    have h := hf2.apply (now := 10) hflu (most := 99) (by decide)
    rw [ha3] at h; exact h
  have ga : fine (10 + L) (cGet kA) = true := get_fine kA_fine (by omega) (by omega)
  have gb : fine (10 + L) (cGet kB) = true := get_fine kB_fine (by omega) (by omega)
  have gc : fine (10 + C + L) (cGet kB) = true := get_fine kB_fine (by omega) (by omega)
  have gs : fine (10 + C) (cSto kB k1 0 0 (-1)) = true := kfine _ _ (by decide) (by omega) (by omega)
  have e6 : (cGet kA).op ≠ 6 := by decide
  have e7 : (cGet kB).op ≠ 6 := by decide
  have e8 : (cSto kB k1 0 0 (-1)).op ≠ 6 := by decide
  have hc : (10 : Int) + C ≠ 0 := by omega
  have ha6 : ∀ l : List It, apply ⟨l, 2, 10 + C⟩ (10 + C) (cSto kB k1 0 0 (-1)) 99 = (⟨[flB 3 0], 3, 0⟩, An.is 2 (flB 3 0)) := fun l =>
    apply_live gs e8 (live_off hc (Int.le_refl _)) (by kernel_rfl)
  have ha6' : apply ⟨[], 2, 0⟩ (10 + C) (cSto kB k1 0 0 (-1)) 99 = (⟨[flB 3 0], 3, 0⟩, An.is 2 (flB 3 0)) := apply_live (s1 := ⟨[], 2, 0⟩) gs e8 rfl (by kernel_rfl)
  have hf6 : ∀ {s : Ms}, Fit 5 65536 s → apply s (10 + C) (cSto kB k1 0 0 (-1)) 99 = (⟨[flB 3 0], 3, 0⟩, An.is 2 (flB 3 0)) → Fit 6 65536 ⟨[flB 3 0], 3, 0⟩ := fun {s} h e => by
    have h := h.apply (now := 10 + C) fstob_ok (most := 99) (by decide)
    rw [e] at h; exact h
  have ha7 : apply ⟨[flB 3 0], 3, 0⟩ (10 + C + L) (cGet kB) 99 = (⟨[flB 3 (10 + C + L)], 3, 0⟩, An.is 1 (flB 3 (10 + C + L))) := get_live (x := flB 3 0) gc rfl (by rfl) rfl rfl
  by_cases hl : L < C
  · have v4 : live ⟨[flA 0, flB 2 0], 2, 10 + C⟩ (10 + L) = ⟨[flA 0, flB 2 0], 2, 10 + C⟩ := live_on (by omega) rfl rfl
    have v5 : live ⟨[flA (10 + L), flB 2 0], 2, 10 + C⟩ (10 + L) = ⟨[flA (10 + L), flB 2 0], 2, 10 + C⟩ := live_on (by omega) rfl rfl
    have ha4 : apply ⟨[flA 0, flB 2 0], 2, 10 + C⟩ (10 + L) (cGet kA) 99 = (⟨[flA (10 + L), flB 2 0], 2, 10 + C⟩, An.is 1 (flA (10 + L))) := apply_live ga e6 v4 (by kernel_rfl)
    have ha5 : apply ⟨[flA (10 + L), flB 2 0], 2, 10 + C⟩ (10 + L) (cGet kB) 99 = (⟨[flA (10 + L), flB 2 (10 + L)], 2, 10 + C⟩, An.is 1 (flB 2 (10 + L))) := apply_live gb e7 v5 (by kernel_rfl)
    have hf4 : Fit 4 65536 ⟨[flA (10 + L), flB 2 0], 2, 10 + C⟩ := by
      have h := hf3.apply (now := 10 + L) (cget_ok kA) (most := 99) (by decide)
      rw [ha4] at h; exact h
    have hf5 : Fit 5 65536 ⟨[flA (10 + L), flB 2 (10 + L)], 2, 10 + C⟩ := by
      have h := hf4.apply (now := 10 + L) (cget_ok kB) (most := 99) (by decide)
      rw [ha5] at h; exact h
    exact flush_live hv m1 m2 a2 rfl m5 rfl m7 rfl m9 hflu hf1 hf2 hf3 hf4 hf5 (hf6 hf5 (ha6 _)) ha3 ha4 ha5 (ha6 _) ha7 hl
  · have v4 : live ⟨[flA 0, flB 2 0], 2, 10 + C⟩ (10 + L) = ⟨[], 2, 0⟩ := live_off hc (by omega)
    have ha4 : apply ⟨[flA 0, flB 2 0], 2, 10 + C⟩ (10 + L) (cGet kA) 99 = (⟨[], 2, 0⟩, An.of 5) := apply_live ga e6 v4 (by kernel_rfl)
    have ha5 : apply ⟨[], 2, 0⟩ (10 + L) (cGet kB) 99 = (⟨[], 2, 0⟩, An.of 5) := apply_live (s1 := ⟨[], 2, 0⟩) gb e7 rfl (by kernel_rfl)
    have hf4 : Fit 4 65536 ⟨[], 2, 0⟩ := by
      have h := hf3.apply (now := 10 + L) (cget_ok kA) (most := 99) (by decide)
      rw [ha4] at h; exact h
    have hf5 : Fit 5 65536 ⟨[], 2, 0⟩ := by
      have h := hf4.apply (now := 10 + L) (cget_ok kB) (most := 99) (by decide)
      rw [ha5] at h; exact h
    exact flush_gone hv m1 m2 a2 rfl m5 rfl m7 rfl m9 hflu hf1 hf2 hf3 hf4 hf5 (hf6 hf5 ha6') ha3 ha4 ha5 ha6' ha7 (decide_eq_false hl)
end Go.Proofs.YtkaaebjifkbclaaDoor.Md

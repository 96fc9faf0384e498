/-
  The law ModelSums for all arguments. Conditions: numbers are in their types' ranges; the library's variables are as they begin.
-/
import Derived.Test.YtkaaebjifkbclaaDoorMpSums
import Derived.Test.YtkaaebjifkbclaaDoorMpClose
namespace Go.Proofs.YtkaaebjifkbclaaDoor.Md
open Go Go.RowKit Go.Lib

theorem sums_law (n : Nat) (hn : n ≤ 18446744073709551615) (d : Nat) (hd : d ≤ 18446744073709551615) (down : Bool) (v : ByteArray) (w : World) (hv : Nu.Vars w) :
    Calls Tryd.prog 6 #[.int .u64 n, .int .u64 d, .bool down, .string v] w fun e w' => e = .returned (.bool true) ∧ Below w.heap.size w w' := by
  have hc1 := cviv_ok hn
  have hr1 := su_one (n := n) (by omega)
  have hf1 : Fit 1 65536 ⟨[suX n 1 0], 1, 0⟩ := by
    have h := (fit_no 0 65536).apply (now := 5) hc1 (most := 900) (by decide)
    rw [show noMs = (⟨[], 0, 0⟩ : Ms) from rfl, hr1] at h; exact h
  obtain ⟨m, hm⟩ : ∃ m, (if down then n - d else (n + d) % 18446744073709551616) = m := ⟨_, rfl⟩
  have hml : m < 18446744073709551616 := by rw [← hm]; split <;> omega
  have hr2 := su_two (n := n) (d := d) (m := m) (dn := down) (by omega) hml hm
  have hf2 : Fit 2 65536 ⟨[suX m 2 0], 2, 0⟩ := by
    have h := hf1.apply (now := 5) (cmat_ok kN down hd) (most := 900) (by decide)
    rw [hr2] at h; exact h
  have hr3 : apply ⟨[suX m 2 0], 2, 0⟩ 5 (cGet kN) 900 = (⟨[suX m 2 5], 2, 0⟩, An.is 1 (suX m 2 5)) := get_live (x := suX m 2 0) (get_fine kN_fine (by decide) (by decide)) rfl (by rfl) rfl rfl
  have key : ∀ dn : Bool, down = dn → ∀ x : Int, IntKind.u64.wrap x = x % 18446744073709551616 := fun _ _ x => by
    show (x % ((2 ^ 64 : Nat) : Int) : Int) = _
    rfl
  have hks : kX.size = 1 := rfl
  have hxs : ((⟨#[120]⟩ : ByteArray) ++ v).size = 1 + v.size := by rw [ByteArray.size_append]; rfl
  have short : ¬ (800 : Int) < (v.size : Nat) → decide ((800 : Int) < (v.size : Nat)) = false ∧ 1 + v.size ≤ 9223372036854775807 ∧ (cSto kX (⟨#[120]⟩ ++ v) 0 0 (-1)).Ok ∧ apply ⟨[], 0, 0⟩ 5 (cSto kX (⟨#[120]⟩ ++ v) 0 0 (-1)) 900 = (⟨[xvX v], 1, 0⟩, An.is 2 (xvX v)) ∧ Fit 1 65536 ⟨[xvX v], 1, 0⟩ := fun h => by
    have hok : (cSto kX (⟨#[120]⟩ ++ v) 0 0 (-1)).Ok := csto_ok (by decide) (by decide) (by decide) (by decide) (by decide)
    have hf : fine 5 (cSto kX (⟨#[120]⟩ ++ v) 0 0 (-1)) = true := kfine _ _ (by
      unfold may farM cSto
      simp [kX_fine, hxs]
      omega) (by decide) (by decide)
    have hr : apply ⟨[], 0, 0⟩ 5 (cSto kX (⟨#[120]⟩ ++ v) 0 0 (-1)) 900 = (⟨[xvX v], 1, 0⟩, An.is 2 (xvX v)) := sto_new hf (by rw [hxs, hks]; omega)
    refine ⟨decide_eq_false h, by omega, hok, hr, ?_⟩
    have h := (fit_no 0 65536).apply (now := 5) hok (most := 900) (by decide)
    rw [show noMs = (⟨[], 0, 0⟩ : Ms) from rfl, hr] at h; exact h
  cases down
  · have hw : IntKind.u64.wrap ((n : Int) + (d : Int)) = (m : Int) := by
      rw [key false rfl, ← hm]
      simp only [Bool.false_eq_true, if_false]
      omega
    by_cases h : (800 : Int) < (v.size : Nat)
    · exact sums_up_long hv hc1 hd hw hr1 hf1 hr2 hf2 hr3 h
    · obtain ⟨a1, a2, a3, a4, a5⟩ := short h
      exact sums_up hv hc1 hd hw hr1 hf1 hr2 hf2 hr3 a1 a2 a3 a4 a5 su_bad
  · have hw : IntKind.u64.wrap ((n : Int) - min (n : Int) (d : Int)) = (m : Int) := by
      rw [key true rfl, ← hm]
      simp only [if_true]
      omega
    by_cases h : (800 : Int) < (v.size : Nat)
    · exact sums_dn_long hv hc1 hd hw hr1 hf1 hr2 hf2 hr3 h
    · obtain ⟨a1, a2, a3, a4, a5⟩ := short h
      exact sums_dn hv hc1 hd hw hr1 hf1 hr2 hf2 hr3 a1 a2 a3 a4 a5 su_bad
end Go.Proofs.YtkaaebjifkbclaaDoor.Md

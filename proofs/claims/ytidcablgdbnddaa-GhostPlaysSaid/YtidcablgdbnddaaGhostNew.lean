/-
  The contract of New. No conditions.
-/
import Derived.Test.YtidcablgdbnddaaGhostAll
namespace Go.Proofs.Ytidcablgdbnddaa
open Go Go.RowKit Go.Lib

/-- What New leaves. -/
theorem new_gm {P M : Nat} {mo : Int} {w : World} {t : TypeId} (hP : Blk w P t [.int .i64 mo, .int .u64 0, .pointer (some ⟨P, 1, none⟩), .pointer (some ⟨P, 1, none⟩), .map (some M)]) (hM : PM w M 0 (fun _ => none)) (q : P ≠ M) : GM P M mo.toNat [] w :=
  ⟨List.nodup_nil, fun x hx => (by cases hx), by simp, ⟨mo, hP.cell (i := 0) rfl, rfl⟩, hP.cell (i := 4) rfl, ⟨hP.cell (i := 3) rfl, hP.cell (i := 2) rfl, trivial⟩, fun x hx => (by cases hx), hM, List.nodup_nil, q, fun x hx => (by cases hx), ⟨_, _, hP⟩, fun x hx => (by cases hx)⟩
set_option maxRecDepth 100000 in
set_option maxHeartbeats 1000000 in
theorem new_any (mo : Int) (w : World) : Calls Try.prog 8 #[.int .i64 mo] w fun e w' => ∃ P M, e = .returned (.pointer (some ⟨P, 0, none⟩)) ∧ GM P M mo.toNat [] w' ∧ Below w.heap.size w w' ∧ w.heap.size ≤ P ∧ w.heap.size ≤ M := by
  have hmm := @run_makeMap Try.prog
  have hF : Hid (∀ w3, ((w.alloc (.map #[] 0)).alloc (.cells #[.int .i64 mo, .int .u64 0, .pointer none, .pointer none, .map (some w.heap.size)] 50)) = w3 → w3.cell? ⟨w.heap.size + 1, 2, none⟩ = some (.pointer none) ∧ (w3.setCell ⟨w.heap.size + 1, 2, none⟩ (.pointer (some ⟨w.heap.size + 1, 1, none⟩))).cell? ⟨w.heap.size + 1, 3, none⟩ = some (.pointer none) ∧ w3.frozen? ⟨w.heap.size + 1, 2, none⟩ = false ∧ w3.frozen? ⟨w.heap.size + 1, 3, none⟩ = false ∧
      Hid (∀ w4, ((w3.setCell ⟨w.heap.size + 1, 2, none⟩ (.pointer (some ⟨w.heap.size + 1, 1, none⟩))).setCell ⟨w.heap.size + 1, 3, none⟩ (.pointer (some ⟨w.heap.size + 1, 1, none⟩))).drew = w4 → GM (w.heap.size + 1) w.heap.size mo.toNat [] w4 ∧ Below w.heap.size w w4)) := hid (by
    have hM := PM.new w
    have hz1 : (w.alloc (.map #[] 0)).heap.size = w.heap.size + 1 := by simp
    have hB := Blk.new (w.alloc (.map #[] 0)) #[.int .i64 mo, .int .u64 0, .pointer none, .pointer none, .map (some w.heap.size)] 50
    rw [hz1] at hB
    have hb : Below w.heap.size w ((w.alloc (.map #[] 0)).alloc (.cells #[.int .i64 mo, .int .u64 0, .pointer none, .pointer none, .map (some w.heap.size)] 50)) := ((Below.refl _ _).alloc (Nat.le_refl _) _).alloc (by omega) _
    replace hM : PM ((w.alloc (.map #[] 0)).alloc (.cells #[.int .i64 mo, .int .u64 0, .pointer none, .pointer none, .map (some w.heap.size)] 50)) w.heap.size 0 (fun _ => none) := hM.keep (Below.heap_alloc _ _ _ (by omega))
    rintro w3 rfl
    refine ⟨hB.cell (i := 2) rfl, setc_other (hB.cell (i := 3) rfl) (fun e => by have := congrArg Addr.off e; simp at this), hB.frozen 2, hB.frozen 3, hid ?_⟩
    rintro w4 rfl
    have hB4 := (hB.set 2 (.pointer (some ⟨w.heap.size + 1, 1, none⟩))).set 3 (.pointer (some ⟨w.heap.size + 1, 1, none⟩))
    have ho : Only (fun b => b = w.heap.size + 1) ((w.alloc (.map #[] 0)).alloc (.cells #[.int .i64 mo, .int .u64 0, .pointer none, .pointer none, .map (some w.heap.size)] 50)) (((((w.alloc (.map #[] 0)).alloc (.cells #[.int .i64 mo, .int .u64 0, .pointer none, .pointer none, .map (some w.heap.size)] 50)).setCell ⟨w.heap.size + 1, 2, none⟩ (.pointer (some ⟨w.heap.size + 1, 1, none⟩))).setCell ⟨w.heap.size + 1, 3, none⟩ (.pointer (some ⟨w.heap.size + 1, 1, none⟩))).drew) := (((Only.refl (fun b => b = w.heap.size + 1) _).setCell (p := ⟨w.heap.size + 1, 2, none⟩) (.inl rfl) _).setCell (p := ⟨w.heap.size + 1, 3, none⟩) (.inl rfl) _).drew
    refine ⟨new_gm hB4.drew (hM.keep (ho.block _ (by simp; omega) (by omega))) (by omega), hb.trans (ho.below (by simp; omega) (fun x hx => by omega))⟩)
  go_enter Try.func8, Try.ntmps8
  go_wp2_with fail
  generalize hw3 : ((w.alloc (.map #[] 0)).alloc (.cells #[.int .i64 mo, .int .u64 0, .pointer none, .pointer none, .map (some w.heap.size)] 50)) = w3
  obtain ⟨d2, d3, f2, f3, HF⟩ := hF.out w3 hw3
  clear hF hw3 hmm
  go_region
  generalize hw4 : ((w3.setCell ⟨w.heap.size + 1, 2, none⟩ (.pointer (some ⟨w.heap.size + 1, 1, none⟩))).setCell ⟨w.heap.size + 1, 3, none⟩ (.pointer (some ⟨w.heap.size + 1, 1, none⟩))).drew = w4
  obtain ⟨hg, hb⟩ := HF.out w4 hw4
  have HG := hid hg
  clear HF hw4 hg d2 d3 f2 f3
  go_wp2_with fail
  go_ret
  exact ⟨_, _, rfl, HG.out, hb, by omega, Nat.le_refl _⟩
end Go.Proofs.Ytidcablgdbnddaa

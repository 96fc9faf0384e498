/-
  The contracts of the document's own Moment, Gone, may. Conditions: numbers are in their types' ranges.
-/
import Derived.Test.YtkaaebjifkbclaaDoorModMem
import Derived.BigQuiet
namespace Go.Proofs.YtkaaebjifkbclaaDoor.Md
open Go Go.RowKit Go.Lib

theorem abelow (w : World) (o : Obj) : Below w.heap.size w (w.alloc o) := (Below.refl _ _).alloc (Nat.le_refl _) o
set_option maxRecDepth 100000 in
theorem ref_moment (now e : Int) (h1 : 1 ≤ now) (h2 : now ≤ 1099511627776) (w : World) : Calls Tryd.prog 27 #[.int .i64 now, .int .i64 e] w fun x w' => x = .returned (.int .i64 (moment now e)) ∧ w = w' := by
  have hc : e = 0 ∨ (e < 0 ∧ e ≠ 0) ∨ (0 < e ∧ ¬ e < 0 ∧ e ≠ 0 ∧ e ≤ 2592000) ∨ (2592000 < e ∧ ¬ e < 0 ∧ e ≠ 0 ∧ ¬ e ≤ 2592000) := by omega
  rcases hc with rfl | ⟨a, b⟩ | ⟨a, b, c, d⟩ | ⟨a, b, c, d⟩
  · go_enter Tryd.func27, Tryd.ntmps27
    go_wp2_with fail
    go_ret
    exact ⟨rfl, rfl⟩
  · have hm : Hid (moment now e = now) := hid (by unfold moment; rw [if_neg b, if_pos a])
    have b' : (e == 0) = false := beq_eq_false_iff_ne.2 b
    go_enter Tryd.func27, Tryd.ntmps27
    go_wp2_with fail
    go_ret
    exact ⟨ret_i64 hm.out.symm, rfl⟩
  · have hm : Hid (moment now e = now + e) := hid (by unfold moment; rw [if_neg c, if_neg b, if_pos d])
    have b' : (e == 0) = false := beq_eq_false_iff_ne.2 c
    obtain ⟨s, hs⟩ : ∃ s, s = now + e := ⟨_, rfl⟩
    have q1 : now + e = s := hs.symm
    have q2 : IntKind.i64.wrap s = s := by rw [IntKind.wrap_i64]; omega
    have HS := hid hs
    clear hs
    go_enter Tryd.func27, Tryd.ntmps27
    go_wp2_with fail
    go_ret
    exact ⟨ret_i64 (by rw [hm.out, HS.out]), rfl⟩
  · have hm : Hid (moment now e = e) := hid (by unfold moment; rw [if_neg c, if_neg b, if_neg d])
    have b' : (e == 0) = false := beq_eq_false_iff_ne.2 c
    go_enter Tryd.func27, Tryd.ntmps27
    go_wp2_with fail
    go_ret
    exact ⟨ret_i64 hm.out.symm, rfl⟩
set_option maxRecDepth 100000 in
theorem ref_gone (x : It) (now : Int) (w : World) : Calls Tryd.prog 36 #[x.v, .int .i64 now] w fun e w' => e = .returned (.bool (gone now x)) ∧ Below w.heap.size w w' := by
  obtain ⟨k, f, v, e, c, l, s, o⟩ := x
  show Calls Tryd.prog 36 #[.agg #[.string k, .int .u32 f, .string v, .int .i64 e, .int .u64 c, .int .i64 l, .bool s, .bool o], .int .i64 now] w fun x w' => x = .returned (.bool (gone now ⟨k, f, v, e, c, l, s, o⟩)) ∧ Below w.heap.size w w'
  have HB := hid (abelow w)
  by_cases h0 : e = 0
  · have hg : Hid (gone now ⟨k, f, v, e, c, l, s, o⟩ = false) := hid (by unfold gone; simp [h0])
    subst h0
    go_enter Tryd.func36, Tryd.ntmps36
    go_wp2_with fail
    go_ret
    exact ⟨ret_bool hg.out.symm, HB.out _⟩
  · have h0' : (e == 0) = false := beq_eq_false_iff_ne.2 h0
    have hg : Hid (gone now ⟨k, f, v, e, c, l, s, o⟩ = decide (e ≤ now)) := hid (by unfold gone; simp [h0])
    go_enter Tryd.func36, Tryd.ntmps36
    go_wp2_with fail
    go_ret
    exact ⟨ret_bool (by rw [hg.out]; simp [h0]), HB.out _⟩
end Go.Proofs.YtkaaebjifkbclaaDoor.Md

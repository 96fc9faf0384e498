/-
  A segmented row of the call's own, beside other blocks of its own. Conditions: the shares are 20 and 40 where the call began.
-/
import Derived.Test.YtenncmjokdacoaaDoorSegStep
import Derived.Test.YtenncmjokdacoaaDoorPolTwo
namespace Go.Proofs.YtenncmjokdacoaaDoor.Sr
open Go Go.RowKit Go.Lib

theorem sa_ob (P : Nat) (s : Sg) : Ob (fun F w => SA P F s w) := ⟨fun h => h.lt, fun h => h.only⟩
structure HA (w0 : World) (P : Nat) (s : Sg) (H : Nat → Prop) (w : World) : Prop where
  has : HasO w0 (fun F w => SA P F s w) H w
  shr : Shr w0
section
variable {w0 : World} {P : Nat} {s : Sg} {H H' : Nat → Prop} {w w' : World}
theorem HA.ok (h : HA w0 P s H w) : s.Ok := by obtain ⟨F, h, _⟩ := h.has.at_; exact h.ok
theorem HA.below (h : HA w0 P s H w) : Below w0.heap.size w0 w := h.has.below
theorem HA.after (h : HA w0 P s H w) (hb : Below w.heap.size w w') : HA w0 P s H w' := ⟨h.has.after hb, h.shr⟩
theorem HA.more (h : HA w0 P s H w) (hb : Below w.heap.size w w') (hH : ∀ x, H' x → H x ∨ (w.heap.size ≤ x ∧ x < w'.heap.size)) : HA w0 P s H' w' := ⟨h.has.more hb hH, h.shr⟩
theorem HA.turn (h : HA w0 P s H w) (ho : Only H w w') (hH : ∀ x, H x → w0.heap.size ≤ x) (hH' : ∀ x, H' x → (H x ∨ w.heap.size ≤ x) ∧ x < w'.heap.size) : HA w0 P s H' w' := ⟨h.has.turn ho hH hH', h.shr⟩
theorem HA.call {s' : Sg} {f : FuncId} {args : Array Value} {R : Ending → Prop} (h : HA w0 P s H w) (hc : ∀ F, SA P F s w → Calls Tryd.prog f args w fun e w' => R e ∧ ∃ F', SA P F' s' w' ∧ Stp F F' w w') :
    Calls Tryd.prog f args w fun e w' => R e ∧ HA w0 P s' H w' ∧ ∃ D, Only D w w' ∧ ∀ x, H x → ¬ D x :=
  (h.has.call (sa_ob P s') hc).mono fun _ _ ⟨h1, h2, h3⟩ => ⟨h1, ⟨h2, h.shr⟩, h3⟩
theorem HA.shrW (h : HA w0 P s H w) : Shr w := h.shr.below h.below
end
theorem ha_new {w : World} (hv : Shr w) : Calls Tryd.prog 9 #[] w fun e w' => ∃ P, e = .returned (.pointer (some ⟨P, 0, none⟩)) ∧ HA w P Sg.new (fun _ => False) w' :=
  (sa_new w).mono fun _ _ ⟨P, F, he, k1, k2, k3⟩ => ⟨P, he, ⟨HasO.new (sa_ob P _) ⟨F, k1, k2, k3⟩, hv⟩⟩
section
variable {w0 : World} {P : Nat} {s : Sg} {H : Nat → Prop} {w : World}
theorem ha_insert (h : HA w0 P s H w) (z : Int) (hz : i64ok z) : Calls Tryd.prog 11 #[.pointer (some ⟨P, 0, none⟩), .int .i64 z] w fun e w' => e = .returned (.bool (s.insB z)) ∧ HA w0 P (s.ins z) H w' ∧ ∃ D, Only D w w' ∧ ∀ x, H x → ¬ D x :=
  h.call (R := fun e => e = .returned (.bool (s.insB z))) fun _ k => sa_insert k z hz
theorem ha_touch (h : HA w0 P s H w) (z : Int) (hz : i64ok z) : Calls Tryd.prog 13 #[.pointer (some ⟨P, 0, none⟩), .int .i64 z] w fun e w' => e = .returned (.bool (s.has z)) ∧ HA w0 P (s.tch z) H w' ∧ ∃ D, Only D w w' ∧ ∀ x, H x → ¬ D x :=
  h.call (R := fun e => e = .returned (.bool (s.has z))) fun _ k => sa_touch k z hz
theorem ha_remove (h : HA w0 P s H w) (z : Int) (hz : i64ok z) : Calls Tryd.prog 15 #[.pointer (some ⟨P, 0, none⟩), .int .i64 z] w fun e w' => e = .returned (.bool (s.has z)) ∧ HA w0 P (s.rem z) H w' ∧ ∃ D, Only D w w' ∧ ∀ x, H x → ¬ D x :=
  h.call (R := fun e => e = .returned (.bool (s.has z))) fun _ k => sa_remove k z hz
theorem ha_step (h : HA w0 P s H w) : Calls Tryd.prog 17 #[.pointer (some ⟨P, 0, none⟩)] w fun e w' => e = .returned (.bool s.stpB) ∧ HA w0 P s.stp H w' ∧ ∃ D, Only D w w' ∧ ∀ x, H x → ¬ D x :=
  h.call (R := fun e => e = .returned (.bool s.stpB)) fun _ k => sa_step k h.shrW
theorem ha_victim (h : HA w0 P s H w) : Calls Tryd.prog 19 #[.pointer (some ⟨P, 0, none⟩)] w fun e w' => e = .returned (.int .i64 s.vic) ∧ w = w' := h.has.look fun _ k => sa_victim k
theorem ha_active (h : HA w0 P s H w) (z : Int) (hz : i64ok z) : Calls Tryd.prog 21 #[.pointer (some ⟨P, 0, none⟩), .int .i64 z] w fun e w' => e = .returned (.bool (s.a z)) ∧ HA w0 P s H w' ∧ Below w.heap.size w w' :=
  (h.has.look fun _ k => sa_active k z hz).mono fun _ _ ⟨h1, h2⟩ => ⟨h1, h.after h2, h2⟩
theorem ha_all (h : HA w0 P s H w) (r : Int) : Calls Tryd.prog 23 #[.pointer (some ⟨P, 0, none⟩), .int .i64 r] w fun e w' => ∃ v, e = .returned v ∧ w'.ownsRow w.heap.size 3 1 v (rowAt s.L r).length (ic (rowAt s.L r)) ∧ Below w.heap.size w w' := h.has.look fun _ k => sa_all k r
end

/-! What the statements ask first -/
def shI : Nat → Sg
  | 0 => Sg.new
  | k + 1 => (shI k).ins ((k : Int) + 1)
def shS : Nat → Sg
  | 0 => shI 5
  | k + 1 => (shS k).stp
theorem sh_steps : ∀ k < 4, (shS k).stpB = true := by decide
theorem sh_stop : (shS 4).stpB = false := by decide
theorem sh_vic : (shS 4).stp.vic = 1 := by decide
theorem sh_last : ((shS 4).stp.tch 1).stpB = true ∧ ((shS 4).stp.tch 1).stp.vic = 2 ∧ ((shS 4).stp.tch 1).stp.a 1 = false := by decide
theorem small_i64 {z : Int} (h0 : -1000000 ≤ z) (h1 : z ≤ 1000000) : i64ok z := by unfold i64ok; omega
set_option maxRecDepth 100000 in
set_option maxHeartbeats 2000000 in
theorem shown_any {w : World} (hv : Shr w) : Calls Tryd.prog 8 #[] w fun e w' => e = .returned (.bool true) ∧ Below w.heap.size w w' := by
  have hnew := ha_new hv
  clear hv
  go_enter Tryd.func8, Tryd.ntmps8
  go_wp2_with fail
  refine hnew.mono ?_
  rintro e w1 ⟨P, rfl, h1⟩
  have h1 := hid h1
  clear hnew
  go_wp2_with fail
  go_loopw [2] (fun p wr => ∃ k : Nat, p = .int .i64 ((k : Int) + 1) ∧ k ≤ 5 ∧ Hid (HA w P (shI k) (fun _ => False) wr)) (fun p _ => 6 - (RowKit.intOf p).toNat)
  case atStart => exact ⟨0, rfl, Nat.zero_le _, h1⟩
  case round =>
    obtain ⟨k, rfl, hk, hT⟩ := hrel
    clear h1
    by_cases hlt : k < 5
    · have hi := ha_insert hT.out ((k : Int) + 1) (small_i64 (by omega) (by omega))
      have k1 : (k : Int) + 1 ≤ 5 := by omega
      generalize (shI k).insB ((k : Int) + 1) = A at *
      clear hT
      go_wp2_with fail
      refine hi.mono ?_
      rintro e w2 ⟨rfl, h2, -⟩
      have h2 := hid (show HA w P (shI (k + 1)) _ _ from h2)
      clear hi
      go_wp2_with fail
      go_roundw
      case rel => exact ⟨k + 1, by go_num, by omega, h2⟩
      case measure => simp [RowKit.intOf] <;> omega
    · obtain rfl : k = 5 := by omega
      go_wp2_with fail
      go_loopw [3] (fun p wr => ∃ k : Nat, p = .int .i64 (k : Int) ∧ k ≤ 4 ∧ Hid (HA w P (shS k) (fun _ => False) wr)) (fun p _ => 6 - (RowKit.intOf p).toNat)
      case atStart => exact ⟨0, rfl, Nat.zero_le _, hT⟩
      case round =>
        obtain ⟨k, rfl, hk, hU⟩ := hrel
        clear hT
        have hs := ha_step hU.out
        have k9 : (k : Int) < 9 := by omega
        clear hU
        by_cases hlt : k < 4
        · rw [sh_steps k hlt] at hs
          go_wp2_with fail
          refine hs.mono ?_
          rintro e w2 ⟨rfl, h2, -⟩
          have h2 := hid (show HA w P (shS (k + 1)) _ _ from h2)
          clear hs
          go_wp2_with fail
          go_roundw
          case rel => exact ⟨_, _, _, _, _, _, _, _, _, ⟨k + 1, by go_num, by omega, h2⟩, rfl⟩
          case measure => simp [RowKit.intOf] <;> omega
        · obtain rfl : k = 4 := by omega
          rw [sh_stop] at hs
          clear hlt hk k9
          go_wp2_with fail
          refine hs.mono ?_
          rintro e w2 ⟨rfl, h2, -⟩
          have hvc := ha_victim h2
          rw [sh_vic] at hvc
          have hto := ha_touch h2 1 (small_i64 (by decide) (by decide))
          clear h2 hs
          go_wp2_with fail
          refine hvc.mono ?_
          rintro e w3 ⟨rfl, rfl⟩
          clear hvc
          generalize (shS 4).stp.has 1 = A at *
          go_wp2_with fail
          refine hto.mono ?_
          rintro e w3 ⟨rfl, h3, -⟩
          have hs := ha_step h3
          rw [sh_last.1] at hs
          clear h3 hto
          go_wp2_with fail
          refine hs.mono ?_
          rintro e w4 ⟨rfl, h4, -⟩
          have hvc := ha_victim h4
          rw [sh_last.2.1] at hvc
          have hac := ha_active h4 1 (small_i64 (by decide) (by decide))
          rw [sh_last.2.2] at hac
          clear h4 hs
          go_wp2_with fail
          refine hvc.mono ?_
          rintro e w5 ⟨rfl, rfl⟩
          clear hvc
          go_wp2_with fail
          refine hac.mono ?_
          rintro e w5 ⟨rfl, h5, -⟩
          have hb := hid h5.below
          clear h5 hac
          go_wp2_with fail
          go_ret
          exact ⟨rfl, hb.out⟩
end Go.Proofs.YtenncmjokdacoaaDoor.Sr

/-
  The program's policy and the document's side by side; bounds of a script. No conditions but those of the calls.
-/
import Derived.Test.YtkhmgigllcgpnaaThTells
namespace Go.Proofs.Ytkhmgigllcgpnaa.Th
open Go Go.RowKit Go.Lib

set_option maxRecDepth 100000 in
theorem same_u {a1 a2 : Option Addr} {c1 c2 n b1 b2 : Nat} {xs : List Int} (hn : n ≤ 4194304) {w : World} (h1 : w.ownsRow b1 29 1 (.slice a1 n c1) n (Gh.uc xs)) (h2 : w.ownsRow b2 29 1 (.slice a2 n c2) n (Gh.uc xs)) :
    Calls Try.prog 13 #[.slice a1 n c1, .slice a2 n c2] w fun e w' => e = .returned (.bool true) ∧ Below w.heap.size w w' := by
  have hl : xs.length = n := by have := h1.1; rw [show (Gh.uc xs).length = xs.length by simp [Gh.uc]] at this; omega
  have H1 := hid h1
  have H2 := hid h2
  have HL := hid hl
  clear h1 h2 hl
  go_enter Try.func13, Try.ntmps13
  go_wp2_with fail
  go_loopw [5] (fun p wr => ∃ i : Nat, p = .int .i64 i ∧ i ≤ n ∧ Hid (Below w.heap.size w wr)) (fun p _ => n - (RowKit.intOf p).toNat)
  case atStart => exact ⟨0, rfl, Nat.zero_le _, hid (Below.refl _ _)⟩
  case round =>
    obtain ⟨i, rfl, hi, hB⟩ := hrel
    by_cases hlt : i < n
    · obtain ⟨z, hz⟩ : ∃ z, xs[i]? = some z := ⟨_, List.getElem?_eq_getElem (by rw [HL.out]; exact hlt)⟩
      obtain ⟨g1, cap1, hv1, _, _, l1⟩ := row_pos H1.out (by omega)
      obtain ⟨g2, cap2, hv2, _, _, l2⟩ := row_pos H2.out (by omega)
      cases hv1
      cases hv2
      have x1 := H1.out.cellAt i (by omega)
      have x2 := H2.out.cellAt i (by omega)
      rw [Gh.uc_at hz] at x1 x2
      have e1 := (hB.out.cell (p := ⟨g1, i, none⟩) l1).trans x1
      have e2 := (hB.out.cell (p := ⟨g2, i, none⟩) l2).trans x2
      have i1 : 0 ≤ (i : Int) := by omega
      have i2 : (i : Int) < (n : Int) := by omega
      clear hz x1 x2
      go_wp2_with fail
      go_quiet (fail)
      go_wp2_with fail
      go_roundw
      case rel => exact ⟨i + 1, by go_num, by omega, hid (drewn_below hB.out _)⟩
      case measure => simp [RowKit.intOf] <;> omega
    · obtain rfl : i = n := by omega
      go_wp2_with fail
      go_ret
      exact ⟨rfl, hB.out⟩

/-! Bounds -/
/-- i steps behind the beginning. -/
def Bd (i : Nat) (s : Th) : Prop := s.g.length ≤ i
theorem Bd.new : Bd 0 Th.new := Nat.le_refl _
theorem Bd.up {i : Nat} {s : Th} (h : Bd i s) : Bd (i + 1) s := Nat.le_succ_of_le h
theorem addL_len (m : Nat) (l : List Int) (z : Int) : (Gh.addL m l z).length ≤ l.length + 1 := by
  have h1 := Gh.rm_len l z
  unfold Gh.addL Gh.cutL
  rw [List.length_drop, List.length_append, List.length_singleton]; omega
theorem Bd.ins {i : Nat} {s : Th} (h : Bd i s) (z x : Int) : Bd (i + 1) (s.ins z x) := by
  show (s.ins z x).g.length ≤ _
  unfold Th.ins
  split
  · exact Nat.le_trans (Gh.rm_len _ _) (Nat.le_succ_of_le h)
  · exact Nat.le_succ_of_le h
theorem Bd.tch {i : Nat} {s : Th} (h : Bd i s) (z : Int) : Bd (i + 1) (s.tch z) := by
  show (s.tch z).g.length ≤ _
  unfold Th.tch
  split <;> exact Nat.le_succ_of_le h
theorem rem_g (s : Th) (z : Int) : (s.rem z).g = s.g := by unfold Th.rem; split <;> rfl
theorem Bd.rem {i : Nat} {s : Th} (h : Bd i s) (z : Int) : Bd (i + 1) (s.rem z) := by
  show (s.rem z).g.length ≤ _
  rw [rem_g]; exact Nat.le_succ_of_le h
theorem Bd.evict {i : Nat} {s : Th} (h : Bd i s) (z : Int) : Bd (i + 1) (s.evict z) := by
  show ((s.out z).rem z).g.length ≤ _
  rw [rem_g]
  unfold Th.out
  split
  · exact Nat.le_trans (addL_len _ _ _) (Nat.succ_le_succ h)
  · exact Nat.le_succ_of_le h
theorem Bd.cap {i : Nat} {s : Th} (h : Bd i s) (n : Int) : Bd (i + 1) (s.cap n) := by
  show (Gh.cutL n.toNat s.g).length ≤ _
  unfold Gh.cutL; rw [List.length_drop]; have : s.g.length ≤ i := h; omega
theorem Bd.vic {i : Nat} {s : Th} (h : Bd i s) (ok : s.Ok) : Bd i s.vic.2 := by
  show s.vic.2.g.length ≤ _
  rw [ok.looked.g]; exact h
theorem vic_i64 {s : Th} (h : s.Ok) : i64ok s.vic.1 := by
  have ht := tells h
  rcases Nat.eq_zero_or_pos s.tot with e | e
  · rw [ht.2.2.2.1 e]; exact small_i64 (by decide) (by decide)
  · have := h.looked.ok.good.rng _ (ht.2.2.2.2 e).1
    unfold i64ok; omega

/-! Side by side -/
theorem qt_ob (Q : Nat) (s : Th) : Ob (fun G w => QT Q G s w) := ⟨fun h => h.lt, fun h => h.only⟩
abbrev T2 (w0 : World) (P Q : Nat) (s u : Th) (H : Nat → Prop) (w : World) : Prop := TwoO w0 (fun F w => TP P F s w) (fun G w => QT Q G u w) H w
/-- What the step's box holds. -/
def Bx (X : Nat) (z x : Int) (w : World) : Prop := w.cell? ⟨X, 1, none⟩ = some (.int .i64 z) ∧ w.cell? ⟨X, 2, none⟩ = some (.int .u64 x)
theorem Bx.only {X : Nat} {z x : Int} {w w' : World} {D : Nat → Prop} (h : Bx X z x w) (ho : Only D w w') (hd : ¬ D X) : Bx X z x w' :=
  ⟨(ho.cell (p := ⟨X, 1, none⟩) (cell_lt h.1) hd).trans h.1, (ho.cell (p := ⟨X, 2, none⟩) (cell_lt h.2) hd).trans h.2⟩
theorem Bx.below {X : Nat} {z x : Int} {w w' : World} (h : Bx X z x w) (hb : Below w.heap.size w w') : Bx X z x w' := h.only (D := fun _ => False) (Below.only hb) id
section
variable {w0 : World} {P Q X : Nat} {s u s' u' : Th} {w : World} {z x : Int} {f : FuncId} {args : Array Value} {R : Ending → Prop}
theorem t2_left (h : T2 w0 P Q s u (fun x => x = X) w) (hb : w.cell? ⟨X, 1, none⟩ = some (.int .i64 z) ∧ w.cell? ⟨X, 2, none⟩ = some (.int .u64 x)) (hc : ∀ F, TP P F s w → Calls Try.prog f args w fun e w' => R e ∧ ∃ F', TP P F' s' w' ∧ Stp F F' w w') :
    Calls Try.prog f args w fun e w' => R e ∧ Hid (T2 w0 P Q s' u (fun x => x = X) w') ∧ (w'.cell? ⟨X, 1, none⟩ = some (.int .i64 z) ∧ w'.cell? ⟨X, 2, none⟩ = some (.int .u64 x)) :=
  (TwoO.left h (tp_ob P s') hc).mono fun _ _ ⟨he, k, _, d1, d2⟩ => ⟨he, hid k, Bx.only hb d1 (d2 X rfl)⟩
theorem t2_right (h : T2 w0 P Q s u (fun x => x = X) w) (hb : w.cell? ⟨X, 1, none⟩ = some (.int .i64 z) ∧ w.cell? ⟨X, 2, none⟩ = some (.int .u64 x)) (hc : ∀ G, QT Q G u w → Calls Try.prog f args w fun e w' => R e ∧ ∃ G', QT Q G' u' w' ∧ Stp G G' w w') :
    Calls Try.prog f args w fun e w' => R e ∧ Hid (T2 w0 P Q s u' (fun x => x = X) w') ∧ (w'.cell? ⟨X, 1, none⟩ = some (.int .i64 z) ∧ w'.cell? ⟨X, 2, none⟩ = some (.int .u64 x)) :=
  (TwoO.right h (qt_ob Q u') hc).mono fun _ _ ⟨he, k, _, d1, d2⟩ => ⟨he, hid k, Bx.only hb d1 (d2 X rfl)⟩
theorem t2_lookL (h : T2 w0 P Q s u (fun x => x = X) w) (hb : w.cell? ⟨X, 1, none⟩ = some (.int .i64 z) ∧ w.cell? ⟨X, 2, none⟩ = some (.int .u64 x)) (hc : ∀ F, TP P F s w → Calls Try.prog f args w fun e w' => R e ∧ Below w.heap.size w w') :
    Calls Try.prog f args w fun e w' => R e ∧ Hid (T2 w0 P Q s u (fun x => x = X) w') ∧ (w'.cell? ⟨X, 1, none⟩ = some (.int .i64 z) ∧ w'.cell? ⟨X, 2, none⟩ = some (.int .u64 x)) :=
  (TwoO.lookL h hc).mono fun _ _ ⟨he, k⟩ => ⟨he, hid (TwoO.after h k), Bx.below hb k⟩
theorem t2_lookR (h : T2 w0 P Q s u (fun x => x = X) w) (hb : w.cell? ⟨X, 1, none⟩ = some (.int .i64 z) ∧ w.cell? ⟨X, 2, none⟩ = some (.int .u64 x)) (hc : ∀ G, QT Q G u w → Calls Try.prog f args w fun e w' => R e ∧ w = w') :
    Calls Try.prog f args w fun e w' => R e ∧ Hid (T2 w0 P Q s u (fun x => x = X) w') ∧ (w'.cell? ⟨X, 1, none⟩ = some (.int .i64 z) ∧ w'.cell? ⟨X, 2, none⟩ = some (.int .u64 x)) :=
  (TwoO.lookR h hc).mono fun _ _ ⟨he, k⟩ => ⟨he, hid (k ▸ h), k ▸ hb⟩
end
end Go.Proofs.Ytkhmgigllcgpnaa.Th

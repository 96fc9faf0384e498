/-
  The program's policy and the document's side by side; what the document's Ghosts and Same answer; bounds of a script. No conditions but those of the calls.
-/
import Derived.Test.YtklmgmkeaipppaaArcScan
namespace Go.Proofs.Ytklmgmkeaipppaa.Ac
open Go Go.RowKit Go.Lib

set_option maxRecDepth 100000 in
theorem same_u {a1 a2 : Option Addr} {c1 c2 n b1 b2 : Nat} {xs : List Int} (hn : n ≤ 4194304) {w : World} (h1 : w.ownsRow b1 29 1 (.slice a1 n c1) n (Gh.uc xs)) (h2 : w.ownsRow b2 29 1 (.slice a2 n c2) n (Gh.uc xs)) :
    Calls Try.prog 17 #[.slice a1 n c1, .slice a2 n c2] w fun e w' => e = .returned (.bool true) ∧ Below w.heap.size w w' := by
  have hl : xs.length = n := by have := h1.1; rw [show (Gh.uc xs).length = xs.length by simp [Gh.uc]] at this; omega
  have H1 := hid h1
  have H2 := hid h2
  have HL := hid hl
  clear h1 h2 hl
  go_enter Try.func17, Try.ntmps17
  go_wp2_with fail
  go_loopw [5] (fun p wr => ∃ i : Nat, p = .int .i64 i ∧ i ≤ n ∧ Hid (Below w.heap.size w wr)) (fun p _ => n - (RowKit.intOf p).toNat)
  case atStart => exact ⟨0, rfl, Nat.zero_le _, hid (Below.refl _ _)⟩
  case round =>
    obtain ⟨i, rfl, hi, hB⟩ := hrel
    by_cases hlt : i < n
    · obtain ⟨z, hz⟩ : ∃ z, xs[i]? = some z := ⟨_, List.getElem?_eq_getElem (by rw [HL.out]; exact hlt)⟩
      obtain ⟨g1, cap1, hv1, _, _, l1⟩ := row_pos H1.out (by omega)
      obtain ⟨g2, cap2, hv2, _, _, l2⟩ := row_pos H2.out (by omega)
      cases hv1
      cases hv2
      have x1 := H1.out.cellAt i (by omega)
      have x2 := H2.out.cellAt i (by omega)
      rw [Gh.uc_at hz] at x1 x2
      have e1 := (hB.out.cell (p := ⟨g1, i, none⟩) l1).trans x1
      have e2 := (hB.out.cell (p := ⟨g2, i, none⟩) l2).trans x2
      have i1 : 0 ≤ (i : Int) := by omega
      have i2 : (i : Int) < (n : Int) := by omega
      clear hz x1 x2
      go_wp2_with fail
      go_quiet (fail)
      go_wp2_with fail
      go_roundw
      case rel => exact ⟨i + 1, by go_num, by omega, hid (drewn_below hB.out _)⟩
      case measure => simp [RowKit.intOf] <;> omega
    · obtain rfl : i = n := by omega
      go_wp2_with fail
      go_ret
      exact ⟨rfl, hB.out⟩

set_option maxRecDepth 100000 in
theorem qr_ghosts {P : Nat} {G : Nat → Prop} {s : Ar} {w : World} (h : QR P G s w) (r : Int) :
    Calls Try.prog 18 #[.pointer (some ⟨P, 0, none⟩), .int .i64 r] w fun e w' => ∃ v, e = .returned v ∧ w.ownsRow 0 29 1 v (s.gh r).length (Gh.uc (s.gh r)) ∧ w = w' := by
  obtain ⟨ok, Q, Q1, Q2, v, hs, F, hq, hsay, hG⟩ := h
  have c1 := hq.head.cell (i := 1) rfl
  have c2 := hq.head.cell (i := 2) rfl
  obtain ⟨a1, d1, x1, o1⟩ := hq.g1.row
  obtain ⟨a2, d2, x2, o2⟩ := hq.g2.row
  have O1 := hid o1
  have O2 := hid o2
  clear hq hsay hG ok o1 o2
  generalize s.b1.length = n1 at *
  generalize s.b2.length = n2 at *
  by_cases r0 : r = 0
  · subst r0
    have HO : Hid (w.ownsRow 0 29 1 (.slice a1 n1 d1) (s.gh 0).length (Gh.uc (s.gh 0))) := hid (by
      have := O1.out
      have hl : s.b1.length = n1 := by have := this.1; rw [show (Gh.uc s.b1).length = s.b1.length by simp [Gh.uc]] at this; omega
      show w.ownsRow 0 _ 1 _ s.b1.length (Gh.uc s.b1)
      rw [hl]; exact this)
    go_enter Try.func18, Try.ntmps18
    go_wp2_with fail
    go_ret
    exact ⟨_, rfl, HO.out, rfl⟩
  · have n0 : (r == 0) = false := beq_eq_false_iff_ne.2 r0
    by_cases r1 : r = 1
    · subst r1
      have HO : Hid (w.ownsRow 0 29 1 (.slice a2 n2 d2) (s.gh 1).length (Gh.uc (s.gh 1))) := hid (by
        have := O2.out
        have hl : s.b2.length = n2 := by have := this.1; rw [show (Gh.uc s.b2).length = s.b2.length by simp [Gh.uc]] at this; omega
        show w.ownsRow 0 _ 1 _ s.b2.length (Gh.uc s.b2)
        rw [hl]; exact this)
      clear r0 n0
      go_enter Try.func18, Try.ntmps18
      go_wp2_with fail
      go_ret
      exact ⟨_, rfl, HO.out, rfl⟩
    · have n1' : (r == 1) = false := beq_eq_false_iff_ne.2 r1
      have HO : Hid (w.ownsRow 0 29 1 (.slice none 0 0) (s.gh r).length (Gh.uc (s.gh r))) := hid (by
        have e : s.gh r = [] := by unfold Ar.gh; rw [if_neg r0, if_neg r1]
        rw [e]; exact World.ownsRow_nil _ _ _ _)
      clear r0 r1
      go_enter Try.func18, Try.ntmps18
      go_wp2_with fail
      go_ret
      exact ⟨_, rfl, HO.out, rfl⟩

/-! Bounds -/
/-- i steps behind the beginning. -/
structure Bd (i : Nat) (s : Ar) : Prop where
  b1 : s.b1.length ≤ i
  b2 : s.b2.length ≤ i
  p : s.p ≤ 300 * i
theorem Bd.new : Bd 0 Ar.new := ⟨Nat.le_refl _, Nat.le_refl _, Nat.le_refl _⟩
theorem Bd.up {i : Nat} {s : Ar} (h : Bd i s) : Bd (i + 1) s := ⟨Nat.le_succ_of_le h.b1, Nat.le_succ_of_le h.b2, by have := h.p; omega⟩
theorem Bd.ins {i : Nat} {s : Ar} (h : Bd i s) (hi : i ≤ 200) (z x : Int) : Bd (i + 1) (s.ins z x) := by
  obtain ⟨k1, k2⟩ := ins_gl s z x
  refine ⟨Nat.le_trans k1 h.up.b1, Nat.le_trans k2 h.up.b2, ?_⟩
  have hp := h.p
  have hb2 := h.b2
  have hd : s.b2.length / s.b1.length ≤ s.b2.length := Nat.div_le_self _ _
  unfold Ar.ins
  split
  · split
    · show min s.m (s.p + max 1 (s.b2.length / s.b1.length)) ≤ _; omega
    · split
      · show s.p - _ ≤ _; omega
      · show s.p ≤ _; omega
  · show s.p ≤ _; omega
theorem Bd.tch {i : Nat} {s : Ar} (h : Bd i s) (z : Int) : Bd (i + 1) (s.tch z) := by
  have e : (s.tch z).b1 = s.b1 ∧ (s.tch z).b2 = s.b2 ∧ (s.tch z).p = s.p := by unfold Ar.tch; split <;> exact ⟨rfl, rfl, rfl⟩
  exact ⟨by rw [e.1]; exact h.up.b1, by rw [e.2.1]; exact h.up.b2, by rw [e.2.2]; exact h.up.p⟩
theorem Bd.rem {i : Nat} {s : Ar} (h : Bd i s) (z : Int) : Bd (i + 1) (s.rem z) := ⟨h.up.b1, h.up.b2, h.up.p⟩
theorem Bd.evict {i : Nat} {s : Ar} (h : Bd i s) (z : Int) : Bd (i + 1) (s.evict z) :=
  ⟨Nat.le_trans (evict_gl s z).1 (by have := h.b1; omega), Nat.le_trans (evict_gl s z).2 (by have := h.b2; omega), by rw [evict_p]; exact h.up.p⟩
theorem Bd.cap {i : Nat} {s : Ar} (h : Bd i s) (n : Int) : Bd (i + 1) (s.cap n) := by
  refine ⟨?_, ?_, ?_⟩
  · show (Gh.cutL n.toNat s.b1).length ≤ _
    unfold Gh.cutL; rw [List.length_drop]; have := h.b1; omega
  · show (Gh.cutL n.toNat s.b2).length ≤ _
    unfold Gh.cutL; rw [List.length_drop]; have := h.b2; omega
  · show min s.p n.toNat ≤ _; have := h.p; omega
theorem alast_i64 {s : Ar} (h : s.Ok) (r : Int) : i64ok (lastOf (rowAt s.L r)) := by
  by_cases e : rowAt s.L r = []
  · rw [e]; unfold i64ok lastOf; simp
  · have hm := alast_mem e
    have hf : lastOf (rowAt s.L r) ∈ s.L.flatten := by
      generalize lastOf (rowAt s.L r) = z at hm ⊢
      unfold rowAt at hm
      by_cases h0 : 0 ≤ r
      · rw [if_pos h0] at hm
        cases e : s.L[r.toNat]? with
        | none => rw [e] at hm; simp at hm
        | some l' => rw [e] at hm; exact List.mem_flatten.2 ⟨l', List.mem_of_getElem? e, hm⟩
      · rw [if_neg h0] at hm; simp at hm
    have := h.good.rng _ hf
    unfold i64ok; omega
theorem vic_i64 {s : Ar} (h : s.Ok) (x : Int) : i64ok (s.vic x) := by
  unfold Ar.vic
  split
  · exact alast_i64 h 0
  · exact alast_i64 h 1

/-! Side by side -/
theorem qr_ob (Q : Nat) (s : Ar) : Ob (fun G w => QR Q G s w) := ⟨fun h => h.lt, fun h => h.only⟩
abbrev T2 (w0 : World) (P Q : Nat) (s u : Ar) (H : Nat → Prop) (w : World) : Prop := TwoO w0 (fun F w => AR P F s w) (fun G w => QR Q G u w) H w
/-- What the step's box holds. -/
def Bx (X : Nat) (z x : Int) (w : World) : Prop := w.cell? ⟨X, 1, none⟩ = some (.int .i64 z) ∧ w.cell? ⟨X, 2, none⟩ = some (.int .u64 x)
theorem Bx.only {X : Nat} {z x : Int} {w w' : World} {D : Nat → Prop} (h : Bx X z x w) (ho : Only D w w') (hd : ¬ D X) : Bx X z x w' :=
  ⟨(ho.cell (p := ⟨X, 1, none⟩) (cell_lt h.1) hd).trans h.1, (ho.cell (p := ⟨X, 2, none⟩) (cell_lt h.2) hd).trans h.2⟩
theorem Bx.below {X : Nat} {z x : Int} {w w' : World} (h : Bx X z x w) (hb : Below w.heap.size w w') : Bx X z x w' := h.only (D := fun _ => False) (Below.only hb) id
section
variable {w0 : World} {P Q X : Nat} {s u s' u' : Ar} {w : World} {z x : Int} {f : FuncId} {args : Array Value} {R : Ending → Prop}
theorem t2_left (h : T2 w0 P Q s u (fun x => x = X) w) (hb : w.cell? ⟨X, 1, none⟩ = some (.int .i64 z) ∧ w.cell? ⟨X, 2, none⟩ = some (.int .u64 x)) (hc : ∀ F, AR P F s w → Calls Try.prog f args w fun e w' => R e ∧ ∃ F', AR P F' s' w' ∧ Stp F F' w w') :
    Calls Try.prog f args w fun e w' => R e ∧ Hid (T2 w0 P Q s' u (fun x => x = X) w') ∧ (w'.cell? ⟨X, 1, none⟩ = some (.int .i64 z) ∧ w'.cell? ⟨X, 2, none⟩ = some (.int .u64 x)) :=
  (TwoO.left h (ar_ob P s') hc).mono fun _ _ ⟨he, k, _, d1, d2⟩ => ⟨he, hid k, Bx.only hb d1 (d2 X rfl)⟩
theorem t2_right (h : T2 w0 P Q s u (fun x => x = X) w) (hb : w.cell? ⟨X, 1, none⟩ = some (.int .i64 z) ∧ w.cell? ⟨X, 2, none⟩ = some (.int .u64 x)) (hc : ∀ G, QR Q G u w → Calls Try.prog f args w fun e w' => R e ∧ ∃ G', QR Q G' u' w' ∧ Stp G G' w w') :
    Calls Try.prog f args w fun e w' => R e ∧ Hid (T2 w0 P Q s u' (fun x => x = X) w') ∧ (w'.cell? ⟨X, 1, none⟩ = some (.int .i64 z) ∧ w'.cell? ⟨X, 2, none⟩ = some (.int .u64 x)) :=
  (TwoO.right h (qr_ob Q u') hc).mono fun _ _ ⟨he, k, _, d1, d2⟩ => ⟨he, hid k, Bx.only hb d1 (d2 X rfl)⟩
theorem t2_lookL (h : T2 w0 P Q s u (fun x => x = X) w) (hb : w.cell? ⟨X, 1, none⟩ = some (.int .i64 z) ∧ w.cell? ⟨X, 2, none⟩ = some (.int .u64 x)) (hc : ∀ F, AR P F s w → Calls Try.prog f args w fun e w' => R e ∧ Below w.heap.size w w') :
    Calls Try.prog f args w fun e w' => R e ∧ Hid (T2 w0 P Q s u (fun x => x = X) w') ∧ (w'.cell? ⟨X, 1, none⟩ = some (.int .i64 z) ∧ w'.cell? ⟨X, 2, none⟩ = some (.int .u64 x)) :=
  (TwoO.lookL h hc).mono fun _ _ ⟨he, k⟩ => ⟨he, hid (TwoO.after h k), Bx.below hb k⟩
theorem t2_lookR (h : T2 w0 P Q s u (fun x => x = X) w) (hb : w.cell? ⟨X, 1, none⟩ = some (.int .i64 z) ∧ w.cell? ⟨X, 2, none⟩ = some (.int .u64 x)) (hc : ∀ G, QR Q G u w → Calls Try.prog f args w fun e w' => R e ∧ w = w') :
    Calls Try.prog f args w fun e w' => R e ∧ Hid (T2 w0 P Q s u (fun x => x = X) w') ∧ (w'.cell? ⟨X, 1, none⟩ = some (.int .i64 z) ∧ w'.cell? ⟨X, 2, none⟩ = some (.int .u64 x)) :=
  (TwoO.lookR h hc).mono fun _ _ ⟨he, k⟩ => ⟨he, hid (k ▸ h), k ▸ hb⟩
end
end Go.Proofs.Ytklmgmkeaipppaa.Ac

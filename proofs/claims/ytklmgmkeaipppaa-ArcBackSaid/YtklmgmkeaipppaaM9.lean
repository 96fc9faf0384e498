/-
  A policy of the call's own, beside other blocks of its own. No conditions but those of the calls.
  What the statements of this layer ask first: ten calls answer as they must. No conditions but those of the calls.
-/
import Derived.Test.YtklmgmkeaipppaaM8
namespace Go.Proofs.Ytklmgmkeaipppaa.Ac
open Go Go.RowKit Go.Lib

theorem small_i64 {z : Int} (h0 : -1000000 ≤ z) (h1 : z ≤ 1000000) : i64ok z := by unfold i64ok; omega
theorem small_u64 {z : Int} (h0 : 0 ≤ z) (h1 : z ≤ 1000000) : u64ok z := by unfold u64ok; omega
theorem alloc_below (w : World) (o : Obj) : Below w.heap.size w (w.alloc o) := (Below.refl _ _).alloc (Nat.le_refl _) o
theorem ar_ob (P : Nat) (s : Ar) : Ob (fun F w => AR P F s w) := ⟨fun h => h.lt, fun h => h.only⟩
abbrev AA (w0 : World) (P : Nat) (s : Ar) (H : Nat → Prop) (w : World) : Prop := HasO w0 (fun F w => AR P F s w) H w
section
variable {w0 : World} {P : Nat} {s : Ar} {H : Nat → Prop} {w w' : World}
theorem aa_ok (h : AA w0 P s H w) : s.Ok := by obtain ⟨F, h, _⟩ := h.at_; exact h.ok
theorem aa_new (w : World) : Calls Try.prog 9 #[] w fun e w' => ∃ P, e = .returned (.pointer (some ⟨P, 0, none⟩)) ∧ AA w P Ar.new (fun _ => False) w' :=
  (ar_new w).mono fun _ _ ⟨P, F, he, k1, k2, k3⟩ => ⟨P, he, HasO.new (ar_ob P _) ⟨F, k1, k2, k3⟩⟩
theorem aa_cap (h : AA w0 P s H w) (n : Int) (hn : i64ok n) : Calls Try.prog 19 #[.pointer (some ⟨P, 0, none⟩), .int .i64 n] w fun e w' => e = .returned (.tuple #[]) ∧ AA w0 P (s.cap n) H w' ∧ ∃ D, Only D w w' ∧ ∀ x, H x → ¬ D x :=
  HasO.call (R := fun e => e = .returned (.tuple #[])) h (ar_ob P _) fun _ k => ar_cap k n hn
theorem aa_insert (h : AA w0 P s H w) (z x : Int) (hz : i64ok z) (hx : u64ok x) (hp : (s.p : Int) ≤ 4611686018427387904) : Calls Try.prog 23 #[.pointer (some ⟨P, 0, none⟩), .int .i64 z, .int .u64 x] w fun e w' => e = .returned (.bool (s.insB z)) ∧ AA w0 P (s.ins z x) H w' ∧ ∃ D, Only D w w' ∧ ∀ x, H x → ¬ D x :=
  HasO.call (R := fun e => e = .returned (.bool (s.insB z))) h (ar_ob P _) fun _ k => ar_insert k z x hz hx hp
theorem aa_touch (h : AA w0 P s H w) (z : Int) (hz : i64ok z) : Calls Try.prog 20 #[.pointer (some ⟨P, 0, none⟩), .int .i64 z] w fun e w' => e = .returned (.bool (s.has z)) ∧ AA w0 P (s.tch z) H w' ∧ ∃ D, Only D w w' ∧ ∀ x, H x → ¬ D x :=
  HasO.call (R := fun e => e = .returned (.bool (s.has z))) h (ar_ob P _) fun _ k => ar_touch k z hz
theorem aa_evict (h : AA w0 P s H w) (hb1 : s.b1.length < 4194304) (hb2 : s.b2.length < 4194304) (z : Int) (hz : i64ok z) : Calls Try.prog 22 #[.pointer (some ⟨P, 0, none⟩), .int .i64 z] w fun e w' => e = .returned (.bool (s.has z)) ∧ AA w0 P (s.evict z) H w' ∧ ∃ D, Only D w w' ∧ ∀ x, H x → ¬ D x :=
  HasO.call (R := fun e => e = .returned (.bool (s.has z))) h (ar_ob P _) fun _ k => ar_evict k hb1 hb2 z hz
theorem aa_victim (h : AA w0 P s H w) (x : Int) (hx : u64ok x) : Calls Try.prog 21 #[.pointer (some ⟨P, 0, none⟩), .int .u64 x] w fun e w' => e = .returned (.int .i64 (s.vic x)) ∧ AA w0 P s H w' ∧ Below w.heap.size w w' :=
  (HasO.look h fun _ k => ar_victim k x hx).mono fun _ _ ⟨h1, h2⟩ => ⟨h1, HasO.after h h2, h2⟩
theorem aa_target (h : AA w0 P s H w) : Calls Try.prog 12 #[.pointer (some ⟨P, 0, none⟩)] w fun e w' => e = .returned (.int .i64 (s.p : Int)) ∧ AA w0 P s H w' ∧ Below w.heap.size w w' :=
  (HasO.look h fun _ k => ar_target k).mono fun _ _ ⟨h1, h2⟩ => ⟨h1, HasO.after h h2, h2⟩
theorem aa_all (h : AA w0 P s H w) (r : Int) : Calls Try.prog 13 #[.pointer (some ⟨P, 0, none⟩), .int .i64 r] w fun e w' => ∃ v, e = .returned v ∧ w'.ownsRow w.heap.size 3 1 v (rowAt s.L r).length (ic (rowAt s.L r)) ∧ AA w0 P s H w' ∧ Below w.heap.size w w' :=
  (HasO.look h fun _ k => ar_all k r).mono fun _ _ ⟨v, h1, h2, h3⟩ => ⟨v, h1, h2, HasO.after h h3, h3⟩
theorem aa_ghosts (h : AA w0 P s H w) (r : Int) : Calls Try.prog 14 #[.pointer (some ⟨P, 0, none⟩), .int .i64 r] w fun e w' => ∃ v, e = .returned v ∧ w'.ownsRow w.heap.size 29 1 v (s.gh r).length (Gh.uc (s.gh r)) ∧ AA w0 P s H w' ∧ Below w.heap.size w w' :=
  (HasO.look h fun _ k => ar_ghosts k r).mono fun _ _ ⟨v, h1, h2, h3⟩ => ⟨v, h1, h2, HasO.after h h3, h3⟩
end
end Go.Proofs.Ytklmgmkeaipppaa.Ac
namespace Go.Proofs.Ytklmgmkeaipppaa.Ac
open Go Go.RowKit Go.Lib

def sh0 : Ar := Ar.new.cap 2
def sh1 : Ar := sh0.ins 1 11
def sh2 : Ar := sh1.ins 2 12
def sh3 : Ar := sh2.evict 1
def sh4 : Ar := sh3.ins 3 11
theorem sh_facts : sh0.p = 0 ∧ sh0.insB 1 = true ∧ sh1.p = 0 ∧ sh1.insB 2 = true ∧ sh2.vic 13 = 1 ∧ sh2.b1 = [] ∧ sh2.b2 = [] ∧ sh2.has 1 = true ∧ sh3.p = 0 ∧ sh3.insB 3 = true ∧ sh4.p = 1 ∧ sh4.vic 14 = 3 := by decide
set_option maxRecDepth 100000 in
set_option maxHeartbeats 2000000 in
theorem shown_any (w : World) : Calls Try.prog 8 #[] w fun e w' => e = .returned (.bool true) ∧ Below w.heap.size w w' := by
  have hnew := aa_new w
  have HF := hid sh_facts
  go_enter Try.func8, Try.ntmps8
  go_wp2_with fail
  refine hnew.mono ?_
  rintro e w1 ⟨P, rfl, h1⟩
  clear hnew
  have hc := aa_cap h1 2 (small_i64 (by decide) (by decide))
  clear h1
  go_wp2_with fail
  refine hc.mono ?_
  rintro e w2 ⟨rfl, h2, -⟩
  clear hc
  have hi := aa_insert h2 1 11 (small_i64 (by decide) (by decide)) (small_u64 (by decide) (by decide)) (by show ((sh0.p : Nat) : Int) ≤ _; rw [HF.out.1]; decide)
  rw [show (Ar.new.cap 2).insB 1 = true from HF.out.2.1] at hi
  clear h2
  go_wp2_with fail
  refine hi.mono ?_
  rintro e w3 ⟨rfl, h3, -⟩
  clear hi
  have hi := aa_insert h3 2 12 (small_i64 (by decide) (by decide)) (small_u64 (by decide) (by decide)) (by show ((sh1.p : Nat) : Int) ≤ _; rw [HF.out.2.2.1]; decide)
  rw [show ((Ar.new.cap 2).ins 1 11).insB 2 = true from HF.out.2.2.2.1] at hi
  clear h3
  go_wp2_with fail
  refine hi.mono ?_
  rintro e w4 ⟨rfl, h4, -⟩
  clear hi
  replace h4 : AA w P sh2 (fun _ => False) w4 := h4
  have hv := aa_victim h4 13 (small_u64 (by decide) (by decide))
  rw [HF.out.2.2.2.2.1] at hv
  clear h4
  go_wp2_with fail
  refine hv.mono ?_
  rintro e w5 ⟨rfl, h5, -⟩
  clear hv
  have he := aa_evict h5 (by rw [HF.out.2.2.2.2.2.1]; decide) (by rw [HF.out.2.2.2.2.2.2.1]; decide) 1 (small_i64 (by decide) (by decide))
  rw [HF.out.2.2.2.2.2.2.2.1] at he
  clear h5
  go_wp2_with fail
  refine he.mono ?_
  rintro e w6 ⟨rfl, h6, -⟩
  clear he
  replace h6 : AA w P sh3 (fun _ => False) w6 := h6
  have hi := aa_insert h6 3 11 (small_i64 (by decide) (by decide)) (small_u64 (by decide) (by decide)) (by rw [HF.out.2.2.2.2.2.2.2.2.1]; decide)
  rw [HF.out.2.2.2.2.2.2.2.2.2.1] at hi
  clear h6
  go_wp2_with fail
  refine hi.mono ?_
  rintro e w7 ⟨rfl, h7, -⟩
  clear hi
  replace h7 : AA w P sh4 (fun _ => False) w7 := h7
  have ht := aa_target h7
  rw [HF.out.2.2.2.2.2.2.2.2.2.2.1] at ht
  replace ht : Calls Try.prog 12 #[.pointer (some ⟨P, 0, none⟩)] w7 fun e w' => e = .returned (.int .i64 1) ∧ AA w P sh4 (fun _ => False) w' ∧ Below w7.heap.size w7 w' := ht
  clear h7
  go_wp2_with fail
  refine ht.mono ?_
  rintro e w8 ⟨rfl, h8, -⟩
  clear ht
  have hv := aa_victim h8 14 (small_u64 (by decide) (by decide))
  rw [HF.out.2.2.2.2.2.2.2.2.2.2.2] at hv
  clear h8
  go_wp2_with fail
  refine hv.mono ?_
  rintro e w9 ⟨rfl, h9, -⟩
  clear hv
  have HB := hid h9.below
  clear h9
  go_wp2_with fail
  go_ret
  exact ⟨rfl, HB.out⟩
end Go.Proofs.Ytklmgmkeaipppaa.Ac

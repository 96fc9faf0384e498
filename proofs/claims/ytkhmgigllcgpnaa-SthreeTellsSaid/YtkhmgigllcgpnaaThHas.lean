/-
  A policy of the call's own, beside other blocks of its own; what the statements of this layer ask first. No conditions but those of the calls.
-/
import Derived.Test.YtkhmgigllcgpnaaThCalls
import Derived.Test.YtkhmgigllcgpnaaPolTwo
namespace Go.Proofs.Ytkhmgigllcgpnaa.Th
open Go Go.RowKit Go.Lib

theorem small_i64 {z : Int} (h0 : -1000000 ≤ z) (h1 : z ≤ 1000000) : i64ok z := by unfold i64ok; omega
theorem small_u64 {z : Int} (h0 : 0 ≤ z) (h1 : z ≤ 1000000) : u64ok z := by unfold u64ok; omega
theorem alloc_below (w : World) (o : Obj) : Below w.heap.size w (w.alloc o) := (Below.refl _ _).alloc (Nat.le_refl _) o
theorem tp_ob (P : Nat) (s : Th) : Ob (fun F w => TP P F s w) := ⟨fun h => h.lt, fun h => h.only⟩
abbrev TT (w0 : World) (P : Nat) (s : Th) (H : Nat → Prop) (w : World) : Prop := HasO w0 (fun F w => TP P F s w) H w
section
variable {w0 : World} {P : Nat} {s : Th} {H : Nat → Prop} {w w' : World}
theorem tt_ok (h : TT w0 P s H w) : s.Ok := by obtain ⟨F, h, _⟩ := h.at_; exact h.ok
theorem tt_new (w : World) : Calls Try.prog 9 #[] w fun e w' => ∃ P, e = .returned (.pointer (some ⟨P, 0, none⟩)) ∧ TT w P new (fun _ => False) w' :=
  (tp_new w).mono fun _ _ ⟨P, F, he, k1, k2, k3⟩ => ⟨P, he, HasO.new (tp_ob P _) ⟨F, k1, k2, k3⟩⟩
theorem tt_cap (h : TT w0 P s H w) (n : Int) (hn : i64ok n) : Calls Try.prog 19 #[.pointer (some ⟨P, 0, none⟩), .int .i64 n] w fun e w' => e = .returned (.tuple #[]) ∧ TT w0 P (s.cap n) H w' ∧ ∃ D, Only D w w' ∧ ∀ x, H x → ¬ D x :=
  HasO.call (R := fun e => e = .returned (.tuple #[])) h (tp_ob P _) fun _ k => tp_cap k n hn
theorem tt_insert (h : TT w0 P s H w) (z x : Int) (hz : i64ok z) (hx : u64ok x) : Calls Try.prog 20 #[.pointer (some ⟨P, 0, none⟩), .int .i64 z, .int .u64 x] w fun e w' => e = .returned (.bool (s.insB z)) ∧ TT w0 P (s.ins z x) H w' ∧ ∃ D, Only D w w' ∧ ∀ x, H x → ¬ D x :=
  HasO.call (R := fun e => e = .returned (.bool (s.insB z))) h (tp_ob P _) fun _ k => tp_insert k z x hz hx
theorem tt_touch (h : TT w0 P s H w) (z : Int) (hz : i64ok z) : Calls Try.prog 21 #[.pointer (some ⟨P, 0, none⟩), .int .i64 z] w fun e w' => e = .returned (.bool (s.has z)) ∧ TT w0 P (s.tch z) H w' ∧ ∃ D, Only D w w' ∧ ∀ x, H x → ¬ D x :=
  HasO.call (R := fun e => e = .returned (.bool (s.has z))) h (tp_ob P _) fun _ k => tp_touch k z hz
theorem tt_evict (h : TT w0 P s H w) (hg : s.g.length < 4194304) (z : Int) (hz : i64ok z) : Calls Try.prog 23 #[.pointer (some ⟨P, 0, none⟩), .int .i64 z] w fun e w' => e = .returned (.bool (s.has z)) ∧ TT w0 P (s.evict z) H w' ∧ ∃ D, Only D w w' ∧ ∀ x, H x → ¬ D x :=
  HasO.call (R := fun e => e = .returned (.bool (s.has z))) h (tp_ob P _) fun _ k => tp_evict k hg z hz
theorem tt_victim (h : TT w0 P s H w) : Calls Try.prog 22 #[.pointer (some ⟨P, 0, none⟩)] w fun e w' => e = .returned (.int .i64 s.vic.1) ∧ TT w0 P s.vic.2 H w' ∧ ∃ D, Only D w w' ∧ ∀ x, H x → ¬ D x :=
  HasO.call (R := fun e => e = .returned (.int .i64 s.vic.1)) h (tp_ob P _) fun _ k => tp_victim k
theorem tt_count (h : TT w0 P s H w) (z : Int) (hz : i64ok z) : Calls Try.prog 14 #[.pointer (some ⟨P, 0, none⟩), .int .i64 z] w fun e w' => e = .returned (.int .i64 (s.count z)) ∧ TT w0 P s H w' ∧ Below w.heap.size w w' :=
  (HasO.look h fun _ k => tp_count k z hz).mono fun _ _ ⟨h1, h2⟩ => ⟨h1, HasO.after h h2, h2⟩
theorem tt_all (h : TT w0 P s H w) (r : Int) : Calls Try.prog 16 #[.pointer (some ⟨P, 0, none⟩), .int .i64 r] w fun e w' => ∃ v, e = .returned v ∧ w'.ownsRow w.heap.size 3 1 v (rowAt s.L r).length (ic (rowAt s.L r)) ∧ TT w0 P s H w' ∧ Below w.heap.size w w' :=
  (HasO.look h fun _ k => tp_all k r).mono fun _ _ ⟨v, h1, h2, h3⟩ => ⟨v, h1, h2, HasO.after h h3, h3⟩
theorem tt_ghosts (h : TT w0 P s H w) : Calls Try.prog 12 #[.pointer (some ⟨P, 0, none⟩)] w fun e w' => ∃ v, e = .returned v ∧ w'.ownsRow w.heap.size 29 1 v s.g.length (Gh.uc s.g) ∧ TT w0 P s H w' ∧ Below w.heap.size w w' :=
  (HasO.look h fun _ k => tp_ghosts k).mono fun _ _ ⟨v, h1, h2, h3⟩ => ⟨v, h1, h2, HasO.after h h3, h3⟩
end
def sh5 : Th := (((((new.cap 10).ins 1 11).ins 2 12).ins 3 13).tch 1).tch 1
def sh6 : Th := sh5.vic.2.evict 2
def sh7 : Th := sh6.vic.2.ins 4 12
theorem sh_facts : sh5.vic.1 = 2 ∧ sh5.vic.2.g.length < 4194304 ∧ sh6.vic.1 = 1 ∧ rowAt sh7.L 1 = [4, 1] ∧ sh7.count 1 = 0 := by decide
set_option maxRecDepth 100000 in
set_option maxHeartbeats 2000000 in
theorem shown_any (w : World) : Calls Try.prog 8 #[] w fun e w' => e = .returned (.bool true) ∧ Below w.heap.size w w' := by
  have hnew := tt_new w
  have HF := hid sh_facts
  go_enter Try.func8, Try.ntmps8
  go_wp2_with fail
  refine hnew.mono ?_
  rintro e w1 ⟨P, rfl, h1⟩
  clear hnew
  have hc := tt_cap h1 10 (small_i64 (by decide) (by decide))
  clear h1
  go_wp2_with fail
  refine hc.mono ?_
  rintro e w2 ⟨rfl, h2, -⟩
  clear hc
  have hi := tt_insert h2 1 11 (small_i64 (by decide) (by decide)) (small_u64 (by decide) (by decide))
  generalize (new.cap 10).insB 1 = A1 at *
  clear h2
  go_wp2_with fail
  refine hi.mono ?_
  rintro e w3 ⟨rfl, h3, -⟩
  clear hi
  have hi := tt_insert h3 2 12 (small_i64 (by decide) (by decide)) (small_u64 (by decide) (by decide))
  generalize ((new.cap 10).ins 1 11).insB 2 = A2 at *
  clear h3
  go_wp2_with fail
  refine hi.mono ?_
  rintro e w4 ⟨rfl, h4, -⟩
  clear hi
  have hi := tt_insert h4 3 13 (small_i64 (by decide) (by decide)) (small_u64 (by decide) (by decide))
  generalize (((new.cap 10).ins 1 11).ins 2 12).insB 3 = A3 at *
  clear h4
  go_wp2_with fail
  refine hi.mono ?_
  rintro e w5 ⟨rfl, h5, -⟩
  clear hi
  have ht := tt_touch h5 1 (small_i64 (by decide) (by decide))
  generalize ((((new.cap 10).ins 1 11).ins 2 12).ins 3 13).has 1 = A4 at *
  clear h5
  go_wp2_with fail
  refine ht.mono ?_
  rintro e w6 ⟨rfl, h6, -⟩
  clear ht
  have ht := tt_touch h6 1 (small_i64 (by decide) (by decide))
  generalize (((((new.cap 10).ins 1 11).ins 2 12).ins 3 13).tch 1).has 1 = A5 at *
  clear h6
  go_wp2_with fail
  refine ht.mono ?_
  rintro e w7 ⟨rfl, h7, -⟩
  clear ht
  replace h7 : TT w P sh5 (fun _ => False) w7 := h7
  have hv := tt_victim h7
  rw [HF.out.1] at hv
  clear h7
  go_wp2_with fail
  refine hv.mono ?_
  rintro e w8 ⟨rfl, h8, -⟩
  clear hv
  have he := tt_evict h8 HF.out.2.1 2 (small_i64 (by decide) (by decide))
  generalize sh5.vic.2.has 2 = A6 at *
  clear h8
  go_wp2_with fail
  refine he.mono ?_
  rintro e w9 ⟨rfl, h9, -⟩
  clear he
  replace h9 : TT w P sh6 (fun _ => False) w9 := h9
  have hv := tt_victim h9
  rw [HF.out.2.2.1] at hv
  clear h9
  go_wp2_with fail
  refine hv.mono ?_
  rintro e w10 ⟨rfl, h10, -⟩
  clear hv
  have hi := tt_insert h10 4 12 (small_i64 (by decide) (by decide)) (small_u64 (by decide) (by decide))
  generalize sh6.vic.2.insB 4 = A7 at *
  clear h10
  go_wp2_with fail
  refine hi.mono ?_
  rintro e w11 ⟨rfl, h11, -⟩
  clear hi
  replace h11 : TT w P sh7 (fun _ => False) w11 := h11
  have ha := tt_all h11 1
  rw [HF.out.2.2.2.1] at ha
  clear h11
  go_wp2_with fail
  refine ha.mono ?_
  rintro e w12 ⟨v, rfl, ho, h12, -⟩
  clear ha
  obtain ⟨g, cap, rfl, -, -, -⟩ := row_pos ho (by decide)
  have c0 := ho.cellAt 0 (by decide)
  replace c0 : w12.cell? ⟨g, 0, none⟩ = some (.int .i64 4) := c0
  have hc := tt_count h12 1 (small_i64 (by decide) (by decide))
  rw [HF.out.2.2.2.2] at hc
  clear ho h12
  go_wp2_with fail
  refine hc.mono ?_
  rintro e w13 ⟨rfl, h13, -⟩
  have HB := hid h13.below
  clear hc h13
  go_wp2_with fail
  go_ret
  exact ⟨rfl, HB.out⟩
end Go.Proofs.Ytkhmgigllcgpnaa.Th

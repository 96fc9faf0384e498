/-
  A slab of the call's own, at this program: its calls one by one; the laws' made and shown. No conditions but that the numbers are an int's.
-/
import Derived.Test.YtldfpacdlephcaaSlabMake
namespace Go.Proofs.Ytldfpacdlephcaa
open Go Go.RowKit Go.Lib

/-- A slab that was made since w0, and nothing older has turned. -/
def Has (w0 : World) (P : Nat) (s : Sl) (w : World) : Prop := s.Ok ∧ Below w0.heap.size w0 w ∧ ∃ d : Di, d.P = P ∧ MIs d s w ∧ ∀ b, SFoot d s b → w0.heap.size ≤ b
theorem Has.call {w0 : World} {P : Nat} {s s' : Sl} {w : World} {f : FuncId} {args : Array Value} {R : Ending → Prop} (h : Has w0 P s w) (hok : s'.Ok)
    (hc : ∀ d : Di, d.P = P → MIs d s w → Calls Try.prog f args w fun e w' => R e ∧ ∃ d', Stp d s w d' s' w') : Calls Try.prog f args w fun e w' => R e ∧ Has w0 P s' w' := by
  obtain ⟨_, hb, d, hd, hm, hf⟩ := h
  refine (hc d hd hm).mono ?_
  rintro e w' ⟨hR, d', hS⟩
  exact ⟨hR, hok, hb.trans (hS.only.below hb.size hf), d', hS.p.trans hd, hS.m, fun b hb2 => (hS.foot b hb2).elim (hf b) (Nat.le_trans hb.size)⟩
theorem Has.look {w0 : World} {P : Nat} {s : Sl} {w : World} {f : FuncId} {args : Array Value} {R : Ending → Prop} (h : Has w0 P s w)
    (hc : ∀ d : Di, d.P = P → MIs d s w → Calls Try.prog f args w fun e w' => R e ∧ Below w.heap.size w w') : Calls Try.prog f args w fun e w' => R e ∧ Has w0 P s w' := by
  obtain ⟨ho, hb, d, hd, hm, hf⟩ := h
  refine (hc d hd hm).mono ?_
  rintro e w' ⟨hR, hB⟩
  exact ⟨hR, ho, Below.then hb hB, d, hd, hm.below hB, hf⟩
theorem Has.more {w0 : World} {P : Nat} {s : Sl} {w w' : World} (h : Has w0 P s w) (hB : Below w.heap.size w w') : Has w0 P s w' := by
  obtain ⟨ho, hb, d, hd, hm, hf⟩ := h
  exact ⟨ho, Below.then hb hB, d, hd, hm.below hB, hf⟩
theorem Has.since {w0 w1 : World} {P : Nat} {s : Sl} {w : World} (h : Has w1 P s w) (hB : Below w0.heap.size w0 w1) : Has w0 P s w := by
  obtain ⟨ho, hb, d, hd, hm, hf⟩ := h
  exact ⟨ho, Below.then hB hb, d, hd, hm, fun b hb2 => Nat.le_trans hB.size (hf b hb2)⟩

theorem has_alloc {w0 : World} {P : Nat} {s : Sl} {w : World} (h : Has w0 P s w) (z : Int) :
    Calls Try.prog 17 #[.pointer (some ⟨P, 0, none⟩), .int .i64 z] w fun e w' => e = .returned (.tuple #[.int .i64 (s.alloc z).1, .int .i64 (s.alloc z).2.1]) ∧ Has w0 P (s.alloc z).2.2 w' :=
  h.call (R := fun e => e = .returned (.tuple #[.int .i64 (s.alloc z).1, .int .i64 (s.alloc z).2.1])) (h.1.allocOk z) (fun d hd hm => by subst hd; exact alloc_any hm h.1 z)
theorem has_free {w0 : World} {P : Nat} {s : Sl} {w : World} (h : Has w0 P s w) (x : Int) (hx : x ≤ 9223372036854775807) :
    Calls Try.prog 16 #[.pointer (some ⟨P, 0, none⟩), .int .i64 x] w fun e w' => e = .returned (.int .i64 (s.free x).1) ∧ Has w0 P (s.free x).2 w' :=
  h.call (R := fun e => e = .returned (.int .i64 (s.free x).1)) (h.1.freeOk x) (fun d hd hm => by subst hd; exact free_any hm h.1 x hx)
theorem close_any {d : Di} {s : Sl} {w : World} (h : MIs d s w) (ok : s.Ok) (z : Int) :
    Calls Try.prog 22 #[.pointer (some ⟨d.P, 0, none⟩), .int .i64 z] w fun e w' => e = .returned (.int .i64 (s.close z).1) ∧ ∃ d', Stp d s w d' (s.close z).2 w' := by
  rcases Sl.atP_cases ok z with ⟨hn, _⟩ | ⟨p, k, rfl, _, hk, hk'⟩
  · have h1 := close_no h ok z (Sl.close_none hn)
    rw [Sl.close_none hn]; exact h1
  · cases hc : k.closed with
    | true =>
      have h1 := close_no h ok (p : Int) (Sl.close_shut hk' hc)
      rw [Sl.close_shut hk' hc]; exact h1
    | false =>
      have h1 := close_yes h ok hk hc
      rw [Sl.close_open hk hc]; exact h1
theorem has_close {w0 : World} {P : Nat} {s : Sl} {w : World} (h : Has w0 P s w) (z : Int) :
    Calls Try.prog 22 #[.pointer (some ⟨P, 0, none⟩), .int .i64 z] w fun e w' => e = .returned (.int .i64 (s.close z).1) ∧ Has w0 P (s.close z).2 w' :=
  h.call (R := fun e => e = .returned (.int .i64 (s.close z).1)) (h.1.closeOk z) (fun d hd hm => by subst hd; exact close_any hm h.1 z)
theorem has_open {w0 : World} {P : Nat} {s : Sl} {w : World} (h : Has w0 P s w) (z : Int) :
    Calls Try.prog 26 #[.pointer (some ⟨P, 0, none⟩), .int .i64 z] w fun e w' => e = .returned (.int .i64 (s.openP z).1) ∧ Has w0 P (s.openP z).2 w' :=
  h.call (R := fun e => e = .returned (.int .i64 (s.openP z).1)) (h.1.openOk z) (fun d hd hm => by subst hd; exact open_any hm h.1 z)
theorem has_move {w0 : World} {P : Nat} {s : Sl} {w : World} (h : Has w0 P s w) (z c : Int) :
    Calls Try.prog 23 #[.pointer (some ⟨P, 0, none⟩), .int .i64 z, .int .i64 c] w fun e w' => e = .returned (.int .i64 (s.move z c).1) ∧ Has w0 P (s.move z c).2 w' :=
  h.call (R := fun e => e = .returned (.int .i64 (s.move z c).1)) (h.1.moveOk z c) (fun d hd hm => by subst hd; exact move_any hm h.1 z c)
theorem has_used {w0 : World} {P : Nat} {s : Sl} {w : World} (h : Has w0 P s w) (x : Int) (hx : x ≤ 9223372036854775807) :
    Calls Try.prog 27 #[.pointer (some ⟨P, 0, none⟩), .int .i64 x] w fun e w' => e = .returned (.bool (s.usedB x)) ∧ w = w' := by
  obtain ⟨ho, hb, d, rfl, hm, hf⟩ := h
  exact used_any hm ho x hx
theorem has_where {w0 : World} {P : Nat} {s : Sl} {w : World} (h : Has w0 P s w) (x : Int) (hx : x ≤ 9223372036854775807) :
    Calls Try.prog 18 #[.pointer (some ⟨P, 0, none⟩), .int .i64 x] w fun e w' => e = .returned (.tuple #[.int .i64 (s.wher x).1, .int .i64 (s.wher x).2.1, .int .i64 (s.wher x).2.2]) ∧ ∃ m, w' = w.drewN m := by
  obtain ⟨ho, hb, d, rfl, hm, hf⟩ := h
  exact where_any hm ho x hx
theorem Has.drewN {w0 : World} {P : Nat} {s : Sl} {w : World} (h : Has w0 P s w) (n : Nat) : Has w0 P s (w.drewN n) := h.more ⟨rfl, rfl, rfl, Nat.le_refl _, fun _ _ => rfl⟩

theorem page512 : pageB 512 = true := by decide
theorem cnt_new (n size : Nat) : cnt (newSt n size).ow = 0 := by
  have h : ∀ k, cntTo (newSt n size).ow k = 0 := fun k => by
    unfold cntTo
    rw [List.length_eq_zero_iff, List.filter_eq_nil_iff]
    intro z hz
    have h1 := List.mem_of_mem_take hz
    have h2 : z ∈ List.replicate n (-1 : Int) := h1
    rw [List.eq_of_mem_replicate h2]; decide
  exact h _

set_option maxHeartbeats 2000000 in
set_option maxRecDepth 100000 in
theorem made_ok (n : Nat) (n1 : 1 ≤ n) (n2 : n ≤ 1024) (ad : Addr) (c N : Nat) (zs : List Int) (hzN : zs.length = N) (hn1 : 1 ≤ N) (hn2 : N ≤ 63) (hb : sizesB zs 512 = true) (w : World) (hZ : Sz.Ints w (.slice (some ad) N c) zs) :
    Calls Try.prog 21 #[.int .i64 n, .slice (some ad) N c] w fun e w' => ∃ P, e = .returned (.pointer (some ⟨P, 0, none⟩)) ∧ Has w P (newSl (newSt n 512) (zs.map Int.toNat)) w' := by
  have hnew := fun w => new_ok n 512 n1 n2 (by omega) (by omega) page512 w
  have HZ := hid hZ
  have HS := hid (fun (A O B : Nat) (w1 : World) (hA : AIs A O B (newSt n 512) w1) (hZ1 : Sz.Ints w1 (.slice (some ad) N c) zs) => new_slab hA (cnt_new n 512) ad c N zs hzN hZ1 hb hn1 hn2)
  clear hZ
  go_enter Try.func21, Try.ntmps21
  go_wp2_with fail
  refine (hnew _).mono ?_
  rintro e w1 ⟨A, O, B, rfl, hA, b1, hA1, hO1, hB1⟩
  have hs := HS.out A O B w1 hA (HZ.out.below b1)
  have HB := hid (And.intro b1 (And.intro hA1 (And.intro hO1 hB1)))
  clear hnew hA b1 hA1 hO1 hB1 HS HZ
  go_wp2_with fail
  refine hs.mono ?_
  rintro e w2 ⟨P, rfl, hM⟩
  have HM := hid hM
  clear hs hM
  go_wp2_with fail
  go_ret
  obtain ⟨ok, ⟨d, hd, hm, hf, -⟩, hb2⟩ := HM.out
  obtain ⟨b1, hA1, hO1, hB1⟩ := HB.out
  refine ⟨P, rfl, ok, Below.then b1 hb2, d, hd, hm, fun b hb => ?_⟩
  have hsz := b1.size
  rcases hf b hb with e | e | e | e
  · omega
  · omega
  · omega
  · omega

def sh0 : Sl := newSl (newSt 2 512) [64, 512]
def sh1 : Sl := (sh0.alloc 0).2.2
def sh2 : Sl := (sh1.alloc 0).2.2
def sh3 : Sl := (sh2.alloc 1).2.2
def sh4 : Sl := (sh3.alloc 1).2.2
def sh5 : Sl := (sh4.close 0).2
def sh6 : Sl := (sh5.move 0 1).2
def sh7 : Sl := (sh6.free 0).2
def sh8 : Sl := (sh7.free 1).2
def sh9 : Sl := (sh8.move 0 1).2
theorem e1 : (sh0.alloc 0).1 = 0 ∧ (sh0.alloc 0).2.1 = 0 := by decide
theorem e2 : (sh1.alloc 0).1 = 1 ∧ (sh1.alloc 0).2.1 = 0 := by decide
theorem e3 : (sh2.alloc 1).1 = 4096 ∧ (sh2.alloc 1).2.1 = 0 := by decide
theorem e4 : (sh3.alloc 1).1 = -1 ∧ (sh3.alloc 1).2.1 = 5 := by decide
theorem e5 : (sh4.close 0).1 = 0 := by decide
theorem e6 : (sh5.move 0 1).1 = 10 := by decide
theorem e9 : (sh8.move 0 1).1 = 0 := by decide
theorem e10 : (sh9.alloc 1).1 = 0 ∧ (sh9.alloc 1).2.1 = 0 := by decide
end Go.Proofs.Ytldfpacdlephcaa

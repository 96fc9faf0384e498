/-
  The laws' common head (shown) at this program. No conditions.
  A slab of the call's own beside other blocks of the call, at this program. No conditions.
-/
import Derived.Test.YtldfpacdlephcaaSlabHas
namespace Go.Proofs.Ytldfpacdlephcaa
open Go Go.RowKit Go.Lib

theorem blk_ints {w : World} {b : Nat} {zs : List Int} (h : Blk w b 3 (ic zs)) : Sz.Ints w (.slice (some ⟨b, 0, none⟩) zs.length zs.length) zs :=
  ⟨some ⟨b, 0, none⟩, zs.length, rfl, fun j z hj => ⟨b, 0, rfl, h.lt, by rw [Nat.zero_add]; exact h.cell (ic_at hj)⟩⟩

set_option maxHeartbeats 2000000 in
set_option maxRecDepth 100000 in
theorem shown_any (w : World) : Calls Try.prog 8 #[] w fun e w' => e = .returned (.bool true) ∧ Below w.heap.size w w' := by
  have b0 : Below w.heap.size w (w.alloc (.cells #[.int .i64 64, .int .i64 512] 3)) := (Below.refl _ w).alloc (Nat.le_refl _) _
  have hm := made_ok 2 (by omega) (by omega) ⟨w.heap.size, 0, none⟩ 2 2 [64, 512] rfl (by omega) (by omega) (by decide) (w.alloc (.cells #[.int .i64 64, .int .i64 512] 3)) (blk_ints (zs := [64, 512]) (Blk.new w #[.int .i64 64, .int .i64 512] 3))
  have HB0 := hid b0
  clear b0
  go_enter Try.func8, Try.ntmps8
  go_wp2_with fail
  refine hm.mono ?_
  rintro e w1 ⟨P, rfl, h⟩
  have H1 : Hid (Has w P sh0 w1) := hid (h.since HB0.out)
  clear hm h HB0
  have hc := has_alloc H1.out 0
  rw [e1.1, e1.2] at hc
  clear H1
  go_wp2_with fail
  refine hc.mono ?_
  rintro e w2 ⟨rfl, h⟩
  have H2 : Hid (Has w P sh1 w2) := hid h
  clear hc h
  have hc := has_alloc H2.out 0
  rw [e2.1, e2.2] at hc
  clear H2
  go_wp2_with fail
  refine hc.mono ?_
  rintro e w3 ⟨rfl, h⟩
  have H3 : Hid (Has w P sh2 w3) := hid h
  clear hc h
  have hc := has_alloc H3.out 1
  rw [e3.1, e3.2] at hc
  clear H3
  go_wp2_with fail
  refine hc.mono ?_
  rintro e w4 ⟨rfl, h⟩
  have H4 : Hid (Has w P sh3 w4) := hid h
  clear hc h
  have hc := has_alloc H4.out 1
  rw [e4.1, e4.2] at hc
  clear H4
  go_wp2_with fail
  refine hc.mono ?_
  rintro e w5 ⟨rfl, h⟩
  have H5 : Hid (Has w P sh4 w5) := hid h
  clear hc h
  have hc := has_close H5.out 0
  rw [e5] at hc
  clear H5
  go_wp2_with fail
  refine hc.mono ?_
  rintro e w6 ⟨rfl, h⟩
  have H6 : Hid (Has w P sh5 w6) := hid h
  clear hc h
  have hc := has_move H6.out 0 1
  rw [e6] at hc
  clear H6
  go_wp2_with fail
  refine hc.mono ?_
  rintro e w7 ⟨rfl, h⟩
  have H7 : Hid (Has w P sh6 w7) := hid h
  clear hc h
  have hc := has_free H7.out 0 (by omega)
  clear H7
  go_wp2_with fail
  refine hc.mono ?_
  rintro e w8 ⟨rfl, h⟩
  have H8 : Hid (Has w P sh7 w8) := hid h
  clear hc h
  have hc := has_free H8.out 1 (by omega)
  clear H8
  go_wp2_with fail
  refine hc.mono ?_
  rintro e w9 ⟨rfl, h⟩
  have H9 : Hid (Has w P sh8 w9) := hid h
  clear hc h
  have hc := has_move H9.out 0 1
  rw [e9] at hc
  clear H9
  go_wp2_with fail
  refine hc.mono ?_
  rintro e w10 ⟨rfl, h⟩
  have H10 : Hid (Has w P sh9 w10) := hid h
  clear hc h
  have hc := has_alloc H10.out 1
  rw [e10.1, e10.2] at hc
  clear H10
  go_wp2_with fail
  refine hc.mono ?_
  rintro e w11 ⟨rfl, h⟩
  have hb := h.2.1
  clear hc h
  go_wp2_with fail
  go_ret
  exact ⟨rfl, hb⟩
end Go.Proofs.Ytldfpacdlephcaa
namespace Go.Proofs.Ytldfpacdlephcaa
open Go Go.RowKit Go.Lib

/-- A slab that was made since w0, apart from the blocks of G. -/
def HasX (w0 : World) (P : Nat) (s : Sl) (G : Nat → Prop) (w : World) : Prop := s.Ok ∧ Below w0.heap.size w0 w ∧ ∃ d : Di, d.P = P ∧ MIs d s w ∧ ∀ b, SFoot d s b → w0.heap.size ≤ b ∧ ¬ G b
theorem Has.x {w0 : World} {P : Nat} {s : Sl} {w : World} (h : Has w0 P s w) : HasX w0 P s (fun _ => False) w := by
  obtain ⟨ho, hb, d, hd, hm, hf⟩ := h
  exact ⟨ho, hb, d, hd, hm, fun b hb2 => ⟨hf b hb2, id⟩⟩
theorem HasX.has {w0 : World} {P : Nat} {s : Sl} {G : Nat → Prop} {w : World} (h : HasX w0 P s G w) : Has w0 P s w := by
  obtain ⟨ho, hb, d, hd, hm, hf⟩ := h
  exact ⟨ho, hb, d, hd, hm, fun b hb2 => (hf b hb2).1⟩
theorem HasX.call {w0 : World} {P : Nat} {s s' : Sl} {G : Nat → Prop} {w : World} {f : FuncId} {args : Array Value} {R : Ending → Prop} (h : HasX w0 P s G w) (hG : ∀ b, G b → b < w.heap.size) (hok : s'.Ok)
    (hc : ∀ d : Di, d.P = P → MIs d s w → Calls Try.prog f args w fun e w' => R e ∧ ∃ d', Stp d s w d' s' w') : Calls Try.prog f args w fun e w' => R e ∧ HasX w0 P s' G w' ∧ Only (fun b => ¬ G b) w w' := by
  obtain ⟨_, hb, d, hd, hm, hf⟩ := h
  refine (hc d hd hm).mono ?_
  rintro e w' ⟨hR, d', hS⟩
  exact ⟨hR, ⟨hok, hb.trans (hS.only.below hb.size (fun b h2 => (hf b h2).1)), d', hS.p.trans hd, hS.m, fun b hb2 => (hS.foot b hb2).elim (hf b) (fun e => ⟨Nat.le_trans hb.size e, fun hg => by have := hG b hg; omega⟩)⟩, hS.only.mono (fun b h2 => (hf b h2).2)⟩
/-- What others have done. -/
theorem HasX.turn {w0 : World} {P : Nat} {s : Sl} {G G' D : Nat → Prop} {w w' : World} (h : HasX w0 P s G w) (ho : Only D w w') (hD : ∀ b, D b → G b ∨ w.heap.size ≤ b) (hG' : ∀ b, G' b → G b ∨ w.heap.size ≤ b) (hD0 : ∀ b, D b → w0.heap.size ≤ b) : HasX w0 P s G' w' := by
  obtain ⟨hok, hb, d, hd, hm, hf⟩ := h
  have key : ∀ b, SFoot d s b → ∀ X : Nat → Prop, (X b → G b ∨ w.heap.size ≤ b) → ¬ X b := fun b hb2 X hX hx => by
    have := hm.lt hb2
    rcases hX hx with e | e
    · exact (hf b hb2).2 e
    · omega
  exact ⟨hok, hb.trans (ho.below hb.size hD0), d, hd, hm.only ho (fun b hb2 => key b hb2 D (hD b)), fun b hb2 => ⟨(hf b hb2).1, key b hb2 G' (hG' b)⟩⟩
theorem hasX_alloc {w0 : World} {P : Nat} {s : Sl} {G : Nat → Prop} {w : World} (h : HasX w0 P s G w) (hG : ∀ b, G b → b < w.heap.size) (z : Int) :
    Calls Try.prog 17 #[.pointer (some ⟨P, 0, none⟩), .int .i64 z] w fun e w' => e = .returned (.tuple #[.int .i64 (s.alloc z).1, .int .i64 (s.alloc z).2.1]) ∧ HasX w0 P (s.alloc z).2.2 G w' ∧ Only (fun b => ¬ G b) w w' :=
  h.call hG (R := fun e => e = .returned (.tuple #[.int .i64 (s.alloc z).1, .int .i64 (s.alloc z).2.1])) (h.1.allocOk z) (fun d hd hm => by subst hd; exact alloc_any hm h.1 z)
theorem hasX_free {w0 : World} {P : Nat} {s : Sl} {G : Nat → Prop} {w : World} (h : HasX w0 P s G w) (hG : ∀ b, G b → b < w.heap.size) (x : Int) (hx : x ≤ 9223372036854775807) :
    Calls Try.prog 16 #[.pointer (some ⟨P, 0, none⟩), .int .i64 x] w fun e w' => e = .returned (.int .i64 (s.free x).1) ∧ HasX w0 P (s.free x).2 G w' ∧ Only (fun b => ¬ G b) w w' :=
  h.call hG (R := fun e => e = .returned (.int .i64 (s.free x).1)) (h.1.freeOk x) (fun d hd hm => by subst hd; exact free_any hm h.1 x hx)

/-- A row of the call's own, beside the slab's calls. -/
theorem own_keep {w w' : World} {base : Nat} {e : TypeId} {v : Value} {n : Nat} {xs : List Value} (h : w.ownsRow base e 1 v n xs) (ho : Only (fun b => ¬ v.ownBlock = some b) w w') : w'.ownsRow base e 1 v n xs := own_only h ho (fun _ hb hn => hn hb)
theorem own_lt {w : World} {base : Nat} {e : TypeId} {v : Value} {n : Nat} {xs : List Value} (h : w.ownsRow base e 1 v n xs) : ∀ b, v.ownBlock = some b → b < w.heap.size := fun b hb => by
  obtain ⟨cs, hB⟩ := own_blk h hb
  exact hB.lt
theorem own_ge {w : World} {base : Nat} {e : TypeId} {v : Value} {n : Nat} {xs : List Value} (h : w.ownsRow base e 1 v n xs) : ∀ b, v.ownBlock = some b → base ≤ b := fun b hb => by
  rcases h.2 with ⟨rfl, _⟩ | ⟨g, cap, cur, rfl, h0, _⟩
  · simp [Value.ownBlock] at hb
  · have e : g = b := by simpa [Value.ownBlock] using hb
    rw [← e]; exact h0
/-- Such a row is appended to. -/
theorem HasX.app {w0 : World} {P : Nat} {s : Sl} {w w1 : World} {tmp : Obj} {e : TypeId} {v v' : Value} {n : Nat} {xs : List Value} (h : HasX w0 P s (fun b => v.ownBlock = some b) w) (hown : w.ownsRow w0.heap.size e 1 v n xs) (hg : (w.alloc tmp).grownBy w1 v.ownBlock) (hat : v'.ownBlock = v.ownBlock ∨ ∀ b, v'.ownBlock = some b → w.heap.size ≤ b) : HasX w0 P s (fun b => v'.ownBlock = some b) w1 := by
  have ho : Only (fun b => v.ownBlock = some b ∨ w.heap.size ≤ b) w w1 := (((Only.refl (fun b => v.ownBlock = some b ∨ w.heap.size ≤ b) w).alloc tmp).trans (E := fun b => v.ownBlock = some b) ⟨hg.os, hg.tape, hg.output, hg.size, fun k hk hne => hg.block k hk (fun e => hne e.symm)⟩ (fun x hx => .inl (.inl hx)))
  refine h.turn ho (fun b hb => hb) (fun b hb => ?_) (fun b hb => ?_)
  · rcases hat with e | e
    · exact .inl (e ▸ hb)
    · exact .inr (e b hb)
  · rcases hb with hb | hb
    · exact own_ge hown b hb
    · exact Nat.le_trans h.2.1.size hb
end Go.Proofs.Ytldfpacdlephcaa

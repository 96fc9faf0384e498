/-
  The law ItemApart at this program: two items have the same bytes just if they are the same. Conditions: the fields are such as their types hold.
-/
import Derived.Test.YtdbaldkinjdeaaaItemEq
import Derived.BigQuiet
import Derived.Deep.QuietTactic
namespace Go.Proofs.Ytdbaldkinjdeaaa
open Go Go.RowKit Go.Lib

theorem blk_conv {w : World} {g : Nat} {l : List UInt8} (h : Blk w g 5 (bc l)) (n : Nat) : (convert 27 9 (.slice (some ⟨g, 0, none⟩) l.length l.length)).run Try.prog (w.drewN n) = .ok (.string (S l)) (w.drewN n) :=
  run_convert_bytes_back (P := Try.prog) (w.drewN n) 27 9 5 ⟨g, 0, none⟩ l.length l Try.underlying27 Try.underlying5 Try.underlying9 (fun j hj => by
    rw [addr_plain, Nat.zero_add]
    exact h.cell (bc_at (List.getElem?_eq_getElem hj)))

theorem apart_same {x y : It} (hx : x.Ok) (hy : y.Ok) (rx : x.right = true) (ry : y.right = true) : ((S x.enc).toList == (S y.enc).toList) = sameB x y := by
  rw [Bool.eq_iff_iff, beq_iff_eq, toList_inj, S_inj, sameB_iff]
  exact enc_inj hx hy rx ry

theorem below_drewN {B : Nat} {a w : World} (h : Below B a w) (n : Nat) : Below B a (w.drewN n) := ⟨h.os, h.tape, h.output, h.size, h.block⟩
/-- What Encode tells, right or not. -/
theorem enc_code (x : It) (hx : x.Ok) (w : World) : Calls Try.prog 11 #[x.v] w fun e w' => (∃ a n c, e = .returned (.tuple #[.slice a n c, .int .i64 (if x.right = true then 0 else 1)])) ∧ Below w.heap.size w w' := by
  cases hr : x.right with
  | false => exact (enc_bad x hr w).mono fun e w' ⟨he, hb⟩ => ⟨⟨none, 0, 0, he⟩, hb⟩
  | true => exact (enc_ok x hx hr w).mono fun e w' ⟨g, he, _, _, hb⟩ => ⟨⟨_, _, _, he⟩, hb⟩

/-- Two items' boxes. -/
structure Two (w : World) (x y : It) (wk : World) : Prop where
  one : Blk wk w.heap.size 25 x.cells
  two : Blk wk (w.heap.size + 1) 25 y.cells
  below : Below w.heap.size w wk
theorem two_of (w : World) (x y : It) : Two w x y ((w.alloc (.cells x.cells.toArray 25)).alloc (.cells y.cells.toArray 25)) := by
  have h1 := Blk.new w x.cells.toArray 25
  have h2 := Blk.new (w.alloc (.cells x.cells.toArray 25)) y.cells.toArray 25
  have e : (w.alloc (.cells x.cells.toArray 25)).heap.size = w.heap.size + 1 := by simp
  rw [e] at h2
  exact ⟨h1.alloc _, h2, ((Below.refl _ _).alloc (Nat.le_refl _) _).alloc (by simp) _⟩
theorem Two.next {w wk wl : World} {x y : It} (h : Two w x y wk) (hb : Below wk.heap.size wk wl) : Two w x y wl := ⟨h.one.below hb, h.two.below hb, Below.then h.below hb⟩

set_option maxHeartbeats 4000000 in
set_option maxRecDepth 100000 in
theorem apart_yes (x : It) (hx : x.Ok) (y : It) (hy : y.Ok) (w : World) (rx : x.right = true) (ry : y.right = true) :
    Calls Try.prog 6 #[x.v, y.v] w fun e w' => e = .returned (.bool true) ∧ Below w.heap.size w w' := by
  have hT := two_of w x y
  have hex := fun w => enc_ok x hx rx w
  have hey := fun w => enc_ok y hy ry w
  have heq := fun W => item_eql x y W
  have hsame := apart_same hx hy rx ry
  have HT := hid hT
  clear hT rx ry
  simp only [It.v, It.cells] at hex hey HT heq ⊢
  go_enter Try.func6, Try.ntmps6
  go_wp2_with fail
  refine (shown_any _).mono ?_
  rintro e w1 ⟨rfl, b1⟩
  have HT1 := hid (HT.out.next b1)
  clear HT b1
  obtain ⟨q0, q1, q2, q3, q4, q5, q6, q7⟩ := box_cells HT1.out.one
  go_wp2_with fail
  refine (hex _).mono ?_
  rintro e w2 ⟨g, rfl, hg, hB, hb⟩
  have HT2 := hid (HT1.out.next hb)
  have HG := hid hB
  clear HT1 hb hB hg hex q0 q1 q2 q3 q4 q5 q6 q7
  obtain ⟨p0, p1, p2, p3, p4, p5, p6, p7⟩ := box_cells HT2.out.two
  go_wp2_with fail
  refine (hey _).mono ?_
  rintro e w3 ⟨g2, rfl, hg2, hB2, hb2⟩
  have HT3 := hid (HT2.out.next hb2)
  have hc1 := blk_conv (HG.out.below hb2)
  have hc2 := blk_conv hB2
  clear HT2 hb2 hB2 hg2 hey p0 p1 p2 p3 p4 p5 p6 p7 HG
  obtain ⟨q0, q1, q2, q3, q4, q5, q6, q7⟩ := box_cells HT3.out.one
  obtain ⟨p0, p1, p2, p3, p4, p5, p6, p7⟩ := box_cells HT3.out.two
  generalize (S x.enc) = A1 at *
  generalize (S y.enc) = A2 at *
  generalize x.enc.length = n1 at *
  generalize y.enc.length = n2 at *
  have HS := hid hsame
  generalize sameB x y = bb at *
  clear hsame
  go_wp2_with fail
  go_quiet (fail)
  go_wp2_with fail
  go_ret
  exact ⟨ret_bool (by rw [HS.out]; simp), below_drewN HT3.out.below _⟩

set_option maxHeartbeats 4000000 in
set_option maxRecDepth 100000 in
theorem apart_no (x : It) (hx : x.Ok) (y : It) (hy : y.Ok) (w : World) (c1 c2 : Int) (e1 : (if x.right = true then (0 : Int) else 1) = c1) (e2 : (if y.right = true then (0 : Int) else 1) = c2) (h : (c1 = 0 ∧ c2 = 1) ∨ (c1 = 1)) :
    Calls Try.prog 6 #[x.v, y.v] w fun e w' => e = .returned (.bool true) ∧ Below w.heap.size w w' := by
  have hT := two_of w x y
  have hex := fun w => enc_code x hx w
  have hey := fun w => enc_code y hy w
  rw [e1] at hex
  rw [e2] at hey
  have HT := hid hT
  clear hT e1 e2
  simp only [It.v, It.cells] at hex hey HT ⊢
  rcases h with ⟨rfl, rfl⟩ | rfl
  all_goals
    go_enter Try.func6, Try.ntmps6
    go_wp2_with fail
    refine (shown_any _).mono ?_
    rintro e w1 ⟨rfl, b1⟩
    have HT1 := hid (HT.out.next b1)
    clear HT b1
    obtain ⟨q0, q1, q2, q3, q4, q5, q6, q7⟩ := box_cells HT1.out.one
    go_wp2_with fail
    refine (hex _).mono ?_
    rintro e w2 ⟨⟨a1, n1, k1, rfl⟩, hb⟩
    have HT2 := hid (HT1.out.next hb)
    clear HT1 hb hex q0 q1 q2 q3 q4 q5 q6 q7
    obtain ⟨p0, p1, p2, p3, p4, p5, p6, p7⟩ := box_cells HT2.out.two
    go_wp2_with fail
    refine (hey _).mono ?_
    rintro e w3 ⟨⟨a2, n2, k2, rfl⟩, hb2⟩
    have HT3 := hid (HT2.out.next hb2)
    clear HT2 hb2 hey p0 p1 p2 p3 p4 p5 p6 p7
    go_wp2_with fail
    go_ret
    exact ⟨rfl, HT3.out.below⟩

theorem apart_law (x : It) (hx : x.Ok) (y : It) (hy : y.Ok) (w : World) :
    Calls Try.prog 6 #[x.v, y.v] w fun e w' => e = .returned (.bool true) ∧ Below w.heap.size w w' := by
  cases rx : x.right with
  | false => exact apart_no x hx y hy w 1 _ (by rw [rx]; rfl) rfl (.inr rfl)
  | true =>
    cases ry : y.right with
    | false => exact apart_no x hx y hy w 0 1 (by rw [rx]; rfl) (by rw [ry]; rfl) (.inl ⟨rfl, rfl⟩)
    | true => exact apart_yes x hx y hy w rx ry
end Go.Proofs.Ytdbaldkinjdeaaa

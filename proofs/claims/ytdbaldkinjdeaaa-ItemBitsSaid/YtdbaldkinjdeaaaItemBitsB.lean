/-
  The law ItemBits at this program, where the byte of the marks is made another one; and the law whole. Conditions: the fields are such as their types hold.
-/
import Derived.Test.YtdbaldkinjdeaaaItemBits
namespace Go.Proofs.Ytdbaldkinjdeaaa
open Go Go.RowKit Go.Lib

theorem two_bits (n : Nat) (h : n ≤ 3) (x : It) : ∃ s o : Bool, (bits .and .u8 (n : Int) 1 == 1) = s ∧ (bits .and .u8 (n : Int) 2 == 2) = o ∧ n = (x.marked s o).marks := by
  rcases n with _ | _ | _ | _ | n
  · exact ⟨false, false, rfl, rfl, rfl⟩
  · exact ⟨true, false, rfl, rfl, rfl⟩
  · exact ⟨false, true, rfl, rfl, rfl⟩
  · exact ⟨true, true, rfl, rfl, rfl⟩
  · omega
theorem marks_byte (x : It) : ((UInt8.ofNat x.marks).toNat : Int) = (x.marks : Int) := toNat_small (by have := x.marks_le; omega)

set_option maxHeartbeats 4000000 in
set_option maxRecDepth 100000 in
theorem bits_same (x : It) (hx : x.Ok) (at0 : Int) (w : World) (rx : x.right = true) (y : Nat) (h1 : bits .and .i64 at0 65535 = (y : Int)) (h2 : (y : Int).tmod 7 = 0) :
    Calls Try.prog 8 #[x.v, .int .i64 at0, .int .u8 (x.marks : Int)] w fun e w' => e = .returned (.bool true) ∧ Below w.heap.size w w' := by
  have hex := fun w => enc_ok x hx rx w
  have hel := x.enc_len
  obtain ⟨N, hN⟩ : ∃ N, N = x.enc.length := ⟨_, rfl⟩
  rw [← hN] at hex
  have n40 : ¬ (N : Int) < 40 := by omega
  have nk : (1 : Int) < (N : Int) := by omega
  have HN := hid hN
  have HT := hid (one_of w x)
  have HQ := hid (enc_one (x := x))
  clear hel hN rx hx
  simp only [It.v, It.cells] at hex HT ⊢
  go_enter Try.func8, Try.ntmps8
  go_wp2_with fail
  refine (shown_any _).mono ?_
  rintro e w1 ⟨rfl, b1⟩
  have HT1 := hid (HT.out.next b1)
  clear HT b1
  obtain ⟨q0, q1, q2, q3, q4, q5, q6, q7⟩ := box_cells HT1.out.one
  go_wp2_with fail
  refine (hex _).mono ?_
  rintro e w2 ⟨g, rfl, hg, hB, hb⟩
  have HT2 := hid (HT1.out.next hb)
  obtain ⟨k1, k2, k3⟩ := bits_after (c := 0) hB HN.out HQ.out
  rw [marks_byte] at k1
  clear HT1 hb hex q0 q1 q2 q3 q4 q5 q6 q7 hB hg k3 HQ HN
  generalize x.marks = m at *
  go_wp2_with fail
  go_ret
  exact ⟨rfl, HT2.out.below.alloc HT2.out.below.size _⟩

set_option maxHeartbeats 4000000 in
set_option maxRecDepth 100000 in
theorem bits_high (x : It) (hx : x.Ok) (at0 : Int) (c : UInt8) (w : World) (rx : x.right = true) (y : Nat) (h1 : bits .and .i64 at0 65535 = (y : Int)) (h2 : (y : Int).tmod 7 = 0) (hne : c.toNat ≠ x.marks) (h3 : 3 < c.toNat) :
    Calls Try.prog 8 #[x.v, .int .i64 at0, .int .u8 (c.toNat : Int)] w fun e w' => e = .returned (.bool true) ∧ Below w.heap.size w w' := by
  have hex := fun w => enc_ok x hx rx w
  have hel := x.enc_len
  obtain ⟨N, hN⟩ : ∃ N, N = x.enc.length := ⟨_, rfl⟩
  rw [← hN] at hex
  have n40 : ¬ (N : Int) < 40 := by omega
  have nk : (1 : Int) < (N : Int) := by omega
  have c0 : ¬ (x.marks : Int) = ((c.toNat : Nat) : Int) := by omega
  have c3 : (3 : Int) < ((c.toNat : Nat) : Int) := by omega
  have HN := hid hN
  have HT := hid (one_of w x)
  have HQ := hid (enc_one (x := x))
  have HZ := hid (dec_set_high (x := x) h3)
  clear hel hN rx hx hne h3
  simp only [It.v, It.cells] at hex HT ⊢
  go_enter Try.func8, Try.ntmps8
  go_wp2_with fail
  refine (shown_any _).mono ?_
  rintro e w1 ⟨rfl, b1⟩
  have HT1 := hid (HT.out.next b1)
  have hlt := (HT1.out.one).lt
  clear HT b1
  obtain ⟨q0, q1, q2, q3, q4, q5, q6, q7⟩ := box_cells HT1.out.one
  go_wp2_with fail
  refine (hex _).mono ?_
  rintro e w2 ⟨g, rfl, hg, hB, hb⟩
  have HT2 := hid (HT1.out.next hb)
  have hgl := hid (Nat.lt_of_lt_of_le hlt hg)
  obtain ⟨k1, k2, k3⟩ := bits_after (c := c) hB HN.out HQ.out
  rw [marks_byte] at k1
  rw [HZ.out] at k3
  clear HT1 hb hex q0 q1 q2 q3 q4 q5 q6 q7 hB hg HQ HN hlt HZ
  generalize c.toNat = cn at *
  generalize x.marks = m at *
  go_wp2_with fail
  refine (k3 _).mono ?_
  rintro e w3 ⟨rfl, b3⟩
  have HT3 := hid ((HT2.out.put _ hgl.out 1 _).next b3)
  clear HT2 b3 k1 k2 k3
  simp only [decV, It.v, zero_cells]
  go_wp2_with fail
  go_ret
  exact ⟨rfl, HT3.out.below.alloc HT3.out.below.size _⟩

set_option maxHeartbeats 4000000 in
set_option maxRecDepth 100000 in
theorem bits_marks (x : It) (hx : x.Ok) (at0 : Int) (c : UInt8) (w : World) (rx : x.right = true) (y : Nat) (h1 : bits .and .i64 at0 65535 = (y : Int)) (h2 : (y : Int).tmod 7 = 0) (hne : c.toNat ≠ x.marks) (h3 : c.toNat ≤ 3) :
    Calls Try.prog 8 #[x.v, .int .i64 at0, .int .u8 (c.toNat : Int)] w fun e w' => e = .returned (.bool true) ∧ Below w.heap.size w w' := by
  obtain ⟨s, o, hs, ho, hm⟩ := two_bits c.toNat h3 x
  have hex := fun w => enc_ok x hx rx w
  have heq := fun W => item_eql (x.marked s o) (x.marked s o) W
  rw [sameB_iff.2 rfl] at heq
  have hel := x.enc_len
  obtain ⟨N, hN⟩ : ∃ N, N = x.enc.length := ⟨_, rfl⟩
  rw [← hN] at hex
  have n40 : ¬ (N : Int) < 40 := by omega
  have nk : (1 : Int) < (N : Int) := by omega
  have c0 : ¬ (x.marks : Int) = ((c.toNat : Nat) : Int) := by omega
  have c3 : ¬ (3 : Int) < ((c.toNat : Nat) : Int) := by omega
  have HN := hid hN
  have HT := hid (one_of w x)
  have HQ := hid (enc_one (x := x))
  have HZ := hid (dec_set_marks hx rx hm)
  clear hel hN rx hx hne h3 hm
  simp only [It.v, It.cells, It.marked] at hex HT heq ⊢
  go_enter Try.func8, Try.ntmps8
  go_wp2_with fail
  refine (shown_any _).mono ?_
  rintro e w1 ⟨rfl, b1⟩
  have HT1 := hid (HT.out.next b1)
  have hlt := (HT1.out.one).lt
  clear HT b1
  obtain ⟨q0, q1, q2, q3, q4, q5, q6, q7⟩ := box_cells HT1.out.one
  go_wp2_with fail
  refine (hex _).mono ?_
  rintro e w2 ⟨g, rfl, hg, hB, hb⟩
  have HT2 := hid (HT1.out.next hb)
  have hgl := hid (Nat.lt_of_lt_of_le hlt hg)
  obtain ⟨k1, k2, k3⟩ := bits_after (c := c) hB HN.out HQ.out
  rw [marks_byte] at k1
  rw [HZ.out] at k3
  clear HT1 hb hex q0 q1 q2 q3 q4 q5 q6 q7 hB hg HQ HN hlt HZ
  generalize c.toNat = cn at *
  generalize x.marks = m at *
  go_wp2_with fail
  refine (k3 _).mono ?_
  rintro e w3 ⟨rfl, b3⟩
  have hT3 := (HT2.out.put _ hgl.out 1 _).next b3
  have hbx := box_cells hT3.one
  have ha : ∀ ob, Blk (w3.alloc ob) w.heap.size 25 x.cells := fun ob => hT3.one.alloc ob
  have a0 := fun ob => (box_cells (ha ob)).1
  have a1 := fun ob => (box_cells (ha ob)).2.1
  have a2 := fun ob => (box_cells (ha ob)).2.2.1
  have a3 := fun ob => (box_cells (ha ob)).2.2.2.1
  have a4 := fun ob => (box_cells (ha ob)).2.2.2.2.1
  have a5 := fun ob => (box_cells (ha ob)).2.2.2.2.2.1
  have a6 := fun ob => (box_cells (ha ob)).2.2.2.2.2.2.1
  have a7 := fun ob => (box_cells (ha ob)).2.2.2.2.2.2.2
  have f6 := fun ob => (ha ob).frozen 6
  have f7 := fun ob => (ha ob).frozen 7
  have l1 : ¬ w.heap.size = w3.heap.size := Nat.ne_of_lt hT3.one.lt
  have l2 : ¬ w3.heap.size = w.heap.size := fun e => l1 e.symm
  have HL := hid hT3.below
  have HLT := hid hT3.one.lt
  clear HT2 b3 k1 k2 k3 hT3 hbx ha hgl
  simp only [decV, It.v, It.cells, It.marked]
  go_wp2_with fail
  go_ret
  exact ⟨rfl, ((HL.out.alloc HL.out.size _).setCell (p := ⟨w.heap.size, 6, none⟩) (Nat.le_refl _) _).setCell (p := ⟨w.heap.size, 7, none⟩) (Nat.le_refl _) _⟩

theorem bits_law (x : It) (hx : x.Ok) (at0 : Int) (_a0 : -9223372036854775808 ≤ at0) (_a1 : at0 ≤ 9223372036854775807) (c : Nat) (hc : c < 256) (w : World) :
    Calls Try.prog 8 #[x.v, .int .i64 at0, .int .u8 c] w fun e w' => e = .returned (.bool true) ∧ Below w.heap.size w w' := by
  cases rx : x.right with
  | false => exact bits_no x at0 c w rx
  | true =>
    obtain ⟨y, r, h1, h2, hr⟩ := pick_of at0
    obtain ⟨b, hb, hb2⟩ := u8_of c hc
    rw [← hb]
    rcases r with _ | _ | _ | _ | _ | _ | _ | r
    · by_cases hm : b.toNat = x.marks
      · rw [hm]; exact bits_same x hx at0 w rx y h1 h2
      · by_cases h3 : 3 < b.toNat
        · exact bits_high x hx at0 b w rx y h1 h2 hm h3
        · exact bits_marks x hx at0 b w rx y h1 h2 hm (by omega)
    · exact bits_at2 x hx at0 b w rx y h1 h2
    · exact bits_at3 x hx at0 b w rx y h1 h2
    · exact bits_at12 x hx at0 b w rx y h1 h2
    · exact bits_at13 x hx at0 b w rx y h1 h2
    · exact bits_at14 x hx at0 b w rx y h1 h2
    · exact bits_at15 x hx at0 b w rx y h1 h2
    · omega
end Go.Proofs.Ytdbaldkinjdeaaa

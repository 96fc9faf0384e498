/-
  The law ItemBits at this program: what is not among an item's bits is refused. Conditions: the fields are such as their types hold.
-/
import Derived.Test.YtdbaldkinjdeaaaItemApart
import Derived.Test.YtdbaldkinjdeaaaItemDecC
namespace Go.Proofs.Ytdbaldkinjdeaaa
open Go Go.RowKit Go.Lib

theorem i64_and16 (n : Int) : bits .and .i64 n 65535 = n % 65536 := by
  have h127 : (BitVec.ofInt 64 65535).toNat = 2 ^ 16 - 1 := by decide
  have key : (BitVec.ofInt 64 n &&& BitVec.ofInt 64 65535).toNat = (n % ((2 ^ 64 : Nat) : Int)).toNat % 2 ^ 16 := by
    rw [BitVec.toNat_and, BitVec.toNat_ofInt, h127, Nat.and_two_pow_sub_one_eq_mod]
  show IntKind.i64.wrap ((BitVec.ofInt 64 n &&& BitVec.ofInt 64 65535).toNat : Nat) = n % 65536
  rw [key, IntKind.wrap_i64]
  omega
theorem pick_of (z : Int) : ∃ y r : Nat, bits .and .i64 z 65535 = (y : Int) ∧ (y : Int).tmod 7 = (r : Int) ∧ r < 7 := by
  refine ⟨(z % 65536).toNat, (z % 65536).toNat % 7, by rw [i64_and16]; omega, ?_, Nat.mod_lt _ (by decide)⟩
  rw [Int.tmod_eq_emod_of_nonneg (by omega)]; omega

theorem blk_byts {w : World} {g : Nat} {l : List UInt8} {n : Nat} (h : Blk w g 5 (bc l)) (hn : l.length = n) (c : Nat) : Byts w (.slice (some ⟨g, 0, none⟩) n c) l :=
  ⟨some ⟨g, 0, none⟩, c, by rw [hn], fun j b hj => ⟨g, 0, rfl, h.lt, by rw [Nat.zero_add]; exact h.cell (bc_at hj)⟩⟩

/-- One item's box. -/
structure One (w : World) (x : It) (wk : World) : Prop where
  one : Blk wk w.heap.size 25 x.cells
  below : Below w.heap.size w wk
theorem one_of (w : World) (x : It) : One w x (w.alloc (.cells x.cells.toArray 25)) := ⟨Blk.new w x.cells.toArray 25, (Below.refl _ _).alloc (Nat.le_refl _) _⟩
theorem One.next {w wk wl : World} {x : It} (h : One w x wk) (hb : Below wk.heap.size wk wl) : One w x wl := ⟨h.one.below hb, Below.then h.below hb⟩

set_option maxHeartbeats 4000000 in
set_option maxRecDepth 100000 in
theorem bits_no (x : It) (at0 : Int) (c : Nat) (w : World) (rx : x.right = false) :
    Calls Try.prog 8 #[x.v, .int .i64 at0, .int .u8 c] w fun e w' => e = .returned (.bool true) ∧ Below w.heap.size w w' := by
  have hex := fun w => enc_bad x rx w
  have HT := hid (one_of w x)
  clear rx
  simp only [It.v, It.cells] at hex HT ⊢
  go_enter Try.func8, Try.ntmps8
  go_wp2_with fail
  refine (shown_any _).mono ?_
  rintro e w1 ⟨rfl, b1⟩
  have HT1 := hid (HT.out.next b1)
  clear HT b1
  obtain ⟨q0, q1, q2, q3, q4, q5, q6, q7⟩ := box_cells HT1.out.one
  go_wp2_with fail
  refine (hex _).mono ?_
  rintro e w2 ⟨rfl, hb⟩
  have HT2 := hid (HT1.out.next hb)
  clear HT1 hb hex q0 q1 q2 q3 q4 q5 q6 q7
  go_wp2_with fail
  go_ret
  exact ⟨rfl, HT2.out.below⟩

theorem One.put {w wk : World} {x : It} (h : One w x wk) (ob : Obj) {g : Nat} (hg : w.heap.size < g) (i : Nat) (u : Value) : One w x ((wk.alloc ob).setCell ⟨g, i, none⟩ u) :=
  ⟨(h.one.alloc ob).setOther (p := ⟨g, i, none⟩) (Nat.ne_of_lt hg) u, (h.below.alloc h.below.size ob).setCell (p := ⟨g, i, none⟩) (Nat.le_of_lt hg) u⟩
/-- What stands behind Encode and the row of places. -/
theorem bits_after {w2 : World} {g N k : Nat} {x : It} {q c : UInt8} (hB : Blk w2 g 5 (bc x.enc)) (hN : N = x.enc.length) (hq : x.enc[k]? = some q) :
    (∀ ob, (w2.alloc ob).cell? ⟨g, k, none⟩ = some (.int .u8 (q.toNat : Int))) ∧ (∀ ob, (w2.alloc ob).frozen? ⟨g, k, none⟩ = false) ∧
      (∀ ob, Calls Try.prog 14 #[.slice (some ⟨g, 0, none⟩) N N] ((w2.alloc ob).setCell ⟨g, k, none⟩ (.int .u8 (c.toNat : Int))) fun e w' => e = .returned (decV (dec (x.enc.set k c))) ∧ Below ((w2.alloc ob).setCell ⟨g, k, none⟩ (.int .u8 (c.toNat : Int))).heap.size ((w2.alloc ob).setCell ⟨g, k, none⟩ (.int .u8 (c.toNat : Int))) w') :=
  ⟨fun ob => (hB.alloc ob).cell (bc_at hq), fun ob => (hB.alloc ob).frozen k, fun ob => by
    have h := (hB.alloc ob).set k (.int .u8 (c.toNat : Int))
    rw [← bc_set] at h
    exact dec_any _ _ N N (x.enc.set k c) (blk_byts h (by rw [List.length_set]; exact hN.symm) N) (by rw [List.length_set]; exact hN.symm) (Nat.le_refl _)⟩
theorem u8_of (c : Nat) (hc : c < 256) : ∃ b : UInt8, (b.toNat : Int) = (c : Int) ∧ b.toNat = c := ⟨UInt8.ofNat c, by rw [UInt8.toNat_ofNat']; omega, by rw [UInt8.toNat_ofNat']; omega⟩

set_option maxHeartbeats 4000000 in
set_option maxRecDepth 100000 in
theorem bits_at2 (x : It) (hx : x.Ok) (at0 : Int) (c : UInt8) (w : World) (rx : x.right = true) (y : Nat) (h1 : bits .and .i64 at0 65535 = (y : Int)) (h2 : (y : Int).tmod 7 = 1) :
    Calls Try.prog 8 #[x.v, .int .i64 at0, .int .u8 (c.toNat : Int)] w fun e w' => e = .returned (.bool true) ∧ Below w.heap.size w w' := by
  have hex := fun w => enc_ok x hx rx w
  have hel := x.enc_len
  obtain ⟨N, hN⟩ : ∃ N, N = x.enc.length := ⟨_, rfl⟩
  rw [← hN] at hex
  have n40 : ¬ (N : Int) < 40 := by omega
  have nk : (2 : Int) < (N : Int) := by omega
  have HN := hid hN
  have HT := hid (one_of w x)
  have hq := get_of_zero hx rx (k := 2) (by decide)
  have hz : ∀ h : c.toNat ≠ 0, dec (x.enc.set 2 c) = none := fun h => dec_set_zero (by decide) h
  have HQ := hid (And.intro hq hz)
  clear hel hN hq hz rx hx
  simp only [It.v, It.cells] at hex HT ⊢
  by_cases hc0 : c.toNat = 0
  · have c0 : ((c.toNat : Nat) : Int) = 0 := by omega
    rw [c0]
    go_enter Try.func8, Try.ntmps8
    go_wp2_with fail
    refine (shown_any _).mono ?_
    rintro e w1 ⟨rfl, b1⟩
    have HT1 := hid (HT.out.next b1)
    clear HT b1 hc0 c0
    obtain ⟨q0, q1, q2, q3, q4, q5, q6, q7⟩ := box_cells HT1.out.one
    go_wp2_with fail
    refine (hex _).mono ?_
    rintro e w2 ⟨g, rfl, hg, hB, hb⟩
    have HT2 := hid (HT1.out.next hb)
    obtain ⟨k1, k2, k3⟩ := bits_after (c := c) hB HN.out HQ.out.1
    rw [show (((0 : UInt8).toNat : Nat) : Int) = 0 from rfl] at k1
    clear HT1 hb hex q0 q1 q2 q3 q4 q5 q6 q7 hB hg k3 HQ HN
    go_wp2_with fail
    go_ret
    exact ⟨rfl, HT2.out.below.alloc HT2.out.below.size _⟩
  · have c0 : ¬ ((c.toNat : Nat) : Int) = 0 := by omega
    have c1 : ¬ (0 : Int) = ((c.toNat : Nat) : Int) := by omega
    have HZ := hid (HQ.out.2 hc0)
    go_enter Try.func8, Try.ntmps8
    go_wp2_with fail
    refine (shown_any _).mono ?_
    rintro e w1 ⟨rfl, b1⟩
    have HT1 := hid (HT.out.next b1)
    have hlt := (HT1.out.one).lt
    clear HT b1 hc0
    obtain ⟨q0, q1, q2, q3, q4, q5, q6, q7⟩ := box_cells HT1.out.one
    go_wp2_with fail
    refine (hex _).mono ?_
    rintro e w2 ⟨g, rfl, hg, hB, hb⟩
    have HT2 := hid (HT1.out.next hb)
    have hgl := hid (Nat.lt_of_lt_of_le hlt hg)
    obtain ⟨k1, k2, k3⟩ := bits_after (c := c) hB HN.out HQ.out.1
    rw [show (((0 : UInt8).toNat : Nat) : Int) = 0 from rfl] at k1
    rw [HZ.out] at k3
    clear HT1 hb hex q0 q1 q2 q3 q4 q5 q6 q7 hB hg HQ HN hlt HZ
    generalize c.toNat = cn at *
    go_wp2_with fail
    refine (k3 _).mono ?_
    rintro e w3 ⟨rfl, b3⟩
    have HT3 := hid ((HT2.out.put _ hgl.out 2 _).next b3)
    clear HT2 b3 k1 k2 k3
    simp only [decV, It.v, zero_cells]
    go_wp2_with fail
    go_ret
    exact ⟨rfl, HT3.out.below.alloc HT3.out.below.size _⟩

set_option maxHeartbeats 4000000 in
set_option maxRecDepth 100000 in
theorem bits_at3 (x : It) (hx : x.Ok) (at0 : Int) (c : UInt8) (w : World) (rx : x.right = true) (y : Nat) (h1 : bits .and .i64 at0 65535 = (y : Int)) (h2 : (y : Int).tmod 7 = 2) :
    Calls Try.prog 8 #[x.v, .int .i64 at0, .int .u8 (c.toNat : Int)] w fun e w' => e = .returned (.bool true) ∧ Below w.heap.size w w' := by
  have hex := fun w => enc_ok x hx rx w
  have hel := x.enc_len
  obtain ⟨N, hN⟩ : ∃ N, N = x.enc.length := ⟨_, rfl⟩
  rw [← hN] at hex
  have n40 : ¬ (N : Int) < 40 := by omega
  have nk : (3 : Int) < (N : Int) := by omega
  have HN := hid hN
  have HT := hid (one_of w x)
  have hq := get_of_zero hx rx (k := 3) (by decide)
  have hz : ∀ h : c.toNat ≠ 0, dec (x.enc.set 3 c) = none := fun h => dec_set_zero (by decide) h
  have HQ := hid (And.intro hq hz)
  clear hel hN hq hz rx hx
  simp only [It.v, It.cells] at hex HT ⊢
  by_cases hc0 : c.toNat = 0
  · have c0 : ((c.toNat : Nat) : Int) = 0 := by omega
    rw [c0]
    go_enter Try.func8, Try.ntmps8
    go_wp2_with fail
    refine (shown_any _).mono ?_
    rintro e w1 ⟨rfl, b1⟩
    have HT1 := hid (HT.out.next b1)
    clear HT b1 hc0 c0
    obtain ⟨q0, q1, q2, q3, q4, q5, q6, q7⟩ := box_cells HT1.out.one
    go_wp2_with fail
    refine (hex _).mono ?_
    rintro e w2 ⟨g, rfl, hg, hB, hb⟩
    have HT2 := hid (HT1.out.next hb)
    obtain ⟨k1, k2, k3⟩ := bits_after (c := c) hB HN.out HQ.out.1
    rw [show (((0 : UInt8).toNat : Nat) : Int) = 0 from rfl] at k1
    clear HT1 hb hex q0 q1 q2 q3 q4 q5 q6 q7 hB hg k3 HQ HN
    go_wp2_with fail
    go_ret
    exact ⟨rfl, HT2.out.below.alloc HT2.out.below.size _⟩
  · have c0 : ¬ ((c.toNat : Nat) : Int) = 0 := by omega
    have c1 : ¬ (0 : Int) = ((c.toNat : Nat) : Int) := by omega
    have HZ := hid (HQ.out.2 hc0)
    go_enter Try.func8, Try.ntmps8
    go_wp2_with fail
    refine (shown_any _).mono ?_
    rintro e w1 ⟨rfl, b1⟩
    have HT1 := hid (HT.out.next b1)
    have hlt := (HT1.out.one).lt
    clear HT b1 hc0
    obtain ⟨q0, q1, q2, q3, q4, q5, q6, q7⟩ := box_cells HT1.out.one
    go_wp2_with fail
    refine (hex _).mono ?_
    rintro e w2 ⟨g, rfl, hg, hB, hb⟩
    have HT2 := hid (HT1.out.next hb)
    have hgl := hid (Nat.lt_of_lt_of_le hlt hg)
    obtain ⟨k1, k2, k3⟩ := bits_after (c := c) hB HN.out HQ.out.1
    rw [show (((0 : UInt8).toNat : Nat) : Int) = 0 from rfl] at k1
    rw [HZ.out] at k3
    clear HT1 hb hex q0 q1 q2 q3 q4 q5 q6 q7 hB hg HQ HN hlt HZ
    generalize c.toNat = cn at *
    go_wp2_with fail
    refine (k3 _).mono ?_
    rintro e w3 ⟨rfl, b3⟩
    have HT3 := hid ((HT2.out.put _ hgl.out 3 _).next b3)
    clear HT2 b3 k1 k2 k3
    simp only [decV, It.v, zero_cells]
    go_wp2_with fail
    go_ret
    exact ⟨rfl, HT3.out.below.alloc HT3.out.below.size _⟩

set_option maxHeartbeats 4000000 in
set_option maxRecDepth 100000 in
theorem bits_at12 (x : It) (hx : x.Ok) (at0 : Int) (c : UInt8) (w : World) (rx : x.right = true) (y : Nat) (h1 : bits .and .i64 at0 65535 = (y : Int)) (h2 : (y : Int).tmod 7 = 3) :
    Calls Try.prog 8 #[x.v, .int .i64 at0, .int .u8 (c.toNat : Int)] w fun e w' => e = .returned (.bool true) ∧ Below w.heap.size w w' := by
  have hex := fun w => enc_ok x hx rx w
  have hel := x.enc_len
  obtain ⟨N, hN⟩ : ∃ N, N = x.enc.length := ⟨_, rfl⟩
  rw [← hN] at hex
  have n40 : ¬ (N : Int) < 40 := by omega
  have nk : (12 : Int) < (N : Int) := by omega
  have HN := hid hN
  have HT := hid (one_of w x)
  have hq := get_of_zero hx rx (k := 12) (by decide)
  have hz : ∀ h : c.toNat ≠ 0, dec (x.enc.set 12 c) = none := fun h => dec_set_zero (by decide) h
  have HQ := hid (And.intro hq hz)
  clear hel hN hq hz rx hx
  simp only [It.v, It.cells] at hex HT ⊢
  by_cases hc0 : c.toNat = 0
  · have c0 : ((c.toNat : Nat) : Int) = 0 := by omega
    rw [c0]
    go_enter Try.func8, Try.ntmps8
    go_wp2_with fail
    refine (shown_any _).mono ?_
    rintro e w1 ⟨rfl, b1⟩
    have HT1 := hid (HT.out.next b1)
    clear HT b1 hc0 c0
    obtain ⟨q0, q1, q2, q3, q4, q5, q6, q7⟩ := box_cells HT1.out.one
    go_wp2_with fail
    refine (hex _).mono ?_
    rintro e w2 ⟨g, rfl, hg, hB, hb⟩
    have HT2 := hid (HT1.out.next hb)
    obtain ⟨k1, k2, k3⟩ := bits_after (c := c) hB HN.out HQ.out.1
    rw [show (((0 : UInt8).toNat : Nat) : Int) = 0 from rfl] at k1
    clear HT1 hb hex q0 q1 q2 q3 q4 q5 q6 q7 hB hg k3 HQ HN
    go_wp2_with fail
    go_ret
    exact ⟨rfl, HT2.out.below.alloc HT2.out.below.size _⟩
  · have c0 : ¬ ((c.toNat : Nat) : Int) = 0 := by omega
    have c1 : ¬ (0 : Int) = ((c.toNat : Nat) : Int) := by omega
    have HZ := hid (HQ.out.2 hc0)
    go_enter Try.func8, Try.ntmps8
    go_wp2_with fail
    refine (shown_any _).mono ?_
    rintro e w1 ⟨rfl, b1⟩
    have HT1 := hid (HT.out.next b1)
    have hlt := (HT1.out.one).lt
    clear HT b1 hc0
    obtain ⟨q0, q1, q2, q3, q4, q5, q6, q7⟩ := box_cells HT1.out.one
    go_wp2_with fail
    refine (hex _).mono ?_
    rintro e w2 ⟨g, rfl, hg, hB, hb⟩
    have HT2 := hid (HT1.out.next hb)
    have hgl := hid (Nat.lt_of_lt_of_le hlt hg)
    obtain ⟨k1, k2, k3⟩ := bits_after (c := c) hB HN.out HQ.out.1
    rw [show (((0 : UInt8).toNat : Nat) : Int) = 0 from rfl] at k1
    rw [HZ.out] at k3
    clear HT1 hb hex q0 q1 q2 q3 q4 q5 q6 q7 hB hg HQ HN hlt HZ
    generalize c.toNat = cn at *
    go_wp2_with fail
    refine (k3 _).mono ?_
    rintro e w3 ⟨rfl, b3⟩
    have HT3 := hid ((HT2.out.put _ hgl.out 12 _).next b3)
    clear HT2 b3 k1 k2 k3
    simp only [decV, It.v, zero_cells]
    go_wp2_with fail
    go_ret
    exact ⟨rfl, HT3.out.below.alloc HT3.out.below.size _⟩

set_option maxHeartbeats 4000000 in
set_option maxRecDepth 100000 in
theorem bits_at13 (x : It) (hx : x.Ok) (at0 : Int) (c : UInt8) (w : World) (rx : x.right = true) (y : Nat) (h1 : bits .and .i64 at0 65535 = (y : Int)) (h2 : (y : Int).tmod 7 = 4) :
    Calls Try.prog 8 #[x.v, .int .i64 at0, .int .u8 (c.toNat : Int)] w fun e w' => e = .returned (.bool true) ∧ Below w.heap.size w w' := by
  have hex := fun w => enc_ok x hx rx w
  have hel := x.enc_len
  obtain ⟨N, hN⟩ : ∃ N, N = x.enc.length := ⟨_, rfl⟩
  rw [← hN] at hex
  have n40 : ¬ (N : Int) < 40 := by omega
  have nk : (13 : Int) < (N : Int) := by omega
  have HN := hid hN
  have HT := hid (one_of w x)
  have hq := get_of_zero hx rx (k := 13) (by decide)
  have hz : ∀ h : c.toNat ≠ 0, dec (x.enc.set 13 c) = none := fun h => dec_set_zero (by decide) h
  have HQ := hid (And.intro hq hz)
  clear hel hN hq hz rx hx
  simp only [It.v, It.cells] at hex HT ⊢
  by_cases hc0 : c.toNat = 0
  · have c0 : ((c.toNat : Nat) : Int) = 0 := by omega
    rw [c0]
    go_enter Try.func8, Try.ntmps8
    go_wp2_with fail
    refine (shown_any _).mono ?_
    rintro e w1 ⟨rfl, b1⟩
    have HT1 := hid (HT.out.next b1)
    clear HT b1 hc0 c0
    obtain ⟨q0, q1, q2, q3, q4, q5, q6, q7⟩ := box_cells HT1.out.one
    go_wp2_with fail
    refine (hex _).mono ?_
    rintro e w2 ⟨g, rfl, hg, hB, hb⟩
    have HT2 := hid (HT1.out.next hb)
    obtain ⟨k1, k2, k3⟩ := bits_after (c := c) hB HN.out HQ.out.1
    rw [show (((0 : UInt8).toNat : Nat) : Int) = 0 from rfl] at k1
    clear HT1 hb hex q0 q1 q2 q3 q4 q5 q6 q7 hB hg k3 HQ HN
    go_wp2_with fail
    go_ret
    exact ⟨rfl, HT2.out.below.alloc HT2.out.below.size _⟩
  · have c0 : ¬ ((c.toNat : Nat) : Int) = 0 := by omega
    have c1 : ¬ (0 : Int) = ((c.toNat : Nat) : Int) := by omega
    have HZ := hid (HQ.out.2 hc0)
    go_enter Try.func8, Try.ntmps8
    go_wp2_with fail
    refine (shown_any _).mono ?_
    rintro e w1 ⟨rfl, b1⟩
    have HT1 := hid (HT.out.next b1)
    have hlt := (HT1.out.one).lt
    clear HT b1 hc0
    obtain ⟨q0, q1, q2, q3, q4, q5, q6, q7⟩ := box_cells HT1.out.one
    go_wp2_with fail
    refine (hex _).mono ?_
    rintro e w2 ⟨g, rfl, hg, hB, hb⟩
    have HT2 := hid (HT1.out.next hb)
    have hgl := hid (Nat.lt_of_lt_of_le hlt hg)
    obtain ⟨k1, k2, k3⟩ := bits_after (c := c) hB HN.out HQ.out.1
    rw [show (((0 : UInt8).toNat : Nat) : Int) = 0 from rfl] at k1
    rw [HZ.out] at k3
    clear HT1 hb hex q0 q1 q2 q3 q4 q5 q6 q7 hB hg HQ HN hlt HZ
    generalize c.toNat = cn at *
    go_wp2_with fail
    refine (k3 _).mono ?_
    rintro e w3 ⟨rfl, b3⟩
    have HT3 := hid ((HT2.out.put _ hgl.out 13 _).next b3)
    clear HT2 b3 k1 k2 k3
    simp only [decV, It.v, zero_cells]
    go_wp2_with fail
    go_ret
    exact ⟨rfl, HT3.out.below.alloc HT3.out.below.size _⟩

set_option maxHeartbeats 4000000 in
set_option maxRecDepth 100000 in
theorem bits_at14 (x : It) (hx : x.Ok) (at0 : Int) (c : UInt8) (w : World) (rx : x.right = true) (y : Nat) (h1 : bits .and .i64 at0 65535 = (y : Int)) (h2 : (y : Int).tmod 7 = 5) :
    Calls Try.prog 8 #[x.v, .int .i64 at0, .int .u8 (c.toNat : Int)] w fun e w' => e = .returned (.bool true) ∧ Below w.heap.size w w' := by
  have hex := fun w => enc_ok x hx rx w
  have hel := x.enc_len
  obtain ⟨N, hN⟩ : ∃ N, N = x.enc.length := ⟨_, rfl⟩
  rw [← hN] at hex
  have n40 : ¬ (N : Int) < 40 := by omega
  have nk : (14 : Int) < (N : Int) := by omega
  have HN := hid hN
  have HT := hid (one_of w x)
  have hq := get_of_zero hx rx (k := 14) (by decide)
  have hz : ∀ h : c.toNat ≠ 0, dec (x.enc.set 14 c) = none := fun h => dec_set_zero (by decide) h
  have HQ := hid (And.intro hq hz)
  clear hel hN hq hz rx hx
  simp only [It.v, It.cells] at hex HT ⊢
  by_cases hc0 : c.toNat = 0
  · have c0 : ((c.toNat : Nat) : Int) = 0 := by omega
    rw [c0]
    go_enter Try.func8, Try.ntmps8
    go_wp2_with fail
    refine (shown_any _).mono ?_
    rintro e w1 ⟨rfl, b1⟩
    have HT1 := hid (HT.out.next b1)
    clear HT b1 hc0 c0
    obtain ⟨q0, q1, q2, q3, q4, q5, q6, q7⟩ := box_cells HT1.out.one
    go_wp2_with fail
    refine (hex _).mono ?_
    rintro e w2 ⟨g, rfl, hg, hB, hb⟩
    have HT2 := hid (HT1.out.next hb)
    obtain ⟨k1, k2, k3⟩ := bits_after (c := c) hB HN.out HQ.out.1
    rw [show (((0 : UInt8).toNat : Nat) : Int) = 0 from rfl] at k1
    clear HT1 hb hex q0 q1 q2 q3 q4 q5 q6 q7 hB hg k3 HQ HN
    go_wp2_with fail
    go_ret
    exact ⟨rfl, HT2.out.below.alloc HT2.out.below.size _⟩
  · have c0 : ¬ ((c.toNat : Nat) : Int) = 0 := by omega
    have c1 : ¬ (0 : Int) = ((c.toNat : Nat) : Int) := by omega
    have HZ := hid (HQ.out.2 hc0)
    go_enter Try.func8, Try.ntmps8
    go_wp2_with fail
    refine (shown_any _).mono ?_
    rintro e w1 ⟨rfl, b1⟩
    have HT1 := hid (HT.out.next b1)
    have hlt := (HT1.out.one).lt
    clear HT b1 hc0
    obtain ⟨q0, q1, q2, q3, q4, q5, q6, q7⟩ := box_cells HT1.out.one
    go_wp2_with fail
    refine (hex _).mono ?_
    rintro e w2 ⟨g, rfl, hg, hB, hb⟩
    have HT2 := hid (HT1.out.next hb)
    have hgl := hid (Nat.lt_of_lt_of_le hlt hg)
    obtain ⟨k1, k2, k3⟩ := bits_after (c := c) hB HN.out HQ.out.1
    rw [show (((0 : UInt8).toNat : Nat) : Int) = 0 from rfl] at k1
    rw [HZ.out] at k3
    clear HT1 hb hex q0 q1 q2 q3 q4 q5 q6 q7 hB hg HQ HN hlt HZ
    generalize c.toNat = cn at *
    go_wp2_with fail
    refine (k3 _).mono ?_
    rintro e w3 ⟨rfl, b3⟩
    have HT3 := hid ((HT2.out.put _ hgl.out 14 _).next b3)
    clear HT2 b3 k1 k2 k3
    simp only [decV, It.v, zero_cells]
    go_wp2_with fail
    go_ret
    exact ⟨rfl, HT3.out.below.alloc HT3.out.below.size _⟩

set_option maxHeartbeats 4000000 in
set_option maxRecDepth 100000 in
theorem bits_at15 (x : It) (hx : x.Ok) (at0 : Int) (c : UInt8) (w : World) (rx : x.right = true) (y : Nat) (h1 : bits .and .i64 at0 65535 = (y : Int)) (h2 : (y : Int).tmod 7 = 6) :
    Calls Try.prog 8 #[x.v, .int .i64 at0, .int .u8 (c.toNat : Int)] w fun e w' => e = .returned (.bool true) ∧ Below w.heap.size w w' := by
  have hex := fun w => enc_ok x hx rx w
  have hel := x.enc_len
  obtain ⟨N, hN⟩ : ∃ N, N = x.enc.length := ⟨_, rfl⟩
  rw [← hN] at hex
  have n40 : ¬ (N : Int) < 40 := by omega
  have nk : (15 : Int) < (N : Int) := by omega
  have HN := hid hN
  have HT := hid (one_of w x)
  have hq := get_of_zero hx rx (k := 15) (by decide)
  have hz : ∀ h : c.toNat ≠ 0, dec (x.enc.set 15 c) = none := fun h => dec_set_zero (by decide) h
  have HQ := hid (And.intro hq hz)
  clear hel hN hq hz rx hx
  simp only [It.v, It.cells] at hex HT ⊢
  by_cases hc0 : c.toNat = 0
  · have c0 : ((c.toNat : Nat) : Int) = 0 := by omega
    rw [c0]
    go_enter Try.func8, Try.ntmps8
    go_wp2_with fail
    refine (shown_any _).mono ?_
    rintro e w1 ⟨rfl, b1⟩
    have HT1 := hid (HT.out.next b1)
    clear HT b1 hc0 c0
    obtain ⟨q0, q1, q2, q3, q4, q5, q6, q7⟩ := box_cells HT1.out.one
    go_wp2_with fail
    refine (hex _).mono ?_
    rintro e w2 ⟨g, rfl, hg, hB, hb⟩
    have HT2 := hid (HT1.out.next hb)
    obtain ⟨k1, k2, k3⟩ := bits_after (c := c) hB HN.out HQ.out.1
    rw [show (((0 : UInt8).toNat : Nat) : Int) = 0 from rfl] at k1
    clear HT1 hb hex q0 q1 q2 q3 q4 q5 q6 q7 hB hg k3 HQ HN
    go_wp2_with fail
    go_ret
    exact ⟨rfl, HT2.out.below.alloc HT2.out.below.size _⟩
  · have c0 : ¬ ((c.toNat : Nat) : Int) = 0 := by omega
    have c1 : ¬ (0 : Int) = ((c.toNat : Nat) : Int) := by omega
    have HZ := hid (HQ.out.2 hc0)
    go_enter Try.func8, Try.ntmps8
    go_wp2_with fail
    refine (shown_any _).mono ?_
    rintro e w1 ⟨rfl, b1⟩
    have HT1 := hid (HT.out.next b1)
    have hlt := (HT1.out.one).lt
    clear HT b1 hc0
    obtain ⟨q0, q1, q2, q3, q4, q5, q6, q7⟩ := box_cells HT1.out.one
    go_wp2_with fail
    refine (hex _).mono ?_
    rintro e w2 ⟨g, rfl, hg, hB, hb⟩
    have HT2 := hid (HT1.out.next hb)
    have hgl := hid (Nat.lt_of_lt_of_le hlt hg)
    obtain ⟨k1, k2, k3⟩ := bits_after (c := c) hB HN.out HQ.out.1
    rw [show (((0 : UInt8).toNat : Nat) : Int) = 0 from rfl] at k1
    rw [HZ.out] at k3
    clear HT1 hb hex q0 q1 q2 q3 q4 q5 q6 q7 hB hg HQ HN hlt HZ
    generalize c.toNat = cn at *
    go_wp2_with fail
    refine (k3 _).mono ?_
    rintro e w3 ⟨rfl, b3⟩
    have HT3 := hid ((HT2.out.put _ hgl.out 15 _).next b3)
    clear HT2 b3 k1 k2 k3
    simp only [decV, It.v, zero_cells]
    go_wp2_with fail
    go_ret
    exact ⟨rfl, HT3.out.below.alloc HT3.out.below.size _⟩
end Go.Proofs.Ytdbaldkinjdeaaa

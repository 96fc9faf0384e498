/-
  Contract of item.isHead at this program: whether the noughts and the marks of at least 40 bytes are such as they may be. No further conditions.
-/
import Derived.Test.YtdbaldkinjdeaaaItemEnc
namespace Go.Proofs.Ytdbaldkinjdeaaa
open Go Go.RowKit Go.Lib

theorem Byts.below {w w' : World} {v : Value} {l : List UInt8} (h : Byts w v l) (hb : Below w.heap.size w w') : Byts w' v l := by
  obtain ⟨a, c, rfl, hx⟩ := h
  refine ⟨a, c, rfl, fun j b hj => ?_⟩
  obtain ⟨g, o, rfl, hlt, hc⟩ := hx j b hj
  exact ⟨g, o, rfl, Nat.lt_of_lt_of_le hlt hb.size, (hb.cell (p := ⟨g, o + j, none⟩) hlt).trans hc⟩
theorem Byts.drew {w : World} {v : Value} {l : List UInt8} (h : Byts w v l) : Byts w.drew v l := h
/-- Bytes i to j of bytes. -/
theorem Byts.sub {w : World} {g o n c c' k : Nat} {l : List UInt8} (h : Byts w (.slice (some ⟨g, o, none⟩) n c) l) {i j : Nat} (hij : i + k = j) (hj : j ≤ l.length) : Byts w (.slice (some ⟨g, o + i, none⟩) k c') (fld l i j) := by
  obtain ⟨a, c0, e, hx⟩ := h
  cases e
  refine ⟨some ⟨g, o + i, none⟩, c', by rw [fld_len (by omega) hj, show j - i = k by omega], fun q b hq => ?_⟩
  have hlt : q < j - i := by
    have := (List.getElem?_eq_some_iff.1 hq).1
    rwa [fld_len (by omega) hj] at this
  rw [fld_getElem? hlt] at hq
  obtain ⟨g', o', ha, hg, hc⟩ := hx _ _ hq
  cases ha
  exact ⟨g, o + i, rfl, hg, by rw [Nat.add_assoc]; exact hc⟩
theorem Byts.at_ {w : World} {g o n c : Nat} {l : List UInt8} (h : Byts w (.slice (some ⟨g, o, none⟩) n c) l) {i : Nat} (hi : i < l.length) : w.cell? ⟨g, o + i, none⟩ = some (.int .u8 (l[i].toNat : Int)) := by
  obtain ⟨a, c0, e, hx⟩ := h
  cases e
  obtain ⟨g', o', ha, _, hc⟩ := hx i _ (List.getElem?_eq_getElem hi)
  cases ha
  exact hc
theorem or_zero (X Y : Nat) (hX : X < 65536) (hY : Y < 4294967296) : ∃ Z : Nat, bits .or .u64 (X : Int) (Y : Int) = (Z : Int) ∧ (Z = 0 ↔ X = 0 ∧ Y = 0) := by
  refine ⟨X ||| Y, (bits_nat .u64 64 (by decide) Go.wraps_u64 X Y (by omega) (by omega)).2, ?_⟩
  rw [Nat.or_eq_zero_iff]

set_option maxHeartbeats 2000000 in
set_option maxRecDepth 100000 in
theorem head_any (w : World) (g o n c : Nat) (l : List UInt8) (hb : Byts w (.slice (some ⟨g, o, none⟩) n c) l) (h40 : 40 ≤ l.length) (hn : l.length = n) (hc : n ≤ c) :
    Calls Try.prog 22 #[.slice (some ⟨g, o, none⟩) n c] w fun e w' => e = .returned (.bool (headB l)) ∧ w' = w.drew := by
  have hN1 : ∀ W, Byts W (.slice (some ⟨g, o, none⟩) n c) l → _ := fun W h => number_any W _ _ (h.sub (c' := c - 2) (i := 2) (j := 4) (k := 2) rfl (by omega)) (by rw [fld_len (by decide) (by omega)]; decide)
  have hN2 : ∀ W, Byts W (.slice (some ⟨g, o, none⟩) n c) l → _ := fun W h => number_any W _ _ (h.sub (c' := c - 12) (i := 12) (j := 16) (k := 4) rfl (by omega)) (by rw [fld_len (by decide) (by omega)]; decide)
  have hX : num (fld l 2 4) < 65536 := fld_num_lt (m := 2) (by decide)
  have hY : num (fld l 12 16) < 4294967296 := fld_num_lt (m := 4) (by decide)
  have hM : dM l = (l[1]'(by omega)).toNat := by unfold dM; rw [fld_one (by omega : 1 < l.length), num_one]
  have h1 := hb.at_ (i := 1) (by omega)
  have hd : headB l = (decide (num (fld l 2 4) = 0) && decide (num (fld l 12 16) = 0) && decide (dM l ≤ 3)) := rfl
  rw [hM] at hd
  rw [hd]
  have hb255 := (l[1]'(by omega)).toNat_lt
  generalize (l[1]'(by omega)).toNat = q at *
  generalize num (fld l 2 4) = X at *
  generalize num (fld l 12 16) = Y at *
  obtain ⟨Z, hZ, hZ0⟩ := or_zero X Y hX hY
  have c4 : (4 : Int) ≤ (c : Int) := by omega
  have c16 : (16 : Int) ≤ (c : Int) := by omega
  have c2 : ¬ c = 2 := by omega
  have c12 : ¬ c = 12 := by omega
  have n1 : (1 : Int) < (n : Int) := by omega
  have HB := hid hb
  have HZ := hid hZ0
  clear hM hd hX hY hb hn hc h40 hZ0
  go_enter Try.func22, Try.ntmps22
  go_wp2_with fail
  go_region_held3 (fun _ => True) (trivial) (first
    | (go_at_call 23; have hq1 := hDone; refine (hN2 _ HB.out.drew).mono ?_; rintro e w1 ⟨rfl, rfl⟩)
    | (go_at_call 23; refine (hN1 _ HB.out.drew).mono ?_; rintro e w1 ⟨rfl, rfl⟩; have hDone := True.intro)
    | fail)
  go_wp2_with fail
  · go_ret
    refine ⟨ret_bool ?_, rfl⟩
    obtain ⟨rfl, rfl⟩ := HZ.out.1 ‹_›
    simp; omega
  · go_ret
    refine ⟨ret_bool ?_, rfl⟩
    have hz : ¬ (X = 0 ∧ Y = 0) := fun e => absurd (HZ.out.2 e) ‹_›
    symm
    rw [Bool.eq_false_iff]
    intro e
    simp at e
    exact hz e.1
end Go.Proofs.Ytdbaldkinjdeaaa

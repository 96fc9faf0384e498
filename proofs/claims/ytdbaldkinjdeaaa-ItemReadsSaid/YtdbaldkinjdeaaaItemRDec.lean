/-
  Contract of ambryref08.Decode at this program, the ways that find none. Conditions: the length is no more than the capacity, and below 2^63.
-/
import Derived.Test.YtdbaldkinjdeaaaItemDecC
namespace Go.Proofs.Ytdbaldkinjdeaaa
open Go Go.RowKit Go.Lib

theorem rdec_calls (g o n c : Nat) (l : List UInt8) (h40 : 40 ≤ l.length) (a b i j k : Nat) (hij : i + k = j) (hk : k ≤ 8) (hj : j ≤ 40) (ea : a = o + i) (eb : b = c - i) (W : World) (hb : Byts W (.slice (some ⟨g, o, none⟩) n c) l) :
    Calls Try.prog 24 #[.slice (some ⟨g, a, none⟩) k b] W fun e w' => e = .returned (.int .u64 (num (fld l i j) : Nat)) ∧ W = w' := by
  subst ea eb
  exact ref_number W _ _ (hb.sub (c' := c - i) (i := i) (j := j) (k := k) hij (by omega)) (by rw [fld_len (by omega) (by omega)]; omega)

set_option maxHeartbeats 2000000 in
set_option maxRecDepth 100000 in
theorem rdec_short (w : World) (a : Option Addr) (n c : Nat) (hn : n < 40) :
    Calls Try.prog 15 #[.slice a n c] w fun e w' => e = .returned (decV none) ∧ Below w.heap.size w w' := by
  have h40 : (n : Int) < 40 := by omega
  clear hn
  have HZ := hid (Blk.new w zero.cells.toArray 25)
  go_enter Try.func15, Try.ntmps15
  go_wp2_with fail
  exact bodyPost_ret (res_item rfl HZ.out rfl rfl) rfl ⟨rfl, (Below.refl _ _).alloc (Nat.le_refl _) _⟩

/-- The numbers of the way that finds no item. -/
theorem rbad_of {n K M V : Nat} (h40 : 40 ≤ n) (hn : n ≤ 9223372036854775807) (hK : K < 256) (h : ¬ (40 ≤ n ∧ M ≤ 3 ∧ V ≤ 65536 ∧ 40 + K + V ≤ n)) :
    (3 < M) ∨ (M ≤ 3 ∧ 65536 < V) ∨ (M ≤ 3 ∧ V ≤ 65536 ∧ ∃ p q : Nat, IntKind.i64.wrap (V : Int) = (V : Int) ∧ IntKind.i64.wrap ((K : Int) + (V : Int)) = (p : Int) ∧ wrap64 ((K : Int) + (V : Int)) = (p : Int) ∧ wrap64 ((n : Int) - 40) = (q : Int) ∧ (q : Int) < (p : Int)) := by
  by_cases h1 : 3 < M
  · exact .inl h1
  · by_cases h2 : 65536 < V
    · exact .inr (.inl ⟨by omega, h2⟩)
    · exact .inr (.inr ⟨by omega, by omega, K + V, n - 40, by rw [IntKind.wrap_i64]; omega, by rw [IntKind.wrap_i64]; omega, by unfold wrap64; omega, by unfold wrap64; omega, by omega⟩)

set_option maxHeartbeats 2000000 in
set_option maxRecDepth 100000 in
theorem rdec_bad (w : World) (g o n c : Nat) (l : List UInt8) (hb : Byts w (.slice (some ⟨g, o, none⟩) n c) l) (h40 : 40 ≤ l.length) (hn : l.length = n) (hc : n ≤ c) (hn63 : n ≤ 9223372036854775807) (hf : fitsB l = false) :
    Calls Try.prog 15 #[.slice (some ⟨g, o, none⟩) n c] w fun e w' => e = .returned (decV none) ∧ Below w.heap.size w w' := by
  have hN1 := rdec_calls g o n c l h40 (o + 1) (c - 1) 1 4 3 rfl (by decide) (by decide) rfl rfl
  have hN8 := rdec_calls g o n c l h40 (o + 8) (c - 8) 8 16 8 rfl (by decide) (by decide) rfl rfl
  obtain ⟨hx0, _⟩ := dec_facts (byts_alloc hb (.cells zero.cells.toArray 25)) h40
  have hK := dK_lt l
  have hno : ¬ (40 ≤ n ∧ num (fld l 1 4) ≤ 3 ∧ num (fld l 8 16) ≤ 65536 ∧ 40 + dK l + num (fld l 8 16) ≤ n) := by
    intro h
    rw [← hn] at h
    rw [(fitsB_iff l).2 h] at hf
    cases hf
  have hcs := rbad_of (by omega) hn63 hK hno
  have hwK : IntKind.i64.wrap (dK l : Int) = (dK l : Int) := by rw [IntKind.wrap_i64]; omega
  have n40 : ¬ (n : Int) < 40 := by omega
  have n0 : 0 < n := by omega
  have c4 : (4 : Int) ≤ (c : Int) := by omega
  have c16 : (16 : Int) ≤ (c : Int) := by omega
  have c8 : ¬ c = 8 := by omega
  have c1 : ¬ c = 1 := by omega
  have HB1 := hid (byts_alloc hb (.cells zero.cells.toArray 25))
  have HL := hid ((Below.refl w.heap.size w).alloc (Nat.le_refl _) (.cells zero.cells.toArray 25))
  have HZ := hid (Blk.new w zero.cells.toArray 25)
  rw [zero_cells] at hx0 HZ HB1 HL
  clear hb h40 hn hc hf hno hn63
  generalize dK l = K at *
  generalize num (fld l 1 4) = M at *
  generalize num (fld l 8 16) = V at *
  rcases hcs with h1 | ⟨h1, h2⟩ | ⟨h1, h2, p, q, v1, v2, v3, v4, v5⟩
  case inl =>
    have m1 : (3 : Int) < (M : Int) := by omega
    clear h1
    go_enter Try.func15, Try.ntmps15
    go_wp2_with fail
    refine (hN1 _ HB1.out).mono ?_
    rintro e w1 ⟨rfl, rfl⟩
    go_wp2_with fail
    refine (hN8 _ HB1.out).mono ?_
    rintro e w1 ⟨rfl, rfl⟩
    go_wp2_with fail
    exact bodyPost_ret (res_item (x := zero) (R := w.heap.size) rfl HZ.out rfl rfl) rfl ⟨rfl, HL.out⟩
  case inr.inl =>
    have m1 : ¬ (3 : Int) < (M : Int) := by omega
    have m2 : (65536 : Int) < (V : Int) := by omega
    clear h1 h2
    go_enter Try.func15, Try.ntmps15
    go_wp2_with fail
    refine (hN1 _ HB1.out).mono ?_
    rintro e w1 ⟨rfl, rfl⟩
    go_wp2_with fail
    refine (hN8 _ HB1.out).mono ?_
    rintro e w1 ⟨rfl, rfl⟩
    go_wp2_with fail
    exact bodyPost_ret (res_item (x := zero) (R := w.heap.size) rfl HZ.out rfl rfl) rfl ⟨rfl, HL.out⟩
  case inr.inr =>
    have m1 : ¬ (3 : Int) < (M : Int) := by omega
    have m2 : ¬ (65536 : Int) < (V : Int) := by omega
    clear h1 h2
    go_enter Try.func15, Try.ntmps15
    go_wp2_with fail
    refine (hN1 _ HB1.out).mono ?_
    rintro e w1 ⟨rfl, rfl⟩
    go_wp2_with fail
    refine (hN8 _ HB1.out).mono ?_
    rintro e w1 ⟨rfl, rfl⟩
    go_wp2_with fail
    exact bodyPost_ret (res_item (x := zero) (R := w.heap.size) rfl HZ.out rfl rfl) rfl ⟨rfl, HL.out⟩
end Go.Proofs.Ytdbaldkinjdeaaa

/-
  Contract of item.Decode at this program: the item with whose bytes these begin, or none. Conditions: the length is no more than the capacity.
-/
import Derived.Test.YtdbaldkinjdeaaaItemHead
namespace Go.Proofs.Ytdbaldkinjdeaaa
open Go Go.RowKit Go.Lib

/-- What Decode answers. -/
def decV : Option It → Value
  | none => .tuple #[zero.v, .int .i64 9]
  | some x => .tuple #[x.v, .int .i64 0]

theorem res_item {fn : Func} (h : fn.results = #[.cell 2 25, .tmp 3]) {tmps : Array Value} {w : World} {R : Nat} {x : It} (hb : Blk w R 25 x.cells) {z : Int} (h2 : tmps[2]?.getD undef = .pointer (some ⟨R, 0, none⟩)) (h3 : tmps[3]?.getD undef = .int .i64 z) :
    (results fn tmps).run Try.prog w = .ok (.tuple #[x.v, .int .i64 z]) w := by
  obtain ⟨q0, q1, q2, q3, q4, q5, q6, q7⟩ := box_cells hb
  simp [results, h, h2, h3, go_sem, q0, q1, q2, q3, q4, q5, q6, q7, It.v, It.cells]
theorem zero_cells : zero.cells = [.string ⟨#[]⟩, .int .u32 0, .string ⟨#[]⟩, .int .i64 0, .int .u64 0, .int .i64 0, .bool false, .bool false] := rfl

set_option maxHeartbeats 2000000 in
set_option maxRecDepth 100000 in
theorem dec_short (w : World) (a : Option Addr) (n c : Nat) (hn : n < 40) :
    Calls Try.prog 14 #[.slice a n c] w fun e w' => e = .returned (decV none) ∧ Below w.heap.size w w' := by
  have h40 : (n : Int) < 40 := by omega
  clear hn
  have HZ := hid (Blk.new w zero.cells.toArray 25)
  go_enter Try.func14, Try.ntmps14
  go_wp2_with fail
  exact bodyPost_ret (res_item rfl HZ.out rfl rfl) rfl ⟨rfl, (Below.refl _ _).alloc (Nat.le_refl _) _⟩

theorem byts_alloc {w : World} {v : Value} {l : List UInt8} (h : Byts w v l) (o : Obj) : Byts (w.alloc o) v l := h.below ((Below.refl _ _).alloc (Nat.le_refl _) o)

set_option maxHeartbeats 2000000 in
set_option maxRecDepth 100000 in
theorem dec_head (w : World) (g o n c : Nat) (l : List UInt8) (hb : Byts w (.slice (some ⟨g, o, none⟩) n c) l) (h40 : 40 ≤ l.length) (hn : l.length = n) (hc : n ≤ c) (hh : headB l = false) :
    Calls Try.prog 14 #[.slice (some ⟨g, o, none⟩) n c] w fun e w' => e = .returned (decV none) ∧ Below w.heap.size w w' := by
  have hH := fun W h => head_any W g o n c l h h40 hn hc
  rw [hh] at hH
  have n40 : ¬ (n : Int) < 40 := by omega
  have HB := hid hb
  clear hb hh h40 hn hc
  have HZ := hid (Blk.new w zero.cells.toArray 25)
  go_enter Try.func14, Try.ntmps14
  go_wp2_with fail
  refine (hH _ (byts_alloc HB.out _)).mono ?_
  rintro e w1 ⟨rfl, rfl⟩
  go_wp2_with fail
  exact bodyPost_ret (res_item rfl HZ.out.drew rfl rfl) rfl ⟨rfl, ((Below.refl _ _).alloc (Nat.le_refl _) _).drew⟩

theorem size_small {K V : Nat} (hK : K < 256) (hV : V ≤ 65536) : sizeZ (K : Int) (V : Int) = ((40 + K + V : Nat) : Int) := by
  have c1 : cntB (K : Int) = true := by unfold cntB; simp; omega
  have c2 : cntB (V : Int) = true := by unfold cntB; simp; omega
  unfold sizeZ; rw [if_pos ⟨c1, c2⟩]; omega
theorem size_large {K V : Nat} (hV : 65536 < V) : sizeZ (K : Int) (V : Int) = -1 := by
  have c2 : cntB (V : Int) = false := by unfold cntB; simp; omega
  unfold sizeZ; rw [if_neg (fun h => by rw [c2] at h; cases h.2)]

/-- What the walk's beginning wants of the bytes. -/
theorem dec_facts {w : World} {g o n c : Nat} {l : List UInt8} (hb : Byts w (.slice (some ⟨g, o, none⟩) n c) l) (h40 : 40 ≤ l.length) :
    w.cell? ⟨g, o, none⟩ = some (.int .u8 (dK l : Nat)) ∧ w.cell? ⟨g, o + 1, none⟩ = some (.int .u8 (dM l : Nat)) := by
  have h0 := hb.at_ (i := 0) (by omega)
  have h1 := hb.at_ (i := 1) (by omega)
  unfold dK dM
  rw [fld_one (by omega : 0 < l.length), fld_one (by omega : 1 < l.length), num_one, num_one]
  exact ⟨h0, h1⟩

set_option maxHeartbeats 2000000 in
set_option maxRecDepth 100000 in
theorem dec_long (w : World) (g o n c : Nat) (l : List UInt8) (hb : Byts w (.slice (some ⟨g, o, none⟩) n c) l) (h40 : 40 ≤ l.length) (hn : l.length = n) (hc : n ≤ c) (hh : headB l = true) (hf : fitsB l = false) :
    Calls Try.prog 14 #[.slice (some ⟨g, o, none⟩) n c] w fun e w' => e = .returned (decV none) ∧ Below w.heap.size w w' := by
  have hH := fun W h => head_any W g o n c l h h40 hn hc
  rw [hh] at hH
  have hN : ∀ W, Byts W (.slice (some ⟨g, o, none⟩) n c) l → _ := fun W h => number_any W _ _ (h.sub (c' := c - 8) (i := 8) (j := 12) (k := 4) rfl (by omega)) (by rw [fld_len (by decide) (by omega)]; decide)
  have hN' : ∀ W, Byts W (.slice (some ⟨g, o, none⟩) n c) l → Calls Try.prog 23 #[.slice (some ⟨g, o + 8, none⟩) 4 (c - 8)] W fun e w' => e = .returned (.int .u64 (dV l : Nat)) ∧ W = w' := hN
  obtain ⟨hx0, _⟩ := dec_facts (byts_alloc hb (.cells zero.cells.toArray 25)) h40
  have hsz : ∃ z : Int, sizeZ (dK l : Nat) (dV l : Nat) = z ∧ (z < 0 ∨ (¬ z < 0 ∧ (n : Int) < z)) := by
    refine ⟨_, rfl, ?_⟩
    have hK := dK_lt l
    by_cases hV : dV l ≤ 65536
    · rw [size_small hK hV]
      right
      have : ¬ (40 + dK l + dV l ≤ l.length) := fun h => by
        unfold fitsB at hf; simp [hh, h40, hV, h] at hf
      omega
    · rw [size_large (by omega)]; left; decide
  have hsi := fun w => size_any (dK l : Nat) (dV l : Nat) w
  obtain ⟨z, hz, hzc⟩ := hsz
  rw [hz] at hsi
  have hK := dK_lt l
  have hV := dV_lt l
  have hw : IntKind.i64.wrap (dV l : Int) = (dV l : Int) := by rw [IntKind.wrap_i64]; omega
  have hwK : IntKind.i64.wrap (dK l : Int) = (dK l : Int) := by rw [IntKind.wrap_i64]; omega
  have n40 : ¬ (n : Int) < 40 := by omega
  have n0 : 0 < n := by omega
  have c12 : (12 : Int) ≤ (c : Int) := by omega
  have c8 : ¬ c = 8 := by omega
  have HB := hid hb
  have HZ := hid (Blk.new w zero.cells.toArray 25)
  have HB1 := hid (byts_alloc hb (.cells zero.cells.toArray 25))
  have HL := hid ((Below.refl w.heap.size w).alloc (Nat.le_refl _) (.cells zero.cells.toArray 25))
  rw [zero_cells] at hx0 HZ HB1 HL
  clear hb hh h40 hn hc hf hz hN
  generalize dK l = K at *
  generalize dV l = V at *
  rcases hzc with hz0 | ⟨hz0, hz1⟩
  all_goals
    go_enter Try.func14, Try.ntmps14
    go_wp2_with fail
    refine (hH _ (byts_alloc HB.out _)).mono ?_
    rintro e w1 ⟨rfl, rfl⟩
    clear hH
    go_wp2_with fail
    go_region_held3 (fun w' => w'.cell? ⟨g, o, none⟩ = some (.int .u8 K)) (exact hx0) (first
      | (go_at_call 23; refine (hN' _ HB1.out.drew.drew).mono ?_; rintro e w2 ⟨rfl, rfl⟩)
      | fail)
    go_wp2_with fail
    refine (hsi _).mono ?_
    rintro e w3 ⟨rfl, rfl⟩
    go_wp2_with fail
    refine bodyPost_ret (res_item (x := zero) (R := w.heap.size) rfl HZ.out.drew.drew rfl rfl) rfl ?_
    exact ⟨rfl, HL.out.drew.drew⟩
end Go.Proofs.Ytdbaldkinjdeaaa

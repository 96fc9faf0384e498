/-
  Contract of item.Decode at this program, the way on which the lengths fit; and the whole contract. Conditions: the length is no more than the capacity.
-/
import Derived.Test.YtdbaldkinjdeaaaItemDec
import Derived.Deep.DeepCutAuto
namespace Go.Proofs.Ytdbaldkinjdeaaa
open Go Go.RowKit Go.Lib

/-- What 'string(b)' gives of bytes that can be read. -/
theorem conv_byts {W : World} {a : Addr} {n c : Nat} {l : List UInt8} (h : Byts W (.slice (some a) n c) l) (ha : a.spot = none) :
    (convert 27 9 (.slice (some a) n c)).run Try.prog W = .ok (.string (S l)) W := by
  obtain ⟨a', c', e, hx⟩ := h
  cases e
  refine run_convert_bytes_back (P := Try.prog) W 27 9 5 a c l Try.underlying27 Try.underlying5 Try.underlying9 (fun j hj => ?_)
  obtain ⟨g, o, e, _, hc⟩ := hx j l[j] (List.getElem?_eq_getElem hj)
  cases e
  rw [addr_plain, hc]

/-- An item's cells are written over. -/
def setItem (w : World) (R : Nat) (y : It) : World :=
  (((((((w.setCell ⟨R, 0, none⟩ (.string y.key)).setCell ⟨R, 1, none⟩ (.int .u32 y.flags)).setCell ⟨R, 2, none⟩ (.string y.val)).setCell ⟨R, 3, none⟩ (.int .i64 y.exp)).setCell ⟨R, 4, none⟩ (.int .u64 y.cas)).setCell ⟨R, 5, none⟩ (.int .i64 y.last)).setCell ⟨R, 6, none⟩ (.bool y.stale)).setCell ⟨R, 7, none⟩ (.bool y.won)
theorem setItem_blk {w : World} {R : Nat} {x : It} (y : It) (h : Blk w R 25 x.cells) : Blk (setItem w R y) R 25 y.cells :=
  (((((((h.set 0 (.string y.key)).set 1 (.int .u32 y.flags)).set 2 (.string y.val)).set 3 (.int .i64 y.exp)).set 4 (.int .u64 y.cas)).set 5 (.int .i64 y.last)).set 6 (.bool y.stale)).set 7 (.bool y.won)
theorem setItem_below {w0 w : World} {R B : Nat} (y : It) (h : Below B w0 w) (hR : B ≤ R) : Below B w0 (setItem w R y) :=
  (((((((h.setCell (p := ⟨R, 0, none⟩) hR _).setCell (p := ⟨R, 1, none⟩) hR _).setCell (p := ⟨R, 2, none⟩) hR _).setCell (p := ⟨R, 3, none⟩) hR _).setCell (p := ⟨R, 4, none⟩) hR _).setCell (p := ⟨R, 5, none⟩) hR _).setCell (p := ⟨R, 6, none⟩) hR _).setCell (p := ⟨R, 7, none⟩) hR _

theorem and_one (M : Nat) (h : M ≤ 3) : (bits .and .u8 (M : Int) 1 != 0) = decide (M % 2 = 1) ∧ (bits .and .u8 (M : Int) 2 != 0) = decide (M / 2 = 1) := by
  rcases M with _ | _ | _ | _ | M
  · exact ⟨rfl, rfl⟩
  · exact ⟨rfl, rfl⟩
  · exact ⟨rfl, rfl⟩
  · exact ⟨rfl, rfl⟩
  · omega
theorem wrap_toI {n : Nat} (h : n < 18446744073709551616) : IntKind.i64.wrap (n : Int) = toI n := by
  rw [IntKind.wrap_i64]; unfold toI; split <;> omega

theorem keep_alloc {w : World} {a : Addr} {x v : Value} {l : List UInt8} (h : w.cell? a = some x ∧ Hid (Byts w v l)) (ob : Obj) : (w.alloc ob).drew.drew.drew.cell? a = some x ∧ Hid (Byts (w.alloc ob).drew.drew.drew v l) :=
  ⟨cell_alloc h.1 ob, hid (byts_alloc h.2.out ob).drew.drew.drew⟩

/-- The calls and conversions that the decoder makes. -/
theorem dec_calls (g o n c : Nat) (l : List UInt8) (h40 : 40 ≤ l.length) (a b i j k : Nat) (hij : i + k = j) (hk : k ≤ 8) (hj : j ≤ 40) (ea : a = o + i) (eb : b = c - i) (W : World) (hb : Byts W (.slice (some ⟨g, o, none⟩) n c) l) :
    Calls Try.prog 23 #[.slice (some ⟨g, a, none⟩) k b] W fun e w' => e = .returned (.int .u64 (num (fld l i j) : Nat)) ∧ W = w' := by
  subst ea eb
  exact number_any W _ _ (hb.sub (c' := c - i) (i := i) (j := j) (k := k) hij (by omega)) (by rw [fld_len (by omega) (by omega)]; omega)


/-- Behind the making of the item: the answer's place, the item's place. -/
structure Mid (w : World) (y : It) (wx : World) : Prop where
  res : Blk wx w.heap.size 25 zero.cells
  item : Blk wx (w.heap.size + 1) 25 y.cells
  below : Below w.heap.size w wx
theorem mid_of (w : World) (y : It) : Mid w y ((w.alloc (.cells zero.cells.toArray 25)).alloc (.cells y.cells.toArray 25)).drew.drew.drew := by
  have h1 := Blk.new w zero.cells.toArray 25
  have h2 := Blk.new (w.alloc (.cells zero.cells.toArray 25)) y.cells.toArray 25
  have e : (w.alloc (.cells zero.cells.toArray 25)).heap.size = w.heap.size + 1 := by simp
  rw [e] at h2
  exact ⟨(h1.alloc _).drew.drew.drew, h2.drew.drew.drew, (((Below.refl _ _).alloc (Nat.le_refl _) _).alloc (by simp) _).drew.drew.drew⟩
theorem Mid.next {w wx wy : World} {y : It} (h : Mid w y wx) (hb : Below wx.heap.size wx wy) : Mid w y wy := ⟨h.res.below hb, h.item.below hb, Below.then h.below hb⟩

/-- The numbers of a decoding that goes through. -/
structure DN (n c H T K V : Nat) : Prop where
  n40 : ¬ (n : Int) < 40
  n0 : 0 < n
  n1 : (1 : Int) < (n : Int)
  nT : (T : Int) ≤ (n : Int)
  T0 : ¬ (T : Int) < 0
  cT : (T : Int) ≤ (c : Int)
  HT : (H : Int) ≤ (T : Int)
  H40 : (40 : Int) ≤ (H : Int)
  c8 : (8 : Int) ≤ (c : Int)
  c12 : (12 : Int) ≤ (c : Int)
  c24 : (24 : Int) ≤ (c : Int)
  c32 : (32 : Int) ≤ (c : Int)
  c40 : (40 : Int) ≤ (c : Int)
  cH : (H : Int) ≤ (c : Int)
  d4 : ¬ c = 4
  d8 : ¬ c = 8
  d16 : ¬ c = 16
  d24 : ¬ c = 24
  d32 : ¬ c = 32
  w1 : IntKind.i64.wrap (K : Int) = (K : Int)
  w2 : IntKind.i64.wrap (V : Int) = (V : Int)
  w3 : IntKind.i64.wrap (40 + (K : Int)) = (H : Int)
  w4 : wrap64 (40 + (K : Int)) = (H : Int)
theorem dn_of {n c K V : Nat} (h40 : 40 ≤ n) (hc : n ≤ c) (hK : K < 256) (hV : V ≤ 65536) (hT : 40 + K + V ≤ n) : DN n c (40 + K) (40 + K + V) K V := by
  constructor
  all_goals first | omega | (rw [IntKind.wrap_i64]; omega) | (unfold wrap64; omega)

/-- The decoder's calls and conversions, by their values. -/
structure DC (g o n c H T K V : Nat) (l : List UInt8) (zF zE zC zL : Nat) (kb vb : ByteArray) (o1 o2 : Nat) : Prop where
  hd : ∀ W, Byts W (.slice (some ⟨g, o, none⟩) n c) l → Calls Try.prog 22 #[.slice (some ⟨g, o, none⟩) n c] W fun e w' => e = .returned (.bool true) ∧ w' = W.drew
  n8 : ∀ W, Byts W (.slice (some ⟨g, o, none⟩) n c) l → Calls Try.prog 23 #[.slice (some ⟨g, o + 8, none⟩) 4 (c - 8)] W fun e w' => e = .returned (.int .u64 (V : Nat)) ∧ W = w'
  n4 : ∀ W, Byts W (.slice (some ⟨g, o, none⟩) n c) l → Calls Try.prog 23 #[.slice (some ⟨g, o + 4, none⟩) 4 (c - 4)] W fun e w' => e = .returned (.int .u64 (zF : Nat)) ∧ W = w'
  n16 : ∀ W, Byts W (.slice (some ⟨g, o, none⟩) n c) l → Calls Try.prog 23 #[.slice (some ⟨g, o + 16, none⟩) 8 (c - 16)] W fun e w' => e = .returned (.int .u64 (zE : Nat)) ∧ W = w'
  n24 : ∀ W, Byts W (.slice (some ⟨g, o, none⟩) n c) l → Calls Try.prog 23 #[.slice (some ⟨g, o + 24, none⟩) 8 (c - 24)] W fun e w' => e = .returned (.int .u64 (zC : Nat)) ∧ W = w'
  n32 : ∀ W, Byts W (.slice (some ⟨g, o, none⟩) n c) l → Calls Try.prog 23 #[.slice (some ⟨g, o + 32, none⟩) 8 (c - 32)] W fun e w' => e = .returned (.int .u64 (zL : Nat)) ∧ W = w'
  ck : ∀ W, Hid (Byts W (.slice (some ⟨g, o, none⟩) n c) l) → (convert 27 9 (.slice (some ⟨g, o1, none⟩) (H - 40) (c - 40))).run Try.prog W = .ok (.string kb) W
  cv : ∀ W, Hid (Byts W (.slice (some ⟨g, o, none⟩) n c) l) → (convert 27 9 (.slice (some ⟨g, o2, none⟩) (T - H) (c - H))).run Try.prog W = .ok (.string vb) W
  si : ∀ W, Calls Try.prog 12 #[.int .i64 K, .int .i64 V] W fun e w' => e = .returned (.int .i64 T) ∧ W = w'
end Go.Proofs.Ytdbaldkinjdeaaa

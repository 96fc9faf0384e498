/-
  What the walk of ambryref08.Decode at this program wants where the lengths fit: its numbers, its calls. No conditions.
-/
import Derived.Test.YtdbaldkinjdeaaaItemRDec
namespace Go.Proofs.Ytdbaldkinjdeaaa
open Go Go.RowKit Go.Lib

/-- The numbers of the answer's decoding that goes through. -/
structure RN (n c H T K V M : Nat) : Prop where
  n40 : ¬ (n : Int) < 40
  n0 : 0 < n
  HT : (H : Int) ≤ (T : Int)
  H40 : (40 : Int) ≤ (H : Int)
  cT : (T : Int) ≤ (c : Int)
  cH : (H : Int) ≤ (c : Int)
  c4 : (4 : Int) ≤ (c : Int)
  c8 : (8 : Int) ≤ (c : Int)
  c16 : (16 : Int) ≤ (c : Int)
  c24 : (24 : Int) ≤ (c : Int)
  c32 : (32 : Int) ≤ (c : Int)
  c40 : (40 : Int) ≤ (c : Int)
  d1 : ¬ c = 1
  d4 : ¬ c = 4
  d8 : ¬ c = 8
  d16 : ¬ c = 16
  d24 : ¬ c = 24
  d32 : ¬ c = 32
  m1 : ¬ (3 : Int) < (M : Int)
  m2 : ¬ (65536 : Int) < (V : Int)
  w1 : IntKind.i64.wrap (K : Int) = (K : Int)
  w2 : IntKind.i64.wrap (V : Int) = (V : Int)
  w3 : IntKind.i64.wrap (40 + (K : Int)) = (H : Int)
  w4 : wrap64 (40 + (K : Int)) = (H : Int)
  w5 : IntKind.i64.wrap ((H : Int) + (V : Int)) = (T : Int)
  w6 : wrap64 ((H : Int) + (V : Int)) = (T : Int)
  pq : ∃ p q : Nat, IntKind.i64.wrap ((K : Int) + (V : Int)) = (p : Int) ∧ wrap64 ((K : Int) + (V : Int)) = (p : Int) ∧ wrap64 ((n : Int) - 40) = (q : Int) ∧ ¬ (q : Int) < (p : Int)
theorem rn_of {n c K V M : Nat} (h40 : 40 ≤ n) (hn : n ≤ 9223372036854775807) (hc : n ≤ c) (hK : K < 256) (hM : M ≤ 3) (hV : V ≤ 65536) (hT : 40 + K + V ≤ n) : RN n c (40 + K) (40 + K + V) K V M := by
  constructor
  case pq => exact ⟨K + V, n - 40, by rw [IntKind.wrap_i64]; omega, by unfold wrap64; omega, by unfold wrap64; omega, by omega⟩
  all_goals first | omega | (rw [IntKind.wrap_i64]; omega) | (unfold wrap64; omega)

/-- The calls and conversions, by their values. -/
structure RC (g o n c H T V M : Nat) (l : List UInt8) (zF zE zC zL : Nat) (kb vb : ByteArray) (o1 o2 : Nat) : Prop where
  n1 : ∀ W, Byts W (.slice (some ⟨g, o, none⟩) n c) l → Calls Try.prog 24 #[.slice (some ⟨g, o + 1, none⟩) 3 (c - 1)] W fun e w' => e = .returned (.int .u64 (M : Nat)) ∧ W = w'
  n8 : ∀ W, Byts W (.slice (some ⟨g, o, none⟩) n c) l → Calls Try.prog 24 #[.slice (some ⟨g, o + 8, none⟩) 8 (c - 8)] W fun e w' => e = .returned (.int .u64 (V : Nat)) ∧ W = w'
  n4 : ∀ W, Byts W (.slice (some ⟨g, o, none⟩) n c) l → Calls Try.prog 24 #[.slice (some ⟨g, o + 4, none⟩) 4 (c - 4)] W fun e w' => e = .returned (.int .u64 (zF : Nat)) ∧ W = w'
  n16 : ∀ W, Byts W (.slice (some ⟨g, o, none⟩) n c) l → Calls Try.prog 24 #[.slice (some ⟨g, o + 16, none⟩) 8 (c - 16)] W fun e w' => e = .returned (.int .u64 (zE : Nat)) ∧ W = w'
  n24 : ∀ W, Byts W (.slice (some ⟨g, o, none⟩) n c) l → Calls Try.prog 24 #[.slice (some ⟨g, o + 24, none⟩) 8 (c - 24)] W fun e w' => e = .returned (.int .u64 (zC : Nat)) ∧ W = w'
  n32 : ∀ W, Byts W (.slice (some ⟨g, o, none⟩) n c) l → Calls Try.prog 24 #[.slice (some ⟨g, o + 32, none⟩) 8 (c - 32)] W fun e w' => e = .returned (.int .u64 (zL : Nat)) ∧ W = w'
  ck : ∀ W, Hid (Byts W (.slice (some ⟨g, o, none⟩) n c) l) → (convert 27 9 (.slice (some ⟨g, o1, none⟩) (H - 40) (c - 40))).run Try.prog W = .ok (.string kb) W
  cv : ∀ W, Hid (Byts W (.slice (some ⟨g, o, none⟩) n c) l) → (convert 27 9 (.slice (some ⟨g, o2, none⟩) (T - H) (c - H))).run Try.prog W = .ok (.string vb) W

theorem rkeep_alloc {w : World} {v : Value} {l : List UInt8} (h : Byts w v l) (ob : Obj) : Hid (Byts (w.alloc ob).drew v l) := hid (byts_alloc h ob).drew
theorem rmid_of (w : World) (y : It) : Mid w y ((w.alloc (.cells zero.cells.toArray 25)).alloc (.cells y.cells.toArray 25)).drew := by
  have h := mid_of w y
  exact ⟨h.res, h.item, h.below.os, h.below.tape, h.below.output, h.below.size, h.below.block⟩
end Go.Proofs.Ytdbaldkinjdeaaa

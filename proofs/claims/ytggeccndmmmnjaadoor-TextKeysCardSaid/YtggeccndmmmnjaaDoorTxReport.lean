/-
  text.Report at this program: the lines, and one that says that these are all (T2). Condition: all of it takes at most 2^47 bytes.
-/
import Derived.Test.YtggeccndmmmnjaaDoorTxBld
import Derived.Test.YtggeccndmmmnjaaDoorTxSmall
namespace Go.Proofs.YtggeccndmmmnjaaDoor.Tx
open Go Go.RowKit Go.Lib Md

def linesS (xs : List (List UInt8)) : List UInt8 := xs.flatMap (fun x => x ++ [13, 10])
def repS (xs : List (List UInt8)) : List UInt8 := linesS xs ++ [69, 78, 68, 13, 10]
theorem linesS_append (a b : List (List UInt8)) : linesS (a ++ b) = linesS a ++ linesS b := by unfold linesS; rw [List.flatMap_append]
theorem linesS_take {xs : List (List UInt8)} {k : Nat} {x : List UInt8} (h : xs[k]? = some x) : linesS (xs.take (k + 1)) = linesS (xs.take k) ++ x ++ [13, 10] := by
  rw [List.take_add_one, h, Option.toList_some, linesS_append]
  simp [linesS]
theorem linesS_le {xs : List (List UInt8)} (k : Nat) : (linesS (xs.take k)).length ≤ (linesS xs).length := by
  conv => rhs; rw [← List.take_append_drop k xs, linesS_append, List.length_append]
  omega
theorem bld_new (w : World) : Bld w.heap.size w.heap.size [] (w.alloc (.cells #[.pointer none, .slice none 0 0] 47)) := by
  refine .inl ⟨Nat.le_refl _, .slice none 0 0, ?_, World.ownsRow_nil _ _ _ _, by simp [Value.ownBlock]⟩
  show (w.heap.push _)[w.heap.size]? = _
  rw [Array.getElem?_push, if_pos rfl]
set_option maxHeartbeats 1000000 in
set_option maxRecDepth 100000 in
theorem report_any (a : Option Addr) (c : Nat) (xs : List (List UInt8)) (hn : xs.length ≤ 140737488355328) (hl : (repS xs).length ≤ 140737488355328) (w : World) (hT : Texts w (.slice a xs.length c) xs) :
    Calls Tryd.prog 8 #[.slice a xs.length c] w fun e w' => e = .returned (.string (S (repS xs))) ∧ Below w.heap.size w w' := by
  have HT := hidc hT
  have HB := hidc (bld_new w)
  have hb0 : Below w.heap.size w (w.alloc (.cells #[.pointer none, .slice none 0 0] 47)) := (Below.refl _ _).alloc (Nat.le_refl _) _
  have HB0 := hidc hb0
  have HL : Hid ((linesS xs).length + 5 ≤ 140737488355328) := hidc (by unfold repS at hl; simpa using hl)
  clear hT hb0 hl
  go_enter Tryd.func8, Tryd.ntmps8
  go_wp2_with fail
  go_loopw [8] (fun i wr => ∃ k : Nat, k ≤ xs.length ∧ i = .int .i64 k ∧ Hid (Bld w.heap.size w.heap.size (linesS (xs.take k)) wr) ∧ Hid (Below w.heap.size w wr)) (fun i _ => xs.length - (RowKit.intOf i).toNat)
  case atStart => exact ⟨0, Nat.zero_le _, rfl, by rw [List.take_zero]; exact HB, HB0⟩
  case round =>
    obtain ⟨k, hk, rfl, HW, HBW⟩ := hrel
    clear HB HB0
    have hle := linesS_le (xs := xs) k
    by_cases hlt : k < xs.length
    · obtain ⟨x, hx⟩ : ∃ x, xs[k]? = some x := ⟨_, List.getElem?_eq_getElem hlt⟩
      obtain ⟨ba, oa, rfl, l1, h1⟩ := texts_cell HT.out hx
      have g1 : wr.cell? ⟨ba, oa + k, none⟩ = some (.string (S x)) := (HBW.out.cell (p := ⟨ba, oa + k, none⟩) l1).trans h1
      have htk := linesS_take hx
      have hle2 := linesS_le (xs := xs) (k + 1)
      have hln : (linesS (xs.take (k + 1))).length = (linesS (xs.take k)).length + x.length + 2 := by rw [htk]; simp; omega
      have HS1 := hidc (bld_str w.heap.size w.heap.size (linesS (xs.take k)) x wr HW.out (by have := HL.out; omega) HBW.out.size)
      have HTK := hidc htk
      have i1 : (k : Int) < (xs.length : Int) := by omega
      have HLN := hidc (And.intro hle2 hln)
      clear htk h1 l1 hx hle hle2 hln
      go_wp2_with fail
      refine HS1.out.mono ?_
      rintro e w1 ⟨rfl, h1, b1⟩
      have HS2 := hidc (bld_str w.heap.size w.heap.size (linesS (xs.take k) ++ x) [13, 10] w1 h1 (by have := HL.out; have := HLN.out; simp; omega) (Nat.le_trans HBW.out.size b1.size))
      have HB1 := hidc (Below.trans HBW.out b1)
      clear h1 b1 HS1 HW
      go_wp2_with fail
      refine HS2.out.mono ?_
      rintro e w2 ⟨rfl, h2, b2⟩
      have HB2 := hidc (Below.trans HB1.out b2)
      have HW2 := hidc h2
      clear h2 b2 HS2 HB1
      go_wp2_with fail
      go_roundw
      case rel => exact ⟨k + 1, by omega, by go_num, by rw [HTK.out]; exact HW2, HB2⟩
      case measure => simp [RowKit.intOf]; omega
    · obtain rfl : k = xs.length := by omega
      rw [List.take_length] at HW
      have HS1 := hidc (bld_str w.heap.size w.heap.size (linesS xs) [69, 78, 68] wr HW.out (by have := HL.out; simp; omega) HBW.out.size)
      clear hle
      go_wp2_with fail
      refine HS1.out.mono ?_
      rintro e w1 ⟨rfl, h1, b1⟩
      have HS2 := hidc (bld_str w.heap.size w.heap.size (linesS xs ++ [69, 78, 68]) [13, 10] w1 h1 (by have := HL.out; simp; omega) (Nat.le_trans HBW.out.size b1.size))
      have HB1 := hidc (Below.trans HBW.out b1)
      clear h1 b1 HS1 HW
      go_wp2_with fail
      refine HS2.out.mono ?_
      rintro e w2 ⟨rfl, h2, b2⟩
      have HB2 := hidc (Below.trans HB1.out b2)
      have HS3 := hidc (bld_string w.heap.size w.heap.size _ w2 h2 HB2.out.size)
      clear h2 b2 HS2 HB1
      go_wp2_with fail
      refine HS3.out.mono ?_
      rintro e w3 ⟨rfl, b3⟩
      have HB3 := hidc (Below.trans HB2.out b3)
      have HE : Hid (linesS xs ++ [69, 78, 68] ++ [13, 10] = repS xs) := hidc (by unfold repS; simp)
      rw [HE.out]
      clear HS3 b3 HB2
      go_wp2_with fail
      go_ret
      exact ⟨rfl, HB3.out⟩
end Go.Proofs.YtggeccndmmmnjaaDoor.Tx

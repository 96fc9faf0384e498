/-
  The contract of the document's own ambryref03.Encode at this program: it answers the text of any bytes. Condition: the text takes at most 2^47 bytes.
-/
import Derived.Test.YtbmmlpfbflohgaaDoorB64Dec
import Derived.OwnWalk
import Derived.Laws.OwnMore
import Derived.Deep.AppendLies
import Derived.Laws.IdiomStrings
namespace Go.Proofs.YtbmmlpfbflohgaaDoor
open Go Go.Shelf Go.RowKit

theorem own_grown {W w1 : World} {n₀ : Nat} {e : TypeId} {size : Nat} {v : Value} {k : Nat} {xs : List Value} (hrow : W.ownsRow n₀ e size v k xs) (hn₀ : n₀ ≤ W.heap.size)
    (hgrow : W.grownBy w1 v.ownBlock) : Below n₀ W w1 := by
  refine (Below.refl n₀ W).grown hgrow hn₀ fun j ej => ?_
  rcases hrow.2 with ⟨rfl, _⟩ | ⟨g, cap, cur, rfl, hb, _, _⟩
  · simp [Value.ownBlock] at ej
  · obtain rfl : g = j := by simpa [Value.ownBlock] using ej
    exact hb

theorem wrap_u32 (n : Int) : IntKind.u32.wrap n = n % 4294967296 := IntKind.wrap_u32 n
theorem wraps_u32 (n : Int) (h₀ : 0 ≤ n) (h₁ : n < 2 ^ 32) : IntKind.u32.wrap n = n := by rw [wrap_u32]; omega
theorem and63 (n : Nat) (h : n < 4294967296) : bits .and .u32 (n : Int) 63 = ((n % 64 : Nat) : Int) := by
  have := bits_mask .u32 32 (by decide) wraps_u32 6 (by decide) (n : Int) (by omega) (by omega)
  rw [show ((2 : Int) ^ 6 - 1) = 63 from rfl] at this
  rw [this]; omega
theorem ln_of {n m : Nat} (h : n % 64 = m % 64) : ln n = (L m).toNat := by rw [L_nat, ← ln_mod n, h, ln_mod]
/-- The four numbers of a block. -/
theorem four_of (N a b c : Nat) (ha : a < 256) (hb : b < 256) (hc : c < 256) (hN : N = a * 65536 + b * 256 + c) :
    ∃ n0 n1 n2 n3 : Nat, (N : Int) / 262144 = (n0 : Int) ∧ bits .and .u32 ((N : Int) / 4096) 63 = (n1 : Int) ∧ bits .and .u32 ((N : Int) / 64) 63 = (n2 : Int) ∧ bits .and .u32 (N : Int) 63 = (n3 : Int)
      ∧ n0 < 64 ∧ n1 < 64 ∧ n2 < 64 ∧ n3 < 64 ∧ ln n0 = (L (a / 4)).toNat ∧ ln n1 = (L (a * 16 + b / 16)).toNat ∧ ln n2 = (L (b * 4 + c / 64)).toNat ∧ ln n3 = (L c).toNat := by
  refine ⟨N / 262144, N / 4096 % 64, N / 64 % 64, N % 64, by omega, ?_, ?_, and63 N (by omega), by omega, by omega, by omega, by omega, ln_of (by omega), ln_of (by omega), ln_of (by omega), ln_of (by omega)⟩
  · exact and63 (N / 4096) (by omega)
  · exact and63 (N / 64) (by omega)
theorem four_of_two (N a b : Nat) (ha : a < 256) (hb : b < 256) (hN : N = a * 65536 + b * 256) :
    ∃ n0 n1 n2 n3 : Nat, (N : Int) / 262144 = (n0 : Int) ∧ bits .and .u32 ((N : Int) / 4096) 63 = (n1 : Int) ∧ bits .and .u32 ((N : Int) / 64) 63 = (n2 : Int) ∧ bits .and .u32 (N : Int) 63 = (n3 : Int)
      ∧ n0 < 64 ∧ n1 < 64 ∧ n2 < 64 ∧ n3 < 64 ∧ ln n0 = (L (a / 4)).toNat ∧ ln n1 = (L (a * 16 + b / 16)).toNat ∧ ln n2 = (L (b * 4)).toNat ∧ ln n3 = (L 0).toNat := by
  have hN' : N = a * 65536 + b * 256 + 0 := hN.trans (Nat.add_zero _).symm
  have h := four_of N a b 0 ha hb (by decide) hN'
  have e : b * 4 + 0 / 64 = b * 4 := by omega
  rw [e] at h
  exact h
theorem four_of_one (N a : Nat) (ha : a < 256) (hN : N = a * 65536) :
    ∃ n0 n1 n2 n3 : Nat, (N : Int) / 262144 = (n0 : Int) ∧ bits .and .u32 ((N : Int) / 4096) 63 = (n1 : Int) ∧ bits .and .u32 ((N : Int) / 64) 63 = (n2 : Int) ∧ bits .and .u32 (N : Int) 63 = (n3 : Int)
      ∧ n0 < 64 ∧ n1 < 64 ∧ n2 < 64 ∧ n3 < 64 ∧ ln n0 = (L (a / 4)).toNat ∧ ln n1 = (L (a * 16)).toNat ∧ ln n2 = (L 0).toNat ∧ ln n3 = (L 0).toNat := by
  have hN' : N = a * 65536 + 0 * 256 := by rw [hN, Nat.zero_mul]; exact (Nat.add_zero _).symm
  have h := four_of_two N a 0 ha (by decide) hN'
  have e : a * 16 + 0 / 16 = a * 16 := by omega
  have e2 : 0 * 4 = 0 := by decide
  rw [e, e2] at h
  exact h
theorem or_none (a : Nat) (ha : a < 256) : ∃ M : Nat, (a : Int) % 4294967296 * 65536 % 4294967296 = (M : Int) ∧ M = a * 65536 := ⟨a * 65536, by omega, rfl⟩
theorem or_one (a b : Nat) (ha : a < 256) (hb : b < 256) : ∃ M : Nat, bits .or .u32 ((a : Int) % 4294967296 * 65536 % 4294967296) ((b : Int) % 4294967296 * 256 % 4294967296) = (M : Int) ∧ M = a * 65536 + b * 256 := by
  refine ⟨a * 65536 + b * 256, ?_, rfl⟩
  rw [bits_join .u32 32 (by decide) wraps_u32 16 _ _ (by omega) (by omega) (by omega) (by omega) (by omega) (by omega)]; omega
theorem or_two (M c : Nat) (hM : M % 256 = 0) (hM2 : M < 16777216) (hc : c < 256) : ∃ N : Nat, bits .or .u32 (M : Int) ((c : Int) % 4294967296) = (N : Int) ∧ N = M + c := by
  refine ⟨M + c, ?_, rfl⟩
  rw [bits_join .u32 32 (by decide) wraps_u32 8 _ _ (by omega) (by omega) (by omega) (by omega) (by omega) (by omega)]; omega

theorem addr_plain (b o j : Nat) : (⟨b, o, none⟩ : Addr).add j = ⟨b, o + j, none⟩ := by simp [Addr.add]
theorem addr_plain0 (b j : Nat) : (⟨b, 0, none⟩ : Addr).add j = ⟨b, j, none⟩ := by rw [addr_plain, Nat.zero_add]
theorem bytes_one (l : List UInt8) : ∀ u ∈ Lib.byteCells l, u.oneCell' = true := by
  intro u hu
  obtain ⟨c, _, rfl⟩ := List.mem_map.1 hu
  rfl
theorem new_cells (W : World) (x0 x1 x2 x3 : UInt8) : ∀ j u, (Lib.byteCells [x0, x1, x2, x3])[j]? = some u →
    (W.alloc (.cells #[.int .u8 (x0.toNat : Nat), .int .u8 (x1.toNat : Nat), .int .u8 (x2.toNat : Nat), .int .u8 (x3.toNat : Nat)] 5)).cell? ((⟨W.heap.size, 0, none⟩ : Addr).add j) = some u := by
  intro j u hj
  have hb := heap_alloc_new W (.cells #[.int .u8 (x0.toNat : Nat), .int .u8 (x1.toNat : Nat), .int .u8 (x2.toNat : Nat), .int .u8 (x3.toNat : Nat)] 5)
  have e : (⟨W.heap.size, 0, none⟩ : Addr).add j = ⟨W.heap.size, j, none⟩ := addr_plain0 _ _
  rw [e, Lib.cell_of_heap hb]
  match j, hj with
  | 0, hj => exact hj
  | 1, hj => exact hj
  | 2, hj => exact hj
  | 3, hj => exact hj

/-- What 'string(b)' gives where b owns these bytes. -/
theorem conv_own {W : World} {base : Nat} {v : Value} {l : List UInt8} (h : W.ownsRow base 5 1 v l.length (Lib.byteCells l)) :
    (convert 29 9 v).run Tryd.prog W = .ok (.string (S l)) W := by
  obtain ⟨ho⟩ : Nonempty (W.ownsRow base 5 1 v l.length (Lib.byteCells l)) := ⟨h⟩
  rcases h.2 with ⟨rfl, h0⟩ | ⟨g, cap, cur, rfl, hb, hg, hcap, hm, _⟩
  · rw [List.eq_nil_of_length_eq_zero h0]; kernel_rfl
  · exact run_convert_bytes_back (P := Tryd.prog) W 29 9 5 ⟨g, 0, none⟩ cap l Tryd.underlying29 Tryd.underlying5 Tryd.underlying9 (fun j hj => by
      rw [addr_plain, Nat.zero_add, ho.cellAt j (by omega)]
      simp [Lib.byteCells, List.getElem?_eq_getElem hj])

set_option maxHeartbeats 2000000 in
set_option maxRecDepth 100000 in
theorem ref_encode (s : ByteArray) (hs : (s.size + 2) / 3 * 4 ≤ 140737488355328) (w : World) :
    Calls Tryd.prog 11 #[.string s] w fun e w' => e = .returned (.string (S (enc s.data.toList))) ∧ Below w.heap.size w w' := by
  obtain ⟨i0, hi, hz0, hz1, hz2⟩ := info_parts infoByte
  obtain ⟨V, hV⟩ : ∃ V, V = S (enc s.data.toList) := ⟨_, rfl⟩
  rw [← hV]
  have HV := hid hV
  have HS := hid hs
  have hs1 : s.size ≤ 140737488355328 := by omega
  clear hV hs
  go_enter Tryd.func11, Tryd.ntmps11
  go_wp2_with fail
  go_loopw [3, 4] (fun v i wr => ∃ (k : Nat) (pre : List UInt8), i = .int .i64 k ∧ k ≤ s.size + 2 ∧ Hid (enc s.data.toList = pre ++ enc (s.data.toList.drop k)) ∧ wr.ownsRow w.heap.size 5 1 v pre.length (Lib.byteCells pre) ∧ Below w.heap.size w wr)
    (fun _ i _ => s.size + 2 - (intOf i).toNat)
  case atStart => exact ⟨0, [], rfl, by omega, hid (by simp), World.ownsRow_nil _ _ _ _, Below.refl _ _⟩
  case round =>
    obtain ⟨k, pre, rfl, hk, HP, hown, hb⟩ := hrel
    have hsz := hb.size
    by_cases hlt : k < s.size
    · by_cases h2 : k + 1 < s.size
      · by_cases h3 : k + 2 < s.size
        · have b1 := s[k].toNat_lt
          have b2 := s[k + 1].toNat_lt
          have b3 := s[k + 2].toNat_lt
          obtain ⟨M, o1, hM⟩ := or_one s[k].toNat s[k + 1].toNat b1 b2
          obtain ⟨N, o2, hN⟩ := or_two M s[k + 2].toNat (by omega) (by omega) b3
          obtain ⟨n0, n1, n2, n3, e0, e1, e2, e3, l0, l1, l2, l3, y0, y1, y2, y3⟩ := four_of N s[k].toNat s[k + 1].toNat s[k + 2].toNat b1 b2 b3 (by omega)
          have HE : Hid (enc (s.data.toList.drop k) = L (s[k].toNat / 4) :: L (s[k].toNat * 16 + s[k + 1].toNat / 16) :: L (s[k + 1].toNat * 4 + s[k + 2].toNat / 64) :: L s[k + 2].toNat :: enc (s.data.toList.drop (k + 3))) := hid (by
            rw [drop_at s k hlt, drop_at s (k + 1) h2, drop_at s (k + 2) h3, enc_three])
          have c0 := fun w => ref_letter n0 l0 w
          have c1 := fun w => ref_letter n1 l1 w
          have c2 := fun w => ref_letter n2 l2 w
          have c3 := fun w => ref_letter n3 l3 w
          rw [y0] at c0
          rw [y1] at c1
          rw [y2] at c2
          rw [y3] at c3
          generalize L (s[k].toNat / 4) = x0 at *
          generalize L (s[k].toNat * 16 + s[k + 1].toNat / 16) = x1 at *
          generalize L (s[k + 1].toNat * 4 + s[k + 2].toNat / 64) = x2 at *
          generalize L s[k + 2].toNat = x3 at *
          clear y0 y1 y2 y3 l0 l1 l2 l3 hM hN b1 b2 b3
          go_wp2_with fail
          refine (c0 _).mono ?_
          rintro e w1 ⟨rfl, rfl⟩
          go_wp2_with fail
          refine (c1 _).mono ?_
          rintro e w1 ⟨rfl, rfl⟩
          go_wp2_with fail
          refine (c2 _).mono ?_
          rintro e w1 ⟨rfl, rfl⟩
          go_wp2_with fail
          refine (c3 _).mono ?_
          rintro e w1 ⟨rfl, rfl⟩
          clear c0 c1 c2 c3 e0 e1 e2 e3 o1 o2
          have hlen : pre.length + 4 ≤ 140737488355328 := by
            have q1 := congrArg List.length HP.out
            have q2 := enc_len s.data.toList
            have q3 := HS.out
            rw [HE.out, ← size_len] at *
            simp only [List.length_append, List.length_cons] at q1
            omega
          go_wp2_with (at_builtin; refine wpList_append_own _ rfl _ _ 29 rfl w.heap.size 5 i0 (.int .u8 0) 1 1 Tryd.underlying29 hi hz0 hz1 hz2 rfl (by decide) _ _ _ rfl (hown.alloc _) ⟨wr.heap.size, 0, none⟩ 4 4 (Lib.byteCells [x0, x1, x2, x3]) rfl rfl ?c1 ?c2 ?c3 ?c4 ?c5 ?_)
          case c1 => exact new_cells wr x0 x1 x2 x3
          case c2 => exact bytes_one _
          case c3 => unfold maxLen; omega
          case c4 => omega
          case c5 => simp; omega
          intro v' w2 hown2 hgrow _
          have hb2 := (hb.alloc hsz _).trans (own_grown (hown.alloc _) (by simp; omega) hgrow)
          have ho : w2.ownsRow w.heap.size 5 1 v' (pre ++ [x0, x1, x2, x3]).length (Lib.byteCells (pre ++ [x0, x1, x2, x3])) := by rw [cells_more]; simpa using hown2
          have HP' : Hid (enc s.data.toList = (pre ++ [x0, x1, x2, x3]) ++ enc (s.data.toList.drop (k + 3))) := hid (by rw [HP.out, HE.out]; simp)
          clear hown hown2 hgrow hb HE HP hlen
          go_wp2_with fail
          go_roundw
          case rel => exact ⟨k + 3, _, by go_num, by omega, HP', ho, hb2⟩
          case measure => simp [intOf] <;> omega
        · have b1 := s[k].toNat_lt
          have b2 := s[k + 1].toNat_lt
          obtain ⟨N, o1, hN⟩ := or_one s[k].toNat s[k + 1].toNat b1 b2
          obtain ⟨n0, n1, n2, n3, e0, e1, e2, e3, l0, l1, l2, l3, y0, y1, y2, y3⟩ := four_of_two N s[k].toNat s[k + 1].toNat b1 b2 hN
          have HE : Hid (enc (s.data.toList.drop k) = [L (s[k].toNat / 4), L (s[k].toNat * 16 + s[k + 1].toNat / 16), L (s[k + 1].toNat * 4), 61]) := hid (by
            rw [drop_at s k hlt, drop_at s (k + 1) h2, drop_end (k := k + 1 + 1) (by omega), enc_two])
          have c0 := fun w => ref_letter n0 l0 w
          have c1 := fun w => ref_letter n1 l1 w
          have c2 := fun w => ref_letter n2 l2 w
          have c3 := fun w => ref_letter n3 l3 w
          rw [y0] at c0
          rw [y1] at c1
          rw [y2] at c2
          rw [y3] at c3
          generalize L (s[k].toNat / 4) = x0 at *
          generalize L (s[k].toNat * 16 + s[k + 1].toNat / 16) = x1 at *
          generalize L (s[k + 1].toNat * 4) = x2 at *
          generalize L 0 = x3 at *
          clear y0 y1 y2 y3 l0 l1 l2 l3 hN b1 b2
          have hlen : pre.length + 4 ≤ 140737488355328 := by
            have q1 := congrArg List.length HP.out
            have q2 := enc_len s.data.toList
            have q3 := HS.out
            rw [HE.out, ← size_len] at *
            simp only [List.length_append, List.length_cons] at q1
            omega
          have HR : Hid (k + 3 ≤ s.size + 2 ∧ s.size ≤ k + 3) := hid (by omega)
          have i3 : (s.size : Int) - (k : Int) < 3 := by omega
          have i2 : ¬ (s.size : Int) - (k : Int) < 2 := by omega
          clear h3
          go_wp2_with fail
          refine (c0 _).mono ?_
          rintro e w1 ⟨rfl, rfl⟩
          go_wp2_with fail
          refine (c1 _).mono ?_
          rintro e w1 ⟨rfl, rfl⟩
          go_wp2_with fail
          refine (c2 _).mono ?_
          rintro e w1 ⟨rfl, rfl⟩
          go_wp2_with fail
          refine (c3 _).mono ?_
          rintro e w1 ⟨rfl, rfl⟩
          clear c0 c1 c2 c3 e0 e1 e2 e3 o1
          go_wp2_with (at_builtin; refine wpList_append_own _ rfl _ _ 29 rfl w.heap.size 5 i0 (.int .u8 0) 1 1 Tryd.underlying29 hi hz0 hz1 hz2 rfl (by decide) _ _ _ rfl (hown.alloc _) ⟨wr.heap.size, 0, none⟩ 4 4 (Lib.byteCells [x0, x1, x2, 61]) rfl rfl ?c1 ?c2 ?c3 ?c4 ?c5 ?_)
          case c1 => exact new_cells wr x0 x1 x2 61
          case c2 => exact bytes_one _
          case c3 => unfold maxLen; omega
          case c4 => omega
          case c5 => simp; omega
          intro v' w2 hown2 hgrow _
          have hb2 := (hb.alloc hsz _).trans (own_grown (hown.alloc _) (by simp; omega) hgrow)
          have ho : w2.ownsRow w.heap.size 5 1 v' (pre ++ [x0, x1, x2, 61]).length (Lib.byteCells (pre ++ [x0, x1, x2, 61])) := by rw [cells_more]; simpa using hown2
          have HP' : Hid (enc s.data.toList = (pre ++ [x0, x1, x2, 61]) ++ enc (s.data.toList.drop (k + 3))) := hid (by rw [HP.out, HE.out, drop_end HR.out.2, enc_nil]; simp)
          clear hown hown2 hgrow hb HE HP hlen
          go_wp2_with fail
          go_roundw
          case rel => exact ⟨k + 3, _, by go_num, HR.out.1, HP', ho, hb2⟩
          case measure => simp [intOf] <;> omega
      · have b1 := s[k].toNat_lt
        obtain ⟨N, o1, hN⟩ := or_none s[k].toNat b1
        obtain ⟨n0, n1, n2, n3, e0, e1, e2, e3, l0, l1, l2, l3, y0, y1, y2, y3⟩ := four_of_one N s[k].toNat b1 hN
        have HE : Hid (enc (s.data.toList.drop k) = [L (s[k].toNat / 4), L (s[k].toNat * 16), 61, 61]) := hid (by
          rw [drop_at s k hlt, drop_end (k := k + 1) (by omega), enc_one])
        have c0 := fun w => ref_letter n0 l0 w
        have c1 := fun w => ref_letter n1 l1 w
        have c2 := fun w => ref_letter n2 l2 w
        have c3 := fun w => ref_letter n3 l3 w
        rw [y0] at c0
        rw [y1] at c1
        rw [y2] at c2
        rw [y3] at c3
        generalize L (s[k].toNat / 4) = x0 at *
        generalize L (s[k].toNat * 16) = x1 at *
        generalize L 0 = x2 at *
        clear y0 y1 y2 y3 l0 l1 l2 l3 b1 hN
        have hlen : pre.length + 4 ≤ 140737488355328 := by
          have q1 := congrArg List.length HP.out
          have q2 := enc_len s.data.toList
          have q3 := HS.out
          rw [HE.out, ← size_len] at *
          simp only [List.length_append, List.length_cons] at q1
          omega
        have HR : Hid (k + 3 ≤ s.size + 2 ∧ s.size ≤ k + 3) := hid (by omega)
        have i3 : (s.size : Int) - (k : Int) < 3 := by omega
        have i2 : (s.size : Int) - (k : Int) < 2 := by omega
        clear h2
        go_wp2_with fail
        refine (c0 _).mono ?_
        rintro e w1 ⟨rfl, rfl⟩
        go_wp2_with fail
        refine (c1 _).mono ?_
        rintro e w1 ⟨rfl, rfl⟩
        go_wp2_with fail
        refine (c2 _).mono ?_
        rintro e w1 ⟨rfl, rfl⟩
        go_wp2_with fail
        refine (c3 _).mono ?_
        rintro e w1 ⟨rfl, rfl⟩
        clear c0 c1 c2 c3 e0 e1 e2 e3 o1
        go_wp2_with (at_builtin; refine wpList_append_own _ rfl _ _ 29 rfl w.heap.size 5 i0 (.int .u8 0) 1 1 Tryd.underlying29 hi hz0 hz1 hz2 rfl (by decide) _ _ _ rfl (hown.alloc _) ⟨wr.heap.size, 0, none⟩ 4 4 (Lib.byteCells [x0, x1, 61, 61]) rfl rfl ?c1 ?c2 ?c3 ?c4 ?c5 ?_)
        case c1 => exact new_cells wr x0 x1 61 61
        case c2 => exact bytes_one _
        case c3 => unfold maxLen; omega
        case c4 => omega
        case c5 => simp; omega
        intro v' w2 hown2 hgrow _
        have hb2 := (hb.alloc hsz _).trans (own_grown (hown.alloc _) (by simp; omega) hgrow)
        have ho : w2.ownsRow w.heap.size 5 1 v' (pre ++ [x0, x1, 61, 61]).length (Lib.byteCells (pre ++ [x0, x1, 61, 61])) := by rw [cells_more]; simpa using hown2
        have HP' : Hid (enc s.data.toList = (pre ++ [x0, x1, 61, 61]) ++ enc (s.data.toList.drop (k + 3))) := hid (by rw [HP.out, HE.out, drop_end HR.out.2, enc_nil]; simp)
        clear hown hown2 hgrow hb HE HP hlen
        go_wp2_with fail
        go_roundw
        case rel => exact ⟨k + 3, _, by go_num, HR.out.1, HP', ho, hb2⟩
        case measure => simp [intOf] <;> omega
    · have HE : Hid (V = S pre) := hid (by rw [HV.out, HP.out, drop_end (by omega), enc_nil, List.append_nil])
      clear HV HP HS
      have hcv : ∀ W, W.ownsRow w.heap.size 5 1 u3 pre.length (Lib.byteCells pre) → (convert 29 9 u3).run Tryd.prog W = .ok (.string (S pre)) W := fun W h => conv_own h
      have hc := hcv wr hown
      clear hcv
      go_wp2_with fail
      go_ret
      exact ⟨by rw [HE.out]; rfl, hb⟩
end Go.Proofs.YtbmmlpfbflohgaaDoor

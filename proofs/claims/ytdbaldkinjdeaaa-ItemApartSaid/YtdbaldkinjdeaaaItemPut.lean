/-
  Contracts of item.put and item.number, and of ambryref08.number, at this program: a number is written into bytes, the lowest first, and read from them. Conditions: at most 8 bytes; for put they lie in a block that is known whole.
-/
import Derived.Test.YtdbaldkinjdeaaaItemRight
import Derived.Lib.EndianBits
namespace Go.Proofs.Ytdbaldkinjdeaaa
open Go Go.RowKit Go.Lib

/-- A slice of bytes that can be read. -/
def Byts (w : World) (v : Value) (l : List UInt8) : Prop :=
  ∃ a c, v = .slice a l.length c ∧ ∀ j b, l[j]? = some b → ∃ g o, a = some ⟨g, o, none⟩ ∧ g < w.heap.size ∧ w.cell? ⟨g, o + j, none⟩ = some (.int .u8 (b.toNat : Int))

theorem splice_step {cs : List UInt8} {off k n i : Nat} (hi : i < k) (hfit : off + k ≤ cs.length) :
    (splice cs off ((le k n).take i)).set (off + i) (UInt8.ofNat (n / 256 ^ i % 256)) = splice cs off ((le k n).take (i + 1)) := by
  have hl := le_len k n
  have l1 : ((le k n).take i).length = i := by rw [List.length_take]; omega
  have l2 : ((le k n).take (i + 1)).length = i + 1 := by rw [List.length_take]; omega
  apply List.ext_getElem?
  intro j
  rw [List.getElem?_set, splice_at (by omega), splice_at (by omega), l1, l2, length_splice _ _ _ (by omega)]
  by_cases hj : off + i = j
  · subst hj
    rw [if_pos rfl, if_pos (by omega), if_neg (by omega), if_pos (by omega), Nat.add_sub_cancel_left, List.getElem?_take, if_pos (by omega), le_at k n i hi]
  · rw [if_neg hj]
    by_cases h1 : j < off
    · rw [if_pos h1, if_pos h1]
    · rw [if_neg h1, if_neg h1]
      by_cases h2 : j < off + i
      · rw [if_pos h2, if_pos (by omega), List.getElem?_take, List.getElem?_take, if_pos (by omega), if_pos (by omega)]
      · rw [if_neg h2, if_neg (by omega)]
theorem splice_none (cs : List UInt8) (off k n : Nat) : splice cs off ((le k n).take 0) = cs := by
  unfold splice; simp
theorem bc_set (l : List UInt8) (k : Nat) (c : UInt8) : bc (l.set k c) = (bc l).set k (.int .u8 (c.toNat : Int)) := by simp [bc, List.map_set]
theorem put_byte (n k : Nat) : ((n : Int) / 2 ^ (8 * k)) % 256 = ((UInt8.ofNat (n / 256 ^ k % 256)).toNat : Int) := by
  rw [UInt8.toNat_ofNat', Nat.mod_mod_of_dvd _ (by decide)]
  have e : (256 : Nat) ^ k = 2 ^ (8 * k) := by rw [show (256 : Nat) = 2 ^ 8 from rfl, Nat.pow_mul]
  have e2 : (n : Int) / 2 ^ (8 * k) = ((n / 2 ^ (8 * k) : Nat) : Int) := by rw [Int.natCast_ediv, Int.natCast_pow]; rfl
  rw [e, e2]
  omega

set_option maxHeartbeats 2000000 in
set_option maxRecDepth 100000 in
theorem put_any (w : World) (g off k c n : Nat) (cs : List UInt8) (hb : Blk w g 5 (bc cs)) (hfit : off + k ≤ cs.length) (hk : k ≤ 8) :
    Calls Try.prog 20 #[.slice (some ⟨g, off, none⟩) k c, .int .u64 n] w fun e w' => e = .returned (.tuple #[]) ∧ Blk w' g 5 (bc (splice cs off (le k n))) ∧ Only (fun b => b = g) w w' := by
  go_enter Try.func20, Try.ntmps20
  go_wp2_with fail
  go_loopw [7] (fun v wr => ∃ i : Nat, i ≤ k ∧ v = .int .i64 i ∧ Hid (Blk wr g 5 (bc (splice cs off ((le k n).take i)))) ∧ Hid (Only (fun b => b = g) w wr)) (fun v _ => k - (RowKit.intOf v).toNat)
  case atStart => exact ⟨0, by omega, rfl, hid (by rw [splice_none]; exact hb), hid (Only.refl _ _)⟩
  case round =>
    obtain ⟨i, hi, rfl, hB, hO⟩ := hrel
    by_cases hlt : i < k
    · have hB' := hB.out.set (off + i) (.int .u8 ((UInt8.ofNat (n / 256 ^ i % 256)).toNat : Int))
      rw [← bc_set, splice_step hlt hfit] at hB'
      have hO' := hO.out.setCell (p := ⟨g, off + i, none⟩) (.inl rfl) (.int .u8 ((UInt8.ofNat (n / 256 ^ i % 256)).toNat : Int))
      have hce : ∃ v, wr.cell? ⟨g, off + i, none⟩ = some (.int .u8 v) := by
        have hl : off + i < (splice cs off ((le k n).take i)).length := by rw [length_splice _ _ _ (by rw [List.length_take, le_len]; omega)]; omega
        exact ⟨_, hB.out.cell (bc_at (List.getElem?_eq_getElem hl))⟩
      obtain ⟨v, hce⟩ := hce
      have hfr := hB.out.frozen (off + i)
      have HB := hid hB'
      have HO := hid hO'
      have hq := put_byte n i
      clear hB hO hB' hO' hb hi
      generalize (UInt8.ofNat (n / 256 ^ i % 256)).toNat = byte at *
      obtain ⟨q, e⟩ : ∃ q, q = 8 * i := ⟨_, rfl⟩
      have e1 : (8 : Int) * (i : Int) = (q : Int) := by omega
      have e2 : q ≤ 56 := by omega
      rw [← e] at hq
      clear e
      go_wp2_with fail
      go_roundw
      case rel => exact ⟨i + 1, by omega, by go_num, HB, HO⟩
      case measure => simp [RowKit.intOf] <;> omega
    · have ek : i = k := by omega
      subst ek
      rw [List.take_of_length_le (by rw [le_len]; exact Nat.le_refl _)] at hB
      go_wp2_with fail
      go_end0
      exact ⟨rfl, hB.out, hO.out⟩

/-- The number of the first i bytes, and one byte more. -/
theorem more_byte {l : List UInt8} {i : Nat} (h : i < l.length) (h8 : l.length ≤ 8) :
    bits .or .u64 (num (l.take i) : Nat) (IntKind.u64.wrap (((l[i].toNat : Nat) : Int) * 2 ^ (8 * i))) = (num (l.take (i + 1)) : Nat) := by
  have hb := l[i].toNat_lt
  have hP : (2 : Int) ^ (8 * i) = ((2 ^ (8 * i) : Nat) : Int) := by rw [Int.natCast_pow]; rfl
  have hP56 : 2 ^ (8 * i) ≤ 2 ^ 56 := Nat.pow_le_pow_right (by decide) (by omega)
  have e256 : (256 : Nat) ^ i = 2 ^ (8 * i) := by rw [show (256 : Nat) = 2 ^ 8 from rfl, Nat.pow_mul]
  have hX : num (l.take i) < 2 ^ (8 * i) := by
    have := num_lt (l.take i)
    rwa [List.length_take, Nat.min_eq_left (by omega), e256] at this
  rw [num_take_succ h, e256, hP]
  generalize num (l.take i) = X at *
  generalize l[i].toNat = B at *
  generalize hPP : 2 ^ (8 * i) = P at *
  have hm : B * P ≤ 255 * P := Nat.mul_le_mul_right _ (by omega)
  have e : (B : Int) * (P : Int) = ((B * P : Nat) : Int) := by rw [Int.natCast_mul]
  have hmod : B * P % P = 0 := Nat.mul_mod_left _ _
  rw [Nat.mul_comm P B, e]
  generalize B * P = Z at *
  have c56 : (2 : Nat) ^ 56 = 72057594037927936 := by decide
  rw [c56] at hP56
  have hw : IntKind.u64.wrap (Z : Int) = (Z : Int) := Go.wraps_u64 _ (by omega) (by omega)
  rw [hw, bits_join_low .u64 64 (by decide) Go.wraps_u64 (8 * i) (X : Int) (Z : Int) (by omega) (by first | omega | (rw [hP]; omega)) (by omega) (by omega) (by first | (rw [← Int.natCast_emod, hmod]; rfl) | (rw [hP, ← Int.natCast_emod, hmod]; rfl)) (by omega)]
  omega

set_option maxHeartbeats 2000000 in
set_option maxRecDepth 100000 in
theorem number_any (w : World) (v : Value) (l : List UInt8) (hb : Byts w v l) (h8 : l.length ≤ 8) :
    Calls Try.prog 23 #[v] w fun e w' => e = .returned (.int .u64 (num l)) ∧ w = w' := by
  obtain ⟨a, c, rfl, hx⟩ := hb
  obtain ⟨N, eN⟩ : ∃ N, N = l.length := ⟨_, rfl⟩
  rw [← eN]
  have n1 : N ≤ l.length := by omega
  have n2 : l.length ≤ N := by omega
  clear eN
  go_enter Try.func23, Try.ntmps23
  go_wp2_with fail
  go_loop [3, 8] (fun nv iv => ∃ i : Nat, i ≤ N ∧ iv = .int .i64 i ∧ nv = .int .u64 (num (l.take i))) (fun _ iv => N - (RowKit.intOf iv).toNat)
  case atStart => exact ⟨0, by omega, rfl, rfl⟩
  case round =>
    obtain ⟨i, hi, rfl, rfl⟩ := hrel
    by_cases hlt : i < N
    · obtain ⟨g, o, rfl, hg, hce⟩ := hx i l[i] (List.getElem?_eq_getElem (by omega))
      have hm := more_byte (l := l) (i := i) (by omega) h8
      have hb255 := l[i].toNat_lt
      generalize l[i].toNat = byte at *
      generalize num (l.take i) = X at *
      generalize eY : num (l.take (i + 1)) = Y at *
      have HY := hid eY
      clear eY
      obtain ⟨q, e⟩ : ∃ q, q = 8 * i := ⟨_, rfl⟩
      have e1 : (8 : Int) * (i : Int) = (q : Int) := by omega
      have e2 : q ≤ 56 := by omega
      rw [← e] at hm
      clear e hx hi
      go_wp2_with fail
      go_round
      case rel => exact ⟨i + 1, by omega, by go_num, by rw [HY.out]⟩
      case measure => simp [RowKit.intOf]; omega
    · have ek : i = N := by omega
      subst ek
      rw [List.take_of_length_le (by omega)]
      go_wp2_with fail
      go_ret
      exact ⟨rfl, rfl⟩

theorem ref_byte (X b : Nat) (hX : X < 72057594037927936) (hb : b < 256) : IntKind.u64.wrap (IntKind.u64.wrap (256 * (X : Int)) + (b : Int)) = ((b + 256 * X : Nat) : Int) := by
  rw [IntKind.wrap_u64, IntKind.wrap_u64]; omega

set_option maxHeartbeats 2000000 in
set_option maxRecDepth 100000 in
theorem ref_number (w : World) (v : Value) (l : List UInt8) (hb : Byts w v l) (h8 : l.length ≤ 8) :
    Calls Try.prog 24 #[v] w fun e w' => e = .returned (.int .u64 (num l)) ∧ w = w' := by
  obtain ⟨a, c, rfl, hx⟩ := hb
  obtain ⟨N, eN⟩ : ∃ N, N = l.length := ⟨_, rfl⟩
  rw [← eN]
  have n1 : N ≤ l.length := by omega
  have n2 : l.length ≤ N := by omega
  clear eN
  have h64 : wrap64 ((N : Int) - 1) = (N : Int) - 1 := by unfold wrap64; omega
  go_enter Try.func24, Try.ntmps24
  go_wp2_with fail
  go_loop [3, 4] (fun nv iv => ∃ i : Nat, i ≤ N ∧ iv = .int .i64 ((i : Int) - 1) ∧ nv = .int .u64 (num (l.drop i))) (fun _ iv => (RowKit.intOf iv + 1).toNat)
  case atStart => exact ⟨N, by omega, rfl, by rw [List.drop_of_length_le (by omega)]; rfl⟩
  case round =>
    obtain ⟨i, hi, rfl, rfl⟩ := hrel
    rcases i with _ | i
    · go_wp2_with fail
      go_ret
      exact ⟨rfl, rfl⟩
    · obtain ⟨g, o, rfl, hg, hce⟩ := hx i l[i] (List.getElem?_eq_getElem (by omega))
      have hb255 := l[i].toNat_lt
      have hX := num_lt (l.drop (i + 1))
      rw [List.length_drop] at hX
      have hX2 : (256 : Nat) ^ (l.length - (i + 1)) ≤ 256 ^ 7 := Nat.pow_le_pow_right (by decide) (by omega)
      have c56 : (256 : Nat) ^ 7 = 72057594037927936 := by decide
      have hm := ref_byte (num (l.drop (i + 1))) l[i].toNat (by omega) hb255
      have eY := num_drop (l := l) (i := i) (by omega)
      rw [← eY] at hm
      have e1 : ((i + 1 : Nat) : Int) - 1 = (i : Int) := by omega
      rw [e1]
      generalize l[i].toNat = byte at *
      generalize num (l.drop (i + 1)) = X at *
      generalize hY : num (l.drop i) = Y at *
      have HY := hid hY
      clear hY hX hX2 c56 eY hx
      go_wp2_with fail
      go_round
      case rel => exact ⟨i, by omega, rfl, by rw [HY.out]⟩
      case measure => simp [RowKit.intOf]
end Go.Proofs.Ytdbaldkinjdeaaa

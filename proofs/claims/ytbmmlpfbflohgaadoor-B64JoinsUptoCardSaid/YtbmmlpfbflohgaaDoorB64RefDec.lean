/-
  The contract of the document's own ambryref03.Decode at this program: it answers the bytes whose text it is, or none. Condition: a text takes at most 2^47 - 8 bytes.
-/
import Derived.Test.YtbmmlpfbflohgaaDoorB64Ref
namespace Go.Proofs.YtbmmlpfbflohgaaDoor
open Go Go.Shelf Go.RowKit

theorem decS_len {s : List UInt8} (h : s.length % 4 ≠ 0) : decS s = none :=
  decS_none fun b e => h (by rw [← e, enc_len]; omega)
/-- The bytes of a block of four. -/
def block (s : ByteArray) (i : Nat) : List UInt8 := (s.data.toList.drop i).take 4
theorem block_drop {s : ByteArray} {i k : Nat} (hi : i + 4 ≤ s.size) (hk : k < 4) : (block s i).drop k = s[i + k] :: (block s i).drop (k + 1) := by
  have hl : (block s i).length = 4 := by unfold block; rw [List.length_take, List.length_drop, ← size_len]; omega
  rw [List.drop_eq_getElem_cons (by omega)]
  congr 1
  unfold block
  rw [List.getElem_take, List.getElem_drop]; rfl
theorem block_end {s : ByteArray} {i : Nat} : (block s i).drop 4 = [] := List.drop_eq_nil_of_le (by unfold block; rw [List.length_take]; omega)
theorem fours_nil : fours [] = some [] := rfl
theorem fours_step {s : ByteArray} {i : Nat} (hi : i + 4 ≤ s.size) :
    fours (s.data.toList.drop i) = (blk (decide (i + 4 = s.size)) 0 0 0 (block s i)).bind fun x => (fours (s.data.toList.drop (i + 4))).map (out3 x.1 x.2 ++ ·) := by
  have e : block s i = [s[i], s[i + 1], s[i + 2], s[i + 3]] := by
    have h0 := block_drop (s := s) (i := i) (k := 0) hi (by omega)
    have h1 := block_drop (s := s) (i := i) (k := 1) hi (by omega)
    have h2 := block_drop (s := s) (i := i) (k := 2) hi (by omega)
    have h3 := block_drop (s := s) (i := i) (k := 3) hi (by omega)
    rw [List.drop_zero] at h0
    rw [h0, h1, h2, h3, block_end]; rfl
  have e2 : (s.data.toList.drop (i + 4)).isEmpty = decide (i + 4 = s.size) := by
    by_cases h : i + 4 = s.size
    · rw [drop_end (by omega)]; simp [h]
    · rw [drop_at s (i + 4) (by omega)]; simp [h]
  rw [e, drop_at s i (by omega), drop_at s (i + 1) (by omega), drop_at s (i + 1 + 1) (by omega), drop_at s (i + 1 + 1 + 1) (by omega), fours, e2]
theorem blk_sign {last : Bool} {k n p : Nat} {x : UInt8} {r : List UInt8} (hx : x.toNat = 61) (hl : last = true) (hk : 2 ≤ k) : blk last k n p (x :: r) = blk last (k + 1) (n * 64) (p + 1) r := by
  rw [blk, if_pos ⟨hx, hl, hk⟩, hx]; rfl
theorem blk_letter {last : Bool} {k n p : Nat} {x : UInt8} {r : List UInt8} (hx : x.toNat ≠ 61) (hi : isN x.toNat = true) (hp : p = 0) : blk last k n p (x :: r) = blk last (k + 1) (n * 64 + num x.toNat) p r := by
  rw [blk, if_neg (fun h => hx h.1), if_neg (by
    rintro (h | h)
    · rw [hi] at h; cases h
    · omega)]
theorem blk_fail {last : Bool} {k n p : Nat} {x : UInt8} {r : List UInt8} (hx : x.toNat ≠ 61 ∨ last = false ∨ k < 2) (hi : isN x.toNat = false ∨ 0 < p) : blk last k n p (x :: r) = none := by
  rw [blk, if_neg (by rintro ⟨h1, h2, h3⟩; rcases hx with h | h | h
                      · exact h h1
                      · rw [h] at h2; cases h2
                      · omega), if_pos hi]
theorem pow_step {n k d : Nat} (hn : n < 64 ^ k) (hd : d < 64) : n * 64 + d < 64 ^ (k + 1) := by rw [Nat.pow_succ]; omega
theorem or_more (n d : Nat) (hn : n < 67108864) (hd : d < 64) : bits .or .u32 ((n : Int) * 64) (d : Int) = ((n * 64 + d : Nat) : Int) := by
  rw [bits_join .u32 32 (by decide) wraps_u32 6 _ _ (by omega) (by omega) (by omega) (by omega) (by omega) (by omega)]; omega

theorem new_three (W : World) (n m : Nat) (hn : n < 16777216) : ∀ j u, (Lib.byteCells ([b8 (n / 65536), b8 (n / 256), b8 n].take m))[j]? = some u →
    (W.alloc (.cells #[.int .u8 ((n : Int) / 65536), .int .u8 ((n : Int) / 256 % 256), .int .u8 ((n : Int) % 256)] 5)).cell? ((⟨W.heap.size, 0, none⟩ : Addr).add j) = some u := by
  intro j u hj
  have hb := heap_alloc_new W (.cells #[.int .u8 ((n : Int) / 65536), .int .u8 ((n : Int) / 256 % 256), .int .u8 ((n : Int) % 256)] 5)
  rw [addr_plain0, Lib.cell_of_heap hb]
  have h1 : ((n : Int) / 65536) = ((b8 (n / 65536)).toNat : Nat) := by rw [b8_nat]; omega
  have h2 : ((n : Int) / 256 % 256) = ((b8 (n / 256)).toNat : Nat) := by rw [b8_nat]; omega
  have h3 : ((n : Int) % 256) = ((b8 n).toNat : Nat) := by rw [b8_nat]; omega
  rw [h1, h2, h3]
  have hj' : (Lib.byteCells [b8 (n / 65536), b8 (n / 256), b8 n])[j]? = some u := by
    unfold Lib.byteCells at hj ⊢
    rw [List.map_take, List.getElem?_take] at hj
    split at hj
    · exact hj
    · cases hj
  match j, hj' with
  | 0, h => exact h
  | 1, h => exact h
  | 2, h => exact h

theorem own_below {B : Nat} {e : TypeId} {k : Nat} {v : Value} {n : Nat} {xs : List Value} {w w' : World} (h : w.ownsRow B e k v n xs) (hb : Below w.heap.size w w') : w'.ownsRow B e k v n xs := by
  obtain ⟨h1, h2⟩ := h
  refine ⟨h1, ?_⟩
  rcases h2 with h2 | ⟨g, cap, cur, hv, hg, hc, h3⟩
  · exact .inl h2
  · refine .inr ⟨g, cap, cur, hv, hg, ?_, h3⟩
    have hlt : g < w.heap.size := by
      rcases Nat.lt_or_ge g w.heap.size with h' | h'
      · exact h'
      · simp [Array.getElem?_eq_none h'] at hc
    rw [hb.block g hlt]; exact hc
theorem encode_ref (l : List UInt8) (h : l.length ≤ 105553116266490) (w : World) :
    Calls Tryd.prog 11 #[.string (S l)] w fun e w' => e = .returned (.string (S (enc l))) ∧ Below w.heap.size w w' := by
  have := ref_encode (S l) (by rw [S_size]; omega) w
  rw [S_list] at this
  exact this

set_option maxHeartbeats 1000000 in
set_option maxRecDepth 100000 in
theorem ref_decode (s : ByteArray) (hs : s.size ≤ 140737488355320) (w : World) :
    Calls Tryd.prog 13 #[.string s] w fun e w' => e = .returned (pv (decS s.data.toList)) ∧ Below w.heap.size w w' := by
  obtain ⟨i0, hi, hz0, hz1, hz2⟩ := info_parts infoByte
  obtain ⟨V, hV⟩ : ∃ V, V = pv (decS s.data.toList) := ⟨_, rfl⟩
  rw [← hV]
  have HV := hid hV
  clear hV
  by_cases h4 : s.size % 4 = 0
  · have i4 : (s.size : Int) % 4 = 0 := by omega
    have H4 := hid h4
    have HF : Hid (∀ o, fours s.data.toList = o → V = pv (o.bind fun b => if enc b = s.data.toList then some b else none)) := hid (fun o ho => by rw [HV.out, ← fours_filter, ho])
    clear h4 HV
    go_enter Tryd.func13, Tryd.ntmps13
    go_wp2_with fail
    clear i4
    go_loopw [4, 5] (fun v i wr => ∃ (k : Nat) (pre : List UInt8), i = .int .i64 k ∧ k ≤ s.size ∧ Hid (k % 4 = 0) ∧ 4 * pre.length ≤ 3 * k ∧ Hid (fours s.data.toList = (fours (s.data.toList.drop k)).map (pre ++ ·)) ∧ wr.ownsRow w.heap.size 5 1 v pre.length (Lib.byteCells pre) ∧ Below w.heap.size w wr)
      (fun _ i _ => s.size - (intOf i).toNat)
    case atStart => exact ⟨0, [], rfl, by omega, hid rfl, by simp, hid (by simp), World.ownsRow_nil _ _ _ _, Below.refl _ _⟩
    case round =>
      obtain ⟨i, pre, rfl, hk, HI4, hpl, HP, hown, hb⟩ := hrel
      have hsz := hb.size
      by_cases hlt : i < s.size
      · have hi4 : i + 4 ≤ s.size := by have := H4.out; have := HI4.out; omega
        have HB := hid (fours_step hi4)
        have HFail : Hid (blk (decide (i + 4 = s.size)) 0 0 0 (block s i) = none → V = .tuple #[.string ⟨#[]⟩, .bool false]) := hid fun h => by
          rw [HF.out none (by rw [HP.out, HB.out, h]; rfl)]; rfl
        have hpr : pre.length + 3 ≤ 140737488355328 := by omega
        go_wp2_with fail
        go_loopw [6, 7, 8] (fun nv pvv kv wq => wq = wr ∧ ∃ (k n p : Nat), nv = .int .u32 n ∧ pvv = .int .i64 p ∧ kv = .int .i64 k ∧ k ≤ 4 ∧ n < 64 ^ k ∧ p ≤ 2 ∧ p ≤ k - 2 ∧ Hid (blk (decide (i + 4 = s.size)) 0 0 0 (block s i) = blk (decide (i + 4 = s.size)) k n p ((block s i).drop k)))
          (fun _ _ kv _ => 4 - (intOf kv).toNat)
        case atStart => exact ⟨rfl, 0, 0, 0, rfl, rfl, rfl, by omega, by omega, by omega, by omega, hid rfl⟩
        case round =>
          obtain ⟨rfl, k, n, p, rfl, rfl, rfl, hk4, hn, hp2, hpk, HK⟩ := hrel
          by_cases hk5 : k < 4
          · have hik : i + k < s.size := by omega
            have hxb := (s[i + k]'hik).toNat_lt
            have hnum := ref_number (s[i + k]'hik).toNat hxb
            have HD : Hid ((block s i).drop k = (s[i + k]'hik) :: (block s i).drop (k + 1)) := hid (block_drop hi4 hk5)
            have hn64 : n < 67108864 := Nat.lt_trans (Nat.lt_of_lt_of_le hn (Nat.pow_le_pow_right (by decide) (show k ≤ 4 by omega))) (by decide)
            by_cases hx : (s[i + k]'hik).toNat = 61
            · have ix : ((s[i + k]'hik).toNat : Int) = 61 := by omega
              have hnum' : ∀ w, Calls Tryd.prog 23 #[.int .u8 61] w fun e w' => e = .returned (.tuple #[.int .u32 0, .bool false]) ∧ w = w' := fun w => ref_number 61 (by decide) w
              clear hnum
              by_cases hl : i + 4 = s.size
              · have il : (i : Int) + 4 = (s.size : Int) := by omega
                by_cases hk2 : 2 ≤ k
                · have ik : (2 : Int) ≤ (k : Int) := by omega
                  have hor : bits .or .u32 ((n : Int) * 64) 0 = ((n * 64 : Nat) : Int) := or_more n 0 hn64 (by decide)
                  have hpow := hid (pow_step (d := 0) hn (by decide))
                  have HK' : Hid (blk (decide (i + 4 = s.size)) 0 0 0 (block s i) = blk (decide (i + 4 = s.size)) (k + 1) (n * 64) (p + 1) ((block s i).drop (k + 1))) := hid (by rw [HK.out, HD.out, blk_sign hx (by simp [hl]) hk2])
                  clear hx hl HD HK HFail hn
                  go_wp2_with fail
                  refine (hnum' _).mono ?_
                  rintro e w1 ⟨rfl, rfl⟩
                  clear hnum'
                  go_wp2_with fail
                  go_roundw
                  case rel => exact ⟨trivial, k + 1, n * 64, p + 1, by go_num, by go_num, by go_num, by omega, hpow.out, by omega, by omega, HK'⟩
                  case measure => simp [intOf] <;> omega
                · have ik : ¬ (2 : Int) ≤ (k : Int) := by omega
                  have HE : Hid (V = .tuple #[.string ⟨#[]⟩, .bool false]) := hid (HFail.out (by rw [HK.out, HD.out]; exact blk_fail (.inr (.inr (by omega))) (.inl (by rw [hx]; rfl))))
                  clear hx hl hk2 hn HD HK HFail
                  go_wp2_with fail
                  refine (hnum' _).mono ?_
                  rintro e w1 ⟨rfl, rfl⟩
                  clear hnum'
                  go_wp2_with fail
                  go_ret2
                  exact ⟨by rw [HE.out]; rfl, hb⟩
              · have il : ¬ (i : Int) + 4 = (s.size : Int) := by omega
                have HE : Hid (V = .tuple #[.string ⟨#[]⟩, .bool false]) := hid (HFail.out (by rw [HK.out, HD.out]; exact blk_fail (.inr (.inl (by simp [hl]))) (.inl (by rw [hx]; rfl))))
                clear hx hl hn HD HK HFail
                go_wp2_with fail
                refine (hnum' _).mono ?_
                rintro e w1 ⟨rfl, rfl⟩
                clear hnum'
                go_wp2_with fail
                go_ret2
                exact ⟨by rw [HE.out]; rfl, hb⟩
            · have ix : ¬ ((s[i + k]'hik).toNat : Int) = 61 := by omega
              have hnl := num_lt (s[i + k]'hik).toNat
              obtain ⟨d, hd⟩ : ∃ d, d = num (s[i + k]'hik).toNat := ⟨_, rfl⟩
              have HDd := hid hd
              cases hN : isN (s[i + k]'hik).toNat with
              | false =>
                have hnum' : ∀ w, Calls Tryd.prog 23 #[.int .u8 ((s[i + k]'hik).toNat : Nat)] w fun e w' => e = .returned (.tuple #[.int .u32 (d : Nat), .bool false]) ∧ w = w' := fun w => by
                  have h0 := hnum w
                  have e : numv (s[i + k]'hik).toNat = .tuple #[.int .u32 (d : Nat), .bool false] := by unfold numv; rw [hN, ← hd]
                  rw [e] at h0; exact h0
                have HE : Hid (V = .tuple #[.string ⟨#[]⟩, .bool false]) := hid (HFail.out (by rw [HK.out, HD.out]; exact blk_fail (.inl hx) (.inl hN)))
                clear hx hnum hd hnl hn HD HK HFail
                go_wp2_with fail
                refine (hnum' _).mono ?_
                rintro e w1 ⟨rfl, rfl⟩
                clear hnum'
                go_wp2_with fail
                go_ret2
                exact ⟨by rw [HE.out]; rfl, hb⟩
              | true =>
                have hnum' : ∀ w, Calls Tryd.prog 23 #[.int .u8 ((s[i + k]'hik).toNat : Nat)] w fun e w' => e = .returned (.tuple #[.int .u32 (d : Nat), .bool true]) ∧ w = w' := fun w => by
                  have h0 := hnum w
                  have e : numv (s[i + k]'hik).toNat = .tuple #[.int .u32 (d : Nat), .bool true] := by unfold numv; rw [hN, ← hd]
                  rw [e] at h0; exact h0
                rw [← hd] at hnl
                by_cases hp : 0 < p
                · have ip : (0 : Int) < (p : Int) := by omega
                  have HE : Hid (V = .tuple #[.string ⟨#[]⟩, .bool false]) := hid (HFail.out (by rw [HK.out, HD.out]; exact blk_fail (.inl hx) (.inr hp)))
                  clear hx hnum hd hnl hn hN HD HK HFail
                  go_wp2_with fail
                  refine (hnum' _).mono ?_
                  rintro e w1 ⟨rfl, rfl⟩
                  clear hnum'
                  go_wp2_with fail
                  go_ret2
                  exact ⟨by rw [HE.out]; rfl, hb⟩
                · obtain rfl : p = 0 := by omega
                  have hor := or_more n d hn64 hnl
                  have hpow := hid (pow_step (d := d) hn hnl)
                  have HK' : Hid (blk (decide (i + 4 = s.size)) 0 0 0 (block s i) = blk (decide (i + 4 = s.size)) (k + 1) (n * 64 + d) 0 ((block s i).drop (k + 1))) := hid (by rw [HK.out, HD.out, blk_letter hx hN rfl, ← hd])
                  clear hx HD HK HFail hn hnum hd hN
                  go_wp2_with fail
                  refine (hnum' _).mono ?_
                  rintro e w1 ⟨rfl, rfl⟩
                  clear hnum'
                  go_wp2_with fail
                  go_roundw
                  case rel => exact ⟨trivial, k + 1, n * 64 + d, 0, by go_num, rfl, by go_num, by omega, hpow.out, by omega, by omega, HK'⟩
                  case measure => simp [intOf] <;> omega
          · obtain rfl : k = 4 := by omega
            rw [block_end, blk] at HK
            have hn24 : n < 16777216 := hn
            clear hn HFail
            obtain rfl | rfl | rfl : p = 0 ∨ p = 1 ∨ p = 2 := by omega
            · have HO : Hid (out3 n 0 = [b8 (n / 65536), b8 (n / 256), b8 n].take 3) := hid rfl
              go_wp2_with (at_builtin; refine wpList_append_own _ rfl _ _ 29 rfl w.heap.size 5 i0 (.int .u8 0) 1 1 Tryd.underlying29 hi hz0 hz1 hz2 rfl (by decide) _ _ _ rfl (hown.alloc _) ⟨wr.heap.size, 0, none⟩ 3 3 (Lib.byteCells ([b8 (n / 65536), b8 (n / 256), b8 n].take 3)) rfl rfl ?c1 ?c2 ?c3 ?c4 ?c5 ?_)
              case c1 => exact new_three wr n 3 hn24
              case c2 => exact bytes_one _
              case c3 => unfold maxLen; omega
              case c4 => omega
              case c5 => simp; omega
              intro v' w2 hown2 hgrow _
              have hown3 : w2.ownsRow w.heap.size 5 1 v' (pre.length + 3) (Lib.byteCells pre ++ Lib.byteCells (out3 n 0)) := by rw [HO.out]; exact hown2
              have hb2 := (hb.alloc hsz _).trans (own_grown (hown.alloc _) (by simp; omega) hgrow)
              have hol : (out3 n 0).length = 3 := rfl
              have ho : w2.ownsRow w.heap.size 5 1 v' (pre ++ out3 n 0).length (Lib.byteCells (pre ++ out3 n 0)) := by rw [cells_more, List.length_append, hol]; exact hown3
              have HP' : Hid (fours s.data.toList = (fours (s.data.toList.drop (i + 4))).map (pre ++ out3 n 0 ++ ·)) := hid (by
                rw [HP.out, HB.out, HK.out]
                cases fours (s.data.toList.drop (i + 4)) <;> simp)
              have HL : Hid (4 * (pre ++ out3 n 0).length ≤ 3 * (i + 4) ∧ (i + 4) % 4 = 0) := hid ⟨by rw [List.length_append, hol]; omega, by have := HI4.out; omega⟩
              clear hown hown2 hown3 hgrow hb HK HB HP HO hol
              generalize out3 n 0 = o3 at *
              go_wp2_with fail
              go_roundw
              case rel => exact ⟨i + 4, pre ++ o3, by go_num, hi4, hid HL.out.2, HL.out.1, HP', ho, hb2⟩
              case measure => simp [intOf] <;> omega
            · have HO : Hid (out3 n 1 = [b8 (n / 65536), b8 (n / 256), b8 n].take 2) := hid rfl
              go_wp2_with (at_builtin; refine wpList_append_own _ rfl _ _ 29 rfl w.heap.size 5 i0 (.int .u8 0) 1 1 Tryd.underlying29 hi hz0 hz1 hz2 rfl (by decide) _ _ _ rfl (hown.alloc _) ⟨wr.heap.size, 0, none⟩ 2 3 (Lib.byteCells ([b8 (n / 65536), b8 (n / 256), b8 n].take 2)) rfl rfl ?c1 ?c2 ?c3 ?c4 ?c5 ?_)
              case c1 => exact new_three wr n 2 hn24
              case c2 => exact bytes_one _
              case c3 => unfold maxLen; omega
              case c4 => omega
              case c5 => simp; omega
              intro v' w2 hown2 hgrow _
              have hown3 : w2.ownsRow w.heap.size 5 1 v' (pre.length + 2) (Lib.byteCells pre ++ Lib.byteCells (out3 n 1)) := by rw [HO.out]; exact hown2
              have hb2 := (hb.alloc hsz _).trans (own_grown (hown.alloc _) (by simp; omega) hgrow)
              have hol : (out3 n 1).length = 2 := rfl
              have ho : w2.ownsRow w.heap.size 5 1 v' (pre ++ out3 n 1).length (Lib.byteCells (pre ++ out3 n 1)) := by rw [cells_more, List.length_append, hol]; exact hown3
              have HP' : Hid (fours s.data.toList = (fours (s.data.toList.drop (i + 4))).map (pre ++ out3 n 1 ++ ·)) := hid (by
                rw [HP.out, HB.out, HK.out]
                cases fours (s.data.toList.drop (i + 4)) <;> simp)
              have HL : Hid (4 * (pre ++ out3 n 1).length ≤ 3 * (i + 4) ∧ (i + 4) % 4 = 0) := hid ⟨by rw [List.length_append, hol]; omega, by have := HI4.out; omega⟩
              clear hown hown2 hown3 hgrow hb HK HB HP HO hol
              generalize out3 n 1 = o3 at *
              go_wp2_with fail
              go_roundw
              case rel => exact ⟨i + 4, pre ++ o3, by go_num, hi4, hid HL.out.2, HL.out.1, HP', ho, hb2⟩
              case measure => simp [intOf] <;> omega
            · have HO : Hid (out3 n 2 = [b8 (n / 65536), b8 (n / 256), b8 n].take 1) := hid rfl
              go_wp2_with (at_builtin; refine wpList_append_own _ rfl _ _ 29 rfl w.heap.size 5 i0 (.int .u8 0) 1 1 Tryd.underlying29 hi hz0 hz1 hz2 rfl (by decide) _ _ _ rfl (hown.alloc _) ⟨wr.heap.size, 0, none⟩ 1 3 (Lib.byteCells ([b8 (n / 65536), b8 (n / 256), b8 n].take 1)) rfl rfl ?c1 ?c2 ?c3 ?c4 ?c5 ?_)
              case c1 => exact new_three wr n 1 hn24
              case c2 => exact bytes_one _
              case c3 => unfold maxLen; omega
              case c4 => omega
              case c5 => simp; omega
              intro v' w2 hown2 hgrow _
              have hown3 : w2.ownsRow w.heap.size 5 1 v' (pre.length + 1) (Lib.byteCells pre ++ Lib.byteCells (out3 n 2)) := by rw [HO.out]; exact hown2
              have hb2 := (hb.alloc hsz _).trans (own_grown (hown.alloc _) (by simp; omega) hgrow)
              have hol : (out3 n 2).length = 1 := rfl
              have ho : w2.ownsRow w.heap.size 5 1 v' (pre ++ out3 n 2).length (Lib.byteCells (pre ++ out3 n 2)) := by rw [cells_more, List.length_append, hol]; exact hown3
              have HP' : Hid (fours s.data.toList = (fours (s.data.toList.drop (i + 4))).map (pre ++ out3 n 2 ++ ·)) := hid (by
                rw [HP.out, HB.out, HK.out]
                cases fours (s.data.toList.drop (i + 4)) <;> simp)
              have HL : Hid (4 * (pre ++ out3 n 2).length ≤ 3 * (i + 4) ∧ (i + 4) % 4 = 0) := hid ⟨by rw [List.length_append, hol]; omega, by have := HI4.out; omega⟩
              clear hown hown2 hown3 hgrow hb HK HB HP HO hol
              generalize out3 n 2 = o3 at *
              go_wp2_with fail
              go_roundw
              case rel => exact ⟨i + 4, pre ++ o3, by go_num, hi4, hid HL.out.2, HL.out.1, HP', ho, hb2⟩
              case measure => simp [intOf] <;> omega
      · obtain rfl : i = s.size := by omega
        have HV := hid (HF.out (some pre) (by rw [HP.out, drop_end (Nat.le_refl _), fours_nil]; simp))
        have hc := conv_own hown
        have hc2 : ∀ W, Below wr.heap.size wr W → (convert 29 9 u4).run Tryd.prog W = .ok (.string (S pre)) W := fun W hW => conv_own (own_below hown hW)
        have he := fun w => encode_ref pre (by omega) w
        clear HP HF hown hk hlt HI4 hpl
        by_cases hes : enc pre = s.data.toList
        · have HE : Hid (V = .tuple #[.string (S pre), .bool true]) := hid (by rw [HV.out]; simp [hes, pv])
          rw [hes, S_of] at he
          clear hes HV
          generalize S pre = B at *
          go_wp2_with fail
          refine (he _).mono ?_
          rintro e w2 ⟨rfl, b2⟩
          have hc3 := hc2 w2 b2
          clear hc hc2 he
          go_wp2_with fail
          go_ret2
          exact ⟨by rw [HE.out]; rfl, hb.trans (b2.mono hsz)⟩
        · have HE : Hid (V = .tuple #[.string ⟨#[]⟩, .bool false]) := hid (by rw [HV.out]; simp [hes, pv])
          have hne : ((S (enc pre)).toList == s.toList) = false := by rw [Lib.toList_data, Lib.toList_data, S_list]; simpa using hes
          clear hes HV hc2
          generalize S pre = B at *
          generalize S (enc pre) = E at *
          go_wp2_with fail
          refine (he _).mono ?_
          rintro e w2 ⟨rfl, b2⟩
          clear hc he
          go_wp2_with fail
          go_ret2
          exact ⟨by rw [HE.out]; rfl, hb.trans (b2.mono hsz)⟩
  · have HE : Hid (V = .tuple #[.string ⟨#[]⟩, .bool false]) := hid (by rw [HV.out, decS_len (by rw [← size_len]; exact h4)]; rfl)
    have i4 : ¬ (s.size : Int) % 4 = 0 := by omega
    clear h4 HV
    go_enter Tryd.func13, Tryd.ntmps13
    go_wp2_with fail
    go_ret2
    exact ⟨by rw [HE.out]; rfl, Below.refl _ _⟩
end Go.Proofs.YtbmmlpfbflohgaaDoor

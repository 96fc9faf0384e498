/-
  The contracts of b64.packed and b64.Decode at this program: Decode answers the bytes whose text it is, or none. Condition: a text takes at most 2^47 - 8 bytes.
-/
import Derived.Test.YtbmmlpfbflohgaaDoorB64Enc
namespace Go.Proofs.YtbmmlpfbflohgaaDoor
open Go Go.Shelf Go.RowKit

/-- Bytes and true, or nothing and false. -/
def pv : Option (List UInt8) → Value
  | some b => .tuple #[.string (S b), .bool true]
  | none => .tuple #[.string ⟨#[]⟩, .bool false]

/-- So many bits are left behind k letters: what is to come. -/
def PendD (s : ByteArray) (k c h : Nat) (out : List UInt8) : Prop := dec 0 0 s.data.toList = (dec c (h % 64) (s.data.toList.drop k)).map (out ++ ·)
theorem pendD_start (s : ByteArray) : PendD s 0 0 0 [] := by unfold PendD; simp
theorem PendD.first {s : ByteArray} {k h H : Nat} {out : List UInt8} (p : PendD s k 0 h out) (hk : k < s.size) (hx : isN s[k].toNat = true) (hH : H % 4096 = h % 64 * 64 + num s[k].toNat) :
    PendD s (k + 1) 6 H out := by
  unfold PendD at *
  have hn := num_lt s[k].toNat
  have e : H % 64 = num s[k].toNat := by omega
  rw [p, drop_at s k hk, dec, hx, e]; simp
theorem PendD.other {s : ByteArray} {k c h H : Nat} {out : List UInt8} (p : PendD s k (c + 2) h out) (hc : c = 4 ∨ c = 2 ∨ c = 0) (hk : k < s.size) (hx : isN s[k].toNat = true) (hH : H % 4096 = h % 64 * 64 + num s[k].toNat) :
    PendD s (k + 1) c H (out ++ [b8 (H / 2 ^ c)]) := by
  unfold PendD at *
  have hn := num_lt s[k].toNat
  have e : H % 64 = num s[k].toNat := by omega
  rw [p, drop_at s k hk, dec, hx, e]
  rcases hc with rfl | rfl | rfl
  · have e2 : b8 (H / 2 ^ 4) = b8 (h % 64 * 4 + num s[k].toNat / 16) := UInt8.toNat_inj.1 (by rw [b8_nat, b8_nat]; show H / 16 % 256 = _; omega)
    rw [e2]; cases dec 4 (num s[k].toNat) (s.data.toList.drop (k + 1)) <;> simp [*]
  · have e2 : b8 (H / 2 ^ 2) = b8 (h % 64 * 16 + num s[k].toNat / 4) := UInt8.toNat_inj.1 (by rw [b8_nat, b8_nat]; show H / 4 % 256 = _; omega)
    rw [e2]; cases dec 2 (num s[k].toNat) (s.data.toList.drop (k + 1)) <;> simp [*]
  · have e2 : b8 (H / 2 ^ 0) = b8 (h % 64 * 64 + num s[k].toNat) := UInt8.toNat_inj.1 (by rw [b8_nat, b8_nat]; show H / 1 % 256 = _; omega)
    have e3 : dec 0 (num s[k].toNat) (s.data.toList.drop (k + 1)) = dec 0 0 (s.data.toList.drop (k + 1)) := by cases s.data.toList.drop (k + 1) <;> rfl
    rw [e2, e3]; cases dec 0 0 (s.data.toList.drop (k + 1)) <;> simp [*]
theorem PendD.bad {s : ByteArray} {k c h : Nat} {out : List UInt8} (p : PendD s k c h out) (hk : k < s.size) (hx : isN s[k].toNat = false) : dec 0 0 s.data.toList = none := by
  unfold PendD at p
  rw [p, drop_at s k hk, dec, if_pos hx]; rfl
theorem PendD.last {s : ByteArray} {c h : Nat} {out : List UInt8} (p : PendD s s.size c h out) : dec 0 0 s.data.toList = some out := by
  unfold PendD at p
  rw [p, drop_end (Nat.le_refl _), dec]; simp
theorem or_six (h c : Nat) (hc : c < 64) :
    ∃ H : Nat, bits .or .u64 (IntKind.u64.wrap ((h : Int) * 64)) (c : Int) = (H : Int) ∧ H < 18446744073709551616 ∧ H % 4096 = h % 64 * 64 + c := by
  refine ⟨h * 64 % 18446744073709551616 + c, ?_, by omega, by omega⟩
  rw [wrap_u64, bits_join .u64 64 (by decide) wraps_u64 6 _ _ (by omega) (by omega) (by omega) (by omega) (by omega) (by omega)]
  omega

set_option maxHeartbeats 2000000 in
set_option maxRecDepth 100000 in
theorem packed_any (s : ByteArray) (hs : s.size ≤ 140737488355328) (w : World) :
    Calls Tryd.prog 21 #[.string s] w fun e w' => e = .returned (pv (dec 0 0 s.data.toList)) ∧ Below w.heap.size w w' := by
  have hgr := bld_grow w.heap.size w.heap.size (s.size * 6 / 8) (w.alloc (.cells #[.pointer none, .slice none 0 0] 33)) (Nat.le_refl _) (bld_fresh w) (by simp) (by omega)
  rw [show ((s.size * 6 / 8 : Nat) : Int) = (s.size : Int) * 6 / 8 by omega] at hgr
  have b0 : Below w.heap.size w (w.alloc (.cells #[.pointer none, .slice none 0 0] 33)) := (Below.refl _ w).alloc (Nat.le_refl _) _
  obtain ⟨V, hV⟩ : ∃ V, V = pv (dec 0 0 s.data.toList) := ⟨_, rfl⟩
  rw [← hV]
  have HV := hid hV
  clear hV
  go_enter Tryd.func21, Tryd.ntmps21
  go_wp2_with fail
  refine hgr.mono ?_
  rintro e w1 ⟨rfl, hB, b1⟩
  have b1' : Below w.heap.size w w1 := b0.trans b1
  clear hgr b0 b1
  generalize hb : w.heap.size = b at *
  have HB := hid hb
  clear hb
  go_wp2_with fail
  go_loopw [5, 6, 16] (fun held count i wr => ∃ (k h c : Nat) (out : List UInt8), held = .int .u64 h ∧ count = .int .u64 c ∧ i = .int .i64 k ∧ k ≤ s.size ∧ h < 18446744073709551616 ∧ (c = 0 ∨ c = 6 ∨ c = 4 ∨ c = 2) ∧ 8 * out.length + c = 6 * k ∧ Hid (PendD s k c h out) ∧ Bld b b out wr ∧ Below b w wr)
    (fun _ _ i _ => s.size - (intOf i).toNat)
  case atStart => exact ⟨0, 0, 0, [], rfl, rfl, rfl, by omega, by omega, .inl rfl, rfl, hid (pendD_start s), hB, b1'⟩
  case round =>
    obtain ⟨k, h, c, out, rfl, rfl, rfl, hk, hh, hc, hn, HP, hbl, hbw⟩ := hrel
    clear hB b1'
    by_cases hlt : k < s.size
    · have hix := index_letter s[k]
      by_cases hx : isN s[k].toNat = true
      · rw [if_pos hx] at hix
        have hnl := num_lt s[k].toNat
        obtain ⟨H, hor, hH, hH2⟩ := or_six h (num s[k].toNat) hnl
        have HH := hid hH2
        have HX := hid hx
        have HN := hid hn
        clear hx hH2 hn
        generalize hq : num s[k].toNat = q at *
        have HQ := hid hq
        clear hq
        go_wp2_with fail
        refine (hix _).mono ?_
        rintro e w2 ⟨rfl, rfl⟩
        clear hix
        rcases hc with rfl | hc
        · rw [show ((0 : Nat) : Int) = 0 from rfl]
          have HP' := hid (HP.out.first hlt HX.out (by rw [HQ.out]; exact HH.out))
          go_wp2_with fail
          go_roundw
          case rel => exact ⟨k + 1, H, 6, out, rfl, rfl, by go_num, by omega, hH, by omega, by have := HN.out; omega, HP', hbl, hbw⟩
          case measure => simp [intOf] <;> omega
        · obtain ⟨d, rfl, hd⟩ : ∃ d, c = d + 2 ∧ (d = 4 ∨ d = 2 ∨ d = 0) := ⟨c - 2, by omega, by omega⟩
          have HP' := hid (HP.out.other hd hlt HX.out (by rw [HQ.out]; exact HH.out))
          have hd4 : d ≤ 4 := by omega
          have HD := hid hd
          have hwb := bld_byte b b out (b8 (H / 2 ^ d)) _ hbl (by have := HN.out; omega) (Nat.le_of_lt hbl.lt)
          rw [b8_nat, show ((H / 2 ^ d % 256 : Nat) : Int) = (H : Int) / 2 ^ d % 256 from by simp] at hwb
          clear hd
          go_wp2_with fail
          refine hwb.mono ?_
          rintro e w3 ⟨rfl, hbl3, b3⟩
          have b3' := hbw.trans b3
          clear hwb hbw hbl b3
          go_wp2_with fail
          go_roundw
          case rel => exact ⟨k + 1, H, d, out ++ [b8 (H / 2 ^ d)], rfl, by go_num, by go_num, by omega, hH, by have := HD.out; omega, by have := HN.out; simp; omega, HP', hbl3, b3'⟩
          case measure => simp [intOf] <;> omega
      · rw [if_neg hx] at hix
        have HE : Hid (V = .tuple #[.string ⟨#[]⟩, .bool false]) := hid (by rw [HV.out, HP.out.bad hlt (by simpa using hx)]; rfl)
        clear hx HP hbl
        go_wp2_with fail
        refine (hix _).mono ?_
        rintro e w2 ⟨rfl, rfl⟩
        go_wp2_with fail
        go_ret2
        exact ⟨by rw [HE.out]; rfl, by rw [HB.out]; exact hbw⟩
    · obtain rfl : k = s.size := by omega
      have HE : Hid (V = .tuple #[.string (S out), .bool true]) := hid (by rw [HV.out, HP.out.last]; rfl)
      have hst := bld_string b b _ _ hbl (Nat.le_of_lt hbl.lt)
      generalize S out = X at *
      clear HP hbl hn
      go_wp2_with fail
      refine hst.mono ?_
      rintro e w2 ⟨rfl, b2⟩
      have b2' := hbw.trans b2
      clear hst hbw b2
      go_wp2_with fail
      go_ret2
      exact ⟨by rw [HE.out]; rfl, by rw [HB.out]; exact b2'⟩
theorem enc_bound {l b : List UInt8} (h : dec 0 0 (Lib.trimRightB l 61) = some b) (hl : l.length ≤ 140737488355320) : (b.length + 2) / 3 * 4 ≤ 140737488355328 := by
  have h1 := dec_len _ 0 0 b (.inl rfl) h
  have h2 := trim_le l
  omega

set_option maxHeartbeats 2000000 in
set_option maxRecDepth 100000 in
theorem decode_any (s : ByteArray) (hs : s.size ≤ 140737488355320) (w : World) :
    Calls Tryd.prog 12 #[.string s] w fun e w' => e = .returned (pv (decS s.data.toList)) ∧ Below w.heap.size w w' := by
  have ht := trim_signs s w (by omega)
  have hp := packed_any (S (Lib.trimRightB s.data.toList 61)) (by rw [S_size]; have := trim_le s.data.toList; rw [← size_len] at this; omega) w
  rw [S_list] at hp
  generalize S (Lib.trimRightB s.data.toList 61) = t at ht hp
  cases hd : dec 0 0 (Lib.trimRightB s.data.toList 61) with
  | none =>
    have HE : Hid (pv (decS s.data.toList) = .tuple #[.string ⟨#[]⟩, .bool false]) := hid (by unfold decS; rw [hd]; rfl)
    rw [hd] at hp
    have hp : Calls Tryd.prog 21 #[.string t] w fun e w' => e = .returned (.tuple #[.string ⟨#[]⟩, .bool false]) ∧ Below w.heap.size w w' := hp
    clear hd
    generalize pv (decS s.data.toList) = V at *
    go_enter Tryd.func12, Tryd.ntmps12
    go_wp2_with fail
    refine ht.mono ?_
    rintro e w1 ⟨rfl, rfl⟩
    go_wp2_with fail
    refine hp.mono ?_
    rintro e w2 ⟨rfl, b2⟩
    go_wp2_with fail
    go_ret2
    exact ⟨by rw [HE.out]; rfl, b2⟩
  | some b =>
    have he := fun w => encode_any (S b) (by rw [S_size]; exact enc_bound hd (by rw [← size_len]; exact hs)) w
    rw [S_list] at he
    rw [hd] at hp
    have hp : Calls Tryd.prog 21 #[.string t] w fun e w' => e = .returned (.tuple #[.string (S b), .bool true]) ∧ Below w.heap.size w w' := hp
    by_cases hes : enc b = s.data.toList
    · have HE : Hid (pv (decS s.data.toList) = .tuple #[.string (S b), .bool true]) := hid (by unfold decS; rw [hd]; simp [hes, pv])
      rw [hes, S_of] at he
      clear hd hes
      generalize pv (decS s.data.toList) = V at *
      generalize S b = B at *
      go_enter Tryd.func12, Tryd.ntmps12
      go_wp2_with fail
      refine ht.mono ?_
      rintro e w1 ⟨rfl, rfl⟩
      go_wp2_with fail
      refine hp.mono ?_
      rintro e w2 ⟨rfl, b2⟩
      go_wp2_with fail
      refine (he _).mono ?_
      rintro e w3 ⟨rfl, b3⟩
      go_wp2_with fail
      go_ret2
      exact ⟨by rw [HE.out]; rfl, Below.then b2 b3⟩
    · have HE : Hid (pv (decS s.data.toList) = .tuple #[.string ⟨#[]⟩, .bool false]) := hid (by unfold decS; rw [hd]; simp [hes, pv])
      have hne : ((S (enc b)).toList == s.toList) = false := by rw [Lib.toList_data, Lib.toList_data, S_list]; simpa using hes
      clear hd hes
      generalize pv (decS s.data.toList) = V at *
      generalize S b = B at *
      generalize S (enc b) = E at *
      go_enter Tryd.func12, Tryd.ntmps12
      go_wp2_with fail
      refine ht.mono ?_
      rintro e w1 ⟨rfl, rfl⟩
      go_wp2_with fail
      refine hp.mono ?_
      rintro e w2 ⟨rfl, b2⟩
      go_wp2_with fail
      refine (he _).mono ?_
      rintro e w3 ⟨rfl, b3⟩
      go_wp2_with fail
      go_ret2
      exact ⟨by rw [HE.out]; rfl, Below.then b2 b3⟩
end Go.Proofs.YtbmmlpfbflohgaaDoor

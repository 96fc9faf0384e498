/-
  The contract of b64.Encode at this program: it answers the text of any bytes. Condition: the text takes at most 2^47 bytes.
-/
import Derived.Test.YtbmmlpfbflohgaaDoorB64Lib
import Derived.Shelf.RegionOpen
namespace Go.Proofs.YtbmmlpfbflohgaaDoor
open Go Go.Shelf Go.RowKit

theorem drop_at (s : ByteArray) (k : Nat) (h : k < s.size) : s.data.toList.drop k = s[k] :: s.data.toList.drop (k + 1) := by
  rw [List.drop_eq_getElem_cons (by rw [← size_len]; exact h)]; rfl
theorem drop_end {s : ByteArray} {k : Nat} (h : s.size ≤ k) : s.data.toList.drop k = [] := List.drop_eq_nil_of_le (by rw [← size_len]; exact h)
theorem encL_zero (p : Nat) : ∀ l, encL 0 p l = encL 0 0 l
  | [] => rfl
  | _ :: _ => rfl

/-- So many bits are left behind k bytes: what is to come. -/
def Pend (s : ByteArray) (k c h : Nat) (out : List UInt8) : Prop := out ++ encL c (h % 256) (s.data.toList.drop k) = encL 0 0 s.data.toList
theorem pend_start (s : ByteArray) : Pend s 0 0 0 [] := by unfold Pend; simp
theorem Pend.le {s : ByteArray} {k c h : Nat} {out : List UInt8} (p : Pend s k c h out) : out.length ≤ (encL 0 0 s.data.toList).length := by
  unfold Pend at p; rw [← p]; simp
theorem Pend.step {s : ByteArray} {k c h H : Nat} {out : List UInt8} (p : Pend s k c h out) (hc : c = 0 ∨ c = 2 ∨ c = 4) (hk : k < s.size) (hH : H % 65536 = h % 256 * 256 + s[k].toNat) :
    ∃ T c1, c + 8 = 6 * T.length + c1 ∧ (c1 = 0 ∨ c1 = 2 ∨ c1 = 4) ∧ T.length ≤ 2 ∧ (∀ j x, T[j]? = some x → x = L (H / 2 ^ (c + 8 - 6 * (j + 1)))) ∧ Pend s (k + 1) c1 H (out ++ T) := by
  unfold Pend at *
  have hb := s[k].toNat_lt
  have e : H % 256 = s[k].toNat := by omega
  rw [drop_at s k hk] at p
  rw [e]
  rcases hc with rfl | rfl | rfl
  · refine ⟨[L (s[k].toNat / 4)], 2, rfl, by omega, by simp, ?_, ?_⟩
    · intro j x hx
      match j, hx with
      | 0, hx =>
        simp at hx; subst hx
        exact L_congr (by show _ = H / 4 % 64; omega)
    · rw [← p]; simp [encL]
  · refine ⟨[L (h % 256 * 16 + s[k].toNat / 16)], 4, rfl, by omega, by simp, ?_, ?_⟩
    · intro j x hx
      match j, hx with
      | 0, hx =>
        simp at hx; subst hx
        exact L_congr (by show _ = H / 16 % 64; omega)
    · rw [← p]; simp [encL]
  · refine ⟨[L (h % 256 * 4 + s[k].toNat / 64), L s[k].toNat], 0, rfl, by omega, by simp, ?_, ?_⟩
    · intro j x hx
      match j, hx with
      | 0, hx =>
        simp at hx; subst hx
        exact L_congr (by show _ = H / 64 % 64; omega)
      | 1, hx =>
        simp at hx; subst hx
        exact L_congr (by show _ = H / 1 % 64; omega)
    · rw [← p]; simp [encL, encL_zero]

theorem wrap_u64 (n : Int) : IntKind.u64.wrap n = n % 18446744073709551616 := by simp [IntKind.wrap, IntKind.bits, IntKind.signed]
theorem wraps_u64 (n : Int) (h₀ : 0 ≤ n) (h₁ : n < 2 ^ 64) : IntKind.u64.wrap n = n := by rw [wrap_u64]; omega
theorem or_byte (h c : Nat) (hc : c < 256) :
    ∃ H : Nat, bits .or .u64 (IntKind.u64.wrap ((h : Int) * 256)) (IntKind.u64.wrap (c : Int)) = (H : Int) ∧ H < 18446744073709551616 ∧ H % 65536 = h % 256 * 256 + c := by
  refine ⟨h * 256 % 18446744073709551616 + c, ?_, by omega, by omega⟩
  rw [wrap_u64, wrap_u64, bits_join .u64 64 (by decide) wraps_u64 8 _ _ (by omega) (by omega) (by omega) (by omega) (by omega) (by omega)]
  omega

theorem pend_none {s : ByteArray} {h : Nat} {out : List UInt8} (p : Pend s s.size 0 h out) : out = encL 0 0 s.data.toList := by
  unfold Pend at p; rw [drop_end (Nat.le_refl _)] at p; simpa [encL] using p
theorem pend_two {s : ByteArray} {h : Nat} {out : List UInt8} (p : Pend s s.size 2 h out) : out ++ [L (h * 16 % 18446744073709551616)] = encL 0 0 s.data.toList := by
  unfold Pend at p; rw [drop_end (Nat.le_refl _)] at p; rw [← p, L_congr (show h * 16 % 18446744073709551616 % 64 = h % 256 * 16 % 64 by omega)]; rfl
theorem pend_four {s : ByteArray} {h : Nat} {out : List UInt8} (p : Pend s s.size 4 h out) : out ++ [L (h * 4 % 18446744073709551616)] = encL 0 0 s.data.toList := by
  unfold Pend at p; rw [drop_end (Nat.le_refl _)] at p; rw [← p, L_congr (show h * 4 % 18446744073709551616 % 64 = h % 256 * 4 % 64 by omega)]; rfl
/-- How many bytes a builder holds, read from the world. -/
def bldLen (b : Nat) (w : World) : Nat := match w.cell? ⟨b, 1, none⟩ with
  | some (.slice _ n _) => n
  | _ => 0
theorem Bld.len {B b : Nat} {l : List UInt8} {w : World} (h : Bld B b l w) : bldLen b w = l.length := by
  obtain ⟨p, hB, v, hbk, hown, hne⟩ : ∃ p, Lib.BuilderAt 33 5 B b p (Lib.byteCells l) w := by
    rcases h with h | h
    · exact ⟨_, h⟩
    · exact ⟨_, h⟩
  obtain ⟨ao, cap, rfl⟩ : ∃ ao cap, v = .slice ao (Lib.byteCells l).length cap := by
    rcases hown.2 with ⟨hv, h0⟩ | ⟨g, cap, cur, hv, _⟩
    · exact ⟨none, 0, by rw [hv, h0]⟩
    · exact ⟨_, _, hv⟩
  have c1 : w.cell? ⟨b, 1, none⟩ = some (.slice ao (Lib.byteCells l).length cap) := by rw [Lib.cell_of_heap hbk]; rfl
  unfold bldLen; rw [c1]; exact cells_len l
/-- How many signs. -/
def sgn (n : Nat) : Nat := (3 - n % 3) % 3
theorem sgn_cases (n : Nat) : ∃ q, (n = 3 * q ∧ sgn n = 0) ∨ (n = 3 * q + 1 ∧ sgn n = 2) ∨ (n = 3 * q + 2 ∧ sgn n = 1) := by
  refine ⟨n / 3, ?_⟩
  unfold sgn
  obtain h | h | h : n % 3 = 0 ∨ n % 3 = 1 ∨ n % 3 = 2 := by omega
  all_goals rw [h]; simp; omega
theorem sgn_iff {n j : Nat} (hj : j ≤ sgn n) : j < sgn n ↔ ((4 * n + 2) / 3 + j) % 4 ≠ 0 := by
  obtain ⟨q, ⟨h, e⟩ | ⟨h, e⟩ | ⟨h, e⟩⟩ := sgn_cases n
  all_goals subst h; rw [e] at hj ⊢; omega
theorem sgn_sum (n : Nat) : (4 * n + 2) / 3 + sgn n = (n + 2) / 3 * 4 := by
  obtain ⟨q, ⟨h, e⟩ | ⟨h, e⟩ | ⟨h, e⟩⟩ := sgn_cases n
  all_goals subst h; rw [e]; omega

set_option maxHeartbeats 2000000 in
set_option maxRecDepth 100000 in
theorem encode_any (s : ByteArray) (hs : (s.size + 2) / 3 * 4 ≤ 140737488355328) (w : World) :
    Calls Tryd.prog 10 #[.string s] w fun e w' => e = .returned (.string (S (enc s.data.toList))) ∧ Below w.heap.size w w' := by
  have hgr := bld_grow w.heap.size w.heap.size ((s.size + 2) / 3 * 4) (w.alloc (.cells #[.pointer none, .slice none 0 0] 33)) (Nat.le_refl _) (bld_fresh w) (by simp) (by omega)
  rw [show (((s.size + 2) / 3 * 4 : Nat) : Int) = ((s.size : Int) + 3 - 1) / 3 * 4 by omega] at hgr
  have b0 : Below w.heap.size w (w.alloc (.cells #[.pointer none, .slice none 0 0] 33)) := (Below.refl _ w).alloc (Nat.le_refl _) _
  have HS : Hid ((s.size + 2) / 3 * 4 ≤ 140737488355328) := hid hs
  have hs1 : s.size ≤ 140737488355328 := by omega
  clear hs
  go_enter Tryd.func10, Tryd.ntmps10
  go_wp2_with fail
  refine hgr.mono ?_
  rintro e w1 ⟨rfl, hB, b1⟩
  have b1' : Below w.heap.size w w1 := b0.trans b1
  clear hgr b0 b1
  generalize hb : w.heap.size = b at *
  have HB := hid hb
  clear hb
  go_wp2_with fail
  go_loopw [4, 5, 16] (fun held count i wr => ∃ (k h c : Nat) (out : List UInt8), held = .int .u64 h ∧ count = .int .u64 c ∧ i = .int .i64 k ∧ k ≤ s.size ∧ h < 18446744073709551616 ∧ (c = 0 ∨ c = 2 ∨ c = 4) ∧ Hid (Pend s k c h out) ∧ Bld b b out wr ∧ Below b w wr)
    (fun _ _ i _ => s.size - (intOf i).toNat)
  case atStart => exact ⟨0, 0, 0, [], rfl, rfl, rfl, by omega, by omega, .inl rfl, hid (pend_start s), hB, b1'⟩
  case round =>
    obtain ⟨k, h, c, out, rfl, rfl, rfl, hk, hh, hc, HP, hbl, hbw⟩ := hrel
    clear hB b1'
    by_cases hlt : k < s.size
    · obtain ⟨H, hor, hH, hH2⟩ := or_byte h s[k].toNat s[k].toNat_lt
      obtain ⟨T, c1, hT, hc1, hT2, hTj, hP⟩ := HP.out.step hc hlt hH2
      have HP' := hid hP
      have HT := hid hTj
      have hle := hP.le
      clear hP hTj hH2 HP
      go_wp2_with fail
      clear hor
      go_loopw [5] (fun count wr => ∃ (j : Nat), count = .int .u64 ((c + 8 - 6 * j : Nat) : Int) ∧ j ≤ T.length ∧ Bld b b (out ++ T.take j) wr ∧ Below b w wr)
        (fun count _ => (intOf count).toNat)
      case atStart => exact ⟨0, by go_num, by omega, by simpa using hbl, hbw⟩
      case round =>
        obtain ⟨j, rfl, hj, hbl2, hbw2⟩ := hrel
        clear hbl hbw
        by_cases hjl : j < T.length
        · obtain ⟨d, hd⟩ : ∃ d : Nat, c + 8 - 6 * j = d + 6 := ⟨c + 8 - 6 * j - 6, by omega⟩
          obtain ⟨x, hx⟩ : ∃ x, T[j]? = some x := ⟨_, List.getElem?_eq_getElem hjl⟩
          have hlet : ∀ w, Calls Tryd.prog 16 #[.int .u64 ((H : Int) / 2 ^ d)] w fun e w' => e = .returned (.int .u8 (x.toNat : Nat)) ∧ w = w' := fun w => by
            have h0 := letter_any (H / 2 ^ d) (Nat.lt_of_le_of_lt (Nat.div_le_self _ _) hH) w
            rw [HT.out j x hx, show c + 8 - 6 * (j + 1) = d by omega, L_nat]
            simpa using h0
          have hT' : out ++ T.take (j + 1) = (out ++ T.take j) ++ [x] := by rw [List.take_add_one, hx]; simp
          have hlen : (out ++ T.take j).length + 1 ≤ 140737488355328 := by
            have h1 := HS.out
            have h2 := encL_len s.data.toList
            rw [← size_len] at h2
            simp only [List.length_append, List.length_take] at hle ⊢
            omega
          have hwb := bld_byte b b (out ++ T.take j) x wr hbl2 hlen (Nat.le_of_lt hbl2.lt)
          rw [← hT'] at hwb
          have HJ : Hid (c + 8 - 6 * (j + 1) = d) := hid (by omega)
          have hd6 : d ≤ 6 := by omega
          rw [hd]
          clear hd hx hT' hlen hle
          generalize x.toNat = xn at hlet hwb
          go_wp2_with fail
          refine (hlet _).mono ?_
          rintro e w2 ⟨rfl, rfl⟩
          go_wp2_with fail
          refine hwb.mono ?_
          rintro e w3 ⟨rfl, hbl3, b3⟩
          have b3' := hbw2.trans b3
          clear hwb hlet hbl2 hbw2 b3
          go_wp2_with fail
          go_roundw
          case rel => exact ⟨j + 1, by rw [HJ.out], by omega, hbl3, b3'⟩
          case measure => simp [intOf] <;> omega
        · obtain rfl : j = T.length := by omega
          rw [List.take_length] at hbl2
          have he : c + 8 - 6 * T.length = c1 := by omega
          rw [he]
          have i6 : ¬ (6 : Int) ≤ (c1 : Int) := by omega
          clear he hT hT2 HT hle hc
          go_wp2_with fail
          go_roundw
          case rel => exact ⟨k + 1, H, c1, out ++ T, rfl, rfl, by go_num, by omega, hH, hc1, HP', hbl2, hbw2⟩
          case measure => simp [intOf] <;> omega
    · obtain rfl : k = s.size := by omega
      have hen := encL_len s.data.toList
      have hsg : enc s.data.toList = encL 0 0 s.data.toList ++ List.replicate (sgn s.size) 61 := by unfold enc signs sgn; rw [size_len]
      rw [← size_len] at hen
      have hE : ∃ E, E = encL 0 0 s.data.toList := ⟨_, rfl⟩
      obtain ⟨E, hE⟩ := hE
      rw [← hE] at hen hsg
      have HE : Hid (E.length = (4 * s.size + 2) / 3) := hid hen
      have HG : Hid (enc s.data.toList = E ++ List.replicate (sgn s.size) 61) := hid hsg
      have hlast : ∀ (out : List UInt8) (n : Nat), out ++ [L n] = E → out.length + 1 ≤ 140737488355328 := fun out n e => by
        have h1 := HS.out
        have : out.length + 1 = E.length := by rw [← e]; simp
        omega
      have HL := hid hlast
      clear hk hlt hen hsg hlast
      rcases hc with rfl | rfl | rfl
      case' neg.inl =>
        have hout := pend_none HP.out
        rw [← hE] at hout
        have hblE : Bld b b E wr := by rw [← hout]; exact hbl
        have bE := hbw
        clear HP hE hout hbl hbw HL
        rw [show ((0 : Nat) : Int) = 0 from rfl]
        go_wp2_with fail
      case' neg.inr.inl =>
        have hout := pend_two HP.out
        rw [← hE] at hout
        have hwb := bld_byte b b out (L (h * 16 % 18446744073709551616)) wr hbl (HL.out _ _ hout) (Nat.le_of_lt hbl.lt)
        rw [hout, L_nat] at hwb
        have hlet : ∀ w, Calls Tryd.prog 16 #[.int .u64 (IntKind.u64.wrap ((h : Int) * 16))] w fun e w' => e = .returned (.int .u8 (ln (h * 16 % 18446744073709551616) : Nat)) ∧ w = w' := fun w => by
          have h0 := letter_any (h * 16 % 18446744073709551616) (Nat.mod_lt _ (by decide)) w
          rw [wrap_u64]; simpa using h0
        clear HP hE hout HL hbl
        generalize ln (h * 16 % 18446744073709551616) = x at hlet hwb
        go_wp2_with fail
        refine (hlet _).mono ?_
        rintro e w2 ⟨rfl, rfl⟩
        clear hlet
        go_wp2_with fail
        refine hwb.mono ?_
        rintro e w3 ⟨rfl, hblE, b3⟩
        have bE := hbw.trans b3
        clear hwb hbw b3
        go_wp2_with fail
      case' neg.inr.inr =>
        have hout := pend_four HP.out
        rw [← hE] at hout
        have hwb := bld_byte b b out (L (h * 4 % 18446744073709551616)) wr hbl (HL.out _ _ hout) (Nat.le_of_lt hbl.lt)
        rw [hout, L_nat] at hwb
        have hlet : ∀ w, Calls Tryd.prog 16 #[.int .u64 (IntKind.u64.wrap ((h : Int) * 4))] w fun e w' => e = .returned (.int .u8 (ln (h * 4 % 18446744073709551616) : Nat)) ∧ w = w' := fun w => by
          have h0 := letter_any (h * 4 % 18446744073709551616) (Nat.mod_lt _ (by decide)) w
          rw [wrap_u64]; simpa using h0
        clear HP hE hout HL hbl
        generalize ln (h * 4 % 18446744073709551616) = x at hlet hwb
        go_wp2_with fail
        refine (hlet _).mono ?_
        rintro e w2 ⟨rfl, rfl⟩
        clear hlet
        go_wp2_with fail
        refine hwb.mono ?_
        rintro e w3 ⟨rfl, hblE, b3⟩
        have bE := hbw.trans b3
        clear hwb hbw b3
        go_wp2_with fail
      all_goals
        go_loopw [] (fun wq => ∃ j : Nat, j ≤ sgn s.size ∧ Bld b b (E ++ List.replicate j 61) wq ∧ Below b w wq)
          (fun wq => E.length + sgn s.size - bldLen b wq)
        case atStart => exact ⟨0, by omega, by simpa using hblE, bE⟩
        case round =>
          obtain ⟨j, hj, hbl, hbw⟩ := hrel
          clear hblE bE
          have hl := bld_len b b _ _ hbl
          have hn : (E ++ List.replicate j 61).length = E.length + j := by simp
          have HM := hid hbl.len
          have HE' := HE.out
          rw [hn] at HM
          rw [hn] at hl
          have h4 : Hid (j < sgn s.size ↔ (E.length + j) % 4 ≠ 0) := hid (by rw [HE']; exact sgn_iff hj)
          have hN : E.length + j + 1 ≤ 140737488355328 ∨ ¬ j < sgn s.size := by
            have := HS.out
            have := sgn_sum s.size
            rw [HE']; omega
          by_cases hjl : j < sgn s.size
          · have hws := bld_sign b b _ _ hbl (by rw [hn]; omega) (Nat.le_of_lt hbl.lt)
            have hcat : E ++ List.replicate j 61 ++ [61] = E ++ List.replicate (j + 1) 61 := by rw [List.replicate_succ', List.append_assoc]
            rw [hcat] at hws
            have i4 : ¬ ((E.length + j : Nat) : Int) % 4 = 0 := by have := h4.out.1 hjl; omega
            have HX : Hid (E.length + j < E.length + sgn s.size ∧ ∀ q, (E ++ List.replicate (j + 1) 61).length = q → E.length + j < q) := hid ⟨by omega, fun q hq => by rw [← hq]; simp⟩
            clear hcat hn HE' h4 hN
            generalize E.length + j = N at *
            go_wp2_with fail
            refine hl.mono ?_
            rintro e w4 ⟨rfl, rfl⟩
            go_wp2_with fail
            refine hws.mono ?_
            rintro e w5 ⟨rfl, hbl5, b5⟩
            have b5' := hbw.trans b5
            have HM5 := hid hbl5.len
            clear hws hl hbl hbw b5 i4
            go_wp2_with fail
            go_roundw
            case rel => exact ⟨j + 1, by omega, hbl5, b5'⟩
            case measure =>
              have h1 := HX.out.1
              have h2 := HX.out.2 _ HM5.out.symm
              rw [HM.out]; omega
          · have i4 : ((E.length + j : Nat) : Int) % 4 = 0 := by
              have := mt h4.out.2 hjl; omega
            obtain rfl : j = sgn s.size := by omega
            have hst := bld_string b b _ _ hbl (Nat.le_of_lt hbl.lt)
            rw [← HG.out] at hst
            obtain ⟨X, hX⟩ : ∃ X, X = S (enc s.data.toList) := ⟨_, rfl⟩
            rw [← hX] at hst
            have HX := hid hX
            clear hX
            clear hn HE' h4 hN HM hbl HS HE HG hjl hj
            generalize E.length + sgn s.size = N at *
            go_wp2_with fail
            refine hl.mono ?_
            rintro e w4 ⟨rfl, rfl⟩
            go_wp2_with fail
            refine hst.mono ?_
            rintro e w5 ⟨rfl, b5⟩
            have b5' := hbw.trans b5
            clear hst hl hbw b5
            go_wp2_with fail
            go_ret
            exact ⟨by rw [← HX.out]; rfl, by rw [HB.out]; exact b5'⟩
end Go.Proofs.YtbmmlpfbflohgaaDoor

/-
  Where nobody is touched, who came first goes first: the statement, walked. No conditions but those of the calls.
-/
import Derived.Test.YtkhmgigllcgpnaaThHas
namespace Go.Proofs.Ytkhmgigllcgpnaa.Th
open Go Go.RowKit Go.Lib

theorem i64_and63 (n : Int) : bits .and .i64 n 63 = n % 64 := by
  have hm : (BitVec.ofInt 64 63).toNat = 2 ^ 6 - 1 := by decide
  have key : (BitVec.ofInt 64 n &&& BitVec.ofInt 64 63).toNat = (n % ((2 ^ 64 : Nat) : Int)).toNat % 2 ^ 6 := by
    rw [BitVec.toNat_and, BitVec.toNat_ofInt, hm, Nat.and_two_pow_sub_one_eq_mod]
  show IntKind.i64.wrap ((BitVec.ofInt 64 n &&& BitVec.ofInt 64 63).toNat : Nat) = n % 64
  rw [key, IntKind.wrap_i64]
  omega
theorem i64_and127 (n : Int) : bits .and .i64 n 127 = n % 128 := by
  have hm : (BitVec.ofInt 64 127).toNat = 2 ^ 7 - 1 := by decide
  have key : (BitVec.ofInt 64 n &&& BitVec.ofInt 64 127).toNat = (n % ((2 ^ 64 : Nat) : Int)).toNat % 2 ^ 7 := by
    rw [BitVec.toNat_and, BitVec.toNat_ofInt, hm, Nat.and_two_pow_sub_one_eq_mod]
  show IntKind.i64.wrap ((BitVec.ofInt 64 n &&& BitVec.ofInt 64 127).toNat : Nat) = n % 128
  rw [key, IntKind.wrap_i64]
  omega
/-- The newest c of f 0 .. f (m - 1). -/
theorem cut_at (c m : Nat) (f : Nat → Int) {j : Nat} (hj : j < min m c) : (Gh.cutL c ((List.range m).map f))[j]? = some (f (m - min m c + j)) := by
  unfold Gh.cutL
  rw [List.getElem?_drop, List.length_map, List.length_range, List.getElem?_map, List.getElem?_range (by omega)]
  show some (f (m - c + j)) = _
  rw [show m - c + j = m - min m c + j by omega]
theorem cut_range_len (c m : Nat) (f : Nat → Int) : (Gh.cutL c ((List.range m).map f)).length = min m c := by rw [Gh.cut_len, List.length_map, List.length_range]

set_option maxRecDepth 100000 in
set_option maxHeartbeats 2000000 in
theorem first_law (n pl : Int) (w : World) :
    Calls Try.prog 6 #[.int .i64 n, .int .i64 pl] w fun e w' => e = .returned (.bool true) ∧ Below w.heap.size w w' := by
  have hsh := shown_any w
  obtain ⟨m, hm, hm64⟩ : ∃ m : Nat, bits .and .i64 n 63 = (m : Int) ∧ m < 64 := ⟨(n % 64).toNat, by rw [i64_and63]; omega, by omega⟩
  obtain ⟨c, hcc, hc64⟩ : ∃ c : Nat, bits .and .i64 pl 63 = (c : Int) ∧ c < 64 := ⟨(pl % 64).toNat, by rw [i64_and63]; omega, by omega⟩
  go_enter Try.func6, Try.ntmps6
  go_wp2_with fail
  refine hsh.mono ?_
  rintro e w1 ⟨rfl, b1⟩
  have hnew := tt_new w1
  have B1 := hid b1
  clear hsh b1
  go_wp2_with fail
  refine hnew.mono ?_
  rintro e w2 ⟨P, rfl, h2⟩
  have hc := tt_cap h2 (c : Int) (small_i64 (by omega) (by omega))
  clear hnew h2
  go_wp2_with fail
  refine hc.mono ?_
  rintro e w3 ⟨rfl, h3, -⟩
  have h3 := hid (And.intro (Fs.new c (by omega)) h3)
  clear hc hm hcc
  go_wp2_with fail
  go_loopw [7] (fun p wr => ∃ (k : Nat) (s : Th), p = .int .i64 (k : Int) ∧ k ≤ m ∧ Hid (Fs c 0 k s ∧ TT w1 P s (fun _ => False) wr)) (fun p _ => m - (RowKit.intOf p).toNat)
  case atStart => exact ⟨0, _, rfl, Nat.zero_le _, h3⟩
  case round =>
    obtain ⟨k, s, rfl, hk, hT⟩ := hrel
    clear h3
    by_cases hlt : k < m
    · obtain ⟨e1, e2⟩ := hT.out.1.ins (by omega)
      have hin := tt_insert hT.out.2 (k : Int) (k : Int) (small_i64 (by omega) (by omega)) (small_u64 (by omega) (by omega))
      rw [e1] at hin
      have hF := hid e2
      have k1 : (k : Int) < (m : Int) := by omega
      have k2 : (k : Int) < 64 := by omega
      have k3 : IntKind.u64.wrap (k : Int) = (k : Int) := by rw [IntKind.wrap_u64]; omega
      clear hT e1 e2
      go_wp2_with fail
      refine hin.mono ?_
      rintro e w4 ⟨rfl, h4, -⟩
      have h4 := hid (And.intro hF.out h4)
      clear hin hF
      go_wp2_with fail
      go_roundw
      case rel => exact ⟨k + 1, _, by go_num, by omega, h4⟩
      case measure => simp [RowKit.intOf] <;> omega
    · obtain rfl : k = m := by omega
      clear hlt hk
      go_wp2_with fail
      go_loopw [8] (fun p wr => ∃ (i : Nat) (s : Th), p = .int .i64 (i : Int) ∧ i ≤ k ∧ Hid (Fs c i (k - i) s ∧ TT w1 P s (fun _ => False) wr)) (fun p _ => k - (RowKit.intOf p).toNat)
      case atStart => exact ⟨0, s, rfl, Nat.zero_le _, hT⟩
      case round =>
        clear hT
        obtain ⟨i, s, rfl, hi, hU⟩ := hrel
        by_cases hlt : i < k
        · have hF := hU.out.1
          rw [show k - i = (k - (i + 1)) + 1 by omega] at hF
          obtain ⟨g1, g2, g3⟩ := hF.evict
          have hgl : s.g.length ≤ 64 := by rw [hF.g, cut_range_len]; omega
          have hv := tt_victim hU.out.2
          rw [g1] at hv
          have HE : Hid (∀ w4, TT w1 P s (fun _ => False) w4 → Calls Try.prog 23 #[.pointer (some ⟨P, 0, none⟩), .int .i64 (i : Int)] w4 fun e w' => e = .returned (.bool true) ∧ ∃ t, Hid (Fs c (i + 1) (k - (i + 1)) t ∧ TT w1 P t (fun _ => False) w')) := hid (fun w4 h => by
            have := tt_evict h (by omega) (i : Int) (small_i64 (by omega) (by omega))
            rw [g2] at this
            exact this.mono fun e w' ⟨k1, k2, _⟩ => ⟨k1, _, hid ⟨g3, k2⟩⟩)
          have k1 : (i : Int) < (k : Int) := by omega
          clear hU hF g1 g2 g3 hgl
          go_wp2_with fail
          refine hv.mono ?_
          rintro e w4 ⟨rfl, h4, -⟩
          have he := HE.out _ h4
          clear hv h4 HE
          go_wp2_with fail
          refine he.mono ?_
          rintro e w5 ⟨rfl, t, h5⟩
          clear he
          go_wp2_with fail
          go_roundw
          case rel => first | exact ⟨i + 1, t, by go_num, by omega, h5⟩ | ((repeat apply Exists.intro); exact ⟨⟨i + 1, t, by go_num, by omega, h5⟩, rfl⟩)
          case measure => simp [RowKit.intOf] <;> omega
        · obtain rfl : i = k := by omega
          have hF := hU.out.1
          rw [Nat.sub_self] at hF
          have hg := tt_ghosts hU.out.2
          have hgl : s.g.length = min i c := by rw [hF.g, cut_range_len]
          have hUh := hid hU.out.2
          have HV2 : Hid (∀ w4 (H : Nat → Prop), TT w1 P s H w4 → Calls Try.prog 22 #[.pointer (some ⟨P, 0, none⟩)] w4 fun e w' => e = .returned (.int .i64 (-1)) ∧ TT w1 P s H w' ∧ ∃ D, Only D w4 w' ∧ ∀ x, H x → ¬ D x) := hid (fun w4 H h => by
            have := tt_victim h
            rw [hF.none] at this
            exact this)
          have HCg : Hid (∀ j, j < min i c → (Gh.uc s.g)[j]? = some (.int .u64 ((i - min i c + j : Nat) : Int))) := hid (fun j hj => by
            rw [hF.g]
            exact Gh.uc_at (cut_at c i (fun j : Nat => (j : Int)) hj))
          generalize s.g = gs at *
          obtain ⟨G, hG⟩ : ∃ G, G = gs.length := ⟨_, rfl⟩
          rw [← hG] at hg hgl
          have hG64 : G ≤ 63 := by omega
          clear hU hF hlt hi hG
          rcases Nat.lt_or_ge c i with hci | hci
          · have hGc : G = c := by omega
            subst hGc
            have HC : Hid (∀ j, j < G → (Gh.uc gs)[j]? = some (.int .u64 ((i : Int) - (G : Int) + (j : Int)))) := hid (fun j hj => by
              rw [HCg.out j (by omega)]
              congr 2; omega)
            have ci : (G : Int) < (i : Int) := by omega
            have ci2 : (i : Int) ≤ 63 := by omega
            generalize Gh.uc gs = us at *
            clear hgl HCg
            go_wp2_with fail
            refine hg.mono ?_
            rintro e w4 ⟨v, rfl, ho, h4, b4⟩
            have h4m := HasO.more (H' := fun x => v.ownBlock = some x) hUh.out b4 (fun x hx => .inr (own_base_le ho hx))
            obtain ⟨ag, cg, rfl⟩ := row_form ho
            have hv := HV2.out _ _ h4m
            have HO4 := hid (Gh.own_zero ho)
            clear hg ho h4 b4 h4m
            go_wp2_with fail
            refine hv.mono ?_
            rintro e w6 ⟨rfl, h6, D, d1, d2⟩
            have HO := hid (own_only HO4.out d1 d2)
            have HB := hid (Below.then B1.out h6.below)
            clear hv h6 d1 d2 HO4
            go_wp2_with fail
            go_loopw [10] (fun p wr => ∃ j : Nat, p = .int .i64 (j : Int) ∧ j ≤ G ∧ w6 = wr) (fun p _ => G - (RowKit.intOf p).toNat)
            case atStart => exact ⟨0, rfl, Nat.zero_le _, rfl⟩
            case round =>
              obtain ⟨j, rfl, hj, rfl⟩ := hrel
              by_cases hlt : j < G
              · obtain ⟨g, cap, hv, hcap, hgb, hgl⟩ := row_pos HO.out (by omega)
                cases hv
                have hcx := HO.out.cellAt j (by omega)
                rw [HC.out j hlt] at hcx
                have j1 : (j : Int) < (G : Int) := by omega
                have j2 : (j : Int) + 1 ≤ 64 := by omega
                have e1 : IntKind.u64.wrap ((i : Int) - (G : Int) + (j : Int)) = (i : Int) - (G : Int) + (j : Int) := by rw [IntKind.wrap_u64]; omega
                have e2 : (i : Int) - (G : Int) ≤ 63 ∧ 0 ≤ (i : Int) - (G : Int) := by omega
                have e3 : (i : Int) - (G : Int) + (j : Int) ≤ 200 := by omega
                obtain ⟨e2, e2'⟩ := e2
                clear hcap hgb hgl
                go_wp2_with fail
                go_roundw
                case rel => first | exact ⟨j + 1, by go_num, by omega, by first | rfl | trivial⟩ | ((repeat apply Exists.intro); exact ⟨⟨j + 1, by go_num, by omega, by first | rfl | trivial⟩, rfl⟩)
                case measure => simp [RowKit.intOf] <;> omega
              · obtain rfl : j = G := by omega
                clear hlt hj
                go_wp2_with fail
                go_ret
                exact ⟨rfl, HB.out⟩

          · have hGc : G = i := by omega
            subst hGc
            have HC : Hid (∀ j, j < G → (Gh.uc gs)[j]? = some (.int .u64 (j : Int))) := hid (fun j hj => by
              rw [HCg.out j (by omega)]
              congr 2; omega)
            have ci : (G : Int) ≤ (c : Int) := by omega
            have ci2 : (G : Int) ≤ 63 := by omega
            generalize Gh.uc gs = us at *
            clear hgl HCg
            go_wp2_with fail
            refine hg.mono ?_
            rintro e w4 ⟨v, rfl, ho, h4, b4⟩
            have h4m := HasO.more (H' := fun x => v.ownBlock = some x) hUh.out b4 (fun x hx => .inr (own_base_le ho hx))
            obtain ⟨ag, cg, rfl⟩ := row_form ho
            have hv := HV2.out _ _ h4m
            have HO4 := hid (Gh.own_zero ho)
            clear hg ho h4 b4 h4m
            go_wp2_with fail
            refine hv.mono ?_
            rintro e w6 ⟨rfl, h6, D, d1, d2⟩
            have HO := hid (own_only HO4.out d1 d2)
            have HB := hid (Below.then B1.out h6.below)
            clear hv h6 d1 d2 HO4
            go_wp2_with fail
            go_loopw [10] (fun p wr => ∃ j : Nat, p = .int .i64 (j : Int) ∧ j ≤ G ∧ w6 = wr) (fun p _ => G - (RowKit.intOf p).toNat)
            case atStart => exact ⟨0, rfl, Nat.zero_le _, rfl⟩
            case round =>
              obtain ⟨j, rfl, hj, rfl⟩ := hrel
              by_cases hlt : j < G
              · obtain ⟨g, cap, hv, hcap, hgb, hgl⟩ := row_pos HO.out (by omega)
                cases hv
                have hcx := HO.out.cellAt j (by omega)
                rw [HC.out j hlt] at hcx
                have j1 : (j : Int) < (G : Int) := by omega
                have j2 : (j : Int) + 1 ≤ 64 := by omega
                have e1 : IntKind.u64.wrap (j : Int) = (j : Int) := by rw [IntKind.wrap_u64]; omega
                clear hcap hgb hgl
                go_wp2_with fail
                go_roundw
                case rel => first | exact ⟨j + 1, by go_num, by omega, by first | rfl | trivial⟩ | ((repeat apply Exists.intro); exact ⟨⟨j + 1, by go_num, by omega, by first | rfl | trivial⟩, rfl⟩)
                case measure => simp [RowKit.intOf] <;> omega
              · obtain rfl : j = G := by omega
                clear hlt hj
                go_wp2_with fail
                go_ret
                exact ⟨rfl, HB.out⟩

end Go.Proofs.Ytkhmgigllcgpnaa.Th

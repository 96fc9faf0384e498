/-
  The law WordsGaps at this program: any keys with one or more blanks between, ahead and behind are the words. No conditions.
-/
import Derived.Test.YtbaohkfaeholaaaDoorWordsBack
namespace Go.Proofs.YtbaohkfaeholaaaDoor
open Go Go.Shelf Go.RowKit

/-- A slice of ints, read through its cells. -/
def Ints (w : World) (v : Value) (zs : List Int) : Prop :=
  ∃ a c, v = .slice a zs.length c ∧ ∀ j z, zs[j]? = some z → ∃ b o, a = some ⟨b, o, none⟩ ∧ b < w.heap.size ∧ w.cell? ⟨b, o + j, none⟩ = some (.int .i64 z)

theorem i64_and7 (n : Int) : bits .and .i64 n 7 = n % 8 := by
  have h7 : (BitVec.ofInt 64 7).toNat = 2 ^ 3 - 1 := by decide
  have key : (BitVec.ofInt 64 n &&& BitVec.ofInt 64 7).toNat = (n % ((2 ^ 64 : Nat) : Int)).toNat % 2 ^ 3 := by
    rw [BitVec.toNat_and, BitVec.toNat_ofInt, h7, Nat.and_two_pow_sub_one_eq_mod]
  show IntKind.i64.wrap ((BitVec.ofInt 64 n &&& BitVec.ofInt 64 7).toNat : Nat) = n % 8
  rw [key, IntKind.wrap_i64]
  omega
theorem gap_number (z : Int) : ∃ N : Nat, N ≤ 7 ∧ wrap64 (1 + bits .and .i64 z 7) = ((N + 1 : Nat) : Int) :=
  ⟨(z % 8).toNat, by omega, by rw [i64_and7]; unfold wrap64; omega⟩
theorem rep_more (l : List UInt8) (q : Nat) : S (l ++ List.replicate q 32) ++ ⟨#[32]⟩ = S (l ++ List.replicate (q + 1) 32) := by
  rw [show (⟨#[32]⟩ : ByteArray) = S [32] from rfl, S_sum, List.append_assoc, ← List.replicate_succ']

theorem Gap.many {s x : List UInt8} {ks : List (List UInt8)} (h : Gap s ks) (hx : keyB x = true) : ∀ n, Gap (s ++ x ++ List.replicate (n + 1) 32) (ks ++ [x])
  | 0 => h.word hx
  | n + 1 => by
    have := (Gap.many h hx n).more
    rw [List.append_assoc, ← List.replicate_succ'] at this
    exact this

theorem gaps_facts (ks : List (List UInt8)) (hkl : ks.length ≤ 30) (t : List UInt8) (ht : t.length ≤ 9001) (hall : splitS t = ks) :
    (S t).size ≤ 9001 ∧
      (∀ W, Calls Tryd.prog 14 #[.string (S t)] W fun e w' => ∃ u, e = .returned u ∧ Texts w' u ks ∧ Below W.heap.size W w') ∧
      (∀ W v u, Texts W v ks → Texts W u ks → Calls Tryd.prog 15 #[v, u] W fun e w' => e = .returned (.bool true) ∧ Below W.heap.size W w') := by
  have hR : (S t).size ≤ 9001 := by rw [S_size]; exact ht
  refine ⟨hR, fun W => ?_, fun W v u hv hu => same_texts v u ks (Nat.lt_of_le_of_lt hkl (by decide)) W hv hu⟩
  have h := split_any (S t) (Nat.le_trans hR (by decide)) (by rw [S_list, hall]; exact Nat.le_trans (Nat.mul_le_mul_right _ hkl) (by decide)) W
  rw [S_list, hall] at h
  exact h.mono fun e w' ⟨u, he, ho, hb⟩ => ⟨u, he, texts_of_row ho, hb⟩

set_option maxHeartbeats 2000000 in
set_option maxRecDepth 100000 in
theorem gaps_walk (a : Option Addr) (c : Nat) (xs : List (List UInt8)) (ga : Option Addr) (gc : Nat) (zs : List Int) (w : World) (hT : Texts w (.slice a xs.length c) xs) (hG : Ints w (.slice ga zs.length gc) zs)
    (hxl : xs.length ≤ 9223372036854775807) :
    Calls Tryd.prog 9 #[.slice a xs.length c, .slice ga zs.length gc] w fun e w' => e = .returned (.bool true) ∧ Below w.heap.size w w' := by
  obtain ⟨i0, hi, hz0, hz1, hz2⟩ := info_parts infoString
  go_enter Tryd.func9, Tryd.ntmps9
  go_wp2_with fail
  refine (shown_any _).mono ?_
  rintro e w1 ⟨rfl, b1⟩
  have hA : Hid (∀ j x, xs[j]? = some x → ∃ b o, a = some ⟨b, o, none⟩ ∧ b < w.heap.size ∧ w.cell? ⟨b, o + j, none⟩ = some (.string (S x))) := by
    obtain ⟨a', c', e, _, hx⟩ := hT
    cases e
    exact hid hx
  have hZ : Hid (∀ j z, zs[j]? = some z → ∃ b o, ga = some ⟨b, o, none⟩ ∧ b < w.heap.size ∧ w.cell? ⟨b, o + j, none⟩ = some (.int .i64 z)) := by
    obtain ⟨a', c', e, hx⟩ := hG
    cases e
    exact hid hx
  clear hT hG
  go_wp2_with fail
  go_loopw [6, 7, 8] (fun v s i wr => ∃ (k : Nat) (t : List UInt8), k ≤ xs.length ∧ k ≤ 30 ∧ i = .int .i64 k ∧ s = .string (S t) ∧ t.length ≤ 1 + k * 300 ∧ Hid (Gap t (keysOf xs k)) ∧ wr.ownsRow w.heap.size 9 1 v (keysOf xs k).length (cellsOf (keysOf xs k)) ∧ Below w.heap.size w wr) (fun _ _ i _ => xs.length - (intOf i).toNat)
  case atStart => exact ⟨0, [32], by omega, by omega, rfl, rfl, by decide, hid gap_blank, World.ownsRow_nil _ _ _ _, b1⟩
  case round =>
    obtain ⟨k, t, hk, hk5, rfl, rfl, htl, hgap, hown, hb⟩ := hrel
    have hsz := hb.size
    by_cases hgo : k < xs.length ∧ k < 30
    · obtain ⟨hlt, hl5⟩ := hgo
      have il5 : (k : Int) < 30 := by omega
      obtain ⟨x, hxk⟩ : ∃ x, xs[k]? = some x := ⟨_, List.getElem?_eq_getElem hlt⟩
      obtain ⟨b, o, rfl, hbl, hcell⟩ := hA.out k x hxk
      have g1 : wr.cell? ⟨b, o + k, none⟩ = some (.string (S x)) := (hb.cell (p := ⟨b, o + k, none⟩) hbl).trans hcell
      have hkey := fun W => key_any (S x) W
      rw [S_list] at hkey
      have hkl := keysOf_le xs k
      by_cases hkb : keyB x = true
      · rw [hkb] at hkey
        have HK : Hid (keysOf xs (k + 1) = keysOf xs k ++ [x]) := hid (keysOf_hit hxk hkb)
        have HM : Hid (∀ n, Gap (t ++ x ++ List.replicate (n + 1) 32) (keysOf xs (k + 1))) := hid (by rw [HK.out]; exact hgap.out.many hkb)
        have hx250 := (keyB_parts hkb).2.1
        have hxs : (S x).size ≤ 250 := by rw [S_size]; exact hx250
        have hts : (S t).size ≤ 9001 := by rw [S_size]; omega
        have HS : Hid (S t ++ S x = S (t ++ x)) := hid (S_sum t x)
        have hwide : ∀ W, Below w.heap.size w W → W.cell? ⟨b, o + k, none⟩ = some (.string (S x)) := fun W hW => (hW.cell (p := ⟨b, o + k, none⟩) hbl).trans hcell
        clear hcell hgap
        generalize hks : keysOf xs k = ks at *
        generalize hX : S x = X at *
        clear hks
        go_wp2_with fail
        refine (hkey _).mono ?_
        rintro e w3 ⟨rfl, rfl⟩
        clear hkey
        go_wp2_with (at_builtin; refine wpList_append_own _ rfl _ _ 26 rfl w.heap.size 9 i0 (.string ByteArray.empty) 1 16 Tryd.underlying26 hi hz0 hz1 hz2 rfl (by decide) _ _ _ rfl (hown.alloc _) ⟨wr.heap.size, 0, none⟩ 1 1 [.string X] rfl rfl ?c1 ?c2 ?c3 ?c4 ?c5 ?_)
        case c1 =>
          intro j u hj
          match j, hj with
          | 0, hj => simp at hj; subst hj; simp [Addr.add]
        case c2 => intro u hu; simp at hu; subst hu; rfl
        case c3 => unfold maxLen; omega
        case c4 => omega
        case c5 => simp; omega
        · intro v' w2 hown' hgrow _
          have hb2 := hb.trans (own_grown hown hsz hgrow)
          have ho : w2.ownsRow w.heap.size 9 1 v' (keysOf xs (k + 1)).length (cellsOf (keysOf xs (k + 1))) := by rw [HK.out]; subst hX; simpa [cellsOf] using hown'
          have g2 := hwide w2 hb2
          clear hown' hgrow hown hb hwide g1
          have hcase : (∃ z bz oz, k < zs.length ∧ ga = some ⟨bz, oz, none⟩ ∧ w2.cell? ⟨bz, oz + k, none⟩ = some (.int .i64 z)) ∨ ¬ k < zs.length := by
            by_cases hz : k < zs.length
            · obtain ⟨z, hzk⟩ : ∃ z, zs[k]? = some z := ⟨_, List.getElem?_eq_getElem hz⟩
              obtain ⟨bz, oz, hga, hbz, hcz⟩ := hZ.out k z hzk
              exact .inl ⟨z, bz, oz, hz, hga, (hb2.cell (p := ⟨bz, oz + k, none⟩) hbz).trans hcz⟩
            · exact .inr hz
          rcases hcase with ⟨z, bz, oz, hz, rfl, g3⟩ | hz
          · obtain ⟨N, hN7, hN⟩ := gap_number z
            go_wp2_with fail
            go_loop [7, 10] (fun u q => ∃ j : Nat, j ≤ N + 1 ∧ q = .int .i64 j ∧ u = .string (S (t ++ x ++ List.replicate j 32))) (fun _ q => N + 1 - (intOf q).toNat)
            case atStart => exact ⟨0, by omega, rfl, by rw [HS.out]; simp⟩
            case round =>
              obtain ⟨j, hj, rfl, rfl⟩ := hrel
              have hrm : Hid (S (t ++ x ++ List.replicate j 32) ++ ⟨#[32]⟩ = S (t ++ x ++ List.replicate (j + 1) 32)) := hid (rep_more _ _)
              have hsj : (S (t ++ x ++ List.replicate j 32)).size ≤ 20000 := by rw [S_size]; simp; omega
              have hlj : (t ++ x ++ List.replicate j 32).length ≤ 1 + k * 300 + 250 + j := by simp; omega
              by_cases hjl : j < N + 1
              · have ij : (j : Int) < ((N + 1 : Nat) : Int) := by omega
                generalize S (t ++ x ++ List.replicate j 32) = U at *
                go_wp2_with fail
                go_round
                case rel => exact ⟨j + 1, by omega, by go_num, by rw [hrm.out]⟩
                case measure => simp [intOf] <;> omega
              · obtain rfl : j = N + 1 := by omega
                have HG := hid (HM.out N)
                go_wp2_with fail
                go_roundw
                case rel => exact ⟨k + 1, _, by omega, by omega, by go_num, rfl, by omega, HG, ho, hb2⟩
                case measure => simp [intOf] <;> omega
          · go_wp2_with fail
            go_loop [7, 10] (fun u q => ∃ j : Nat, j ≤ 1 ∧ q = .int .i64 j ∧ u = .string (S (t ++ x ++ List.replicate j 32))) (fun _ q => 1 - (intOf q).toNat)
            case atStart => exact ⟨0, by omega, rfl, by rw [HS.out]; simp⟩
            case round =>
              obtain ⟨j, hj, rfl, rfl⟩ := hrel
              have hrm : Hid (S (t ++ x ++ List.replicate j 32) ++ ⟨#[32]⟩ = S (t ++ x ++ List.replicate (j + 1) 32)) := hid (rep_more _ _)
              have hsj : (S (t ++ x ++ List.replicate j 32)).size ≤ 20000 := by rw [S_size]; simp; omega
              have hlj : (t ++ x ++ List.replicate j 32).length ≤ 1 + k * 300 + 250 + j := by simp; omega
              by_cases hjl : j < 1
              · have ij : (j : Int) < 1 := by omega
                generalize S (t ++ x ++ List.replicate j 32) = U at *
                go_wp2_with fail
                go_round
                case rel => exact ⟨j + 1, by omega, by go_num, by rw [hrm.out]⟩
                case measure => simp [intOf] <;> omega
              · obtain rfl : j = 1 := by omega
                have HG := hid (HM.out 0)
                go_wp2_with fail
                go_roundw
                case rel => exact ⟨k + 1, _, by omega, by omega, by go_num, rfl, by omega, HG, ho, hb2⟩
                case measure => simp [intOf] <;> omega
      · rw [Bool.not_eq_true] at hkb
        rw [hkb] at hkey
        have HK : Hid (keysOf xs (k + 1) = keysOf xs k) := hid (keysOf_miss hxk hkb)
        generalize S x = X at *
        clear hcell
        go_wp2_with fail
        refine (hkey _).mono ?_
        rintro e w3 ⟨rfl, rfl⟩
        clear hkey
        go_wp2_with fail
        go_roundw
        case rel => exact ⟨k + 1, t, by omega, by omega, by go_num, rfl, by omega, by rw [HK.out]; exact hgap, by rw [HK.out]; exact hown, hb⟩
        case measure => simp [intOf] <;> omega
    · have hkk := keysOf_key (xs := xs) (k := k)
      have hkl := keysOf_le xs k
      have hv := texts_of_row hown
      have hall := hgap.out.all
      obtain ⟨r1, hsp, hsame⟩ := gaps_facts (keysOf xs k) (by omega) t (by omega) hall
      generalize keysOf xs k = ks at *
      generalize S t = R at *
      have hcase : (k < xs.length ∧ ¬ (k : Int) < 30) ∨ ¬ k < xs.length := by omega
      clear hA hZ hown hi hz0 hz1 hz2 hgo hgap hall hkk hkl
      rcases hcase with ⟨hlt, il5⟩ | hlt
      all_goals
        go_wp2_with fail
        refine (hsp _).mono ?_
        rintro e w4 ⟨u, rfl, hu, b4⟩
        have hv4 := hv.below b4
        clear hsp hv
        go_wp2_with fail
        refine (hsame _ _ _ hu hv4).mono ?_
        rintro e w5 ⟨rfl, b5⟩
        clear hsame hv4 hu
        go_wp2_with fail
        go_ret
        exact ⟨rfl, hb.trans (Below.mono (Below.then b4 b5) hsz)⟩
end Go.Proofs.YtbaohkfaeholaaaDoor

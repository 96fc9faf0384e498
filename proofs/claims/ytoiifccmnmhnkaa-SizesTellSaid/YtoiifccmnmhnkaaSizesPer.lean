/-
  Contracts of sizes.Class, sizes.Per and of the document's own Class and Per at this program: of any slice and numbers. No conditions but that a slice has at most 2^63 - 1 places.
-/
import Derived.Test.YtoiifccmnmhnkaaSizesRef
namespace Go.Proofs.Ytoiifccmnmhnkaa
open Go Go.RowKit Go.Lib

set_option maxHeartbeats 1000000 in
set_option maxRecDepth 100000 in
theorem class_any (a : Option Addr) (c : Nat) (zs : List Int) (n : Int) (w : World) (hl : zs.length ≤ 9223372036854775807) (hZ : Ints w (.slice a zs.length c) zs) :
    Calls Try.prog 12 #[.slice a zs.length c, .int .i64 n] w fun e w' => e = .returned (.int .i64 (cls zs n 0)) ∧ Below w.heap.size w w' := by
  have hb : Below w.heap.size w (w.alloc (.cells #[.int .i64 n] 3)) := (Below.refl _ w).alloc (Nat.le_refl _) _
  have h1 := idx_any a c zs n w.heap.size (w.alloc (.cells #[.int .i64 n] 3)) hl (hZ.below hb) (by simp)
  clear hZ hl
  generalize cls zs n 0 = r at *
  generalize zs.length = m at *
  go_enter Try.func12, Try.ntmps12
  go_wp2_with fail
  refine h1.mono ?_
  rintro e w' ⟨rfl, rfl⟩
  clear h1
  go_wp2_with fail
  go_ret
  exact ⟨rfl, hb⟩

set_option maxHeartbeats 1000000 in
set_option maxRecDepth 100000 in
theorem ref_class (a : Option Addr) (c : Nat) (zs : List Int) (n : Int) (w : World) (hl : zs.length ≤ 9223372036854775807) (hZ : Ints w (.slice a zs.length c) zs) :
    Calls Try.prog 13 #[.slice a zs.length c, .int .i64 n] w fun e w' => e = .returned (.int .i64 (cls zs n 0)) ∧ w = w' := by
  have hA : Hid (∀ j z, zs[j]? = some z → ∃ b o, a = some ⟨b, o, none⟩ ∧ w.cell? ⟨b, o + j, none⟩ = some (.int .i64 z)) := by
    obtain ⟨a', c', e, hx⟩ := hZ
    cases e
    exact hid fun j z hj => by
      obtain ⟨b, o, ha, _, hc⟩ := hx j z hj
      exact ⟨b, o, ha, hc⟩
  clear hZ
  obtain ⟨r, hr⟩ : ∃ r, r = cls zs n 0 := ⟨_, rfl⟩
  rw [← hr]
  have HR : Hid (r = cls (zs.drop 0) n 0) := hid hr
  clear hr
  go_enter Try.func13, Try.ntmps13
  go_wp2_with fail
  go_loop [5] (fun i => ∃ k : Nat, k ≤ zs.length ∧ i = .int .i64 k ∧ Hid (r = cls (zs.drop k) n k)) (fun i => zs.length - (intOf i).toNat)
  case atStart => exact ⟨0, Nat.zero_le _, rfl, HR⟩
  case round =>
    obtain ⟨k, hk, rfl, HK⟩ := hrel
    clear HR
    by_cases hlt : k < zs.length
    · obtain ⟨z, hz⟩ : ∃ z, zs[k]? = some z := ⟨_, List.getElem?_eq_getElem hlt⟩
      obtain ⟨b, o, rfl, hc⟩ := hA.out k z hz
      by_cases hn : n ≤ z
      · have HE : Hid (r = (k : Int)) := hid (by rw [HK.out, cls_hit hz hn])
        clear hz HK hA
        go_wp2_with fail
        go_ret
        exact ⟨ret_i64 HE.out.symm, rfl⟩
      · have HK' : Hid (r = cls (zs.drop (k + 1)) n (k + 1)) := hid (by rw [HK.out, cls_miss hz hn])
        clear hz HK hA
        go_wp2_with fail
        go_round
        case rel => exact ⟨k + 1, by omega, by go_num, HK'⟩
        case measure => simp [intOf] <;> omega
    · have HE : Hid (r = -1) := hid (by rw [HK.out, cls_end (by omega)])
      clear HK hA
      go_wp2_with fail
      go_ret
      exact ⟨ret_i64 HE.out.symm, rfl⟩

/-- What Per does, case by case. -/
theorem per_cases (zs : List Int) (c page : Int) (hp : page ≤ 9223372036854775807) :
    (c < 0 ∧ per zs c page = 0) ∨ (0 ≤ c ∧ (zs.length : Int) ≤ c ∧ per zs c page = 0) ∨
    ∃ (k : Nat) (z : Int), c = (k : Int) ∧ k < zs.length ∧ zs[k]? = some z ∧
      ((z < 1 ∧ per zs c page = 0) ∨ (1 ≤ z ∧ page < 1 ∧ per zs c page = 0) ∨ (1 ≤ z ∧ 1 ≤ page ∧ ∃ q : Nat, per zs c page = (q : Int) ∧ Hid (wrap64 (page.tdiv z) = (q : Int)))) := by
  by_cases h1 : c < 0
  · exact .inl ⟨h1, by unfold per; rw [if_pos (.inl h1)]⟩
  by_cases h2 : (zs.length : Int) ≤ c
  · exact .inr (.inl ⟨by omega, h2, by unfold per; rw [if_pos (.inr (.inl h2))]⟩)
  obtain ⟨k, rfl⟩ : ∃ k : Nat, c = k := ⟨c.toNat, by omega⟩
  have hk : k < zs.length := by omega
  obtain ⟨z, hz⟩ : ∃ z, zs[k]? = some z := ⟨_, List.getElem?_eq_getElem hk⟩
  refine .inr (.inr ⟨k, z, rfl, hk, hz, ?_⟩)
  by_cases h3 : page < 1
  · have e : per zs k page = 0 := by unfold per; rw [if_pos (.inr (.inr h3))]
    rw [e]
    by_cases h4 : z < 1
    · exact .inl ⟨h4, rfl⟩
    · exact .inr (.inl ⟨by omega, h3, rfl⟩)
  · have e : per zs k page = if z < 1 then 0 else page / z := by
      unfold per
      rw [if_neg (by omega), Int.toNat_natCast, hz]
    rw [e]
    by_cases h4 : z < 1
    · exact .inl ⟨h4, if_pos h4⟩
    · have hq0 : 0 ≤ page / z := Int.ediv_nonneg (by omega) (by omega)
      have hq1 : page / z ≤ page := Int.ediv_le_self _ (by omega)
      exact .inr (.inr ⟨by omega, by omega, (page / z).toNat, by rw [if_neg h4]; omega, hid (by rw [Int.tdiv_eq_ediv_of_nonneg (by omega)]; unfold wrap64; omega)⟩)

set_option maxHeartbeats 1000000 in
set_option maxRecDepth 100000 in
theorem per_any (a : Option Addr) (m : Nat) (zs : List Int) (c page : Int) (hp : page ≤ 9223372036854775807) (w : World) (hZ : Ints w (.slice a zs.length m) zs) :
    Calls Try.prog 14 #[.slice a zs.length m, .int .i64 c, .int .i64 page] w fun e w' => e = .returned (.int .i64 (per zs c page)) ∧ w = w' := by
  have hA : ∀ j z, zs[j]? = some z → ∃ b o, a = some ⟨b, o, none⟩ ∧ w.cell? ⟨b, o + j, none⟩ = some (.int .i64 z) := by
    obtain ⟨a', c', e, hx⟩ := hZ
    cases e
    exact fun j z hj => by
      obtain ⟨b, o, ha, _, hc⟩ := hx j z hj
      exact ⟨b, o, ha, hc⟩
  have hcase := per_cases zs c page hp
  generalize hr : per zs c page = r at *
  clear hr hZ hp
  rcases hcase with ⟨h1, rfl⟩ | ⟨h1, h2, rfl⟩ | ⟨k, z, rfl, hk, hz, h⟩
  · clear hA
    go_enter Try.func14, Try.ntmps14
    go_wp2_with fail
    go_ret
    exact ⟨rfl, rfl⟩
  · clear hA
    generalize zs.length = n at *
    go_enter Try.func14, Try.ntmps14
    go_wp2_with fail
    go_ret
    exact ⟨rfl, rfl⟩
  · obtain ⟨b, o, rfl, hc⟩ := hA k z hz
    clear hA hz
    have hk1 : (k : Int) < (zs.length : Int) := by omega
    generalize zs.length = n at *
    rcases h with ⟨h1, rfl⟩ | ⟨h1, h2, rfl⟩ | ⟨h1, h2, q, rfl, h3⟩
    all_goals
      go_enter Try.func14, Try.ntmps14
      go_wp2_with fail
      go_ret
      first | exact ⟨rfl, rfl⟩ | exact ⟨ret_i64 h3.out, rfl⟩

set_option maxHeartbeats 1000000 in
set_option maxRecDepth 100000 in
theorem ref_per (a : Option Addr) (m : Nat) (zs : List Int) (c page : Int) (hp : page ≤ 9223372036854775807) (w : World) (hZ : Ints w (.slice a zs.length m) zs) :
    Calls Try.prog 15 #[.slice a zs.length m, .int .i64 c, .int .i64 page] w fun e w' => e = .returned (.int .i64 (per zs c page)) ∧ w = w' := by
  have hA : ∀ j z, zs[j]? = some z → ∃ b o, a = some ⟨b, o, none⟩ ∧ w.cell? ⟨b, o + j, none⟩ = some (.int .i64 z) := by
    obtain ⟨a', c', e, hx⟩ := hZ
    cases e
    exact fun j z hj => by
      obtain ⟨b, o, ha, _, hc⟩ := hx j z hj
      exact ⟨b, o, ha, hc⟩
  have hcase := per_cases zs c page hp
  generalize hr : per zs c page = r at *
  clear hr hZ hp
  rcases hcase with ⟨h1, rfl⟩ | ⟨h1, h2, rfl⟩ | ⟨k, z, rfl, hk, hz, h⟩
  · clear hA
    go_enter Try.func15, Try.ntmps15
    go_wp2_with fail
    go_ret
    exact ⟨rfl, rfl⟩
  · clear hA
    generalize zs.length = n at *
    go_enter Try.func15, Try.ntmps15
    go_wp2_with fail
    go_ret
    exact ⟨rfl, rfl⟩
  · obtain ⟨b, o, rfl, hc⟩ := hA k z hz
    clear hA hz
    have hk1 : (k : Int) < (zs.length : Int) := by omega
    generalize zs.length = n at *
    have h' : (page < 1 ∧ r = 0) ∨ (1 ≤ page ∧ z < 1 ∧ r = 0) ∨ (1 ≤ z ∧ 1 ≤ page ∧ ∃ q : Nat, r = (q : Int) ∧ Hid (wrap64 (page.tdiv z) = (q : Int))) := by
      rcases h with ⟨h1, h2⟩ | ⟨h1, h2, h3⟩ | h
      · by_cases hp : page < 1
        · exact .inl ⟨hp, h2⟩
        · exact .inr (.inl ⟨by omega, h1, h2⟩)
      · exact .inl ⟨h2, h3⟩
      · exact .inr (.inr h)
    clear h
    rcases h' with ⟨h1, rfl⟩ | ⟨h1, h2, rfl⟩ | ⟨h1, h2, q, rfl, h3⟩
    all_goals
      go_enter Try.func15, Try.ntmps15
      go_wp2_with fail
      go_ret
      first | exact ⟨rfl, rfl⟩ | exact ⟨ret_i64 h3.out, rfl⟩
end Go.Proofs.Ytoiifccmnmhnkaa

/-
  Contracts of sizes.Class, sizes.Per and of the document's own Class and Per at this program: of any slice and numbers. No conditions but that a slice has at most 2^63 - 1 places.
-/
import Derived.Test.YtldfpacdlephcaaSzRef
namespace Go.Proofs.Ytldfpacdlephcaa.Sz
open Go Go.RowKit Go.Lib

/-- What Per does, case by case. -/
theorem per_cases (zs : List Int) (c page : Int) (hp : page ≤ 9223372036854775807) :
    (c < 0 ∧ per zs c page = 0) ∨ (0 ≤ c ∧ (zs.length : Int) ≤ c ∧ per zs c page = 0) ∨
    ∃ (k : Nat) (z : Int), c = (k : Int) ∧ k < zs.length ∧ zs[k]? = some z ∧
      ((z < 1 ∧ per zs c page = 0) ∨ (1 ≤ z ∧ page < 1 ∧ per zs c page = 0) ∨ (1 ≤ z ∧ 1 ≤ page ∧ ∃ q : Nat, per zs c page = (q : Int) ∧ Hid (wrap64 (page.tdiv z) = (q : Int)))) := by
  by_cases h1 : c < 0
  · exact .inl ⟨h1, by unfold per; rw [if_pos (.inl h1)]⟩
  by_cases h2 : (zs.length : Int) ≤ c
  · exact .inr (.inl ⟨by omega, h2, by unfold per; rw [if_pos (.inr (.inl h2))]⟩)
  obtain ⟨k, rfl⟩ : ∃ k : Nat, c = k := ⟨c.toNat, by omega⟩
  have hk : k < zs.length := by omega
  obtain ⟨z, hz⟩ : ∃ z, zs[k]? = some z := ⟨_, List.getElem?_eq_getElem hk⟩
  refine .inr (.inr ⟨k, z, rfl, hk, hz, ?_⟩)
  by_cases h3 : page < 1
  · have e : per zs k page = 0 := by unfold per; rw [if_pos (.inr (.inr h3))]
    rw [e]
    by_cases h4 : z < 1
    · exact .inl ⟨h4, rfl⟩
    · exact .inr (.inl ⟨by omega, h3, rfl⟩)
  · have e : per zs k page = if z < 1 then 0 else page / z := by
      unfold per
      rw [if_neg (by omega), Int.toNat_natCast, hz]
    rw [e]
    by_cases h4 : z < 1
    · exact .inl ⟨h4, if_pos h4⟩
    · have hq0 : 0 ≤ page / z := Int.ediv_nonneg (by omega) (by omega)
      have hq1 : page / z ≤ page := Int.ediv_le_self _ (by omega)
      exact .inr (.inr ⟨by omega, by omega, (page / z).toNat, by rw [if_neg h4]; omega, hid (by rw [Int.tdiv_eq_ediv_of_nonneg (by omega)]; unfold wrap64; omega)⟩)

set_option maxHeartbeats 1000000 in
set_option maxRecDepth 100000 in
theorem per_any (a : Option Addr) (m : Nat) (zs : List Int) (c page : Int) (hp : page ≤ 9223372036854775807) (w : World) (hZ : Ints w (.slice a zs.length m) zs) :
    Calls Try.prog 76 #[.slice a zs.length m, .int .i64 c, .int .i64 page] w fun e w' => e = .returned (.int .i64 (per zs c page)) ∧ w = w' := by
  have hA : ∀ j z, zs[j]? = some z → ∃ b o, a = some ⟨b, o, none⟩ ∧ w.cell? ⟨b, o + j, none⟩ = some (.int .i64 z) := by
    obtain ⟨a', c', e, hx⟩ := hZ
    cases e
    exact fun j z hj => by
      obtain ⟨b, o, ha, _, hc⟩ := hx j z hj
      exact ⟨b, o, ha, hc⟩
  have hcase := per_cases zs c page hp
  generalize hr : per zs c page = r at *
  clear hr hZ hp
  rcases hcase with ⟨h1, rfl⟩ | ⟨h1, h2, rfl⟩ | ⟨k, z, rfl, hk, hz, h⟩
  · clear hA
    go_enter Try.func76, Try.ntmps76
    go_wp2_with fail
    go_ret
    exact ⟨rfl, rfl⟩
  · clear hA
    generalize zs.length = n at *
    go_enter Try.func76, Try.ntmps76
    go_wp2_with fail
    go_ret
    exact ⟨rfl, rfl⟩
  · obtain ⟨b, o, rfl, hc⟩ := hA k z hz
    clear hA hz
    have hk1 : (k : Int) < (zs.length : Int) := by omega
    generalize zs.length = n at *
    rcases h with ⟨h1, rfl⟩ | ⟨h1, h2, rfl⟩ | ⟨h1, h2, q, rfl, h3⟩
    all_goals
      go_enter Try.func76, Try.ntmps76
      go_wp2_with fail
      go_ret
      first | exact ⟨rfl, rfl⟩ | exact ⟨ret_i64 h3.out, rfl⟩

set_option maxHeartbeats 1000000 in
set_option maxRecDepth 100000 in
theorem ref_per (a : Option Addr) (m : Nat) (zs : List Int) (c page : Int) (hp : page ≤ 9223372036854775807) (w : World) (hZ : Ints w (.slice a zs.length m) zs) :
    Calls Try.prog 81 #[.slice a zs.length m, .int .i64 c, .int .i64 page] w fun e w' => e = .returned (.int .i64 (per zs c page)) ∧ w = w' := by
  have hA : ∀ j z, zs[j]? = some z → ∃ b o, a = some ⟨b, o, none⟩ ∧ w.cell? ⟨b, o + j, none⟩ = some (.int .i64 z) := by
    obtain ⟨a', c', e, hx⟩ := hZ
    cases e
    exact fun j z hj => by
      obtain ⟨b, o, ha, _, hc⟩ := hx j z hj
      exact ⟨b, o, ha, hc⟩
  have hcase := per_cases zs c page hp
  generalize hr : per zs c page = r at *
  clear hr hZ hp
  rcases hcase with ⟨h1, rfl⟩ | ⟨h1, h2, rfl⟩ | ⟨k, z, rfl, hk, hz, h⟩
  · clear hA
    go_enter Try.func81, Try.ntmps81
    go_wp2_with fail
    go_ret
    exact ⟨rfl, rfl⟩
  · clear hA
    generalize zs.length = n at *
    go_enter Try.func81, Try.ntmps81
    go_wp2_with fail
    go_ret
    exact ⟨rfl, rfl⟩
  · obtain ⟨b, o, rfl, hc⟩ := hA k z hz
    clear hA hz
    have hk1 : (k : Int) < (zs.length : Int) := by omega
    generalize zs.length = n at *
    have h' : (page < 1 ∧ r = 0) ∨ (1 ≤ page ∧ z < 1 ∧ r = 0) ∨ (1 ≤ z ∧ 1 ≤ page ∧ ∃ q : Nat, r = (q : Int) ∧ Hid (wrap64 (page.tdiv z) = (q : Int))) := by
      rcases h with ⟨h1, h2⟩ | ⟨h1, h2, h3⟩ | h
      · by_cases hp : page < 1
        · exact .inl ⟨hp, h2⟩
        · exact .inr (.inl ⟨by omega, h1, h2⟩)
      · exact .inl ⟨h2, h3⟩
      · exact .inr (.inr h)
    clear h
    rcases h' with ⟨h1, rfl⟩ | ⟨h1, h2, rfl⟩ | ⟨h1, h2, q, rfl, h3⟩
    all_goals
      go_enter Try.func81, Try.ntmps81
      go_wp2_with fail
      go_ret
      first | exact ⟨rfl, rfl⟩ | exact ⟨ret_i64 h3.out, rfl⟩
end Go.Proofs.Ytldfpacdlephcaa.Sz

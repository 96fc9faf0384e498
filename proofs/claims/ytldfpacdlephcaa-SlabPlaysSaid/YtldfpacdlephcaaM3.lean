/-
  Contracts of the document's own answers for layer 5 (ambryref05.New, Class, Per), of slices.IndexFunc at Class's closure, of sizes.Class and sizes.Per at this program. No conditions but that a slice has at most 2^63 - 1 places.
  Contracts of sizes.Class, sizes.Per and of the document's own Class and Per at this program: of any slice and numbers. No conditions but that a slice has at most 2^63 - 1 places.
-/
import Derived.Test.YtldfpacdlephcaaM2
namespace Go.Proofs.Ytldfpacdlephcaa.Sz
open Go Go.RowKit Go.Lib

theorem up8_more {j : Nat} (h : ¬ j % 8 = 0) : up8 (j + 1) = up8 j := by unfold up8; omega
theorem up8_stay {j : Nat} (h : j % 8 = 0) : up8 j = j := by unfold up8; omega

set_option maxHeartbeats 1000000 in
set_option maxRecDepth 100000 in
theorem ref_new_ok (page f : Nat) (p1 : 512 ≤ page) (p2 : page ≤ 65536) (p8 : page % 8 = 0) (f1 : 105 ≤ f) (f2 : f ≤ 400) (w : World) :
    Calls Try.prog 15 #[.int .i64 page, .int .i64 f] w fun e w' => ∃ v, e = .returned (.tuple #[v, .int .i64 0]) ∧ w'.ownsRow w.heap.size 3 1 v (row page f).length (cellsOf (row page f)) ∧ Below w.heap.size w w' := by
  obtain ⟨i0, hi, hz0, hz1, hz2⟩ := info_parts infoInt
  have g1 : (105 : Int) ≤ (f : Int) := by omega
  have g2 : (f : Int) ≤ 400 := by omega
  have g3 : (512 : Int) ≤ (page : Int) := by omega
  have g4 : (page : Int) ≤ 65536 := by omega
  have g5 : (page : Int) % 8 = 0 := by omega
  clear p8
  go_enter Try.func15, Try.ntmps15
  go_wp2_with fail
  go_loopw [6, 7] (fun v z wr => ∃ (pre : List Nat) (s : Nat), z = .int .i64 s ∧ pre.length ≤ 62 ∧ s ≤ 170000 ∧ Hid (s % 8 = 0 ∧ rowFrom page f 62 64 = pre ++ rowFrom page f (62 - pre.length) s) ∧ wr.ownsRow w.heap.size 3 1 v pre.length (cellsOf pre) ∧ Below w.heap.size w wr)
    (fun _ z _ => 200000 - (intOf z).toNat)
  case atStart => exact ⟨[], 64, rfl, by simp, by omega, hid ⟨rfl, rfl⟩, World.ownsRow_nil _ _ _ _, Below.refl _ _⟩
  case round =>
    obtain ⟨pre, s, rfl, hpl, hs, HT, hown, hb⟩ := hrel
    have hsz := hb.size
    by_cases hgo : s ≤ page / 2 ∧ pre.length < 62
    · obtain ⟨h1, h2⟩ := hgo
      have i1 : (s : Int) ≤ (page : Int) / 2 := by omega
      have i2 : (pre.length : Int) < 62 := by omega
      have HT' : Hid (grow s f % 8 = 0 ∧ rowFrom page f 62 64 = (pre ++ [s]) ++ rowFrom page f (62 - (pre ++ [s]).length) (grow s f)) := hid ⟨(grow_facts s f HT.out.1).1, by
        rw [HT.out.2, show 62 - pre.length = 62 - (pre ++ [s]).length + 1 from by simp; omega, rowFrom_go h1]; simp⟩
      have hg1 := (grow_facts s f HT.out.1).2.1
      have hg2 := grow_le (s := s) (f := f) (by omega) f2
      have hPb := mul_bound (s := s) (f := f) (by omega) f2
      obtain ⟨P, hP⟩ : ∃ P, P = s * f := ⟨_, rfl⟩
      have e1 : (s : Int) * (f : Int) = (P : Int) := by rw [hP, Int.natCast_mul]
      have HG : Hid (grow s f = max (up8 (P / 100)) (s + 8)) := hid (by rw [hP]; rfl)
      rw [← hP] at hPb
      clear hP
      generalize grow s f = G at *
      obtain ⟨a, c, rfl⟩ := row_form hown
      clear HT
      go_wp2_with (at_builtin; refine wpList_append_own _ rfl _ _ 22 rfl w.heap.size 3 i0 (.int .i64 0) 1 8 Try.underlying22 hi hz0 hz1 hz2 rfl (by decide) _ _ _ rfl (hown.alloc _) ⟨wr.heap.size, 0, none⟩ 1 1 [.int .i64 s] rfl rfl (one_cell _ _) (one_ok _) (by unfold maxLen; omega) (by omega) (by simp; omega) ?_)
      · intro v' w1 hown' hgrow _
        have hb2 := hb.trans (own_grown hown hsz hgrow)
        have ho : w1.ownsRow w.heap.size 3 1 v' (pre ++ [s]).length (cellsOf (pre ++ [s])) := by simpa [cellsOf] using hown'
        clear hown' hgrow hown hb
        go_wp2_with fail
        go_loop [8] (fun z => ∃ j : Nat, z = .int .i64 j ∧ j ≤ 160008 ∧ Hid (up8 j = up8 (P / 100))) (fun z => (8 - (intOf z).toNat % 8) % 8)
        case atStart => exact ⟨P / 100, by go_num, by omega, hid rfl⟩
        case round =>
          obtain ⟨j, rfl, hj, HJ⟩ := hrel
          by_cases hj8 : j % 8 = 0
          · have j8 : (j : Int) % 8 = 0 := by omega
            have HE : Hid (G = max j (s + 8)) := hid (by rw [HG.out, ← HJ.out, up8_stay hj8])
            have hcase : (j : Int) < (s : Int) + 8 ∨ (s : Int) + 8 ≤ (j : Int) := by omega
            clear hj8
            rcases hcase with hc | hc
            · obtain rfl : G = s + 8 := by rw [HE.out]; omega
              go_wp2_with fail
              go_roundw
              case rel => exact ⟨pre ++ [s], s + 8, by go_num, by simp; omega, by omega, HT', ho, hb2⟩
              case measure => simp [intOf] <;> omega
            · obtain rfl : G = j := by rw [HE.out]; omega
              go_wp2_with fail
              go_roundw
              case rel => exact ⟨pre ++ [s], G, rfl, by simp; omega, by omega, HT', ho, hb2⟩
              case measure => simp [intOf] <;> omega
          · have j8 : ¬ (j : Int) % 8 = 0 := by omega
            have HJ' : Hid (up8 (j + 1) = up8 (P / 100)) := hid (by rw [up8_more hj8, HJ.out])
            have hj2 : up8 (P / 100) ≤ 160007 := by unfold up8; omega
            have hj3 : j + 1 ≤ 160008 := by
              have := (up8_facts (j + 1)).2.1
              rw [HJ'.out] at this; omega
            go_wp2_with fail
            go_round
            case rel => exact ⟨j + 1, by go_num, hj3, HJ'⟩
            case measure => simp [intOf] <;> omega
    · have HE : Hid (row page f = pre ++ [page]) := hid (by
        unfold row
        rw [HT.out.2]
        by_cases h1 : s ≤ page / 2
        · rw [show 62 - pre.length = 0 by omega]; simp [rowFrom]
        · rw [rowFrom_end h1]; simp)
      obtain ⟨a, c, rfl⟩ := row_form hown
      have hcase : (¬ (s : Int) ≤ (page : Int) / 2) ∨ ((s : Int) ≤ (page : Int) / 2 ∧ ¬ (pre.length : Int) < 62) := by omega
      clear HT hgo
      rcases hcase with h1 | ⟨h1, h2⟩
      all_goals
        go_wp2_with (at_builtin; refine wpList_append_own _ rfl _ _ 22 rfl w.heap.size 3 i0 (.int .i64 0) 1 8 Try.underlying22 hi hz0 hz1 hz2 rfl (by decide) _ _ _ rfl (hown.alloc _) ⟨wr.heap.size, 0, none⟩ 1 1 [.int .i64 page] rfl rfl (one_cell _ _) (one_ok _) (by unfold maxLen; omega) (by omega) (by simp; omega) ?_)
        · intro v' w1 hown' hgrow _
          have hb2 := hb.trans (own_grown hown hsz hgrow)
          have ho : w1.ownsRow w.heap.size 3 1 v' (row page f).length (cellsOf (row page f)) := by rw [HE.out]; simpa [cellsOf] using hown'
          clear hown' hgrow hown hb
          go_wp2_with fail
          go_ret2
          exact ⟨v', rfl, ho, hb2⟩

set_option maxHeartbeats 1000000 in
set_option maxRecDepth 100000 in
theorem ref_new_bad (page f : Int) (h : okB page f = false) (w : World) :
    Calls Try.prog 15 #[.int .i64 page, .int .i64 f] w fun e w' => e = .returned (.tuple #[.slice none 0 0, .int .i64 1]) ∧ w = w' := by
  have hcase : page < 512 ∨ (¬ page < 512 ∧ 65536 < page) ∨ (512 ≤ page ∧ page ≤ 65536 ∧ ¬ page % 8 = 0) ∨ (512 ≤ page ∧ page ≤ 65536 ∧ page % 8 = 0 ∧ f < 105) ∨ (512 ≤ page ∧ page ≤ 65536 ∧ page % 8 = 0 ∧ ¬ f < 105 ∧ 400 < f) := by
    unfold okB pageB at h
    rw [Bool.and_eq_false_iff, decide_eq_false_iff_not, decide_eq_false_iff_not] at h
    omega
  clear h
  rcases hcase with h1 | ⟨h1, h2⟩ | ⟨h1, h2, h3⟩ | ⟨h1, h2, h3, h4⟩ | ⟨h1, h2, h3, h4, h5⟩
  all_goals
    go_enter Try.func15, Try.ntmps15
    go_wp2_with fail
    go_ret2
    exact ⟨rfl, rfl⟩

/-- A slice of ints, read through its cells. -/
def Ints (w : World) (v : Value) (zs : List Int) : Prop :=
  ∃ a c, v = .slice a zs.length c ∧ ∀ j z, zs[j]? = some z → ∃ b o, a = some ⟨b, o, none⟩ ∧ b < w.heap.size ∧ w.cell? ⟨b, o + j, none⟩ = some (.int .i64 z)
theorem Ints.below {w w' : World} {v : Value} {zs : List Int} (h : Ints w v zs) (hb : Below w.heap.size w w') : Ints w' v zs := by
  obtain ⟨a, c, hv, hx⟩ := h
  refine ⟨a, c, hv, fun j z hj => ?_⟩
  obtain ⟨b, o, ha, hlt, hc⟩ := hx j z hj
  exact ⟨b, o, ha, Nat.lt_of_lt_of_le hlt hb.size, (hb.cell (p := ⟨b, o + j, none⟩) hlt).trans hc⟩
def ints (xs : List Nat) : List Int := xs.map fun (x : Nat) => (x : Int)
theorem ints_len (xs : List Nat) : (ints xs).length = xs.length := by simp [ints]
theorem ints_of_row {w : World} {n₀ : Nat} {v : Value} {xs : List Nat} (h : w.ownsRow n₀ 3 1 v xs.length (cellsOf xs)) : Ints w v (ints xs) := by
  have hlt := h.lt
  have hcs := @World.ownsRow.cells _ _ _ _ _ _ _ h
  rcases h.2 with ⟨rfl, h0⟩ | ⟨g, cap, cur, rfl, hb, hg, hcap, _⟩
  · refine ⟨none, 0, by rw [ints_len, h0], fun j x hj => ?_⟩
    rw [List.eq_nil_of_length_eq_zero h0] at hj; simp [ints] at hj
  · refine ⟨some ⟨g, 0, none⟩, cap, by rw [ints_len], fun j x hj => ⟨g, 0, rfl, (hlt g rfl).2, ?_⟩⟩
    unfold ints at hj
    rw [List.getElem?_map] at hj
    obtain ⟨n, hn, rfl⟩ := Option.map_eq_some_iff.1 hj
    have := hcs rfl j (.int .i64 (n : Int)) (by simp [cellsOf, hn])
    rw [addr_plain] at this; exact this

end Go.Proofs.Ytldfpacdlephcaa.Sz
namespace Go.Proofs.Ytldfpacdlephcaa.Sz
open Go Go.RowKit Go.Lib

/-- What Per does, case by case. -/
theorem per_cases (zs : List Int) (c page : Int) (hp : page ≤ 9223372036854775807) :
    (c < 0 ∧ per zs c page = 0) ∨ (0 ≤ c ∧ (zs.length : Int) ≤ c ∧ per zs c page = 0) ∨
    ∃ (k : Nat) (z : Int), c = (k : Int) ∧ k < zs.length ∧ zs[k]? = some z ∧
      ((z < 1 ∧ per zs c page = 0) ∨ (1 ≤ z ∧ page < 1 ∧ per zs c page = 0) ∨ (1 ≤ z ∧ 1 ≤ page ∧ ∃ q : Nat, per zs c page = (q : Int) ∧ Hid (wrap64 (page.tdiv z) = (q : Int)))) := by
  by_cases h1 : c < 0
  · exact .inl ⟨h1, by unfold per; rw [if_pos (.inl h1)]⟩
  by_cases h2 : (zs.length : Int) ≤ c
  · exact .inr (.inl ⟨by omega, h2, by unfold per; rw [if_pos (.inr (.inl h2))]⟩)
  obtain ⟨k, rfl⟩ : ∃ k : Nat, c = k := ⟨c.toNat, by omega⟩
  have hk : k < zs.length := by omega
  obtain ⟨z, hz⟩ : ∃ z, zs[k]? = some z := ⟨_, List.getElem?_eq_getElem hk⟩
  refine .inr (.inr ⟨k, z, rfl, hk, hz, ?_⟩)
  by_cases h3 : page < 1
  · have e : per zs k page = 0 := by unfold per; rw [if_pos (.inr (.inr h3))]
    rw [e]
    by_cases h4 : z < 1
    · exact .inl ⟨h4, rfl⟩
    · exact .inr (.inl ⟨by omega, h3, rfl⟩)
  · have e : per zs k page = if z < 1 then 0 else page / z := by
      unfold per
      rw [if_neg (by omega), Int.toNat_natCast, hz]
    rw [e]
    by_cases h4 : z < 1
    · exact .inl ⟨h4, if_pos h4⟩
    · have hq0 : 0 ≤ page / z := Int.ediv_nonneg (by omega) (by omega)
      have hq1 : page / z ≤ page := Int.ediv_le_self _ (by omega)
      exact .inr (.inr ⟨by omega, by omega, (page / z).toNat, by rw [if_neg h4]; omega, hid (by rw [Int.tdiv_eq_ediv_of_nonneg (by omega)]; unfold wrap64; omega)⟩)

set_option maxHeartbeats 1000000 in
set_option maxRecDepth 100000 in
theorem per_any (a : Option Addr) (m : Nat) (zs : List Int) (c page : Int) (hp : page ≤ 9223372036854775807) (w : World) (hZ : Ints w (.slice a zs.length m) zs) :
    Calls Try.prog 76 #[.slice a zs.length m, .int .i64 c, .int .i64 page] w fun e w' => e = .returned (.int .i64 (per zs c page)) ∧ w = w' := by
  have hA : ∀ j z, zs[j]? = some z → ∃ b o, a = some ⟨b, o, none⟩ ∧ w.cell? ⟨b, o + j, none⟩ = some (.int .i64 z) := by
    obtain ⟨a', c', e, hx⟩ := hZ
    cases e
    exact fun j z hj => by
      obtain ⟨b, o, ha, _, hc⟩ := hx j z hj
      exact ⟨b, o, ha, hc⟩
  have hcase := per_cases zs c page hp
  generalize hr : per zs c page = r at *
  clear hr hZ hp
  rcases hcase with ⟨h1, rfl⟩ | ⟨h1, h2, rfl⟩ | ⟨k, z, rfl, hk, hz, h⟩
  · clear hA
    go_enter Try.func76, Try.ntmps76
    go_wp2_with fail
    go_ret
    exact ⟨rfl, rfl⟩
  · clear hA
    generalize zs.length = n at *
    go_enter Try.func76, Try.ntmps76
    go_wp2_with fail
    go_ret
    exact ⟨rfl, rfl⟩
  · obtain ⟨b, o, rfl, hc⟩ := hA k z hz
    clear hA hz
    have hk1 : (k : Int) < (zs.length : Int) := by omega
    generalize zs.length = n at *
    rcases h with ⟨h1, rfl⟩ | ⟨h1, h2, rfl⟩ | ⟨h1, h2, q, rfl, h3⟩
    all_goals
      go_enter Try.func76, Try.ntmps76
      go_wp2_with fail
      go_ret
      first | exact ⟨rfl, rfl⟩ | exact ⟨ret_i64 h3.out, rfl⟩

set_option maxHeartbeats 1000000 in
set_option maxRecDepth 100000 in
theorem ref_per (a : Option Addr) (m : Nat) (zs : List Int) (c page : Int) (hp : page ≤ 9223372036854775807) (w : World) (hZ : Ints w (.slice a zs.length m) zs) :
    Calls Try.prog 81 #[.slice a zs.length m, .int .i64 c, .int .i64 page] w fun e w' => e = .returned (.int .i64 (per zs c page)) ∧ w = w' := by
  have hA : ∀ j z, zs[j]? = some z → ∃ b o, a = some ⟨b, o, none⟩ ∧ w.cell? ⟨b, o + j, none⟩ = some (.int .i64 z) := by
    obtain ⟨a', c', e, hx⟩ := hZ
    cases e
    exact fun j z hj => by
      obtain ⟨b, o, ha, _, hc⟩ := hx j z hj
      exact ⟨b, o, ha, hc⟩
  have hcase := per_cases zs c page hp
  generalize hr : per zs c page = r at *
  clear hr hZ hp
  rcases hcase with ⟨h1, rfl⟩ | ⟨h1, h2, rfl⟩ | ⟨k, z, rfl, hk, hz, h⟩
  · clear hA
    go_enter Try.func81, Try.ntmps81
    go_wp2_with fail
    go_ret
    exact ⟨rfl, rfl⟩
  · clear hA
    generalize zs.length = n at *
    go_enter Try.func81, Try.ntmps81
    go_wp2_with fail
    go_ret
    exact ⟨rfl, rfl⟩
  · obtain ⟨b, o, rfl, hc⟩ := hA k z hz
    clear hA hz
    have hk1 : (k : Int) < (zs.length : Int) := by omega
    generalize zs.length = n at *
    have h' : (page < 1 ∧ r = 0) ∨ (1 ≤ page ∧ z < 1 ∧ r = 0) ∨ (1 ≤ z ∧ 1 ≤ page ∧ ∃ q : Nat, r = (q : Int) ∧ Hid (wrap64 (page.tdiv z) = (q : Int))) := by
      rcases h with ⟨h1, h2⟩ | ⟨h1, h2, h3⟩ | h
      · by_cases hp : page < 1
        · exact .inl ⟨hp, h2⟩
        · exact .inr (.inl ⟨by omega, h1, h2⟩)
      · exact .inl ⟨h2, h3⟩
      · exact .inr (.inr h)
    clear h
    rcases h' with ⟨h1, rfl⟩ | ⟨h1, h2, rfl⟩ | ⟨h1, h2, q, rfl, h3⟩
    all_goals
      go_enter Try.func81, Try.ntmps81
      go_wp2_with fail
      go_ret
      first | exact ⟨rfl, rfl⟩ | exact ⟨ret_i64 h3.out, rfl⟩
end Go.Proofs.Ytldfpacdlephcaa.Sz

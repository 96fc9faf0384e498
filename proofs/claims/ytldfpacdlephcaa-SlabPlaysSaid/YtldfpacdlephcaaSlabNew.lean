/-
  Package slab at this program: areSizes, slices.Clone and New, of any arena without granted pages and any sizes. No conditions but that the numbers are an int's.
-/
import Derived.Test.YtldfpacdlephcaaSlabMove
import Derived.BigRegion
namespace Go.Proofs.Ytldfpacdlephcaa
open Go Go.RowKit Go.Lib

/-- Sizes rise from above b, up to a page. -/
def rises (page : Int) : Int → List Int → Bool
  | _, [] => true
  | b, z :: r => decide (b < z) && decide (z ≤ page) && rises page z r
def sizesB (zs : List Int) (page : Int) : Bool := decide (1 ≤ zs.length ∧ zs.length ≤ 63) && rises page 63 zs
theorem rises_go {page b z : Int} {zs : List Int} {k : Nat} (h : zs[k]? = some z) (h1 : b < z) (h2 : z ≤ page) : rises page b (zs.drop k) = rises page z (zs.drop (k + 1)) := by
  obtain ⟨hk, rfl⟩ := List.getElem?_eq_some_iff.1 h
  rw [List.drop_eq_getElem_cons hk, rises]
  simp [h1, h2]
theorem rises_no {page b z : Int} {zs : List Int} {k : Nat} (h : zs[k]? = some z) (h1 : z ≤ b ∨ page < z) : rises page b (zs.drop k) = false := by
  obtain ⟨hk, rfl⟩ := List.getElem?_eq_some_iff.1 h
  rw [List.drop_eq_getElem_cons hk, rises]
  rcases h1 with h1 | h1
  · have : ¬ b < zs[k] := by omega
    simp [this]
  · have : ¬ zs[k] ≤ page := by omega
    simp [this]
theorem rises_end {page b : Int} {zs : List Int} {k : Nat} (h : zs.length ≤ k) : rises page b (zs.drop k) = true := by rw [List.drop_eq_nil_of_le h, rises]
theorem rises_all {page : Int} : ∀ {b : Int} {zs : List Int}, rises page b zs = true → ∀ z ∈ zs, b < z ∧ z ≤ page
  | _, [], _, z, hz => by cases hz
  | b, y :: r, h, z, hz => by
    rw [rises, Bool.and_eq_true, Bool.and_eq_true] at h
    obtain ⟨⟨h1, h2⟩, h3⟩ := h
    have h1 := of_decide_eq_true h1
    have h2 := of_decide_eq_true h2
    rcases List.mem_cons.1 hz with rfl | hz
    · exact ⟨h1, h2⟩
    · have := rises_all h3 z hz
      exact ⟨by omega, this.2⟩

set_option maxHeartbeats 1000000 in
set_option maxRecDepth 100000 in
theorem areSizes_any (a : Option Addr) (c : Nat) (zs : List Int) (page : Int) (w : World) (hl : zs.length ≤ 9223372036854775807) (hZ : Sz.Ints w (.slice a zs.length c) zs) :
    Calls Try.prog 31 #[.slice a zs.length c, .int .i64 page] w fun e w' => e = .returned (.bool (sizesB zs page)) ∧ w = w' := by
  have hA : Hid (∀ (j : Nat) z, zs[j]? = some z → ∃ b o, a = some ⟨b, o, none⟩ ∧ w.cell? ⟨b, o + j, none⟩ = some (.int .i64 z)) := by
    obtain ⟨a', c', e, hx⟩ := hZ
    cases e
    exact hid fun j z hj => by
      obtain ⟨b, o, ha, _, hc⟩ := hx j z hj
      exact ⟨b, o, ha, hc⟩
  clear hZ
  obtain ⟨N, hN⟩ : ∃ N, N = zs.length := ⟨_, rfl⟩
  have HN := hid hN
  have hbad : (N < 1 ∨ (1 ≤ N ∧ 63 < N)) ∨ (1 ≤ N ∧ N ≤ 63) := by omega
  obtain ⟨r, hr⟩ : ∃ r, r = sizesB zs page := ⟨_, rfl⟩
  rw [← hr, ← hN]
  rw [← hN] at hl
  unfold sizesB at hr
  rw [← hN] at hr
  rcases hbad with h1 | h1
  · obtain rfl : r = false := by
      rw [hr]
      have : ¬ (1 ≤ N ∧ N ≤ 63) := by omega
      simp [this]
    clear hr hN
    rcases h1 with h1 | ⟨h1, h2⟩
    · go_enter Try.func31, Try.ntmps31
      go_wp2_with fail
      go_ret
      exact ⟨rfl, rfl⟩
    · have g1 : ¬ (N : Int) < 1 := by omega
      have g2 : (63 : Int) < (N : Int) := by omega
      go_enter Try.func31, Try.ntmps31
      go_wp2_with fail
      go_ret
      exact ⟨rfl, rfl⟩
  · have HR : Hid (r = rises page 63 (zs.drop 0)) := hid (by
      rw [hr]
      simp [h1])
    have g1 : ¬ (N : Int) < 1 := by omega
    have g2 : ¬ (63 : Int) < (N : Int) := by omega
    clear hr hN
    go_enter Try.func31, Try.ntmps31
    go_wp2_with fail
    go_loop [5, 7, 18] (fun b _ i => ∃ (k : Nat) (q : Int), k ≤ N ∧ i = .int .i64 k ∧ b = .int .i64 q ∧ Hid (r = rises page q (zs.drop k))) (fun _ _ i => N - (intOf i).toNat)
    case atStart => exact ⟨0, 63, Nat.zero_le _, rfl, rfl, HR⟩
    case round =>
      obtain ⟨k, q, hk, rfl, rfl, HK⟩ := hrel
      clear HR
      by_cases hlt : k < N
      · obtain ⟨z, hz⟩ : ∃ z, zs[k]? = some z := ⟨_, List.getElem?_eq_getElem (by rw [← HN.out]; exact hlt)⟩
        obtain ⟨b, o, rfl, hc⟩ := hA.out k z hz
        have ilt : (k : Int) < (N : Int) := by omega
        by_cases h2 : q < z
        · by_cases h3 : z ≤ page
          · have HK' : Hid (r = rises page z (zs.drop (k + 1))) := hid (by rw [HK.out, rises_go hz h2 h3])
            have h4 : ¬ z ≤ q := by omega
            have h5 : ¬ page < z := by omega
            clear hz HK hA HN
            go_wp2_with fail
            go_round
            case rel => exact ⟨k + 1, z, by omega, by go_num, rfl, HK'⟩
            case measure => simp [intOf] <;> omega
          · have HE : Hid (r = false) := hid (by rw [HK.out, rises_no hz (.inr (by omega))])
            have h4 : ¬ z ≤ q := by omega
            have h5 : page < z := by omega
            clear hz HK hA HN
            go_wp2_with fail
            go_ret
            exact ⟨ret_bool HE.out.symm, rfl⟩
        · have HE : Hid (r = false) := hid (by rw [HK.out, rises_no hz (.inl (by omega))])
          have h4 : z ≤ q := by omega
          clear hz HK hA HN
          go_wp2_with fail
          go_ret
          exact ⟨ret_bool HE.out.symm, rfl⟩
      · have HE : Hid (r = true) := hid (by rw [HK.out, rises_end (by rw [← HN.out]; omega)])
        clear HK hA HN
        go_wp2_with fail
        go_ret
        exact ⟨ret_bool HE.out.symm, rfl⟩

set_option maxHeartbeats 1000000 in
set_option maxRecDepth 100000 in
theorem cloneI_any (ad : Addr) (c : Nat) (l : List Int) (hl : l.length ≤ 65536) (w : World) (hv : ∀ j v, (ic l)[j]? = some v → w.cell? (ad.add j) = some v) :
    Calls Try.prog 33 #[.slice (some ad) l.length c] w fun e w' => ∃ v, e = .returned v ∧ w'.ownsRow w.heap.size 3 1 v l.length (ic l) ∧ Below w.heap.size w w' := by
  obtain ⟨i0, hi, hz0, hz1, hz2⟩ := info_parts infoInt
  obtain ⟨cl, hcl⟩ : ∃ cl, cl = ic l := ⟨_, rfl⟩
  have hcn : cl.length = l.length := by rw [hcl, ic_len]
  have HO := hid (ic_ok l)
  rw [← hcl] at hv HO ⊢
  have HV := hid fun (o : Obj) j v h => cell_alloc (hv j v h) o
  have HW := hid (World.ownsRow_made (base := w.heap.size) (e := 3) (size := 1) w #[] 0 (Nat.le_refl _) (by unfold maxLen; omega) rfl)
  clear hv hcl
  have hq := fun (w : World) (a : Option Addr) (n c n' c' : Nat) => Lib.run_eql_slice_nil (P := Try.prog) w _ _ a n c n' c' Try.underlying22
  generalize l.length = n at *
  go_enter Try.func33, Try.ntmps33
  go_wp2_with (at_builtin; refine wpList_append_own _ rfl _ _ 22 rfl w.heap.size 3 i0 (.int .i64 0) 1 8 Try.underlying22 hi hz0 hz1 hz2 rfl (by decide) (.slice (some ⟨w.heap.size, 0, none⟩) 0 0) 0 [] rfl HW.out ad n c cl rfl (by rw [hcn, Nat.mul_one]) (HV.out _) HO.out (by unfold maxLen; omega) (by omega) (by simp) ?_; intro v' w1 hown hgrow _)
  rw [Nat.zero_add] at hown
  have hb : Below w.heap.size w w1 := ((Below.refl w.heap.size w).alloc (Nat.le_refl _) _).grown hgrow (by simp) (fun k hk => by simp [Value.ownBlock] at hk; omega)
  go_wp2_with fail
  go_ret
  exact ⟨_, rfl, by simpa using hown, hb⟩
end Go.Proofs.Ytldfpacdlephcaa

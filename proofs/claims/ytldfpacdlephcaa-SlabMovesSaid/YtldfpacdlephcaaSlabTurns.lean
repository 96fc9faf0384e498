/-
  The law SlabTurns at this program. No conditions but that the numbers are an int's.
-/
import Derived.Test.YtldfpacdlephcaaSlabApartKit
namespace Go.Proofs.Ytldfpacdlephcaa
open Go Go.RowKit Go.Lib

theorem i64_and7 (n : Int) : bits .and .i64 n 7 = n % 8 := by
  have h7 : (BitVec.ofInt 64 7).toNat = 2 ^ 3 - 1 := by decide
  have key : (BitVec.ofInt 64 n &&& BitVec.ofInt 64 7).toNat = (n % ((2 ^ 64 : Nat) : Int)).toNat % 2 ^ 3 := by
    rw [BitVec.toNat_and, BitVec.toNat_ofInt, h7, Nat.and_two_pow_sub_one_eq_mod]
  show IntKind.i64.wrap ((BitVec.ofInt 64 n &&& BitVec.ofInt 64 7).toNat : Nat) = n % 8
  rw [key, IntKind.wrap_i64]
  omega

/-- All eight chunks of the one page are used, but for those that were freed. -/
structure Turn (fr : List Nat) (s : Sl) : Prop where
  sz : s.sz = [64, 512]
  ow : s.a.ow = [0]
  size : s.a.size = 512
  row : s.rows 0 = fr
  cut : s.cut 0 = some ⟨0, (List.range 8).map fun i => decide (i ∉ fr), false⟩
  nd : fr.Nodup
  lt : ∀ x ∈ fr, x < 8
theorem turn_at (fr : List Nat) {k : Nat} (hk : k < 8) : ((List.range 8).map fun i => decide (i ∉ fr))[k]? = some (decide (k ∉ fr)) := by
  rw [List.getElem?_map, List.getElem?_range hk]; rfl
theorem turn_set (fr : List Nat) {k : Nat} (hk : k < 8) (b : Bool) (fr' : List Nat) (h1 : decide (k ∉ fr') = b) (h2 : ∀ i, i ≠ k → (i ∈ fr' ↔ i ∈ fr)) : ((List.range 8).map fun i => decide (i ∉ fr)).set k b = (List.range 8).map fun i => decide (i ∉ fr') := by
  apply List.ext_getElem?
  intro i
  rw [List.getElem?_set]
  by_cases e : k = i
  · subst e
    rw [if_pos rfl, if_pos (by simpa using hk), turn_at fr' hk, h1]
  · rw [if_neg e]
    by_cases hi : i < 8
    · rw [turn_at fr hi, turn_at fr' hi]
      have := h2 i (fun e' => e e'.symm)
      simp [this]
    · rw [List.getElem?_eq_none (by simpa using hi), List.getElem?_eq_none (by simpa using hi)]
theorem Turn.used {fr : List Nat} {s : Sl} (h : Turn fr s) {k : Nat} (hk : k < 8) : s.usedN k = decide (k ∉ fr) := by
  have e1 : k / 4096 = 0 := by omega
  have e2 : k % 4096 = k := by omega
  refine Sl.usedN_of (k := ⟨0, (List.range 8).map fun i => decide (i ∉ fr), false⟩) ?_ ?_
  · rw [e1]; exact h.cut
  · rw [e2]; exact turn_at fr hk
theorem Turn.free {fr : List Nat} {s : Sl} (h : Turn fr s) {k : Nat} (hk : k < 8) (hn : k ∉ fr) : (s.free (k : Int)).1 = 0 ∧ Turn (fr ++ [k]) (s.free (k : Int)).2 := by
  have e1 : k / 4096 = 0 := by omega
  have e2 : k % 4096 = k := by omega
  have hu : s.usedN k = true := by rw [h.used hk]; simpa using hn
  have hc : s.cut (k / 4096) = some ⟨0, (List.range 8).map fun i => decide (i ∉ fr), false⟩ := by rw [e1]; exact h.cut
  have e : s.free (k : Int) = (0, (s.mark k false).push 0 k) := Sl.free_yes hu hc
  have em : s.mark k false = s.setCut 0 (Ct.mark ⟨0, (List.range 8).map fun i => decide (i ∉ fr), false⟩ k false) := by rw [Sl.mark_at false hc, e1, e2]
  rw [e]
  refine ⟨rfl, ?_⟩
  rw [em]
  refine ⟨h.sz, h.ow, h.size, ?_, ?_, ?_, ?_⟩
  · show upd s.rows 0 (s.rows 0 ++ [k]) 0 = _
    rw [upd_same, h.row]
  · unfold Ct.mark
    dsimp only
    rw [turn_set fr hk false (fr ++ [k]) (by simp) (fun i hi => by simp [hi])]
    exact upd_same s.cut 0 (some _)
  · rw [List.nodup_append]
    exact ⟨h.nd, by simp, fun a ha b hb e => hn (by rw [List.mem_singleton.1 hb] at e; rw [← e]; exact ha)⟩
  · intro x hx
    rcases List.mem_append.1 hx with hx | hx
    · exact h.lt x hx
    · rw [List.mem_singleton.1 hx]; exact hk
theorem Turn.cls {fr : List Nat} {s : Sl} (h : Turn fr s) : s.classB ((0 : Nat) : Int) = true := by
  unfold Sl.classB; rw [h.sz]; decide
theorem Turn.alloc {l : List Nat} {x : Nat} {s : Sl} (h : Turn (l ++ [x]) s) : (s.alloc 0).1 = (x : Int) ∧ (s.alloc 0).2.1 = 0 ∧ Turn l (s.alloc 0).2.2 := by
  have hx : x < 8 := h.lt x (by simp)
  have hnd := List.nodup_append.1 h.nd
  have hxl : x ∉ l := fun hx => hnd.2.2 x hx x (by simp) rfl
  have e1 : x / 4096 = 0 := by omega
  have e2 : x % 4096 = x := by omega
  have e : s.alloc ((0 : Nat) : Int) = ((x : Int), 0, (s.setRow 0 l).mark x true) := Sl.alloc_row h.cls h.row
  have hc : (s.setRow 0 l).cut (x / 4096) = some ⟨0, (List.range 8).map fun i => decide (i ∉ l ++ [x]), false⟩ := by rw [e1]; exact h.cut
  have em : (s.setRow 0 l).mark x true = (s.setRow 0 l).setCut 0 (Ct.mark ⟨0, (List.range 8).map fun i => decide (i ∉ l ++ [x]), false⟩ x true) := by rw [Sl.mark_at true hc, e1, e2]
  have e' : s.alloc 0 = ((x : Int), 0, (s.setRow 0 l).mark x true) := e
  rw [e']
  refine ⟨rfl, rfl, ?_⟩
  rw [em]
  refine ⟨h.sz, h.ow, h.size, ?_, ?_, hnd.1, fun y hy => h.lt y (by simp [hy])⟩
  · show upd s.rows 0 l 0 = _
    rw [upd_same]
  · unfold Ct.mark
    dsimp only
    rw [turn_set (l ++ [x]) hx true l (by simpa using hxl) (fun i hi => by simp [hi])]
    exact upd_same s.cut 0 (some _)
theorem Turn.full {s : Sl} (h : Turn [] s) : (s.alloc 0).1 = -1 ∧ (s.alloc 0).2.1 = 5 ∧ (s.alloc 0).2.2 = s := by
  have e : s.alloc ((0 : Nat) : Int) = (-1, 5, s) := Sl.alloc_full h.cls h.row (by rw [h.ow]; decide)
  have e' : s.alloc 0 = (-1, 5, s) := e
  rw [e']
  exact ⟨rfl, rfl, rfl⟩
/-- The slab behind k allocations. -/
def tu : Nat → Sl
  | 0 => newSl (newSt 1 512) [64, 512]
  | k + 1 => ((tu k).alloc 0).2.2
theorem tu_full : Turn [] (tu 8) := ⟨by decide, by decide, by decide, by decide, by rfl, by simp, fun _ h => by cases h⟩

theorem tu_has {w0 : World} {P k : Nat} {w : World} (h : Has w0 P (tu k) w) :
    Calls Try.prog 17 #[.pointer (some ⟨P, 0, none⟩), .int .i64 0] w fun e w' => (∃ a b, e = .returned (.tuple #[.int .i64 a, .int .i64 b])) ∧ Has w0 P (tu (k + 1)) w' :=
  (has_alloc h 0).mono fun _ _ ⟨he, hh⟩ => ⟨⟨_, _, he⟩, hh⟩

set_option maxHeartbeats 4000000 in
set_option maxRecDepth 100000 in
theorem turns_law (a : Option Addr) (m c : Nat) (zs : List Int) (hm : zs.length = m) (hml : m ≤ 9223372036854775807) (w : World) (hZ : Sz.Ints w (.slice a m c) zs) :
    Calls Try.prog 6 #[.slice a m c] w fun e w' => e = .returned (.bool true) ∧ Below w.heap.size w w' := by
  obtain ⟨i0, hi, hz0, hz1, hz2⟩ := info_parts infoInt
  have HZ : Hid (∀ (j : Nat) z, zs[j]? = some z → ∃ b o, a = some ⟨b, o, none⟩ ∧ b < w.heap.size ∧ w.cell? ⟨b, o + j, none⟩ = some (.int .i64 z)) := by
    obtain ⟨a', c', e, hx⟩ := hZ
    cases e
    exact hid hx
  have HM := hid hm
  have hmade := fun (w1 : World) => made_ok 1 (by omega) (by omega) ⟨w1.heap.size, 0, none⟩ 2 2 [64, 512] rfl (by omega) (by omega) (by decide) (w1.alloc (.cells #[.int .i64 64, .int .i64 512] 3)) (blk_ints (zs := [64, 512]) (Blk.new w1 #[.int .i64 64, .int .i64 512] 3))
  clear hZ hm
  go_enter Try.func6, Try.ntmps6
  go_wp2_with fail
  refine (shown_any _).mono ?_
  rintro e w1 ⟨rfl, b1⟩
  go_wp2_with fail
  refine (hmade _).mono ?_
  rintro e w2 ⟨P, rfl, h⟩
  have H0 : Hid (Has w P (tu 0) w2) := hid (h.since (b1.alloc b1.size _))
  clear hmade h b1
  go_wp2_with fail
  go_loopw [5] (fun i wr => ∃ k : Nat, k ≤ 8 ∧ i = .int .i64 k ∧ Hid (Has w P (tu k) wr)) (fun i _ => 8 - (intOf i).toNat)
  case atStart => exact ⟨0, by omega, rfl, H0⟩
  case round =>
    obtain ⟨k, hk, rfl, HK⟩ := hrel
    clear H0
    by_cases hlt : k < 8
    · have ilt : (k : Int) < 8 := by omega
      have hc := tu_has HK.out
      clear HK
      go_wp2_with fail
      refine hc.mono ?_
      rintro e w3 ⟨⟨ca, cb, rfl⟩, h⟩
      have HK' := hid h
      clear hc h
      go_wp2_with fail
      go_roundw
      case rel => exact ⟨k + 1, by omega, by go_num, HK'⟩
      case measure => simp [intOf] <;> omega
    · obtain rfl : k = 8 := by omega
      have HX0 : Hid (HasX w P (tu 8) (fun b => (Value.slice none 0 0).ownBlock = some b) wr) := hid (HK.out.x.turn (D := fun _ => False) (Only.refl _ _) (fun _ h => h.elim) (fun b hb => by simp [Value.ownBlock] at hb) (fun _ h => h.elim))
      clear HK
      go_wp2_with fail
      go_loopw [6, 7] (fun v i wr => ∃ (k : Nat) (fr : List Nat) (s : Sl), k ≤ 30 ∧ i = .int .i64 k ∧ fr.length ≤ k ∧ Hid (Turn fr s) ∧ Hid (HasX w P s (fun b => v.ownBlock = some b) wr) ∧ wr.ownsRow w.heap.size 3 1 v fr.length (nc fr)) (fun _ i _ => 30 - (intOf i).toNat)
      case atStart => exact ⟨0, [], tu 8, by omega, rfl, by simp, hid tu_full, HX0, World.ownsRow_nil _ _ _ _⟩
      case round =>
        obtain ⟨k, fr, s, hk, rfl, hfk, HT, HX, hown⟩ := hrel
        clear HX0
        have hsz := HX.out.2.1.size
        by_cases hgo : k < m ∧ k < 30
        · obtain ⟨i1, i2⟩ : (k : Int) < (m : Int) ∧ (k : Int) < 30 := by omega
          obtain ⟨z, hz⟩ : ∃ z, zs[k]? = some z := ⟨_, List.getElem?_eq_getElem (by rw [HM.out]; omega)⟩
          obtain ⟨bz, oz, rfl, lz, cz⟩ := HZ.out k z hz
          have cz' : wr.cell? ⟨bz, oz + k, none⟩ = some (.int .i64 z) := (HX.out.2.1.cell (p := ⟨bz, oz + k, none⟩) lz).trans cz
          obtain ⟨y, hy8, hy⟩ : ∃ y : Nat, y < 8 ∧ bits .and .i64 z 7 = (y : Int) := ⟨(z % 8).toNat, by omega, by rw [i64_and7]; omega⟩
          have hu := has_used HX.out.has (y : Int) (by omega)
          rw [s.usedB_nat, HT.out.used hy8] at hu
          obtain ⟨ra, rc, rfl⟩ := row_form hown
          clear HZ HM hz cz lz
          by_cases hn : y ∈ fr
          · have hd : decide (y ∉ fr) = false := by simpa using hn
            rw [hd] at hu
            clear hd hn
            go_wp2_with fail
            refine hu.mono ?_
            rintro e w4 ⟨rfl, rfl⟩
            clear hu
            go_wp2_with fail
            go_roundw
            case rel => (repeat apply Exists.intro); exact ⟨⟨k + 1, fr, s, by omega, by go_num, by omega, HT, HX, hown⟩, rfl⟩
            case measure => simp [intOf] <;> omega
          · have hd : decide (y ∉ fr) = true := by simpa using hn
            rw [hd] at hu
            obtain ⟨f1, f2⟩ := HT.out.free hy8 hn
            have hf := hasX_free HX.out (own_lt hown) (y : Int) (by omega)
            rw [f1] at hf
            have HT' := hid f2
            clear hd hn HX HT f1 f2
            go_wp2_with fail
            refine hu.mono ?_
            rintro e w4 ⟨rfl, rfl⟩
            clear hu
            go_wp2_with fail
            refine hf.mono ?_
            rintro e w5 ⟨rfl, hX, ho⟩
            have hown5 := own_keep hown ho
            have HX5 := hid hX
            have hsz5 := hX.2.1.size
            clear hf hX ho hown cz'
            go_wp2_with (at_builtin; refine wpList_append_lies _ rfl _ _ _ rfl w.heap.size 3 i0 (.int .i64 0) 1 8 Try.underlying22 hi hz0 hz1 hz2 rfl (by decide) (.slice ra fr.length rc) fr.length (nc fr) rfl (hown5.alloc _) ⟨w5.heap.size, 0, none⟩ 1 1 [.int .i64 (y : Int)] rfl rfl (one_cell _ _ _) (one_ok _) (by omega) (by unfold maxLen; omega) (by omega) (by simp; omega) (w5.heap.size + 1) (by simp) ?_)
            intro g cap w6 hown6 hgrow hat hlt6
            have HX6 := hid (HX5.out.app (v' := .slice (some ⟨g, 0, none⟩) (fr.length + 1) cap) hown5 hgrow (by
              rcases hat with e | e
              · exact .inl e.symm
              · exact .inr (fun b hb => by have : g = b := by simpa [Value.ownBlock] using hb
                                           omega)))
            have hown7 : w6.ownsRow w.heap.size 3 1 (.slice (some ⟨g, 0, none⟩) (fr.length + 1) cap) (fr ++ [y]).length (nc (fr ++ [y])) := by rw [← nc_app, List.length_append]; exact hown6
            clear hown6 hgrow hat hown5 HX5
            go_wp2_with fail
            go_roundw
            case rel => (repeat apply Exists.intro); exact ⟨⟨k + 1, fr ++ [y], _, by omega, by go_num, by rw [List.length_append]; simp; omega, HT', HX6, hown7⟩, rfl⟩
            case measure => simp [intOf] <;> omega
        · have hcase : ¬ (k : Int) < (m : Int) ∨ ((k : Int) < (m : Int) ∧ ¬ (k : Int) < 30) := by omega
          obtain ⟨ra, rc, rfl⟩ := row_form hown
          have hL : fr.length ≤ 30 := by omega
          clear HZ HM hgo hfk
          obtain ⟨L, hLe⟩ : ∃ L, fr.length = L := ⟨_, rfl⟩
          have HL := hid hLe
          rw [hLe] at hown hL HX
          try rw [hLe]
          have hrow := hown
          rw [← hLe] at hrow
          have HR : Hid (∀ (i x : Nat), fr[i]? = some x → ∃ g, ra = some ⟨g, 0, none⟩ ∧ wr.cell? ⟨g, i, none⟩ = some (.int .i64 (x : Int)) ∧ g < wr.heap.size) := hid (fun i x hx => by
            obtain ⟨g, c2, e, _, h1, _⟩ := own_cell hrow hx
            cases e
            exact ⟨g, rfl, h1, cell_lt h1⟩)
          have HOL := hid (own_lt hown)
          clear hLe hrow hown
          rcases hcase with g1 | ⟨g1, g2⟩
          all_goals
            go_wp2_with fail
            go_loopw [9] (fun i wr' => ((∃ (j : Nat) (s : Sl), j < L ∧ i = .int .i64 j ∧ Hid (Turn (fr.take (j + 1)) s) ∧ Hid (HasX w P s (fun b => (Value.slice ra L rc).ownBlock = some b) wr')) ∨ (i = .int .i64 (-1) ∧ ∃ s : Sl, Hid (Turn [] s) ∧ Hid (HasX w P s (fun b => (Value.slice ra L rc).ownBlock = some b) wr'))) ∧ Hid (Only (fun b => ¬ (Value.slice ra L rc).ownBlock = some b) wr wr')) (fun i _ => (intOf i + 1).toNat)
            case atStart =>
              refine ⟨?_, hid (Only.refl _ _)⟩
              cases L with
              | zero =>
                have e : fr = [] := List.eq_nil_of_length_eq_zero HL.out
                exact .inr ⟨rfl, s, by rw [← e]; exact HT, HX⟩
              | succ L => exact .inl ⟨L, s, by omega, by go_num, hid (by rw [List.take_of_length_le (by rw [HL.out]; omega)]; exact HT.out), HX⟩
            case round =>
              obtain ⟨hj, HO⟩ := hrel
              clear HT HX
              rcases hj with ⟨j, s, hjL, rfl, HT, HX⟩ | ⟨rfl, s, HT, HX⟩
              · obtain ⟨x, hx⟩ : ∃ x, fr[j]? = some x := ⟨_, List.getElem?_eq_getElem (by rw [HL.out]; exact hjL)⟩
                obtain ⟨g, rfl, hcx, hgl⟩ := HR.out j x hx
                have etk : fr.take (j + 1) = fr.take j ++ [x] := by rw [List.take_add_one, hx]; rfl
                have hT := HT.out
                rw [etk] at hT
                obtain ⟨f1, f2, f3⟩ := hT.alloc
                have hc := hasX_alloc HX.out (fun b hb => Nat.lt_of_lt_of_le (HOL.out b hb) HO.out.size) 0
                rw [f1, f2] at hc
                have HT' := hid f3
                have jL : (j : Int) < (L : Int) := by omega
                have HCX := hid (And.intro hcx hgl)
                clear hx etk hT f1 f2 f3 HT HX hcx hgl
                go_wp2_with fail
                refine hc.mono ?_
                rintro e w4 ⟨rfl, hX, ho⟩
                have HX4 := hid hX
                have hO4 := HO.out.trans ho (fun _ h => .inl h)
                have hcell := (hO4.cell (p := ⟨g, j, none⟩) HCX.out.2 (fun hn => hn rfl)).trans HCX.out.1
                have HO4 := hid hO4
                clear hc hX ho hO4 HO
                go_wp2_with fail
                go_roundw
                case rel =>
                  refine ⟨?_, HO4⟩
                  cases j with
                  | zero => exact .inr ⟨by go_num, _, HT', HX4⟩
                  | succ j => exact .inl ⟨j, _, by omega, by go_num, HT', HX4⟩
                case measure => simp [intOf] <;> omega
              · obtain ⟨f1, f2, _⟩ := HT.out.full
                have hc := hasX_alloc HX.out (fun b hb => Nat.lt_of_lt_of_le (HOL.out b hb) HO.out.size) 0
                rw [f1, f2] at hc
                clear f1 f2 HT HX
                go_wp2_with fail
                refine hc.mono ?_
                rintro e w4 ⟨rfl, hX, -⟩
                have hb := hX.2.1
                clear hc hX
                go_wp2_with fail
                go_ret
                exact ⟨rfl, hb⟩
end Go.Proofs.Ytldfpacdlephcaa

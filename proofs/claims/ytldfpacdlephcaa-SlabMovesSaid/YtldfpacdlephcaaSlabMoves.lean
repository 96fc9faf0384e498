/-
  The law SlabMoves at this program. No conditions but that the numbers are an int's.
-/
import Derived.Test.YtldfpacdlephcaaSlabMovesKit
import Derived.Test.YtldfpacdlephcaaSlabTurns
namespace Go.Proofs.Ytldfpacdlephcaa
open Go Go.RowKit Go.Lib

theorem Has.fresh {w0 : World} {P : Nat} {s : Sl} {w w' : World} (h : Has w0 P s w) (hB : Below w.heap.size w w') : HasX w0 P s (fun b => b = w.heap.size) w' := by
  obtain ⟨ho, hb, d, hd, hm, hf⟩ := h
  exact ⟨ho, Below.then hb hB, d, hd, hm.below hB, fun b hb2 => ⟨hf b hb2, fun e => by have := hm.lt hb2; omega⟩⟩
theorem HasX.drew {w0 : World} {P : Nat} {s : Sl} {G : Nat → Prop} {w : World} (h : HasX w0 P s G w) : HasX w0 P s G w.drew :=
  h.turn (D := fun _ => False) ((Only.refl _ w).drew) (fun _ h => h.elim) (fun _ h => .inl h) (fun _ h => h.elim)
theorem HasX.put {w0 : World} {P U : Nat} {s : Sl} {w : World} (h : HasX w0 P s (fun b => b = U) w) (hU : w0.heap.size ≤ U) (i : Nat) (v : Value) : HasX w0 P s (fun b => b = U) (w.setCell ⟨U, i, none⟩ v) :=
  h.turn (D := fun b => b = U) (Only.put (D := fun b => b = U) (p := ⟨U, i, none⟩) rfl v) (fun _ h => .inl h) (fun _ h => .inl h) (fun _ h => h ▸ hU)
theorem blk_lt {U : Nat} {w : World} {cs : List Value} (h : Blk w U 4 cs) : ∀ b, b = U → b < w.heap.size := fun _ e => e ▸ h.lt

theorem set_same {l : List Bool} {i : Nat} {b : Bool} (h : l[i]? = some b) : l.set i b = l := by
  obtain ⟨hi, e⟩ := List.getElem?_eq_some_iff.1 h
  apply List.ext_getElem?
  intro j
  rw [List.getElem?_set]
  by_cases e : i = j
  · subst e; rw [if_pos rfl, if_pos hi, h]
  · rw [if_neg e]
/-- Which of the eight are used behind k allocations. -/
def ub (k : Nat) : List Bool := List.replicate k true ++ List.replicate (8 - k) false
theorem ub_at : ∀ k, k < 8 → (ub k)[k]? = some false ∧ (ub k).set k true = ub (k + 1) := by decide

set_option maxHeartbeats 4000000 in
set_option maxRecDepth 100000 in
theorem moves_law (a a' : Option Addr) (m m' c c' : Nat) (zs zs' : List Int) (hm : zs.length = m) (hm' : zs'.length = m') (hml : m ≤ 9223372036854775807) (hml' : m' ≤ 9223372036854775807) (w : World) (hZ : Sz.Ints w (.slice a m c) zs) (hZ' : Sz.Ints w (.slice a' m' c') zs') :
    Calls Try.prog 5 #[.slice a m c, .slice a' m' c'] w fun e w' => e = .returned (.bool true) ∧ Below w.heap.size w w' := by
  obtain ⟨i0, hi, hz0, hz1, hz2⟩ := info_parts infoBool
  have HZ : Hid (∀ (j : Nat) z, zs[j]? = some z → ∃ b o, a = some ⟨b, o, none⟩ ∧ b < w.heap.size ∧ w.cell? ⟨b, o + j, none⟩ = some (.int .i64 z)) := by
    obtain ⟨a', c', e, hx⟩ := hZ
    cases e
    exact hid hx
  have HZ' : Hid (∀ (j : Nat) z, zs'[j]? = some z → ∃ b o, a' = some ⟨b, o, none⟩ ∧ b < w.heap.size ∧ w.cell? ⟨b, o + j, none⟩ = some (.int .i64 z)) := by
    obtain ⟨a', c', e, hx⟩ := hZ'
    cases e
    exact hid hx
  have HM := hid hm
  have HM' := hid hm'
  have hmade := fun (w1 : World) => made_ok 1 (by omega) (by omega) ⟨w1.heap.size, 0, none⟩ 3 3 [64, 128, 512] rfl (by omega) (by omega) (by decide) (w1.alloc (.cells #[.int .i64 64, .int .i64 128, .int .i64 512] 3)) (blk_ints (zs := [64, 128, 512]) (Blk.new w1 #[.int .i64 64, .int .i64 128, .int .i64 512] 3))
  clear hZ hm hZ' hm'
  go_enter Try.func5, Try.ntmps5
  go_wp2_with fail
  refine (shown_any _).mono ?_
  rintro e w1 ⟨rfl, b1⟩
  go_wp2_with fail
  refine (hmade _).mono ?_
  rintro e w2 ⟨P, rfl, h⟩
  have H0 : Hid (Has w P (mv 0) w2) := hid (h.since (b1.alloc b1.size _))
  clear hmade h b1
  go_wp2_with (at_make; refine wpList_make_full _ rfl _ _ 56 rfl w2.heap.size 4 i0 (.bool false) 1 Try.underlying56 hi hz0 hz1 .i64 .i64 _ _ 8 rfl rfl (by omega) (by omega) (by rw [hz2]; omega) (by unfold maxLen; omega) (Nat.le_refl _) ?_; intro w3 hown hgrow; rw [made_cells _ _ rfl] at hown; have hB0 := blk_of_full hown; have hb0 := below_of_grown hgrow; clear hown hgrow)
  have HX0 := hid (H0.out.fresh hb0)
  have HB0 : Hid (Blk w3 w2.heap.size 4 (bb (ub 0))) := hid hB0
  have HU : Hid (w.heap.size ≤ w2.heap.size) := hid H0.out.2.1.size
  clear H0 hb0 hB0
  generalize w2.heap.size = U at *
  go_loopw [8] (fun i wr => ∃ k : Nat, k ≤ 8 ∧ i = .int .i64 k ∧ Hid (HasX w P (mv k) (fun b => b = U) wr) ∧ Hid (Blk wr U 4 (bb (ub k)))) (fun i _ => 8 - (intOf i).toNat)
  case atStart => exact ⟨0, by omega, rfl, HX0, HB0⟩
  case round =>
    obtain ⟨k, hk, rfl, HX, HB⟩ := hrel
    clear HX0 HB0
    by_cases hlt : k < 8
    · have ilt : (k : Int) < 8 := by omega
      obtain ⟨f1, f2⟩ := mv_step k hlt
      have hc := hasX_alloc HX.out (blk_lt HB.out) 0
      rw [f1, f2] at hc
      clear HX f1 f2
      go_wp2_with fail
      refine hc.mono ?_
      rintro e w4 ⟨rfl, hX, ho⟩
      have hB4 := HB.out.only ho (fun h => h rfl)
      have hcell := hB4.cell (bb_at (ub_at k hlt).1)
      have hfr := hB4.frozen k
      have HX4 := hid (hX.put HU.out k (.bool true))
      have HB4 : Hid (Blk (w4.setCell ⟨U, k, none⟩ (.bool true)) U 4 (bb (ub (k + 1)))) := hid (by rw [← (ub_at k hlt).2, bb_set]; exact hB4.set k _)
      clear hc hX ho hB4 HB
      go_wp2_with fail
      go_roundw
      case rel => exact ⟨k + 1, by omega, by go_num, HX4, HB4⟩
      case measure => simp [intOf] <;> omega
    · obtain rfl : k = 8 := by omega
      have HV : Hid (Mv (ub 8) false (mv 8)) := hid (mv_full HX.out.1)
      go_wp2_with fail
      go_loopw [11, 12] (fun l i wr => ∃ (k : Nat) (u : List Bool) (s : Sl), k ≤ 20 ∧ i = .int .i64 k ∧ tru u ≤ 8 ∧ l = .int .i64 (tru u : Nat) ∧ Hid (Mv u false s) ∧ Hid (HasX w P s (fun b => b = U) wr) ∧ Hid (Blk wr U 4 (bb u))) (fun _ i _ => 20 - (intOf i).toNat)
      case atStart => exact ⟨0, ub 8, mv 8, by omega, rfl, by decide, rfl, HV, HX, HB⟩
      case round =>
        obtain ⟨k, u, s, hk, rfl, hu8, rfl, HV', HX', HB'⟩ := hrel
        clear HX HB HV
        by_cases hgo : k < m ∧ k < 20
        · obtain ⟨i1, i2⟩ : (k : Int) < (m : Int) ∧ (k : Int) < 20 := by omega
          obtain ⟨z, hz⟩ : ∃ z, zs[k]? = some z := ⟨_, List.getElem?_eq_getElem (by rw [HM.out]; omega)⟩
          obtain ⟨bz, oz, rfl, lz, cz⟩ := HZ.out k z hz
          have cz' : wr.cell? ⟨bz, oz + k, none⟩ = some (.int .i64 z) := (HX'.out.2.1.cell (p := ⟨bz, oz + k, none⟩) lz).trans cz
          obtain ⟨y, hy8, hy⟩ : ∃ y : Nat, y < 8 ∧ bits .and .i64 z 7 = (y : Int) := ⟨(z % 8).toNat, by omega, by rw [i64_and7]; omega⟩
          obtain ⟨b, hb⟩ : ∃ b, u[y]? = some b := ⟨_, List.getElem?_eq_getElem (by rw [HV'.out.len]; exact hy8)⟩
          have hcell := HB'.out.cell (bb_at hb)
          have hf := hasX_free HX'.out.drew (blk_lt HB'.out.drew) (y : Int) (by omega)
          have iy : (y : Int) < 8 := by omega
          clear HZ HM hz cz lz hml HZ' HM'
          cases b with
          | true =>
            obtain ⟨f1, f2⟩ := HV'.out.free_yes hy8 hb
            rw [f1] at hf
            have HV4 := hid f2
            obtain ⟨t1, t2⟩ := tru_off hb
            have HT := hid t1
            clear f1 f2 HV' hb t1 HX'
            go_wp2_with fail
            go_region_held3 (fun w' => w'.cell? ⟨U, y, none⟩ = some (.bool true)) (first | exact hcell4 | exact hcell) (first | (go_at_call 16; refine hf.mono ?_; rintro e w4 ⟨rfl, hX, ho⟩; have HB4 := hid (HB'.out.drew.only ho (fun h => h rfl)); have hcell4 := (ho.cell (p := ⟨U, y, none⟩) HB'.out.lt (fun h => h rfl)).trans hcell; have hfr := HB4.out.frozen y; have HX4 := hid hX; clear hX ho))
            have HX5 := hid (HX4.out.put HU.out y (.bool false))
            have HB5 : Hid (Blk (w4.setCell ⟨U, y, none⟩ (.bool false)) U 4 (bb (u.set y false))) := hid (by rw [bb_set]; exact HB4.out.set y _)
            clear hf HB' HX4 HB4 hcell
            go_wp2_with fail
            go_roundw
            case rel => (repeat apply Exists.intro); exact ⟨⟨k + 1, u.set y false, _, by omega, by go_num, by rw [HT.out]; omega, by rw [HT.out]; go_num, HV4, HX5, HB5⟩, rfl⟩
            case measure => simp [intOf] <;> omega
          | false =>
            have f0 := HV'.out.free_no hy8 hb
            have f1 : (s.free (y : Int)).1 = 8 := by rw [f0]
            have f2 : (s.free (y : Int)).2 = s := by rw [f0]
            rw [f1, f2] at hf
            have HE := hid (set_same hb)
            clear f0 f1 f2 hb HX'
            go_wp2_with fail
            go_region_held3 (fun w' => w'.cell? ⟨U, y, none⟩ = some (.bool false)) (first | exact hcell4 | exact hcell) (first | (go_at_call 16; refine hf.mono ?_; rintro e w4 ⟨rfl, hX, ho⟩; have HB4 := hid (HB'.out.drew.only ho (fun h => h rfl)); have hcell4 := (ho.cell (p := ⟨U, y, none⟩) HB'.out.lt (fun h => h rfl)).trans hcell; have hfr := HB4.out.frozen y; have HX4 := hid hX; clear hX ho))
            have HX5 := hid (HX4.out.put HU.out y (.bool false))
            have HB5 : Hid (Blk (w4.setCell ⟨U, y, none⟩ (.bool false)) U 4 (bb u)) := hid (by rw [← HE.out, bb_set]; exact HB4.out.set y _)
            clear hf HB' HX4 HB4 hcell
            go_wp2_with fail
            go_roundw
            case rel => (repeat apply Exists.intro); exact ⟨⟨k + 1, u, s, by omega, by go_num, hu8, rfl, HV', HX5, HB5⟩, rfl⟩
            case measure => simp [intOf] <;> omega
        · have hcase : ¬ (k : Int) < (m : Int) ∨ ((k : Int) < (m : Int) ∧ ¬ (k : Int) < 20) := by omega
          clear HZ HM hgo
          obtain ⟨f1, f2⟩ := HV'.out.close
          have hc := hasX_close HX'.out (blk_lt HB'.out) 0
          rw [f1] at hc
          have HV2 := hid f2
          clear f1 f2 HV' HX'
          rcases hcase with g1 | ⟨g1, g2⟩
          all_goals
            go_wp2_with fail
            refine hc.mono ?_
            rintro e w4 ⟨rfl, hX, ho⟩
            have HB4 := hid (HB'.out.only ho (fun h => h rfl))
            have hc2 := hasX_close hX (blk_lt HB4.out) 0
            have f0 := HV2.out.close2
            have f1 : ((s.close 0).2.close 0).1 = 7 := by rw [f0]
            have f2 : ((s.close 0).2.close 0).2 = (s.close 0).2 := by rw [f0]
            rw [f1, f2] at hc2
            clear hc hX ho HB' f0 f1 f2
            go_wp2_with fail
            refine hc2.mono ?_
            rintro e w5 ⟨rfl, hX, ho⟩
            have HB5 := hid (HB4.out.only ho (fun h => h rfl))
            have HX5 := hid hX
            clear hc2 hX ho HB4
            go_wp2_with fail
            go_loopw [11, 14] (fun l i wr => ∃ (k : Nat) (u : List Bool) (s : Sl), k ≤ 20 ∧ i = .int .i64 k ∧ tru u ≤ 8 ∧ l = .int .i64 (tru u : Nat) ∧ Hid (Mv u true s) ∧ Hid (HasX w P s (fun b => b = U) wr) ∧ Hid (Blk wr U 4 (bb u))) (fun _ i _ => 20 - (intOf i).toNat)
            case atStart => exact ⟨0, u, _, by omega, rfl, hu8, rfl, HV2, HX5, HB5⟩
            case round =>
              clear hu8 HV2 HX5 HB5
              obtain ⟨k, u, s, hk, rfl, hu8, rfl, HV', HX', HB'⟩ := hrel
              by_cases hgo : k < m' ∧ k < 20
              · obtain ⟨i1, i2⟩ : (k : Int) < (m' : Int) ∧ (k : Int) < 20 := by omega
                obtain ⟨z, hz⟩ : ∃ z, zs'[k]? = some z := ⟨_, List.getElem?_eq_getElem (by rw [HM'.out]; omega)⟩
                obtain ⟨bz, oz, rfl, lz, cz⟩ := HZ'.out k z hz
                have cz' : wr.cell? ⟨bz, oz + k, none⟩ = some (.int .i64 z) := (HX'.out.2.1.cell (p := ⟨bz, oz + k, none⟩) lz).trans cz
                obtain ⟨y, hy8, hy⟩ : ∃ y : Nat, y < 8 ∧ bits .and .i64 z 7 = (y : Int) := ⟨(z % 8).toNat, by omega, by rw [i64_and7]; omega⟩
                obtain ⟨b, hb⟩ : ∃ b, u[y]? = some b := ⟨_, List.getElem?_eq_getElem (by rw [HV'.out.len]; exact hy8)⟩
                have hcell := HB'.out.cell (bb_at hb)
                have hf := hasX_free HX'.out.drew (blk_lt HB'.out.drew) (y : Int) (by omega)
                have iy : (y : Int) < 8 := by omega
                clear HZ' HM' hz cz lz
                cases b with
                | true =>
                  obtain ⟨f1, f2⟩ := HV'.out.free_yes hy8 hb
                  rw [f1] at hf
                  have HV4 := hid f2
                  obtain ⟨t1, t2⟩ := tru_off hb
                  have HT := hid t1
                  clear f1 f2 HV' hb t1 HX'
                  go_wp2_with fail
                  go_region_held3 (fun w' => w'.cell? ⟨U, y, none⟩ = some (.bool true)) (first | exact hcell4 | exact hcell) (first | (go_at_call 16; refine hf.mono ?_; rintro e w4 ⟨rfl, hX, ho⟩; have HB4 := hid (HB'.out.drew.only ho (fun h => h rfl)); have hcell4 := (ho.cell (p := ⟨U, y, none⟩) HB'.out.lt (fun h => h rfl)).trans hcell; have hfr := HB4.out.frozen y; have HX4 := hid hX; clear hX ho))
                  have HX5 := hid (HX4.out.put HU.out y (.bool false))
                  have HB5 : Hid (Blk (w4.setCell ⟨U, y, none⟩ (.bool false)) U 4 (bb (u.set y false))) := hid (by rw [bb_set]; exact HB4.out.set y _)
                  have hc := hasX_alloc HX5.out (blk_lt HB5.out) 0
                  have f0 := HV4.out.full
                  have f1 : ((s.free (y : Int)).2.alloc 0).1 = -1 := by rw [f0]
                  have f2 : ((s.free (y : Int)).2.alloc 0).2.1 = 5 := by rw [f0]
                  have f3 : ((s.free (y : Int)).2.alloc 0).2.2 = (s.free (y : Int)).2 := by rw [f0]
                  rw [f1, f2, f3] at hc
                  clear hf HB' HX4 HB4 hcell HX5 f0 f1 f2 f3
                  go_wp2_with fail
                  refine hc.mono ?_
                  rintro e w6 ⟨rfl, hX, ho⟩
                  have HB6 := hid (HB5.out.only ho (fun h => h rfl))
                  have HX6 := hid hX
                  clear hc hX ho HB5
                  go_wp2_with fail
                  go_roundw
                  case rel => exact ⟨k + 1, u.set y false, _, by omega, by go_num, by rw [HT.out]; omega, by rw [HT.out]; go_num, HV4, HX6, HB6⟩
                  case measure => simp [intOf] <;> omega
                | false =>
                  have f0 := HV'.out.free_no hy8 hb
                  have f1 : (s.free (y : Int)).1 = 8 := by rw [f0]
                  have f2 : (s.free (y : Int)).2 = s := by rw [f0]
                  rw [f1, f2] at hf
                  have HE := hid (set_same hb)
                  clear f0 f1 f2 hb HX'
                  go_wp2_with fail
                  go_region_held3 (fun w' => w'.cell? ⟨U, y, none⟩ = some (.bool false)) (first | exact hcell4 | exact hcell) (first | (go_at_call 16; refine hf.mono ?_; rintro e w4 ⟨rfl, hX, ho⟩; have HB4 := hid (HB'.out.drew.only ho (fun h => h rfl)); have hcell4 := (ho.cell (p := ⟨U, y, none⟩) HB'.out.lt (fun h => h rfl)).trans hcell; have hfr := HB4.out.frozen y; have HX4 := hid hX; clear hX ho))
                  have HX5 := hid (HX4.out.put HU.out y (.bool false))
                  have HB5 : Hid (Blk (w4.setCell ⟨U, y, none⟩ (.bool false)) U 4 (bb u)) := hid (by rw [← HE.out, bb_set]; exact HB4.out.set y _)
                  have hc := hasX_alloc HX5.out (blk_lt HB5.out) 0
                  have f0 := HV'.out.full
                  have f1 : (s.alloc 0).1 = -1 := by rw [f0]
                  have f2 : (s.alloc 0).2.1 = 5 := by rw [f0]
                  have f3 : (s.alloc 0).2.2 = s := by rw [f0]
                  rw [f1, f2, f3] at hc
                  clear hf HB' HX4 HB4 hcell HX5 f0 f1 f2 f3
                  go_wp2_with fail
                  refine hc.mono ?_
                  rintro e w6 ⟨rfl, hX, ho⟩
                  have HB6 := hid (HB5.out.only ho (fun h => h rfl))
                  have HX6 := hid hX
                  clear hc hX ho HB5
                  go_wp2_with fail
                  go_roundw
                  case rel => exact ⟨k + 1, u, s, by omega, by go_num, hu8, rfl, HV', HX6, HB6⟩
                  case measure => simp [intOf] <;> omega
              · have hcase : ¬ (k : Int) < (m' : Int) ∨ ((k : Int) < (m' : Int) ∧ ¬ (k : Int) < 20) := by omega
                clear HZ' HM' hgo HB'
                have HH := hid HX'.out.has
                clear HX'
                have hc := has_move HH.out 0 1
                by_cases ht : 0 < tru u
                · have f0 := HV'.out.busy ht
                  have f1 : (s.move 0 1).1 = 10 := by rw [f0]
                  have f2 : (s.move 0 1).2 = s := by rw [f0]
                  rw [f1, f2] at hc
                  have HL := hid HV'.out.chunks
                  have it : (0 : Int) < (tru u : Int) := by omega
                  clear f0 f1 f2 HV' HH ht
                  rcases hcase with g1 | ⟨g1, g2⟩
                  all_goals
                    go_wp2_with fail
                    refine hc.mono ?_
                    rintro e w6 ⟨rfl, hH⟩
                    have hk2 := has_chunks hH 0
                    rw [HL.out] at hk2
                    clear hc hH
                    go_wp2_with fail
                    refine hk2.mono ?_
                    rintro e w7 ⟨ra, rc, rfl, hH⟩
                    have hb := hH.2.1
                    clear hk2 hH
                    go_wp2_with fail
                    go_ret
                    exact ⟨rfl, hb⟩
                · obtain ⟨f1, f2⟩ := HV'.out.move ht
                  rw [f1] at hc
                  have HO := hid f2
                  have it : ¬ (0 : Int) < (tru u : Int) := by omega
                  clear f1 f2 HV' HH ht
                  rcases hcase with g1 | ⟨g1, g2⟩
                  all_goals
                    go_wp2_with fail
                    refine hc.mono ?_
                    rintro e w6 ⟨rfl, hH⟩
                    have hk2 := has_counts hH 1
                    rw [HO.out.counts] at hk2
                    have HH6 := hid hH
                    clear hc hH
                    go_wp2_with fail
                    refine hk2.mono ?_
                    rintro e w7 ⟨rfl, q, rfl⟩
                    have hc := has_alloc (HH6.out.drewN q) 1
                    obtain ⟨f1, f2, f3⟩ := HO.out.alloc
                    rw [f1, f2] at hc
                    have HO8 := hid f3
                    clear hk2 HH6 HO f1 f2 f3
                    go_wp2_with fail
                    refine hc.mono ?_
                    rintro e w8 ⟨rfl, hH⟩
                    have hk2 := has_where hH 0 (by omega)
                    rw [HO8.out.wher] at hk2
                    have HH8 := hid hH
                    clear hc hH
                    go_wp2_with fail
                    refine hk2.mono ?_
                    rintro e w9 ⟨rfl, q2, rfl⟩
                    have hc := has_open (HH8.out.drewN q2) 0
                    have f0 := HO8.out.opn
                    have f1 : (((s.move 0 1).2.alloc 1).2.2.openP 0).1 = 7 := by rw [f0]
                    rw [f1] at hc
                    clear hk2 HH8 f0 f1
                    go_wp2_with fail
                    refine hc.mono ?_
                    rintro e w10 ⟨rfl, hH⟩
                    have hb := hH.2.1
                    clear hc hH
                    go_wp2_with fail
                    go_ret
                    exact ⟨rfl, hb⟩
end Go.Proofs.Ytldfpacdlephcaa

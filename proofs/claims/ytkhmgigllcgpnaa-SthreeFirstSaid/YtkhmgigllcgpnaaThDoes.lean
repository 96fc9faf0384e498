/-
  One step of a script on the program's policy and on the document's: they answer the same. No conditions but those of the calls.
-/
import Derived.Test.YtkhmgigllcgpnaaThTwo
import Derived.Deep.RegionHeld3
namespace Go.Proofs.Ytkhmgigllcgpnaa.Th
open Go Go.RowKit Go.Lib

set_option maxRecDepth 100000 in
set_option maxHeartbeats 4000000 in
theorem does_any {w0 w : World} {P Q i : Nat} {s : Th} (hT : T2 w0 P Q s s (fun _ => False) w) (hB : Bd i s) (hi : i ≤ 200) (kd z x : Int) (hz : i64ok z) (hx : u64ok x) :
    Calls Try.prog 11 #[.pointer (some ⟨P, 0, none⟩), .pointer (some ⟨Q, 0, none⟩), .agg #[.int .i64 kd, .int .i64 z, .int .u64 x]] w fun e w' => e = .returned (.bool true) ∧ ∃ s', Bd (i + 1) s' ∧ T2 w0 P Q s' s' (fun _ => False) w' := by
  have HB := hid hB
  have HZ := hid hz
  have HX := hid hx
  have hok : s.Ok := by obtain ⟨F, G, k, _⟩ := hT.at_; exact k.ok
  have HOK := hid hok
  have hBX := Blk.new w #[.int .i64 kd, .int .i64 z, .int .u64 x] 31
  have x0 := hBX.cell (i := 0) rfl
  have hx0 : (w.alloc (.cells #[.int .i64 kd, .int .i64 z, .int .u64 x] 31)).cell? ⟨w.heap.size, 1, none⟩ = some (.int .i64 z) ∧ (w.alloc (.cells #[.int .i64 kd, .int .i64 z, .int .u64 x] 31)).cell? ⟨w.heap.size, 2, none⟩ = some (.int .u64 x) := ⟨hBX.cell (i := 1) rfl, hBX.cell (i := 2) rfl⟩
  have hT1 : Hid (T2 w0 P Q s s (fun x => x = w.heap.size) (w.alloc (.cells #[.int .i64 kd, .int .i64 z, .int .u64 x] 31))) := hid (TwoO.more hT (alloc_below w _) (fun x hx => .inr (by rw [hx]; simp)))
  clear hT hB hz hx hBX hok
  go_enter Try.func11, Try.ntmps11
  go_upto_block 0 with fail
  have hT0 := hid (TwoO.after hT1.out (Below.refl _ _).drew)
  have hx1 := hx0
  replace hx0 : (w.alloc (.cells #[.int .i64 kd, .int .i64 z, .int .u64 x] 31)).drew.cell? ⟨w.heap.size, 1, none⟩ = some (.int .i64 z) ∧ (w.alloc (.cells #[.int .i64 kd, .int .i64 z, .int .u64 x] 31)).drew.cell? ⟨w.heap.size, 2, none⟩ = some (.int .u64 x) := hx1
  generalize w.alloc (.cells #[.int .i64 kd, .int .i64 z, .int .u64 x] 31) = w4 at *
  generalize w.heap.size = X at *
  by_cases k1 : kd = 1
  · subst k1
    have HP : Hid (∀ u W, T2 w0 P Q s u (fun x => x = X) W → (W.cell? ⟨X, 1, none⟩ = some (.int .i64 z) ∧ W.cell? ⟨X, 2, none⟩ = some (.int .u64 x)) → Calls Try.prog 20 #[.pointer (some ⟨P, 0, none⟩), .int .i64 z, .int .u64 x] W fun e w' => e = .returned (.bool (s.insB z)) ∧ Hid (T2 w0 P Q (s.ins z x) u (fun x => x = X) w') ∧ (w'.cell? ⟨X, 1, none⟩ = some (.int .i64 z) ∧ w'.cell? ⟨X, 2, none⟩ = some (.int .u64 x))) := hid (fun u W h hb => t2_left (R := fun e => e = .returned (.bool (s.insB z))) h hb (fun _ k => tp_insert k z x HZ.out HX.out))
    have HR : Hid (∀ u W, T2 w0 P Q u s (fun x => x = X) W → (W.cell? ⟨X, 1, none⟩ = some (.int .i64 z) ∧ W.cell? ⟨X, 2, none⟩ = some (.int .u64 x)) → Calls Try.prog 28 #[.pointer (some ⟨Q, 0, none⟩), .int .i64 z, .int .u64 x] W fun e w' => e = .returned (.bool (s.insB z)) ∧ Hid (T2 w0 P Q u (s.ins z x) (fun x => x = X) w') ∧ (w'.cell? ⟨X, 1, none⟩ = some (.int .i64 z) ∧ w'.cell? ⟨X, 2, none⟩ = some (.int .u64 x))) := hid (fun u W h hb => t2_right (R := fun e => e = .returned (.bool (s.insB z))) h hb (fun _ k => qt_insert k z x))
    have hBd := hid (HB.out.ins z x)
    generalize (s.insB z) = A at *
    generalize (s.ins z x) = s' at *
    go_wp2_with fail
    go_region_held3 (fun w' => w'.cell? ⟨X, 1, none⟩ = some (.int .i64 z) ∧ w'.cell? ⟨X, 2, none⟩ = some (.int .u64 x)) (first | exact hxj1 | exact hxi1 | exact hx0) (first
      | (go_at_call 20; refine (HP.out _ _ hr2.out hxi1).mono ?_; rintro e w6 ⟨rfl, hst, hxj1⟩)
      | (go_at_call 20; refine (HP.out _ _ hT0.out hx0).mono ?_; rintro e w5 ⟨rfl, hm2, hxi1⟩)
      | (go_at_call 28; refine (HR.out _ _ hm2.out hxi1).mono ?_; rintro e w6 ⟨rfl, hst, hxj1⟩)
      | (go_at_call 28; refine (HR.out _ _ hT0.out hx0).mono ?_; rintro e w5 ⟨rfl, hr2, hxi1⟩))
    all_goals
      have HF := hid (TwoO.more (H' := fun _ => False) hst.out (Below.refl _ _) (fun _ hx => hx.elim))
      clear HP HR
      go_wp2_with fail
      go_ret
      exact ⟨by simp, _, hBd.out, HF.out⟩

  · have n1 : (kd == 1) = false := by simpa using k1
    by_cases k2 : kd = 2
    · subst k2
      have HP : Hid (∀ u W, T2 w0 P Q s u (fun x => x = X) W → (W.cell? ⟨X, 1, none⟩ = some (.int .i64 z) ∧ W.cell? ⟨X, 2, none⟩ = some (.int .u64 x)) → Calls Try.prog 21 #[.pointer (some ⟨P, 0, none⟩), .int .i64 z] W fun e w' => e = .returned (.bool (s.has z)) ∧ Hid (T2 w0 P Q (s.tch z) u (fun x => x = X) w') ∧ (w'.cell? ⟨X, 1, none⟩ = some (.int .i64 z) ∧ w'.cell? ⟨X, 2, none⟩ = some (.int .u64 x))) := hid (fun u W h hb => t2_left (R := fun e => e = .returned (.bool (s.has z))) h hb (fun _ k => tp_touch k z HZ.out))
      have HR : Hid (∀ u W, T2 w0 P Q u s (fun x => x = X) W → (W.cell? ⟨X, 1, none⟩ = some (.int .i64 z) ∧ W.cell? ⟨X, 2, none⟩ = some (.int .u64 x)) → Calls Try.prog 29 #[.pointer (some ⟨Q, 0, none⟩), .int .i64 z] W fun e w' => e = .returned (.bool (s.has z)) ∧ Hid (T2 w0 P Q u (s.tch z) (fun x => x = X) w') ∧ (w'.cell? ⟨X, 1, none⟩ = some (.int .i64 z) ∧ w'.cell? ⟨X, 2, none⟩ = some (.int .u64 x))) := hid (fun u W h hb => t2_right (R := fun e => e = .returned (.bool (s.has z))) h hb (fun _ k => qt_touch k z))
      have hBd := hid (HB.out.tch z)
      generalize (s.has z) = A at *
      generalize (s.tch z) = s' at *
      go_wp2_with fail
      go_region_held3 (fun w' => w'.cell? ⟨X, 1, none⟩ = some (.int .i64 z) ∧ w'.cell? ⟨X, 2, none⟩ = some (.int .u64 x)) (first | exact hxj1 | exact hxi1 | exact hx0) (first
        | (go_at_call 21; refine (HP.out _ _ hr2.out hxi1).mono ?_; rintro e w6 ⟨rfl, hst, hxj1⟩)
        | (go_at_call 21; refine (HP.out _ _ hT0.out hx0).mono ?_; rintro e w5 ⟨rfl, hm2, hxi1⟩)
        | (go_at_call 29; refine (HR.out _ _ hm2.out hxi1).mono ?_; rintro e w6 ⟨rfl, hst, hxj1⟩)
        | (go_at_call 29; refine (HR.out _ _ hT0.out hx0).mono ?_; rintro e w5 ⟨rfl, hr2, hxi1⟩))
      all_goals
        have HF := hid (TwoO.more (H' := fun _ => False) hst.out (Below.refl _ _) (fun _ hx => hx.elim))
        clear HP HR
        go_wp2_with fail
        go_ret
        exact ⟨by simp, _, hBd.out, HF.out⟩

    · have n2 : (kd == 2) = false := by simpa using k2
      by_cases k3 : kd = 3
      · subst k3
        have HP : Hid (∀ u W, T2 w0 P Q s u (fun x => x = X) W → (W.cell? ⟨X, 1, none⟩ = some (.int .i64 z) ∧ W.cell? ⟨X, 2, none⟩ = some (.int .u64 x)) → Calls Try.prog 30 #[.pointer (some ⟨P, 0, none⟩), .int .i64 z] W fun e w' => e = .returned (.bool (s.has z)) ∧ Hid (T2 w0 P Q (s.rem z) u (fun x => x = X) w') ∧ (w'.cell? ⟨X, 1, none⟩ = some (.int .i64 z) ∧ w'.cell? ⟨X, 2, none⟩ = some (.int .u64 x))) := hid (fun u W h hb => t2_left (R := fun e => e = .returned (.bool (s.has z))) h hb (fun _ k => tp_remove k z HZ.out))
        have HR : Hid (∀ u W, T2 w0 P Q u s (fun x => x = X) W → (W.cell? ⟨X, 1, none⟩ = some (.int .i64 z) ∧ W.cell? ⟨X, 2, none⟩ = some (.int .u64 x)) → Calls Try.prog 31 #[.pointer (some ⟨Q, 0, none⟩), .int .i64 z] W fun e w' => e = .returned (.bool (s.has z)) ∧ Hid (T2 w0 P Q u (s.rem z) (fun x => x = X) w') ∧ (w'.cell? ⟨X, 1, none⟩ = some (.int .i64 z) ∧ w'.cell? ⟨X, 2, none⟩ = some (.int .u64 x))) := hid (fun u W h hb => t2_right (R := fun e => e = .returned (.bool (s.has z))) h hb (fun _ k => qt_remove k z))
        have hBd := hid (HB.out.rem z)
        generalize (s.has z) = A at *
        generalize (s.rem z) = s' at *
        go_wp2_with fail
        go_region_held3 (fun w' => w'.cell? ⟨X, 1, none⟩ = some (.int .i64 z) ∧ w'.cell? ⟨X, 2, none⟩ = some (.int .u64 x)) (first | exact hxj1 | exact hxi1 | exact hx0) (first
          | (go_at_call 30; refine (HP.out _ _ hr2.out hxi1).mono ?_; rintro e w6 ⟨rfl, hst, hxj1⟩)
          | (go_at_call 30; refine (HP.out _ _ hT0.out hx0).mono ?_; rintro e w5 ⟨rfl, hm2, hxi1⟩)
          | (go_at_call 31; refine (HR.out _ _ hm2.out hxi1).mono ?_; rintro e w6 ⟨rfl, hst, hxj1⟩)
          | (go_at_call 31; refine (HR.out _ _ hT0.out hx0).mono ?_; rintro e w5 ⟨rfl, hr2, hxi1⟩))
        all_goals
          have HF := hid (TwoO.more (H' := fun _ => False) hst.out (Below.refl _ _) (fun _ hx => hx.elim))
          clear HP HR
          go_wp2_with fail
          go_ret
          exact ⟨by simp, _, hBd.out, HF.out⟩

      · have n3 : (kd == 3) = false := by simpa using k3
        by_cases k4 : kd = 4
        · subst k4
          have HP : Hid (∀ u W, T2 w0 P Q s u (fun x => x = X) W → (W.cell? ⟨X, 1, none⟩ = some (.int .i64 z) ∧ W.cell? ⟨X, 2, none⟩ = some (.int .u64 x)) → Calls Try.prog 23 #[.pointer (some ⟨P, 0, none⟩), .int .i64 z] W fun e w' => e = .returned (.bool (s.has z)) ∧ Hid (T2 w0 P Q (s.evict z) u (fun x => x = X) w') ∧ (w'.cell? ⟨X, 1, none⟩ = some (.int .i64 z) ∧ w'.cell? ⟨X, 2, none⟩ = some (.int .u64 x))) := hid (fun u W h hb => t2_left (R := fun e => e = .returned (.bool (s.has z))) h hb (fun _ k => tp_evict k (Nat.lt_of_le_of_lt HB.out (by omega)) z HZ.out))
          have HR : Hid (∀ u W, T2 w0 P Q u s (fun x => x = X) W → (W.cell? ⟨X, 1, none⟩ = some (.int .i64 z) ∧ W.cell? ⟨X, 2, none⟩ = some (.int .u64 x)) → Calls Try.prog 32 #[.pointer (some ⟨Q, 0, none⟩), .int .i64 z] W fun e w' => e = .returned (.bool (s.has z)) ∧ Hid (T2 w0 P Q u (s.evict z) (fun x => x = X) w') ∧ (w'.cell? ⟨X, 1, none⟩ = some (.int .i64 z) ∧ w'.cell? ⟨X, 2, none⟩ = some (.int .u64 x))) := hid (fun u W h hb => t2_right (R := fun e => e = .returned (.bool (s.has z))) h hb (fun _ k => qt_evict k (Nat.lt_of_le_of_lt HB.out (by omega)) z))
          have hBd := hid (HB.out.evict z)
          generalize (s.has z) = A at *
          generalize (s.evict z) = s' at *
          go_wp2_with fail
          go_region_held3 (fun w' => w'.cell? ⟨X, 1, none⟩ = some (.int .i64 z) ∧ w'.cell? ⟨X, 2, none⟩ = some (.int .u64 x)) (first | exact hxj1 | exact hxi1 | exact hx0) (first
            | (go_at_call 23; refine (HP.out _ _ hr2.out hxi1).mono ?_; rintro e w6 ⟨rfl, hst, hxj1⟩)
            | (go_at_call 23; refine (HP.out _ _ hT0.out hx0).mono ?_; rintro e w5 ⟨rfl, hm2, hxi1⟩)
            | (go_at_call 32; refine (HR.out _ _ hm2.out hxi1).mono ?_; rintro e w6 ⟨rfl, hst, hxj1⟩)
            | (go_at_call 32; refine (HR.out _ _ hT0.out hx0).mono ?_; rintro e w5 ⟨rfl, hr2, hxi1⟩))
          all_goals
            have HF := hid (TwoO.more (H' := fun _ => False) hst.out (Below.refl _ _) (fun _ hx => hx.elim))
            clear HP HR
            go_wp2_with fail
            go_ret
            exact ⟨by simp, _, hBd.out, HF.out⟩

        · have n4 : (kd == 4) = false := by simpa using k4
          by_cases k5 : kd = 5
          · subst k5
            clear hT0 hx0
            have hcl := t2_left (R := fun e => e = .returned (.tuple #[])) hT1.out hx1 (fun _ k => tp_cap k z HZ.out)
            have HR0 : Hid (∀ u W, T2 w0 P Q u s (fun x => x = X) W → (W.cell? ⟨X, 1, none⟩ = some (.int .i64 z) ∧ W.cell? ⟨X, 2, none⟩ = some (.int .u64 x)) → Calls Try.prog 33 #[.pointer (some ⟨Q, 0, none⟩), .int .i64 z] W fun e w' => e = .returned (.tuple #[]) ∧ Hid (T2 w0 P Q u (s.cap z) (fun x => x = X) w') ∧ (w'.cell? ⟨X, 1, none⟩ = some (.int .i64 z) ∧ w'.cell? ⟨X, 2, none⟩ = some (.int .u64 x))) := hid (fun u W h hb => t2_right (R := fun e => e = .returned (.tuple #[])) h hb (fun _ k => qt_cap k z HZ.out))
            have hB5 := hid (HB.out.cap z)
            generalize s.cap z = s' at *
            clear hT1
            go_wp2_with fail
            refine hcl.mono ?_
            rintro e w5 ⟨rfl, h5, hx5⟩
            have hcr := HR0.out _ _ h5.out hx5
            have hx51 := hx5.1
            clear hcl HR0 h5 x0 hx1
            go_wp2_with fail
            refine hcr.mono ?_
            rintro e w6 ⟨rfl, h6, -⟩
            have HF := hid (TwoO.more (H' := fun _ => False) h6.out (Below.refl _ _) (fun _ hx => hx.elim))
            clear hcr h6 hx5 hx51
            go_wp2_with fail
            go_ret
            exact ⟨rfl, _, hB5.out, HF.out⟩

          · have n5 : (kd == 5) = false := by simpa using k5
            by_cases k6 : kd = 6
            · subst k6
              clear hT0 hx0
              have hvi := hid (vic_i64 HOK.out)
              have hBv := hid (HB.out.vic HOK.out)
              have hv := t2_right (R := fun e => e = .returned (.int .i64 s.vic.1)) hT1.out hx1 (fun _ k => qt_victim k)
              have HV1 : Hid (∀ u W, T2 w0 P Q s u (fun x => x = X) W → (W.cell? ⟨X, 1, none⟩ = some (.int .i64 z) ∧ W.cell? ⟨X, 2, none⟩ = some (.int .u64 x)) → Calls Try.prog 22 #[.pointer (some ⟨P, 0, none⟩)] W fun e w' => e = .returned (.int .i64 s.vic.1) ∧ Hid (T2 w0 P Q s.vic.2 u (fun x => x = X) w') ∧ (w'.cell? ⟨X, 1, none⟩ = some (.int .i64 z) ∧ w'.cell? ⟨X, 2, none⟩ = some (.int .u64 x))) := hid (fun u W h hb => t2_left (R := fun e => e = .returned (.int .i64 s.vic.1)) h hb (fun _ k => tp_victim k))
              generalize s.vic.1 = V at *
              generalize s.vic.2 = s9 at *
              have HP : Hid (∀ u W, T2 w0 P Q s9 u (fun x => x = X) W → (W.cell? ⟨X, 1, none⟩ = some (.int .i64 z) ∧ W.cell? ⟨X, 2, none⟩ = some (.int .u64 x)) → Calls Try.prog 23 #[.pointer (some ⟨P, 0, none⟩), .int .i64 V] W fun e w' => e = .returned (.bool (s9.has V)) ∧ Hid (T2 w0 P Q (s9.evict V) u (fun x => x = X) w') ∧ (w'.cell? ⟨X, 1, none⟩ = some (.int .i64 z) ∧ w'.cell? ⟨X, 2, none⟩ = some (.int .u64 x))) := hid (fun u W h hb => t2_left (R := fun e => e = .returned (.bool (s9.has V))) h hb (fun _ k => tp_evict k (Nat.lt_of_le_of_lt hBv.out (by omega)) V hvi.out))
              have HR : Hid (∀ u W, T2 w0 P Q u s9 (fun x => x = X) W → (W.cell? ⟨X, 1, none⟩ = some (.int .i64 z) ∧ W.cell? ⟨X, 2, none⟩ = some (.int .u64 x)) → Calls Try.prog 32 #[.pointer (some ⟨Q, 0, none⟩), .int .i64 V] W fun e w' => e = .returned (.bool (s9.has V)) ∧ Hid (T2 w0 P Q u (s9.evict V) (fun x => x = X) w') ∧ (w'.cell? ⟨X, 1, none⟩ = some (.int .i64 z) ∧ w'.cell? ⟨X, 2, none⟩ = some (.int .u64 x))) := hid (fun u W h hb => t2_right (R := fun e => e = .returned (.bool (s9.has V))) h hb (fun _ k => qt_evict k (Nat.lt_of_le_of_lt hBv.out (by omega)) V))
              have hBd := hid (hBv.out.evict V)
              generalize s9.has V = A at *
              generalize s9.evict V = s' at *
              clear hT1
              go_wp2_with fail
              refine hv.mono ?_
              rintro e w5 ⟨rfl, h5, hx5⟩
              have hv1 := HV1.out _ _ h5.out hx5
              have hx51 := hx5.1
              clear hv HV1 h5 x0 hx1
              go_wp2_with fail
              refine hv1.mono ?_
              rintro e w6 ⟨rfl, h6, hx6⟩
              have hel := HP.out _ _ h6.out hx6
              clear hv1 HP h6 hx5 hx51 hx6
              go_wp2_with fail
              refine hel.mono ?_
              rintro e w7 ⟨rfl, h7, hx7⟩
              have her := HR.out _ _ h7.out hx7
              clear hel HR h7 hx7
              go_wp2_with fail
              refine her.mono ?_
              rintro e w8 ⟨rfl, h8, -⟩
              have HF := hid (TwoO.more (H' := fun _ => False) h8.out (Below.refl _ _) (fun _ hx => hx.elim))
              clear her h8
              go_wp2_with fail
              go_ret
              exact ⟨by simp, _, hBd.out, HF.out⟩

            · have n6 : (kd == 6) = false := by simpa using k6
              clear k1 k2 k3 k4 k5 k6
              clear hT0 hx0
              have HP : Hid (∀ u W, T2 w0 P Q s u (fun x => x = X) W → (W.cell? ⟨X, 1, none⟩ = some (.int .i64 z) ∧ W.cell? ⟨X, 2, none⟩ = some (.int .u64 x)) → Calls Try.prog 22 #[.pointer (some ⟨P, 0, none⟩)] W fun e w' => e = .returned (.int .i64 s.vic.1) ∧ Hid (T2 w0 P Q s.vic.2 u (fun x => x = X) w') ∧ (w'.cell? ⟨X, 1, none⟩ = some (.int .i64 z) ∧ w'.cell? ⟨X, 2, none⟩ = some (.int .u64 x))) := hid (fun u W h hb => t2_left (R := fun e => e = .returned (.int .i64 s.vic.1)) h hb (fun _ k => tp_victim k))
              have HR : Hid (∀ u W, T2 w0 P Q u s (fun x => x = X) W → (W.cell? ⟨X, 1, none⟩ = some (.int .i64 z) ∧ W.cell? ⟨X, 2, none⟩ = some (.int .u64 x)) → Calls Try.prog 34 #[.pointer (some ⟨Q, 0, none⟩)] W fun e w' => e = .returned (.int .i64 s.vic.1) ∧ Hid (T2 w0 P Q u s.vic.2 (fun x => x = X) w') ∧ (w'.cell? ⟨X, 1, none⟩ = some (.int .i64 z) ∧ w'.cell? ⟨X, 2, none⟩ = some (.int .u64 x))) := hid (fun u W h hb => t2_right (R := fun e => e = .returned (.int .i64 s.vic.1)) h hb (fun _ k => qt_victim k))
              have hBd := hid ((HB.out.vic HOK.out).up)
              generalize s.vic.1 = V at *
              generalize s.vic.2 = s' at *
              have hel := HP.out _ _ hT1.out hx1
              clear hT1 HP
              go_wp2_with fail
              refine hel.mono ?_
              rintro e w7 ⟨rfl, h7, hx7⟩
              have her := HR.out _ _ h7.out hx7
              clear hel HR h7 hx7
              go_wp2_with fail
              refine her.mono ?_
              rintro e w8 ⟨rfl, h8, -⟩
              have HF := hid (TwoO.more (H' := fun _ => False) h8.out (Below.refl _ _) (fun _ hx => hx.elim))
              clear her h8
              go_wp2_with fail
              go_ret
              exact ⟨by simp, _, hBd.out, HF.out⟩
end Go.Proofs.Ytkhmgigllcgpnaa.Th

/-
  The law ArenaPlays at this program. No conditions but that the numbers are an int's.
-/
import Derived.Test.YtclddaacbfgnlaaArenaPlays
import Derived.Deep.RegionHeld3
import Derived.Deep.DeepCutAuto
namespace Go.Proofs.Ytclddaacbfgnlaa
open Go Go.RowKit Go.Lib

theorem apart_new {P O R P' O' B' : Nat} {s : St} {w : World} {z : Nat} (h : AIs P O R s w) (hz : w.heap.size ≤ z) (h1 : z ≤ P') (h2 : z ≤ O') (h3 : z ≤ B') : ∀ b, RFoot P' O' B' (fun _ => none) b → b ≠ P ∧ b ≠ O ∧ b ≠ R := by
  obtain ⟨l1, l2, l3⟩ := h.lt
  intro b hb
  have hb' : z ≤ b := by
    rcases hb with e | e | e | ⟨i, e⟩
    · omega
    · omega
    · omega
    · cases e
  exact ⟨by omega, by omega, by omega⟩

/-- What both New answer. -/
theorem pair_new (n size : Int) : ∃ er : Int, ∀ W, Calls Try.prog 8 #[.int .i64 n, .int .i64 size] W fun e w' => ∃ q, e = .returned (.tuple #[.pointer q, .int .i64 er]) ∧ Below W.heap.size W w' ∧
    (∀ W2, Below w'.heap.size w' W2 → Calls Try.prog 9 #[.int .i64 n, .int .i64 size] W2 fun e w'' => ∃ r, e = .returned (.tuple #[.pointer r, .int .i64 er]) ∧ Below W2.heap.size W2 w'' ∧ ∃ F, Side q r F w'' ∧ ∀ b, F b → W.heap.size ≤ b) := by
  by_cases hok : 1 ≤ n ∧ n ≤ 1024 ∧ pageB size = true
  · obtain ⟨h1, h2, h3⟩ := hok
    have hp : 512 ≤ size ∧ size ≤ 65536 ∧ size % 8 = 0 := by unfold pageB at h3; rwa [decide_eq_true_iff] at h3
    obtain ⟨m, rfl⟩ : ∃ m : Nat, n = m := ⟨n.toNat, by omega⟩
    obtain ⟨z, rfl⟩ : ∃ z : Nat, size = z := ⟨size.toNat, by omega⟩
    refine ⟨0, fun W => (new_ok m z (by omega) (by omega) (by omega) (by omega) h3 W).mono fun e w' ⟨P, O, R, he, hA, hb, hP, hO, hR⟩ => ⟨_, he, hb, fun W2 hW2 => ?_⟩⟩
    refine (ref_new_ok m z (by omega) (by omega) (by omega) (by omega) hp.2.2 W2).mono fun e w'' ⟨P', O', B', cO, cB, he', hR', hb', hP', hO', hB'⟩ => ⟨_, he', hb', Foot ⟨P, O, R, P', O', B', cO, cB, fun _ => none⟩, .inr ⟨_, newSt m z, rfl, rfl, ⟨(hA.below hW2).below hb', hR', apart_new (hA.below hW2) (Nat.le_refl _) hP' hO' hB'⟩, fun b => Iff.rfl⟩, fun b hf => ?_⟩
    have hs1 := hb.size
    have hs2 := hW2.size
    rcases hf with e | e | e | e | e | e | ⟨i, e⟩
    · exact e ▸ hP
    · exact e ▸ hO
    · exact e ▸ hR
    · have e' : b = P' := e
      omega
    · have e' : b = O' := e
      omega
    · have e' : b = B' := e
      omega
    · cases e
  · have hbad : (1 ≤ n ∧ n ≤ 1024 ∧ pageB size = true) → False := hok
    refine ⟨1, fun W => (new_bad n size hbad W).mono fun e w' ⟨he, hw⟩ => ⟨none, he, hw ▸ Below.refl _ _, fun W2 _ => ?_⟩⟩
    exact (ref_new_bad n size hbad W2).mono fun e w'' ⟨he', hw'⟩ => ⟨none, he', hw' ▸ Below.refl _ _, fun _ => False, .inl ⟨rfl, rfl, fun _ => id⟩, fun b hf => hf.elim⟩

theorem four_new {q r q' r' : Option Addr} {F G : Nat → Prop} {w w1 w3 w4 w5 : World} (h : Side q r F w3) (hF : ∀ b, F b → w1.heap.size ≤ b) (h' : Side q' r' G w5) (hG : ∀ b, G b → w3.heap.size ≤ b) (b4 : Below w3.heap.size w3 w4) (b5 : Below w4.heap.size w4 w5)
    (s1 : w.heap.size ≤ w1.heap.size) (s3 : w.heap.size ≤ w3.heap.size) : Four q r q' r' w.heap.size w5 :=
  ⟨F, G, (h.only (D := fun _ => False) (Below.only b4) (fun _ _ => id)).only (D := fun _ => False) (Below.only b5) (fun _ _ => id), h', fun b hf hg => by have := h.lt b hf; have := hG b hg; omega, fun b hf => Nat.le_trans s1 (hF b hf), fun b hg => Nat.le_trans s3 (hG b hg)⟩
theorem side_nil {q r : Option Addr} {F : Nat → Prop} {w : World} (h : Side q r F w) : (q = none ∧ r = none) ∨ ∃ x y, q = some x ∧ r = some y := by
  rcases h with ⟨h1, h2, _⟩ | ⟨d, s, h1, h2, _⟩
  · exact .inl ⟨h1, h2⟩
  · exact .inr ⟨_, _, h1, h2⟩
theorem four_nil {q r q' r' : Option Addr} {B : Nat} {w : World} (h : Four q r q' r' B w) : ((q = none ∧ r = none) ∨ ∃ x y, q = some x ∧ r = some y) ∧ ((q' = none ∧ r' = none) ∨ ∃ x y, q' = some x ∧ r' = some y) := by
  obtain ⟨F, G, h1, h2, _⟩ := h
  exact ⟨side_nil h1, side_nil h2⟩

set_option maxHeartbeats 4000000 in
set_option maxRecDepth 100000 in
theorem plays_law (n : Int) (p : Int) (o : Int) (a : Option Addr) (m c : Nat) (w : World)
    (hops : ∀ i, i < m → ∃ b off kd A B C x y z l, a = some ⟨b, off, none⟩ ∧ OpAt w b (off + i * 5) kd A B C x y z l) :
    Calls Try.prog 3 #[.int .i64 n, .int .i64 p, .int .i64 o, .slice a m c] w fun e w' => e = .returned (.bool true) ∧ Below w.heap.size w w' := by
  have HOPS := hid hops
  obtain ⟨er, hN⟩ := pair_new n p
  obtain ⟨er', hN'⟩ := pair_new o 512
  have HN := hid hN
  have HN' := hid hN'
  clear hops hN hN'
  go_enter Try.func3, Try.ntmps3
  go_wp2_with fail
  refine (shown_any _).mono ?_
  rintro e w1 ⟨rfl, b1⟩
  go_wp2_with fail
  refine (HN.out _).mono ?_
  rintro e w2 ⟨q, rfl, b2, hR⟩
  have hr := hR _ (Below.refl _ _)
  clear HN hR
  go_wp2_with fail
  refine hr.mono ?_
  rintro e w3 ⟨r, rfl, b3, F, hS, hF⟩
  have HS := hid hS
  have HF := hid hF
  clear hr hS hF
  go_wp2_with fail
  refine (HN'.out _).mono ?_
  rintro e w4 ⟨q', rfl, b4, hR⟩
  have hr := hR _ (Below.refl _ _)
  clear HN' hR
  go_wp2_with fail
  refine hr.mono ?_
  rintro e w5 ⟨r', rfl, b5, G, hS', hG⟩
  have b12 := Below.then b1 b2
  have b13 := Below.then b12 b3
  have b14 := Below.then b13 b4
  have b15 := Below.then b14 b5
  have h4 : Four q r q' r' w.heap.size w5 := four_new HS.out HF.out hS' hG b4 b5 b1.size b13.size
  have H4 := hid h4
  clear hr hS' hG h4 HS HF b1 b2 b3 b4 b5 b12 b13 b14
  go_upto_region 6 with fail
  go_cut [64] from 43 to 64 (fun v wx => v = .bool false ∧ wx = w5)
  case first =>
    obtain ⟨hq1, hq2⟩ := four_nil H4.out
    rcases hq1 with ⟨rfl, rfl⟩ | ⟨x1, x2, rfl, rfl⟩
    all_goals
      rcases hq2 with ⟨rfl, rfl⟩ | ⟨x3, x4, rfl, rfl⟩
      all_goals
        go_wp2_with fail
        go_meet
        exact ⟨rfl, rfl⟩
  case rest =>
    obtain ⟨rfl, rfl⟩ := hcut
    have HB := hid b15
    clear b15
    go_wp2_with fail
    go_loopw [18] (fun v wr => ∃ k : Nat, k ≤ 200 ∧ v = .int .i64 k ∧ Hid (Four q r q' r' w.heap.size wr) ∧ Hid (Below w.heap.size w wr)) (fun v _ => 200 - (intOf v).toNat)
    case atStart => exact ⟨0, by omega, rfl, H4, HB⟩
    case round =>
      obtain ⟨k, hk, rfl, H, HW⟩ := hrel
      clear H4 HB
      by_cases hgo : k < m ∧ k < 200
      · obtain ⟨i1, i2⟩ : (k : Int) < (m : Int) ∧ (k : Int) < 200 := by omega
        obtain ⟨b, off, kd, A, B, C, x, y, z, l, rfl, hop⟩ := HOPS.out k hgo.1
        have HOP := hid hop
        clear HOPS hop
        by_cases hI : k % 3 = 2 ∧ q' ≠ none
        · obtain ⟨hI1, hI2⟩ := hI
          have hmod : (k : Int) % 3 = 2 := by omega
          obtain ⟨pp, pr, sz, rfl, rfl, hz0, hpr, hd⟩ := turn H.out.swap HW.out hI2 HOP.out
          have hI2' := hid hI2
          have f0 := (HW.out.cell (p := ⟨b, off + k * 5, none⟩) HOP.out.lt).trans HOP.out.e0
          have f1 := (HW.out.cell (p := ⟨b, off + k * 5 + 1, none⟩) HOP.out.lt).trans HOP.out.e1
          have f2 := (HW.out.cell (p := ⟨b, off + k * 5 + 2, none⟩) HOP.out.lt).trans HOP.out.e2
          have f3 := (HW.out.cell (p := ⟨b, off + k * 5 + 3, none⟩) HOP.out.lt).trans HOP.out.e3
          have f4 := (HW.out.cell (p := ⟨b, off + k * 5 + 4, none⟩) HOP.out.lt).trans HOP.out.e4
          clear H HW HOP hI1 hI2 hI2' hgo
          go_wp2_with fail
          refine hd.mono ?_
          rintro e w6 ⟨rfl, h6, hb6, hz6, mm, c1, c2, -⟩
          have H6 := hid h6.swap
          have HB6 := hid hb6
          clear hd h6 hb6 f0 f1 f2 f3 f4
          go_wp2_with fail
          refine c1.mono ?_
          rintro e w7 ⟨rfl, rfl⟩
          clear c1
          go_wp2_with fail
          refine c2.mono ?_
          rintro e w7 ⟨rfl, rfl⟩
          clear c2
          go_wp2_with fail
          go_roundw
          case rel => exact ⟨k + 1, by omega, by go_num, H6, HB6⟩
          case measure => simp [intOf] <;> omega
        · have hsk : ((k : Int) % 3 = 2 ∧ q' = none ∧ r' = none) ∨ ((k : Int) % 3 == 2) = false := by
            by_cases h3 : k % 3 = 2
            · refine .inl ⟨by omega, ?_⟩
              rcases (four_nil H.out).2 with h | ⟨x3, x4, e3, _⟩
              · exact h
              · exact (hI ⟨h3, by rw [e3]; simp⟩).elim
            · refine .inr ?_
              have : ¬ (k : Int) % 3 = 2 := by omega
              simpa using this
          clear hI
          rcases hsk with ⟨hmod, rfl, rfl⟩ | hmod
          all_goals
            by_cases hq : q = none
            · obtain ⟨rfl, rfl⟩ : q = none ∧ r = none := by
                rcases (four_nil H.out).1 with h | ⟨x1, x2, e1, _⟩
                · exact h
                · rw [hq] at e1; cases e1
              clear HOP hq
              go_wp2_with fail
              go_roundw
              case rel => exact ⟨k + 1, by omega, by go_num, H, HW⟩
              case measure => simp [intOf] <;> omega
            · obtain ⟨pp, pr, sz, rfl, rfl, hz0, hpr, hd⟩ := turn H.out.drew HW.out.drew hq HOP.out
              have f0 := (HW.out.cell (p := ⟨b, off + k * 5, none⟩) HOP.out.lt).trans HOP.out.e0
              have f1 := (HW.out.cell (p := ⟨b, off + k * 5 + 1, none⟩) HOP.out.lt).trans HOP.out.e1
              have f2 := (HW.out.cell (p := ⟨b, off + k * 5 + 2, none⟩) HOP.out.lt).trans HOP.out.e2
              have f3 := (HW.out.cell (p := ⟨b, off + k * 5 + 3, none⟩) HOP.out.lt).trans HOP.out.e3
              have f4 := (HW.out.cell (p := ⟨b, off + k * 5 + 4, none⟩) HOP.out.lt).trans HOP.out.e4
              clear H HW hq
              go_wp2_with fail
              go_region_held3 (fun w' => w'.cell? ⟨b, off + k * 5, none⟩ = some (.int .i64 kd) ∧ w'.cell? ⟨b, off + k * 5 + 1, none⟩ = some (.int .i64 A) ∧ w'.cell? ⟨b, off + k * 5 + 2, none⟩ = some (.int .i64 B) ∧ w'.cell? ⟨b, off + k * 5 + 3, none⟩ = some (.int .i64 C) ∧ w'.cell? ⟨b, off + k * 5 + 4, none⟩ = some (.slice x y z) ∧ w'.cell? ⟨pr, 0, none⟩ = some (.int .i64 sz)) (first | exact ⟨g0, g1, g2, g3, g4, hz6⟩ | exact ⟨f0, f1, f2, f3, f4, hz0⟩) (first
                | (go_at_call 10; refine hd.mono ?_; rintro e w6 ⟨rfl, h6, hb6, hz6, mm, c1, c2, c3⟩; have g0 := (hb6.cell (p := ⟨b, off + k * 5, none⟩) HOP.out.lt).trans HOP.out.e0; have g1 := (hb6.cell (p := ⟨b, off + k * 5 + 1, none⟩) HOP.out.lt).trans HOP.out.e1; have g2 := (hb6.cell (p := ⟨b, off + k * 5 + 2, none⟩) HOP.out.lt).trans HOP.out.e2; have g3 := (hb6.cell (p := ⟨b, off + k * 5 + 3, none⟩) HOP.out.lt).trans HOP.out.e3; have g4 := (hb6.cell (p := ⟨b, off + k * 5 + 4, none⟩) HOP.out.lt).trans HOP.out.e4; have H6 := hid h6; have HB6 := hid hb6; clear h6 hb6)
                | (go_at_call 11; refine c1.mono ?_; rintro e w7 ⟨rfl, rfl⟩)
                | (go_at_call 12; refine c2.mono ?_; rintro e w7 ⟨rfl, rfl⟩)
                | (go_at_call 13; refine c3.mono ?_; rintro e w7 ⟨rfl, rfl⟩))
              all_goals
                go_wp2_with fail
                go_roundw
                case rel => exact ⟨k + 1, by omega, by go_num, H6, HB6⟩
                case measure => simp [intOf] <;> omega
      · have hcase : ¬ (k : Int) < (m : Int) ∨ ((k : Int) < (m : Int) ∧ ¬ (k : Int) < 200) := by omega
        clear HOPS hgo
        rcases hcase with g1 | ⟨g1, g2⟩
        all_goals
          go_wp2_with fail
          go_ret
          exact ⟨rfl, HW.out⟩
end Go.Proofs.Ytclddaacbfgnlaa

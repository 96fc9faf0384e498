/-
  The contract of the program's adaptive replacement's Cap. Conditions: it lies in memory; the bound is an int.
-/
import Derived.Test.YtklmgmkeaipppaaArcNew
namespace Go.Proofs.Ytklmgmkeaipppaa.Ac
open Go Go.RowKit Go.Lib

set_option maxRecDepth 100000 in
set_option maxHeartbeats 1000000 in
theorem ar_cap {P : Nat} {G : Nat → Prop} {s : Ar} {w : World} (h : AR P G s w) (n : Int) (hn : i64ok n) : Calls Try.prog 19 #[.pointer (some ⟨P, 0, none⟩), .int .i64 n] w fun e w' => e = .returned (.tuple #[]) ∧ ∃ G', AR P G' (s.cap n) w' ∧ Stp G G' w w' := by
  obtain ⟨ok, r, m, Q1, Q2, F, hq, hG⟩ := h
  have c4 := hq.head.cell (i := 4) rfl
  have f4 := hq.head.frozen 4
  have okc := ok.cap hn.2
  obtain ⟨c, hc⟩ : ∃ c, c = n.toNat := ⟨_, rfl⟩
  obtain ⟨q, hp⟩ : ∃ q, q = min s.p c := ⟨_, rfl⟩
  have hcap : s.cap n = ⟨s.L, c, Gh.cutL c s.b1, Gh.cutL c s.b2, q, s.num⟩ := by unfold Ar.cap; rw [← hc, ← hp]
  rw [hcap] at okc ⊢
  have mb : (c : Int) ≤ 9223372036854775807 := okc.mb
  have HE : Hid (∀ F' W, AP P r m Q1 Q2 F' s.L c c c (Gh.cutL c s.b1) (Gh.cutL c s.b2) q s.num W → Stp (allF F) (allF F') w W → ∃ G', AR P G' ⟨s.L, c, Gh.cutL c s.b1, Gh.cutL c s.b2, q, s.num⟩ W ∧ Stp G G' w W) := hid (fun F' W k g => ar_go (s := ⟨s.L, c, Gh.cutL c s.b1, Gh.cutL c s.b2, q, s.num⟩) hG okc k g)
  have HB : Hid (∀ C p' : Int, C = c → p' = q → ((w.setCell ⟨P, 4, none⟩ (.int .i64 C)).frozen? ⟨P, 5, none⟩ = false ∧ (w.setCell ⟨P, 4, none⟩ (.int .i64 C)).cell? ⟨P, 5, none⟩ = some (.int .i64 s.p) ∧ (w.setCell ⟨P, 4, none⟩ (.int .i64 C)).cell? ⟨P, 4, none⟩ = some (.int .i64 C)) ∧ ∀ W, W = ((w.setCell ⟨P, 4, none⟩ (.int .i64 C)).setCell ⟨P, 5, none⟩ (.int .i64 p')).drew → AP P r m Q1 Q2 F s.L c s.m s.m s.b1 s.b2 q s.num W ∧ Stp (allF F) (allF F) w W) := hid (by
    rintro C p' rfl rfl
    obtain ⟨k1, g1⟩ := hq.goM c
    obtain ⟨k2, g2⟩ := k1.goP q
    refine ⟨⟨k1.head.frozen 5, k1.head.cell (i := 5) rfl, k1.head.cell (i := 4) rfl⟩, ?_⟩
    rintro W rfl
    exact ⟨k2.below (Below.refl _ _).drew, (g1.trans g2).trans (Stp.below (Below.refl _ _).drew)⟩)
  clear hq ok hG okc hcap
  have hcs : ∃ C : Int, C = c ∧ ((n < 0 ∧ C = 0) ∨ (0 ≤ n ∧ C = n)) := ⟨c, rfl, by omega⟩
  obtain ⟨C, hC, hcc⟩ := hcs
  obtain ⟨p, hpp⟩ : ∃ p, p = s.p := ⟨_, rfl⟩
  rw [← hpp] at hp HB
  have hqs : ∃ p' : Int, p' = q ∧ (((p : Int) ≤ C ∧ p' = (p : Int)) ∨ (C < (p : Int) ∧ p' = C)) := ⟨q, rfl, by omega⟩
  obtain ⟨p', hp', hpc⟩ := hqs
  obtain ⟨⟨d1, d2, d3⟩, hW⟩ := HB.out C p' hC hp'
  have HW := hid hW
  have HC := hid hC
  clear HB hW hc hp hpp
  have hi0 : ∀ W, (Instr.index 56 (.agg #[.pointer (some ⟨Q1, 0, none⟩), .pointer (some ⟨Q2, 0, none⟩)]) (.int .i64 0)).run Try.prog W = .ok (.pointer (some ⟨Q1, 0, none⟩)) W := fun W => by kernel_rfl
  have hi1 : ∀ W, (Instr.index 56 (.agg #[.pointer (some ⟨Q1, 0, none⟩), .pointer (some ⟨Q2, 0, none⟩)]) (.int .i64 1)).run Try.prog W = .ok (.pointer (some ⟨Q2, 0, none⟩)) W := fun W => by kernel_rfl
  clear hC hp'
  have hall : (n < 0 ∧ C = 0 ∧ p = 0 ∧ p' = 0) ∨ (n < 0 ∧ C = 0 ∧ 0 < (p : Int) ∧ p' = 0) ∨ (0 ≤ n ∧ C = n ∧ (p : Int) ≤ n ∧ p' = (p : Int)) ∨ (0 ≤ n ∧ C = n ∧ n < (p : Int) ∧ p' = n) := by omega
  clear hcc hpc
  rcases hall with ⟨a1, rfl, rfl, rfl⟩ | ⟨a1, rfl, a2, rfl⟩ | ⟨a1, rfl, a2, rfl⟩ | ⟨a1, rfl, a2, rfl⟩
  · replace d2 : (w.setCell ⟨P, 4, none⟩ (.int .i64 0)).cell? ⟨P, 5, none⟩ = some (.int .i64 0) := d2
    go_enter Try.func19, Try.ntmps19
    go_wp2_with fail
    go_region
    have hQ := HW.out _ rfl
    have e2 := hQ.1.head.cell (i := 2) rfl
    have e3 := hQ.1.head.cell (i := 3) rfl
    replace hQ := hid hQ
    clear HW d1 d2 d3 c4 f4 a1 HC hn mb
    generalize ((w.setCell ⟨P, 4, none⟩ (.int .i64 0)).setCell ⟨P, 5, none⟩ (.int .i64 0)).drew = W1 at *
    go_wp2_with fail
    clear e2 e3
    go_loopw [27] (fun i wr => ∃ (k : Nat) (F' : Nat → Nat → Prop), i = .int .i64 k ∧ ((k = 0 ∧ Hid (AP P r m Q1 Q2 F' s.L c s.m s.m s.b1 s.b2 q s.num wr ∧ Stp (allF F) (allF F') w wr)) ∨ (k = 1 ∧ Hid (AP P r m Q1 Q2 F' s.L c c s.m (Gh.cutL c s.b1) s.b2 q s.num wr ∧ Stp (allF F) (allF F') w wr)) ∨ (k = 2 ∧ Hid (AP P r m Q1 Q2 F' s.L c c c (Gh.cutL c s.b1) (Gh.cutL c s.b2) q s.num wr ∧ Stp (allF F) (allF F') w wr)))) (fun i _ => 2 - (RowKit.intOf i).toNat)
    case atStart => exact ⟨0, F, rfl, .inl ⟨rfl, hQ⟩⟩
    case round =>
      obtain ⟨k, F1, rfl, hc⟩ := hrel
      clear hQ
      rcases hc with ⟨rfl, hN⟩ | ⟨rfl, hN⟩ | ⟨rfl, hN⟩
      · have d4 := hN.out.1.head.cell (i := 4) rfl
        have hl := ap_limA hN.out.1 (c : Int)
        rw [Int.toNat_natCast] at hl
        have G1 := hid hN.out.2
        clear hN HE
        go_wp2_with fail
        refine hl.mono ?_
        rintro e w2 ⟨rfl, F2, k2, g2⟩
        have HN := hid (And.intro k2 (G1.out.trans g2))
        clear hl d4 k2 g2 G1
        go_wp2_with fail
        go_roundw
        case rel => exact ⟨1, F2, by first | rfl | go_num, .inr (.inl ⟨rfl, HN⟩)⟩
        case measure => simp [RowKit.intOf]
      · have d4 := hN.out.1.head.cell (i := 4) rfl
        have hl := ap_limB hN.out.1 (c : Int)
        rw [Int.toNat_natCast] at hl
        have G1 := hid hN.out.2
        clear hN HE
        go_wp2_with fail
        refine hl.mono ?_
        rintro e w2 ⟨rfl, F2, k2, g2⟩
        have HN := hid (And.intro k2 (G1.out.trans g2))
        clear hl d4 k2 g2 G1
        go_wp2_with fail
        go_roundw
        case rel => exact ⟨2, F2, by first | rfl | go_num, .inr (.inr ⟨rfl, HN⟩)⟩
        case measure => simp [RowKit.intOf]
      · have HR := hid (HE.out F1 wr hN.out.1 hN.out.2)
        clear hN HE
        go_wp2_with fail
        go_end0
        exact ⟨rfl, HR.out⟩
  · go_enter Try.func19, Try.ntmps19
    go_wp2_with fail
    go_region
    have hQ := HW.out _ rfl
    have e2 := hQ.1.head.cell (i := 2) rfl
    have e3 := hQ.1.head.cell (i := 3) rfl
    replace hQ := hid hQ
    clear HW d1 d2 d3 c4 f4 a1 a2 HC hn mb
    generalize ((w.setCell ⟨P, 4, none⟩ (.int .i64 0)).setCell ⟨P, 5, none⟩ (.int .i64 0)).drew = W1 at *
    go_wp2_with fail
    clear e2 e3
    go_loopw [27] (fun i wr => ∃ (k : Nat) (F' : Nat → Nat → Prop), i = .int .i64 k ∧ ((k = 0 ∧ Hid (AP P r m Q1 Q2 F' s.L c s.m s.m s.b1 s.b2 q s.num wr ∧ Stp (allF F) (allF F') w wr)) ∨ (k = 1 ∧ Hid (AP P r m Q1 Q2 F' s.L c c s.m (Gh.cutL c s.b1) s.b2 q s.num wr ∧ Stp (allF F) (allF F') w wr)) ∨ (k = 2 ∧ Hid (AP P r m Q1 Q2 F' s.L c c c (Gh.cutL c s.b1) (Gh.cutL c s.b2) q s.num wr ∧ Stp (allF F) (allF F') w wr)))) (fun i _ => 2 - (RowKit.intOf i).toNat)
    case atStart => exact ⟨0, F, rfl, .inl ⟨rfl, hQ⟩⟩
    case round =>
      obtain ⟨k, F1, rfl, hc⟩ := hrel
      clear hQ
      rcases hc with ⟨rfl, hN⟩ | ⟨rfl, hN⟩ | ⟨rfl, hN⟩
      · have d4 := hN.out.1.head.cell (i := 4) rfl
        have hl := ap_limA hN.out.1 (c : Int)
        rw [Int.toNat_natCast] at hl
        have G1 := hid hN.out.2
        clear hN HE
        go_wp2_with fail
        refine hl.mono ?_
        rintro e w2 ⟨rfl, F2, k2, g2⟩
        have HN := hid (And.intro k2 (G1.out.trans g2))
        clear hl d4 k2 g2 G1
        go_wp2_with fail
        go_roundw
        case rel => exact ⟨1, F2, by first | rfl | go_num, .inr (.inl ⟨rfl, HN⟩)⟩
        case measure => simp [RowKit.intOf]
      · have d4 := hN.out.1.head.cell (i := 4) rfl
        have hl := ap_limB hN.out.1 (c : Int)
        rw [Int.toNat_natCast] at hl
        have G1 := hid hN.out.2
        clear hN HE
        go_wp2_with fail
        refine hl.mono ?_
        rintro e w2 ⟨rfl, F2, k2, g2⟩
        have HN := hid (And.intro k2 (G1.out.trans g2))
        clear hl d4 k2 g2 G1
        go_wp2_with fail
        go_roundw
        case rel => exact ⟨2, F2, by first | rfl | go_num, .inr (.inr ⟨rfl, HN⟩)⟩
        case measure => simp [RowKit.intOf]
      · have HR := hid (HE.out F1 wr hN.out.1 hN.out.2)
        clear hN HE
        go_wp2_with fail
        go_end0
        exact ⟨rfl, HR.out⟩
  · go_enter Try.func19, Try.ntmps19
    go_wp2_with fail
    go_region
    have hQ := HW.out _ rfl
    have e2 := hQ.1.head.cell (i := 2) rfl
    have e3 := hQ.1.head.cell (i := 3) rfl
    replace hQ := hid hQ
    clear HW d1 d2 d3 c4 f4 a1 a2 HC
    generalize ((w.setCell ⟨P, 4, none⟩ (.int .i64 C)).setCell ⟨P, 5, none⟩ (.int .i64 (p : Int))).drew = W1 at *
    go_wp2_with fail
    clear e2 e3
    go_loopw [27] (fun i wr => ∃ (k : Nat) (F' : Nat → Nat → Prop), i = .int .i64 k ∧ ((k = 0 ∧ Hid (AP P r m Q1 Q2 F' s.L c s.m s.m s.b1 s.b2 q s.num wr ∧ Stp (allF F) (allF F') w wr)) ∨ (k = 1 ∧ Hid (AP P r m Q1 Q2 F' s.L c c s.m (Gh.cutL c s.b1) s.b2 q s.num wr ∧ Stp (allF F) (allF F') w wr)) ∨ (k = 2 ∧ Hid (AP P r m Q1 Q2 F' s.L c c c (Gh.cutL c s.b1) (Gh.cutL c s.b2) q s.num wr ∧ Stp (allF F) (allF F') w wr)))) (fun i _ => 2 - (RowKit.intOf i).toNat)
    case atStart => exact ⟨0, F, rfl, .inl ⟨rfl, hQ⟩⟩
    case round =>
      obtain ⟨k, F1, rfl, hc⟩ := hrel
      clear hQ
      rcases hc with ⟨rfl, hN⟩ | ⟨rfl, hN⟩ | ⟨rfl, hN⟩
      · have d4 := hN.out.1.head.cell (i := 4) rfl
        have hl := ap_limA hN.out.1 (c : Int)
        rw [Int.toNat_natCast] at hl
        have G1 := hid hN.out.2
        clear hN HE
        go_wp2_with fail
        refine hl.mono ?_
        rintro e w2 ⟨rfl, F2, k2, g2⟩
        have HN := hid (And.intro k2 (G1.out.trans g2))
        clear hl d4 k2 g2 G1
        go_wp2_with fail
        go_roundw
        case rel => exact ⟨1, F2, by first | rfl | go_num, .inr (.inl ⟨rfl, HN⟩)⟩
        case measure => simp [RowKit.intOf]
      · have d4 := hN.out.1.head.cell (i := 4) rfl
        have hl := ap_limB hN.out.1 (c : Int)
        rw [Int.toNat_natCast] at hl
        have G1 := hid hN.out.2
        clear hN HE
        go_wp2_with fail
        refine hl.mono ?_
        rintro e w2 ⟨rfl, F2, k2, g2⟩
        have HN := hid (And.intro k2 (G1.out.trans g2))
        clear hl d4 k2 g2 G1
        go_wp2_with fail
        go_roundw
        case rel => exact ⟨2, F2, by first | rfl | go_num, .inr (.inr ⟨rfl, HN⟩)⟩
        case measure => simp [RowKit.intOf]
      · have HR := hid (HE.out F1 wr hN.out.1 hN.out.2)
        clear hN HE
        go_wp2_with fail
        go_end0
        exact ⟨rfl, HR.out⟩
  · go_enter Try.func19, Try.ntmps19
    go_wp2_with fail
    go_region
    have hQ := HW.out _ rfl
    have e2 := hQ.1.head.cell (i := 2) rfl
    have e3 := hQ.1.head.cell (i := 3) rfl
    replace hQ := hid hQ
    clear HW d1 d2 d3 c4 f4 a1 a2 HC
    generalize ((w.setCell ⟨P, 4, none⟩ (.int .i64 p')).setCell ⟨P, 5, none⟩ (.int .i64 p')).drew = W1 at *
    go_wp2_with fail
    clear e2 e3
    go_loopw [27] (fun i wr => ∃ (k : Nat) (F' : Nat → Nat → Prop), i = .int .i64 k ∧ ((k = 0 ∧ Hid (AP P r m Q1 Q2 F' s.L c s.m s.m s.b1 s.b2 q s.num wr ∧ Stp (allF F) (allF F') w wr)) ∨ (k = 1 ∧ Hid (AP P r m Q1 Q2 F' s.L c c s.m (Gh.cutL c s.b1) s.b2 q s.num wr ∧ Stp (allF F) (allF F') w wr)) ∨ (k = 2 ∧ Hid (AP P r m Q1 Q2 F' s.L c c c (Gh.cutL c s.b1) (Gh.cutL c s.b2) q s.num wr ∧ Stp (allF F) (allF F') w wr)))) (fun i _ => 2 - (RowKit.intOf i).toNat)
    case atStart => exact ⟨0, F, rfl, .inl ⟨rfl, hQ⟩⟩
    case round =>
      obtain ⟨k, F1, rfl, hc⟩ := hrel
      clear hQ
      rcases hc with ⟨rfl, hN⟩ | ⟨rfl, hN⟩ | ⟨rfl, hN⟩
      · have d4 := hN.out.1.head.cell (i := 4) rfl
        have hl := ap_limA hN.out.1 (c : Int)
        rw [Int.toNat_natCast] at hl
        have G1 := hid hN.out.2
        clear hN HE
        go_wp2_with fail
        refine hl.mono ?_
        rintro e w2 ⟨rfl, F2, k2, g2⟩
        have HN := hid (And.intro k2 (G1.out.trans g2))
        clear hl d4 k2 g2 G1
        go_wp2_with fail
        go_roundw
        case rel => exact ⟨1, F2, by first | rfl | go_num, .inr (.inl ⟨rfl, HN⟩)⟩
        case measure => simp [RowKit.intOf]
      · have d4 := hN.out.1.head.cell (i := 4) rfl
        have hl := ap_limB hN.out.1 (c : Int)
        rw [Int.toNat_natCast] at hl
        have G1 := hid hN.out.2
        clear hN HE
        go_wp2_with fail
        refine hl.mono ?_
        rintro e w2 ⟨rfl, F2, k2, g2⟩
        have HN := hid (And.intro k2 (G1.out.trans g2))
        clear hl d4 k2 g2 G1
        go_wp2_with fail
        go_roundw
        case rel => exact ⟨2, F2, by first | rfl | go_num, .inr (.inr ⟨rfl, HN⟩)⟩
        case measure => simp [RowKit.intOf]
      · have HR := hid (HE.out F1 wr hN.out.1 hN.out.2)
        clear hN HE
        go_wp2_with fail
        go_end0
        exact ⟨rfl, HR.out⟩
end Go.Proofs.Ytklmgmkeaipppaa.Ac

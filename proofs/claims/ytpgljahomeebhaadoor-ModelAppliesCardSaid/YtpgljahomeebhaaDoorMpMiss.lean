/-
  The contract of miss. Conditions: the items stand in order, and are not over many; now is a moment; the key is not over long.
-/
import Derived.Test.YtpgljahomeebhaaDoorMpSto
namespace Go.Proofs.YtpgljahomeebhaaDoor.Md
open Go Go.RowKit Go.Lib

def Wk.mis (s : Wk) : An × Wk :=
  if s.c.viv && decide (s.c.op = 1) then (⟨1, ⟨s.c.key, 0, emp, moment s.now s.c.vive, bump s.cas, 0, false, true⟩, 0, true, false, false⟩, { s with cas := bump s.cas, l := s.kept ⟨s.c.key, 0, emp, moment s.now s.c.vive, bump s.cas, 0, false, true⟩ })
  else if s.c.viv && decide (s.c.op = 3) then s.cnt ⟨s.c.key, 0, S (Lib.decDigits s.c.init), moment s.now s.c.vive, 0, 0, false, false⟩
  else (An.of 5, s)
/-- Two boxes of the call's own: an answer's and a command's behind it. -/
structure Kc (n₀ A C : Nat) (F : Nat → Prop) (ca cc : List Value) (W : World) : Prop where
  ba : Blk W A 35 ca
  bc : Blk W C 28 cc
  na : ¬ F A
  nc : ¬ F C
  ga : n₀ ≤ A
  gc : A < C
section
variable {B n₀ A C : Nat} {F F' : Nat → Prop} {s : Wk} {w w0 W W' : World} {ca cc : List Value}
theorem Kc.stp (h : Kc n₀ A C F ca cc W) (k : Stp F F' W W') : Kc n₀ A C F' ca cc W' := ⟨(k.blk h.ba h.na).1, (k.blk h.bc h.nc).1, (k.blk h.ba h.na).2, (k.blk h.bc h.nc).2, h.ga, h.gc⟩
theorem Kc.step (h : Kc n₀ A C F ca cc W) (hb : Below W.heap.size W W') : Kc n₀ A C F ca cc W' := ⟨h.ba.below hb, h.bc.below hb, h.na, h.nc, h.ga, h.gc⟩
theorem Kc.begin (h : Ka n₀ A F ca W) (hF : ∀ b, F b → b < W.heap.size) (cc : Array Value) : Kc n₀ A W.heap.size F ca cc.toList (W.alloc (.cells cc 28)) :=
  ⟨(h.step (abelow W _)).ba, Blk.new W cc _, h.na, fun e => by have := hF _ e; omega, h.ga, h.ba.lt⟩
set_option maxHeartbeats 1000000 in
set_option maxRecDepth 100000 in
theorem wk_miss (h : WP B F s w) (hg : Bg w0 F w) (hs : Sorted s.l) (hlen : s.l.length ≤ 4194304) (hi : s.ix < s.l.length) (n1 : 1 ≤ s.now) (n2 : s.now ≤ 1099511627776) (hk : s.c.key.size ≤ 1048576) (hu : s.c.init < 18446744073709551616) :
    Calls Tryd.prog 51 #[.pointer (some ⟨B, 0, none⟩)] w fun e w' => e = .returned s.mis.1.v ∧ ∃ F', WP B F' s.mis.2 w' ∧ Stp F F' w w' := by
  have hmo := fun W (hW : WR B s W) => wk_moment hW s.c.vive n1 n2
  have htx := fun W (hV : Nu.Vars W) => Nu.text_any s.c.init hu W hV
  obtain ⟨M, hM⟩ : ∃ M, M = moment s.now s.c.vive := ⟨_, rfl⟩
  obtain ⟨T, hT⟩ : ∃ T, T = S (Lib.decDigits s.c.init) := ⟨_, rfl⟩
  have hT2 : Nu.S (Lib.decDigits s.c.init) = T := hT.symm
  have hTs : T.size ≤ 4194304 := by rw [← hT2, Nu.S_size]; have := Nu.dd_len_le hu; omega
  obtain ⟨D1, hD1⟩ : ∃ D1, D1 = bump s.cas := ⟨_, rfl⟩
  have hkp := fun W (hW : WP B F s W) => wk_anew hW hs hlen hi 1 ⟨s.c.key, 0, emp, M, 0, 0, false, true⟩
  have hct := fun W (hW : WP B F s W) (hG : Bg w0 F W) => wk_counted hW hG hs hlen hi ⟨s.c.key, 0, T, M, 0, 0, false, false⟩ (by show s.c.key.size ≤ _; omega) hTs
  have zz : ((0 : Nat) : Int) = 0 := rfl
  simp only [an_lit, ← hD1, zz] at hkp
  rw [← hM] at hmo
  simp only [hT2] at htx
  obtain ⟨R, hR⟩ : ∃ R, R = s.mis := ⟨_, rfl⟩
  rw [← hR]
  have HR : Hid (R = (if s.c.viv && decide (s.c.op = 1) then (⟨1, ⟨s.c.key, 0, emp, M, D1, 0, false, true⟩, 0, true, false, false⟩, { s with cas := D1, l := s.kept ⟨s.c.key, 0, emp, M, D1, 0, false, true⟩ }) else if s.c.viv && decide (s.c.op = 3) then s.cnt ⟨s.c.key, 0, T, M, 0, 0, false, false⟩ else (An.of 5, s))) := hid (by rw [hR, hM, hD1, hT]; rfl)
  have HG := hid hg
  clear hR hM hD1 hT hT2 hTs hs hlen hi n1 n2 hk hu hg
  --GEN open
  obtain ⟨A, hA⟩ : ∃ A, A = w.heap.size := ⟨_, rfl⟩
  obtain ⟨W1, h1⟩ : ∃ W1, w.alloc (.cells #[.int .i64 0, .string ⟨#[]⟩, .int .u32 0, .string ⟨#[]⟩, .int .i64 0, .int .u64 0, .int .i64 0, .bool false, .bool false, .int .u64 0, .bool false, .bool false, .bool false] 35) = W1 := ⟨_, rfl⟩
  have hb1 : Below w.heap.size w W1 := by rw [← h1]; exact abelow _ _
  have HA : Hid (Ka w.heap.size A F [.int .i64 0, .string ⟨#[]⟩, .int .u32 0, .string ⟨#[]⟩, .int .i64 0, .int .u64 0, .int .i64 0, .bool false, .bool false, .int .u64 0, .bool false, .bool false, .bool false] W1) := hid (by rw [← h1, hA]; exact Ka.begin h.lt #[.int .i64 0, .string ⟨#[]⟩, .int .u32 0, .string ⟨#[]⟩, .int .i64 0, .int .u64 0, .int .i64 0, .bool false, .bool false, .int .u64 0, .bool false, .bool false, .bool false])
  have HW := hid (h.below hb1)
  have HS : Hid (Stp F F w W1) := hid (Stp.of_below hb1)
  rw [eq_comm] at hA
  clear h hb1
  go_enter Tryd.func51, Tryd.ntmps51
  go_upto_region 1 with fail
  clear h1
  obtain ⟨C, hX⟩ : ∃ C, W1.heap.size = C := ⟨_, rfl⟩
  obtain ⟨W2, h2⟩ : ∃ W2, W1.alloc (.cells #[.int .i64 s.c.op, .int .i64 s.c.mode, .string s.c.key, .string s.c.val, .int .u32 s.c.flags, .int .i64 s.c.exp, .bool s.c.hasExp, .int .u64 s.c.cas, .bool s.c.hasCas, .int .u64 s.c.delta, .int .u64 s.c.init, .bool s.c.down, .bool s.c.viv, .int .i64 s.c.vive, .int .i64 s.c.rcc, .bool s.c.inv] 28) = W2 := ⟨_, rfl⟩
  have hb2 : Below W1.heap.size W1 W2 := by rw [← h2]; exact abelow _ _
  have HB2 : Hid (Kc w.heap.size A C F [.int .i64 0, .string ⟨#[]⟩, .int .u32 0, .string ⟨#[]⟩, .int .i64 0, .int .u64 0, .int .i64 0, .bool false, .bool false, .int .u64 0, .bool false, .bool false, .bool false] [.int .i64 s.c.op, .int .i64 s.c.mode, .string s.c.key, .string s.c.val, .int .u32 s.c.flags, .int .i64 s.c.exp, .bool s.c.hasExp, .int .u64 s.c.cas, .bool s.c.hasCas, .int .u64 s.c.delta, .int .u64 s.c.init, .bool s.c.down, .bool s.c.viv, .int .i64 s.c.vive, .int .i64 s.c.rcc, .bool s.c.inv] W2) := hid (by rw [← h2, ← hX]; exact Kc.begin HA.out HW.out.lt #[.int .i64 s.c.op, .int .i64 s.c.mode, .string s.c.key, .string s.c.val, .int .u32 s.c.flags, .int .i64 s.c.exp, .bool s.c.hasExp, .int .u64 s.c.cas, .bool s.c.hasCas, .int .u64 s.c.delta, .int .u64 s.c.init, .bool s.c.down, .bool s.c.viv, .int .i64 s.c.vive, .int .i64 s.c.rcc, .bool s.c.inv])
  have HW2 := hid (HW.out.below hb2)
  have HS2 := hid (HS.out.below hb2)
  have H2 := hid h2
  obtain ⟨v, G, hB, -⟩ := HW.out
  have b3 := hB.cell (i := 3) rfl
  change W1.cell? ⟨B, 3, none⟩ = some (.int .i64 s.c.op) at b3
  have b4 := hB.cell (i := 4) rfl
  change W1.cell? ⟨B, 4, none⟩ = some (.int .i64 s.c.mode) at b4
  have b5 := hB.cell (i := 5) rfl
  change W1.cell? ⟨B, 5, none⟩ = some (.string s.c.key) at b5
  have b6 := hB.cell (i := 6) rfl
  change W1.cell? ⟨B, 6, none⟩ = some (.string s.c.val) at b6
  have b7 := hB.cell (i := 7) rfl
  change W1.cell? ⟨B, 7, none⟩ = some (.int .u32 s.c.flags) at b7
  have b8 := hB.cell (i := 8) rfl
  change W1.cell? ⟨B, 8, none⟩ = some (.int .i64 s.c.exp) at b8
  have b9 := hB.cell (i := 9) rfl
  change W1.cell? ⟨B, 9, none⟩ = some (.bool s.c.hasExp) at b9
  have b10 := hB.cell (i := 10) rfl
  change W1.cell? ⟨B, 10, none⟩ = some (.int .u64 s.c.cas) at b10
  have b11 := hB.cell (i := 11) rfl
  change W1.cell? ⟨B, 11, none⟩ = some (.bool s.c.hasCas) at b11
  have b12 := hB.cell (i := 12) rfl
  change W1.cell? ⟨B, 12, none⟩ = some (.int .u64 s.c.delta) at b12
  have b13 := hB.cell (i := 13) rfl
  change W1.cell? ⟨B, 13, none⟩ = some (.int .u64 s.c.init) at b13
  have b14 := hB.cell (i := 14) rfl
  change W1.cell? ⟨B, 14, none⟩ = some (.bool s.c.down) at b14
  have b15 := hB.cell (i := 15) rfl
  change W1.cell? ⟨B, 15, none⟩ = some (.bool s.c.viv) at b15
  have b16 := hB.cell (i := 16) rfl
  change W1.cell? ⟨B, 16, none⟩ = some (.int .i64 s.c.vive) at b16
  have b17 := hB.cell (i := 17) rfl
  change W1.cell? ⟨B, 17, none⟩ = some (.int .i64 s.c.rcc) at b17
  have b18 := hB.cell (i := 18) rfl
  change W1.cell? ⟨B, 18, none⟩ = some (.bool s.c.inv) at b18
  clear h2 hb2 HA HW HS hB
  go_upto_region 2 with fail
  try rw [hX]
  try rw [H2.out]
  clear hX H2 b3 b4 b5 b6 b7 b8 b9 b10 b11 b12 b13 b14 b15 b16 b17 b18
  have m0 := HB2.out.bc.cell (i := 0) rfl
  have m12 := HB2.out.bc.cell (i := 12) rfl
  change W2.cell? ⟨C, 0, none⟩ = some (.int .i64 s.c.op) at m0
  change W2.cell? ⟨C, 12, none⟩ = some (.bool s.c.viv) at m12
  --END
  cases hv : s.c.viv
  · have hR3 : R = (An.of 5, s) := by rw [HR.out, hv]; rfl
    rw [hv] at m12
    subst hR3
    clear HR hv hkp hct hmo htx
    --GEN no1
    have e0 := HB2.out.ba.cell (i := 0) rfl
    have f0 := HB2.out.ba.frozen 0
    have e1 := HB2.out.ba.cell (i := 1) rfl
    have f1 := HB2.out.ba.frozen 1
    have e2 := HB2.out.ba.cell (i := 2) rfl
    have f2 := HB2.out.ba.frozen 2
    have e3 := HB2.out.ba.cell (i := 3) rfl
    have f3 := HB2.out.ba.frozen 3
    have e4 := HB2.out.ba.cell (i := 4) rfl
    have f4 := HB2.out.ba.frozen 4
    have e5 := HB2.out.ba.cell (i := 5) rfl
    have f5 := HB2.out.ba.frozen 5
    have e6 := HB2.out.ba.cell (i := 6) rfl
    have f6 := HB2.out.ba.frozen 6
    have e7 := HB2.out.ba.cell (i := 7) rfl
    have f7 := HB2.out.ba.frozen 7
    have e8 := HB2.out.ba.cell (i := 8) rfl
    have f8 := HB2.out.ba.frozen 8
    have e9 := HB2.out.ba.cell (i := 9) rfl
    have f9 := HB2.out.ba.frozen 9
    have e10 := HB2.out.ba.cell (i := 10) rfl
    have f10 := HB2.out.ba.frozen 10
    have e11 := HB2.out.ba.cell (i := 11) rfl
    have f11 := HB2.out.ba.frozen 11
    have e12 := HB2.out.ba.cell (i := 12) rfl
    have f12 := HB2.out.ba.frozen 12
    go_wp2_with fail
    change bodyPost _ _ _ _ _ (stc W2 A (An.of 5).cells 0)
    exact bodyPost_ret (res_ans (a := An.of 5) rfl (stc_all HB2.out.ba rfl) rfl) rfl ⟨rfl, F, wp_stc HW2.out HB2.out.na _ _, stp_stc HS2.out HB2.out.ga _ _⟩
    --END
  · rw [hv] at m12
    by_cases ho : s.c.op = 1
    · have hR3 : R = (An.mk 1 (It.mk s.c.key 0 emp M D1 0 false true) 0 true false false, { s with cas := D1, l := s.kept ⟨s.c.key, 0, emp, M, D1, 0, false, true⟩ }) := by rw [HR.out, hv, decide_eq_true ho]; rfl
      rw [ho] at m0
      subst hR3
      clear HR hv ho hct htx
      --GEN viv
      have hd2 : Below W2.heap.size W2 W2.drew := Below.drew (Below.refl _ _)
      have HB3 := hid (HB2.out.step hd2)
      have HW3 := hid (HW2.out.below hd2)
      have HS3 := hid (HS2.out.below hd2)
      clear hd2 HB2 HW2 HS2
      go_upto_region 3 with fail
      go_cut [4] from 17 to 27 (fun d wx => ∃ (D : Nat) (F4 : Nat → Prop), d = .pointer (some ⟨D, 0, none⟩) ∧ Hid (Blk wx D 35 [.int .i64 1, .string s.c.key, .int .u32 0, .string emp, .int .i64 M, .int .u64 D1, .int .i64 0, .bool false, .bool true, .int .u64 0, .bool false, .bool false, .bool false]) ∧ Hid (Ka w.heap.size A F4 [.int .i64 0, .string ⟨#[]⟩, .int .u32 0, .string ⟨#[]⟩, .int .i64 0, .int .u64 0, .int .i64 0, .bool false, .bool false, .int .u64 0, .bool false, .bool false, .bool false] wx) ∧ Hid (WP B F4 { s with cas := D1, l := s.kept ⟨s.c.key, 0, emp, M, D1, 0, false, true⟩ } wx) ∧ Hid (Stp F F4 w wx) ∧ Hid (¬ F4 D ∧ A < D))
      case first =>
        obtain ⟨S, hSd⟩ : ∃ S : World → Prop, S = fun W => W.cell? ⟨C, 2, none⟩ = some (.string s.c.key) ∧ W.cell? ⟨C, 13, none⟩ = some (.int .i64 s.c.vive) := ⟨_, rfl⟩
        have hSk : ∀ W, Blk W C 28 [.int .i64 s.c.op, .int .i64 s.c.mode, .string s.c.key, .string s.c.val, .int .u32 s.c.flags, .int .i64 s.c.exp, .bool s.c.hasExp, .int .u64 s.c.cas, .bool s.c.hasCas, .int .u64 s.c.delta, .int .u64 s.c.init, .bool s.c.down, .bool s.c.viv, .int .i64 s.c.vive, .int .i64 s.c.rcc, .bool s.c.inv] → S W := fun W hW => by rw [hSd]; exact ⟨hW.cell (i := 2) rfl, hW.cell (i := 13) rfl⟩
        have hS : S W2.drew := hSk _ HB3.out.bc
        refine wp_region_E S 10 (by kernel_rfl) ?_
        refine wpAnyE_take (i := 0) (v := .pointer (some ⟨B, 0, none⟩)) rfl (by kernel_rfl) (by kernel_rfl) (by kernel_rfl) (fun _ _ _ h => h) (by kernel_rfl) (by kernel_rfl) hS (Or.inl ⟨by rfl, ?_⟩) ?_
        · intro w' hw'
          rw [hSd] at hw'; obtain ⟨s0, s1⟩ := hw'
          go_simp
        refine wpAnyE_take (i := 1) (v := .pointer (some ⟨C, 2, none⟩)) rfl (by kernel_rfl) (by kernel_rfl) (by kernel_rfl) (fun _ _ _ h => h) (by kernel_rfl) (by kernel_rfl) hS (Or.inl ⟨by rfl, ?_⟩) ?_
        · intro w' hw'
          rw [hSd] at hw'; obtain ⟨s0, s1⟩ := hw'
          go_simp
        refine wpAnyE_take (i := 2) (v := .string s.c.key) rfl (by kernel_rfl) (by kernel_rfl) (by kernel_rfl) (fun _ _ _ h => h) (by kernel_rfl) (by kernel_rfl) hS (Or.inl ⟨by rfl, ?_⟩) ?_
        · intro w' hw'
          rw [hSd] at hw'; obtain ⟨s0, s1⟩ := hw'
          go_simp
        refine wpAnyE_take (i := 3) (v := .pointer (some ⟨B, 0, none⟩)) rfl (by kernel_rfl) (by kernel_rfl) (by kernel_rfl) (fun _ _ _ h => h) (by kernel_rfl) (by kernel_rfl) hS (Or.inl ⟨by rfl, ?_⟩) ?_
        · intro w' hw'
          rw [hSd] at hw'; obtain ⟨s0, s1⟩ := hw'
          go_simp
        refine wpAnyE_take (i := 4) (v := .pointer (some ⟨C, 13, none⟩)) rfl (by kernel_rfl) (by kernel_rfl) (by kernel_rfl) (fun _ _ _ h => h) (by kernel_rfl) (by kernel_rfl) hS (Or.inl ⟨by rfl, ?_⟩) ?_
        · intro w' hw'
          rw [hSd] at hw'; obtain ⟨s0, s1⟩ := hw'
          go_simp
        refine wpAnyE_take (i := 5) (v := .int .i64 s.c.vive) rfl (by kernel_rfl) (by kernel_rfl) (by kernel_rfl) (fun _ _ _ h => h) (by kernel_rfl) (by kernel_rfl) hS (Or.inl ⟨by rfl, ?_⟩) ?_
        · intro w' hw'
          rw [hSd] at hw'; obtain ⟨s0, s1⟩ := hw'
          go_simp
        generalize W2.drew = W3 at *
        have hS3 := hS
        clear m0 m12 hS
        refine wpAnyE_two (i := 6) (j := 9) rfl rfl (by kernel_rfl) (fun K hK => ?_) (fun K hK => ?_)
        · go_simp
          refine (hmo W3 HW3.out.head).mono ?_
          rintro e _ ⟨rfl, rfl⟩
          refine hK _ _ (fun _ => hS3) ?_
          clear hK K
          have hS := hS3
          refine wpAnyE_take (i := 7) (v := .agg #[.string s.c.key, .int .u32 0, .string ⟨#[]⟩, .int .i64 M, .int .u64 0, .int .i64 0, .bool false, .bool true]) rfl (by kernel_rfl) (by kernel_rfl) (by kernel_rfl) (fun _ _ _ h => h) (by kernel_rfl) (by kernel_rfl) hS (Or.inl ⟨by rfl, ?_⟩) ?_
          · intro w' hw'
            rw [hSd] at hw'; obtain ⟨s0, s1⟩ := hw'
            go_simp
          clear hS
          refine wpAnyE_two (i := 8) (j := 9) rfl rfl (by kernel_rfl) (fun K hK => ?_) (fun K hK => ?_)

          · go_simp
            refine (hkp W3 HW3.out).mono ?_
            rintro e W4 ⟨rfl, F4, h4, k4⟩
            have HB4 := hid (HB3.out.stp k4)
            have HW4 := hid h4
            have HS4 := hid (HS3.out.trans k4)
            have hS4 : S W4 := hSk W4 HB4.out.bc
            refine hK _ _ (fun _ => hS4) ?_
            clear hK K
            refine wpAnyE_one (i := 9) rfl (by kernel_rfl) (fun K hK => ?_)
            go_simp
            obtain ⟨W5, h9⟩ : ∃ W5, W4.alloc (.cells #[.int .i64 0, .string ⟨#[]⟩, .int .u32 0, .string ⟨#[]⟩, .int .i64 0, .int .u64 0, .int .i64 0, .bool false, .bool false, .int .u64 0, .bool false, .bool false, .bool false] 35) = W5 := ⟨_, rfl⟩
            have hb9 : Below W4.heap.size W4 W5 := by rw [← h9]; exact abelow _ _
            have HD5 : Hid (Blk W5 W4.heap.size 35 [.int .i64 0, .string ⟨#[]⟩, .int .u32 0, .string ⟨#[]⟩, .int .i64 0, .int .u64 0, .int .i64 0, .bool false, .bool false, .int .u64 0, .bool false, .bool false, .bool false]) := hid (by rw [← h9]; exact Blk.new W4 #[.int .i64 0, .string ⟨#[]⟩, .int .u32 0, .string ⟨#[]⟩, .int .i64 0, .int .u64 0, .int .i64 0, .bool false, .bool false, .int .u64 0, .bool false, .bool false, .bool false] _)
            have HB5 := hid (HB4.out.step hb9)
            have HW5 := hid (HW4.out.below hb9)
            have HS5 := hid (HS4.out.below hb9)
            have hS5 : S W5 := hSk W5 HB5.out.bc
            refine hK _ _ (fun _ => by first | exact hS5 | (rw [h9]; exact hS5)) ?_
            clear hK K
            try rw [h9]
            have HN : Hid (¬ F4 W4.heap.size ∧ A < W4.heap.size) := hid ⟨HW4.out.new (Nat.le_refl _), HB4.out.ba.lt⟩
            refine wpAnyE_one (i := 10) rfl (by kernel_rfl) (fun K hK => ?_)
            have e0 := HD5.out.cell (i := 0) rfl
            have f0 := HD5.out.frozen 0
            have e1 := HD5.out.cell (i := 1) rfl
            have f1 := HD5.out.frozen 1
            have e2 := HD5.out.cell (i := 2) rfl
            have f2 := HD5.out.frozen 2
            have e3 := HD5.out.cell (i := 3) rfl
            have f3 := HD5.out.frozen 3
            have e4 := HD5.out.cell (i := 4) rfl
            have f4 := HD5.out.frozen 4
            have e5 := HD5.out.cell (i := 5) rfl
            have f5 := HD5.out.frozen 5
            have e6 := HD5.out.cell (i := 6) rfl
            have f6 := HD5.out.frozen 6
            have e7 := HD5.out.cell (i := 7) rfl
            have f7 := HD5.out.frozen 7
            have e8 := HD5.out.cell (i := 8) rfl
            have f8 := HD5.out.frozen 8
            have e9 := HD5.out.cell (i := 9) rfl
            have f9 := HD5.out.frozen 9
            have e10 := HD5.out.cell (i := 10) rfl
            have f10 := HD5.out.frozen 10
            have e11 := HD5.out.cell (i := 11) rfl
            have f11 := HD5.out.frozen 11
            have e12 := HD5.out.cell (i := 12) rfl
            have f12 := HD5.out.frozen 12
            go_simp
            refine hK _ (stc W5 W4.heap.size [.int .i64 1, .string s.c.key, .int .u32 0, .string emp, .int .i64 M, .int .u64 D1, .int .i64 0, .bool false, .bool true, .int .u64 0, .bool false, .bool false, .bool false] 0) (fun h => (by cases (show true = false from h))) (wpAnyE_done (by kernel_rfl) ?_ _)
            clear hK K
            have HDz := hid (stc_all (vs := [.int .i64 1, .string s.c.key, .int .u32 0, .string emp, .int .i64 M, .int .u64 D1, .int .i64 0, .bool false, .bool true, .int .u64 0, .bool false, .bool false, .bool false]) HD5.out rfl)
            have HAz : Hid (Ka w.heap.size A F4 [.int .i64 0, .string ⟨#[]⟩, .int .u32 0, .string ⟨#[]⟩, .int .i64 0, .int .u64 0, .int .i64 0, .bool false, .bool false, .int .u64 0, .bool false, .bool false, .bool false] (stc W5 W4.heap.size [.int .i64 1, .string s.c.key, .int .u32 0, .string emp, .int .i64 M, .int .u64 D1, .int .i64 0, .bool false, .bool true, .int .u64 0, .bool false, .bool false, .bool false] 0)) := hid ⟨stc_other (by have := HN.out.2; omega) _ 0 _ HB5.out.ba, HB5.out.na, HB5.out.ga⟩
            have HWz := hid (wp_stc HW5.out HN.out.1 [.int .i64 1, .string s.c.key, .int .u32 0, .string emp, .int .i64 M, .int .u64 D1, .int .i64 0, .bool false, .bool true, .int .u64 0, .bool false, .bool false, .bool false] 0)
            have HSz := hid (stp_stc HS5.out (b := W4.heap.size) (by have := HN.out.2; have := HB5.out.ga; omega) [.int .i64 1, .string s.c.key, .int .u32 0, .string emp, .int .i64 M, .int .u64 D1, .int .i64 0, .bool false, .bool true, .int .u64 0, .bool false, .bool false, .bool false] 0)
            clear e0 f0 e1 f1 e2 f2 e3 f3 e4 f4 e5 f5 e6 f6 e7 f7 e8 f8 e9 f9 e10 f10 e11 f11 e12 f12
            generalize stc W5 W4.heap.size [.int .i64 1, .string s.c.key, .int .u32 0, .string emp, .int .i64 M, .int .u64 D1, .int .i64 0, .bool false, .bool true, .int .u64 0, .bool false, .bool false, .bool false] 0 = Wz at *
            go_wp2_with fail
            go_meet
            exact ⟨_, F4, rfl, HDz, HAz, HWz, HSz, HN⟩
          · go_simp
            obtain ⟨W4, h9⟩ : ∃ W4, W3.alloc (.cells #[.int .i64 0, .string ⟨#[]⟩, .int .u32 0, .string ⟨#[]⟩, .int .i64 0, .int .u64 0, .int .i64 0, .bool false, .bool false, .int .u64 0, .bool false, .bool false, .bool false] 35) = W4 := ⟨_, rfl⟩
            have hb9 : Below W3.heap.size W3 W4 := by rw [← h9]; exact abelow _ _
            have HD4 : Hid (Blk W4 W3.heap.size 35 [.int .i64 0, .string ⟨#[]⟩, .int .u32 0, .string ⟨#[]⟩, .int .i64 0, .int .u64 0, .int .i64 0, .bool false, .bool false, .int .u64 0, .bool false, .bool false, .bool false]) := hid (by rw [← h9]; exact Blk.new W3 #[.int .i64 0, .string ⟨#[]⟩, .int .u32 0, .string ⟨#[]⟩, .int .i64 0, .int .u64 0, .int .i64 0, .bool false, .bool false, .int .u64 0, .bool false, .bool false, .bool false] _)
            have HB4 := hid (HB3.out.step hb9)
            have HW4 := hid (HW3.out.below hb9)
            have HS4 := hid (HS3.out.below hb9)
            have hS4 : S W4 := hSk W4 HB4.out.bc
            refine hK _ _ (fun _ => by first | exact hS4 | (rw [h9]; exact hS4)) ?_
            clear hK K
            try rw [h9]
            refine wpAnyE_one (i := 8) rfl (by kernel_rfl) (fun K hK => ?_)
            go_simp
            refine (hkp W4 HW4.out).mono ?_
            rintro e W5 ⟨rfl, F4, h4, k4⟩
            have HB5 := hid (HB4.out.stp k4)
            have HW5 := hid h4
            have HS5 := hid (HS4.out.trans k4)
            have hS5 : S W5 := hSk W5 HB5.out.bc
            refine hK _ _ (fun _ => hS5) ?_
            clear hK K
            have HDk := k4.blk HD4.out (HW3.out.new (Nat.le_refl _))
            have HD5 := hid HDk.1
            have HN : Hid (¬ F4 W3.heap.size ∧ A < W3.heap.size) := hid ⟨HDk.2, HB3.out.ba.lt⟩
            refine wpAnyE_one (i := 10) rfl (by kernel_rfl) (fun K hK => ?_)
            have e0 := HD5.out.cell (i := 0) rfl
            have f0 := HD5.out.frozen 0
            have e1 := HD5.out.cell (i := 1) rfl
            have f1 := HD5.out.frozen 1
            have e2 := HD5.out.cell (i := 2) rfl
            have f2 := HD5.out.frozen 2
            have e3 := HD5.out.cell (i := 3) rfl
            have f3 := HD5.out.frozen 3
            have e4 := HD5.out.cell (i := 4) rfl
            have f4 := HD5.out.frozen 4
            have e5 := HD5.out.cell (i := 5) rfl
            have f5 := HD5.out.frozen 5
            have e6 := HD5.out.cell (i := 6) rfl
            have f6 := HD5.out.frozen 6
            have e7 := HD5.out.cell (i := 7) rfl
            have f7 := HD5.out.frozen 7
            have e8 := HD5.out.cell (i := 8) rfl
            have f8 := HD5.out.frozen 8
            have e9 := HD5.out.cell (i := 9) rfl
            have f9 := HD5.out.frozen 9
            have e10 := HD5.out.cell (i := 10) rfl
            have f10 := HD5.out.frozen 10
            have e11 := HD5.out.cell (i := 11) rfl
            have f11 := HD5.out.frozen 11
            have e12 := HD5.out.cell (i := 12) rfl
            have f12 := HD5.out.frozen 12
            go_simp
            refine hK _ (stc W5 W3.heap.size [.int .i64 1, .string s.c.key, .int .u32 0, .string emp, .int .i64 M, .int .u64 D1, .int .i64 0, .bool false, .bool true, .int .u64 0, .bool false, .bool false, .bool false] 0) (fun h => (by cases (show true = false from h))) (wpAnyE_done (by kernel_rfl) ?_ _)
            clear hK K
            have HDz := hid (stc_all (vs := [.int .i64 1, .string s.c.key, .int .u32 0, .string emp, .int .i64 M, .int .u64 D1, .int .i64 0, .bool false, .bool true, .int .u64 0, .bool false, .bool false, .bool false]) HD5.out rfl)
            have HAz : Hid (Ka w.heap.size A F4 [.int .i64 0, .string ⟨#[]⟩, .int .u32 0, .string ⟨#[]⟩, .int .i64 0, .int .u64 0, .int .i64 0, .bool false, .bool false, .int .u64 0, .bool false, .bool false, .bool false] (stc W5 W3.heap.size [.int .i64 1, .string s.c.key, .int .u32 0, .string emp, .int .i64 M, .int .u64 D1, .int .i64 0, .bool false, .bool true, .int .u64 0, .bool false, .bool false, .bool false] 0)) := hid ⟨stc_other (by have := HN.out.2; omega) _ 0 _ HB5.out.ba, HB5.out.na, HB5.out.ga⟩
            have HWz := hid (wp_stc HW5.out HN.out.1 [.int .i64 1, .string s.c.key, .int .u32 0, .string emp, .int .i64 M, .int .u64 D1, .int .i64 0, .bool false, .bool true, .int .u64 0, .bool false, .bool false, .bool false] 0)
            have HSz := hid (stp_stc HS5.out (b := W3.heap.size) (by have := HN.out.2; have := HB5.out.ga; omega) [.int .i64 1, .string s.c.key, .int .u32 0, .string emp, .int .i64 M, .int .u64 D1, .int .i64 0, .bool false, .bool true, .int .u64 0, .bool false, .bool false, .bool false] 0)
            clear e0 f0 e1 f1 e2 f2 e3 f3 e4 f4 e5 f5 e6 f6 e7 f7 e8 f8 e9 f9 e10 f10 e11 f11 e12 f12
            generalize stc W5 W3.heap.size [.int .i64 1, .string s.c.key, .int .u32 0, .string emp, .int .i64 M, .int .u64 D1, .int .i64 0, .bool false, .bool true, .int .u64 0, .bool false, .bool false, .bool false] 0 = Wz at *
            go_wp2_with fail
            go_meet
            exact ⟨_, F4, rfl, HDz, HAz, HWz, HSz, HN⟩
        · go_simp
          obtain ⟨W4, h9⟩ : ∃ W4, W3.alloc (.cells #[.int .i64 0, .string ⟨#[]⟩, .int .u32 0, .string ⟨#[]⟩, .int .i64 0, .int .u64 0, .int .i64 0, .bool false, .bool false, .int .u64 0, .bool false, .bool false, .bool false] 35) = W4 := ⟨_, rfl⟩
          have hb9 : Below W3.heap.size W3 W4 := by rw [← h9]; exact abelow _ _
          have HD4 : Hid (Blk W4 W3.heap.size 35 [.int .i64 0, .string ⟨#[]⟩, .int .u32 0, .string ⟨#[]⟩, .int .i64 0, .int .u64 0, .int .i64 0, .bool false, .bool false, .int .u64 0, .bool false, .bool false, .bool false]) := hid (by rw [← h9]; exact Blk.new W3 #[.int .i64 0, .string ⟨#[]⟩, .int .u32 0, .string ⟨#[]⟩, .int .i64 0, .int .u64 0, .int .i64 0, .bool false, .bool false, .int .u64 0, .bool false, .bool false, .bool false] _)
          have HB4 := hid (HB3.out.step hb9)
          have HW4 := hid (HW3.out.below hb9)
          have HS4 := hid (HS3.out.below hb9)
          have hS4 : S W4 := hSk W4 HB4.out.bc
          refine hK _ _ (fun _ => by first | exact hS4 | (rw [h9]; exact hS4)) ?_
          clear hK K
          try rw [h9]
          refine wpAnyE_one (i := 6) rfl (by kernel_rfl) (fun K hK => ?_)
          go_simp
          refine (hmo W4 HW4.out.head).mono ?_
          rintro e _ ⟨rfl, rfl⟩
          refine hK _ _ (fun _ => hS4) ?_
          clear hK K
          have hS := hS4
          refine wpAnyE_take (i := 7) (v := .agg #[.string s.c.key, .int .u32 0, .string ⟨#[]⟩, .int .i64 M, .int .u64 0, .int .i64 0, .bool false, .bool true]) rfl (by kernel_rfl) (by kernel_rfl) (by kernel_rfl) (fun _ _ _ h => h) (by kernel_rfl) (by kernel_rfl) hS (Or.inl ⟨by rfl, ?_⟩) ?_
          · intro w' hw'
            rw [hSd] at hw'; obtain ⟨s0, s1⟩ := hw'
            go_simp
          clear hS
          refine wpAnyE_one (i := 8) rfl (by kernel_rfl) (fun K hK => ?_)
          go_simp
          refine (hkp W4 HW4.out).mono ?_
          rintro e W5 ⟨rfl, F4, h4, k4⟩
          have HB5 := hid (HB4.out.stp k4)
          have HW5 := hid h4
          have HS5 := hid (HS4.out.trans k4)
          have hS5 : S W5 := hSk W5 HB5.out.bc
          refine hK _ _ (fun _ => hS5) ?_
          clear hK K
          have HDk := k4.blk HD4.out (HW3.out.new (Nat.le_refl _))
          have HD5 := hid HDk.1
          have HN : Hid (¬ F4 W3.heap.size ∧ A < W3.heap.size) := hid ⟨HDk.2, HB3.out.ba.lt⟩
          refine wpAnyE_one (i := 10) rfl (by kernel_rfl) (fun K hK => ?_)
          have e0 := HD5.out.cell (i := 0) rfl
          have f0 := HD5.out.frozen 0
          have e1 := HD5.out.cell (i := 1) rfl
          have f1 := HD5.out.frozen 1
          have e2 := HD5.out.cell (i := 2) rfl
          have f2 := HD5.out.frozen 2
          have e3 := HD5.out.cell (i := 3) rfl
          have f3 := HD5.out.frozen 3
          have e4 := HD5.out.cell (i := 4) rfl
          have f4 := HD5.out.frozen 4
          have e5 := HD5.out.cell (i := 5) rfl
          have f5 := HD5.out.frozen 5
          have e6 := HD5.out.cell (i := 6) rfl
          have f6 := HD5.out.frozen 6
          have e7 := HD5.out.cell (i := 7) rfl
          have f7 := HD5.out.frozen 7
          have e8 := HD5.out.cell (i := 8) rfl
          have f8 := HD5.out.frozen 8
          have e9 := HD5.out.cell (i := 9) rfl
          have f9 := HD5.out.frozen 9
          have e10 := HD5.out.cell (i := 10) rfl
          have f10 := HD5.out.frozen 10
          have e11 := HD5.out.cell (i := 11) rfl
          have f11 := HD5.out.frozen 11
          have e12 := HD5.out.cell (i := 12) rfl
          have f12 := HD5.out.frozen 12
          go_simp
          refine hK _ (stc W5 W3.heap.size [.int .i64 1, .string s.c.key, .int .u32 0, .string emp, .int .i64 M, .int .u64 D1, .int .i64 0, .bool false, .bool true, .int .u64 0, .bool false, .bool false, .bool false] 0) (fun h => (by cases (show true = false from h))) (wpAnyE_done (by kernel_rfl) ?_ _)
          clear hK K
          have HDz := hid (stc_all (vs := [.int .i64 1, .string s.c.key, .int .u32 0, .string emp, .int .i64 M, .int .u64 D1, .int .i64 0, .bool false, .bool true, .int .u64 0, .bool false, .bool false, .bool false]) HD5.out rfl)
          have HAz : Hid (Ka w.heap.size A F4 [.int .i64 0, .string ⟨#[]⟩, .int .u32 0, .string ⟨#[]⟩, .int .i64 0, .int .u64 0, .int .i64 0, .bool false, .bool false, .int .u64 0, .bool false, .bool false, .bool false] (stc W5 W3.heap.size [.int .i64 1, .string s.c.key, .int .u32 0, .string emp, .int .i64 M, .int .u64 D1, .int .i64 0, .bool false, .bool true, .int .u64 0, .bool false, .bool false, .bool false] 0)) := hid ⟨stc_other (by have := HN.out.2; omega) _ 0 _ HB5.out.ba, HB5.out.na, HB5.out.ga⟩
          have HWz := hid (wp_stc HW5.out HN.out.1 [.int .i64 1, .string s.c.key, .int .u32 0, .string emp, .int .i64 M, .int .u64 D1, .int .i64 0, .bool false, .bool true, .int .u64 0, .bool false, .bool false, .bool false] 0)
          have HSz := hid (stp_stc HS5.out (b := W3.heap.size) (by have := HN.out.2; have := HB5.out.ga; omega) [.int .i64 1, .string s.c.key, .int .u32 0, .string emp, .int .i64 M, .int .u64 D1, .int .i64 0, .bool false, .bool true, .int .u64 0, .bool false, .bool false, .bool false] 0)
          clear e0 f0 e1 f1 e2 f2 e3 f3 e4 f4 e5 f5 e6 f6 e7 f7 e8 f8 e9 f9 e10 f10 e11 f11 e12 f12
          generalize stc W5 W3.heap.size [.int .i64 1, .string s.c.key, .int .u32 0, .string emp, .int .i64 M, .int .u64 D1, .int .i64 0, .bool false, .bool true, .int .u64 0, .bool false, .bool false, .bool false] 0 = Wz at *
          go_wp2_with fail
          go_meet
          exact ⟨_, F4, rfl, HDz, HAz, HWz, HSz, HN⟩
      case rest =>
        obtain ⟨D, F4, rfl, HD5, HA5, HW5, HS5, HN⟩ := hcut
        generalize wc = W5 at *
        clear hmo hkp HB3 HW3 HS3 m0 m12
        have d10 := HD5.out.cell (i := 10) rfl
        have g10 := HD5.out.frozen 10
        have lD := HD5.out.lt
        have HD6 := hid (HD5.out.set 10 (.bool true))
        have HA6 : Hid (Ka w.heap.size A F4 [.int .i64 0, .string ⟨#[]⟩, .int .u32 0, .string ⟨#[]⟩, .int .i64 0, .int .u64 0, .int .i64 0, .bool false, .bool false, .int .u64 0, .bool false, .bool false, .bool false] (W5.setCell ⟨D, 10, none⟩ (.bool true))) := hid ⟨HA5.out.ba.setOther (p := ⟨D, 10, none⟩) (by have := HN.out.2; show A ≠ D; omega) _, HA5.out.na, HA5.out.ga⟩
        have HW6 := hid (wp_own HW5.out HN.out.1 10 (.bool true))
        have HS6 := hid (stp_own HS5.out (b := D) (by have := HN.out.2; have := HA5.out.ga; omega) 10 (.bool true))
        clear HD5 HA5 HW5 HS5
        go_upto_region 5 with fail
        generalize W5.setCell ⟨D, 10, none⟩ (.bool true) = W6 at *
        clear d10 g10 lD
        have d0 := HD6.out.cell (i := 0) rfl
        have d1 := HD6.out.cell (i := 1) rfl
        have d2 := HD6.out.cell (i := 2) rfl
        have d3 := HD6.out.cell (i := 3) rfl
        have d4 := HD6.out.cell (i := 4) rfl
        have d5 := HD6.out.cell (i := 5) rfl
        have d6 := HD6.out.cell (i := 6) rfl
        have d7 := HD6.out.cell (i := 7) rfl
        have d8 := HD6.out.cell (i := 8) rfl
        have d9 := HD6.out.cell (i := 9) rfl
        have d10 := HD6.out.cell (i := 10) rfl
        have d11 := HD6.out.cell (i := 11) rfl
        have d12 := HD6.out.cell (i := 12) rfl
        have e0 := HA6.out.ba.cell (i := 0) rfl
        have f0 := HA6.out.ba.frozen 0
        have e1 := HA6.out.ba.cell (i := 1) rfl
        have f1 := HA6.out.ba.frozen 1
        have e2 := HA6.out.ba.cell (i := 2) rfl
        have f2 := HA6.out.ba.frozen 2
        have e3 := HA6.out.ba.cell (i := 3) rfl
        have f3 := HA6.out.ba.frozen 3
        have e4 := HA6.out.ba.cell (i := 4) rfl
        have f4 := HA6.out.ba.frozen 4
        have e5 := HA6.out.ba.cell (i := 5) rfl
        have f5 := HA6.out.ba.frozen 5
        have e6 := HA6.out.ba.cell (i := 6) rfl
        have f6 := HA6.out.ba.frozen 6
        have e7 := HA6.out.ba.cell (i := 7) rfl
        have f7 := HA6.out.ba.frozen 7
        have e8 := HA6.out.ba.cell (i := 8) rfl
        have f8 := HA6.out.ba.frozen 8
        have e9 := HA6.out.ba.cell (i := 9) rfl
        have f9 := HA6.out.ba.frozen 9
        have e10 := HA6.out.ba.cell (i := 10) rfl
        have f10 := HA6.out.ba.frozen 10
        have e11 := HA6.out.ba.cell (i := 11) rfl
        have f11 := HA6.out.ba.frozen 11
        have e12 := HA6.out.ba.cell (i := 12) rfl
        have f12 := HA6.out.ba.frozen 12
        go_wp2_with fail
        change bodyPost _ _ _ _ _ (stc W6 A (An.mk 1 (It.mk s.c.key 0 emp M D1 0 false true) 0 true false false).cells 0)
        exact bodyPost_ret (res_ans (a := An.mk 1 (It.mk s.c.key 0 emp M D1 0 false true) 0 true false false) rfl (stc_all HA6.out.ba rfl) rfl) rfl ⟨rfl, F4, wp_stc HW6.out HA6.out.na _ _, stp_stc HS6.out HA6.out.ga _ _⟩
      --END
    · have ho' : (s.c.op == 1) = false := beq_eq_false_iff_ne.2 ho
      by_cases ho3 : s.c.op = 3
      · have hR3 : R = s.cnt ⟨s.c.key, 0, T, M, 0, 0, false, false⟩ := by rw [HR.out, hv, decide_eq_false ho, decide_eq_true ho3]; rfl
        rw [ho3] at m0
        clear HR hv ho ho' hkp
        rw [← hR3] at hct
        clear hR3
        obtain ⟨⟨ast, ⟨ak, af, av, ae, ac, al, asb, ao⟩, an, aw, ax, az⟩, S2⟩ := R
        simp only [an_all] at hct
        --GEN cnt
        have hd2 : Below W2.heap.size W2 W2.drew := Below.drew (Below.refl _ _)
        have HB3 := hid (HB2.out.step hd2)
        have HW3 := hid (HW2.out.below hd2)
        have HS3 := hid (HS2.out.below hd2)
        clear hd2 HB2 HW2 HS2
        go_upto_region 7 with fail
        obtain ⟨S, hSd⟩ : ∃ S : World → Prop, S = fun W => W.cell? ⟨C, 2, none⟩ = some (.string s.c.key) ∧ W.cell? ⟨C, 10, none⟩ = some (.int .u64 s.c.init) ∧ W.cell? ⟨C, 13, none⟩ = some (.int .i64 s.c.vive) := ⟨_, rfl⟩
        have hSk : ∀ W, Blk W C 28 [.int .i64 s.c.op, .int .i64 s.c.mode, .string s.c.key, .string s.c.val, .int .u32 s.c.flags, .int .i64 s.c.exp, .bool s.c.hasExp, .int .u64 s.c.cas, .bool s.c.hasCas, .int .u64 s.c.delta, .int .u64 s.c.init, .bool s.c.down, .bool s.c.viv, .int .i64 s.c.vive, .int .i64 s.c.rcc, .bool s.c.inv] → S W := fun W hW => by rw [hSd]; exact ⟨hW.cell (i := 2) rfl, hW.cell (i := 10) rfl, hW.cell (i := 13) rfl⟩
        have hS : S W2.drew := hSk _ HB3.out.bc
        refine wp_region_E S 12 (by kernel_rfl) ?_
        refine wpAnyE_take (i := 0) (v := .pointer (some ⟨B, 0, none⟩)) rfl (by kernel_rfl) (by kernel_rfl) (by kernel_rfl) (fun _ _ _ h => h) (by kernel_rfl) (by kernel_rfl) hS (Or.inl ⟨by rfl, ?_⟩) ?_
        · intro w' hw'
          rw [hSd] at hw'; obtain ⟨s0, s1, s2⟩ := hw'
          go_simp
        refine wpAnyE_take (i := 1) (v := .pointer (some ⟨C, 2, none⟩)) rfl (by kernel_rfl) (by kernel_rfl) (by kernel_rfl) (fun _ _ _ h => h) (by kernel_rfl) (by kernel_rfl) hS (Or.inl ⟨by rfl, ?_⟩) ?_
        · intro w' hw'
          rw [hSd] at hw'; obtain ⟨s0, s1, s2⟩ := hw'
          go_simp
        refine wpAnyE_take (i := 2) (v := .string s.c.key) rfl (by kernel_rfl) (by kernel_rfl) (by kernel_rfl) (fun _ _ _ h => h) (by kernel_rfl) (by kernel_rfl) hS (Or.inl ⟨by rfl, ?_⟩) ?_
        · intro w' hw'
          rw [hSd] at hw'; obtain ⟨s0, s1, s2⟩ := hw'
          go_simp
        refine wpAnyE_take (i := 3) (v := .pointer (some ⟨C, 10, none⟩)) rfl (by kernel_rfl) (by kernel_rfl) (by kernel_rfl) (fun _ _ _ h => h) (by kernel_rfl) (by kernel_rfl) hS (Or.inl ⟨by rfl, ?_⟩) ?_
        · intro w' hw'
          rw [hSd] at hw'; obtain ⟨s0, s1, s2⟩ := hw'
          go_simp
        refine wpAnyE_take (i := 4) (v := .int .u64 s.c.init) rfl (by kernel_rfl) (by kernel_rfl) (by kernel_rfl) (fun _ _ _ h => h) (by kernel_rfl) (by kernel_rfl) hS (Or.inl ⟨by rfl, ?_⟩) ?_
        · intro w' hw'
          rw [hSd] at hw'; obtain ⟨s0, s1, s2⟩ := hw'
          go_simp
        refine wpAnyE_take (i := 6) (v := .pointer (some ⟨B, 0, none⟩)) rfl (by kernel_rfl) (by kernel_rfl) (by kernel_rfl) (fun _ _ _ h => h) (by kernel_rfl) (by kernel_rfl) hS (Or.inl ⟨by rfl, ?_⟩) ?_
        · intro w' hw'
          rw [hSd] at hw'; obtain ⟨s0, s1, s2⟩ := hw'
          go_simp
        refine wpAnyE_take (i := 7) (v := .pointer (some ⟨C, 13, none⟩)) rfl (by kernel_rfl) (by kernel_rfl) (by kernel_rfl) (fun _ _ _ h => h) (by kernel_rfl) (by kernel_rfl) hS (Or.inl ⟨by rfl, ?_⟩) ?_
        · intro w' hw'
          rw [hSd] at hw'; obtain ⟨s0, s1, s2⟩ := hw'
          go_simp
        refine wpAnyE_take (i := 8) (v := .int .i64 s.c.vive) rfl (by kernel_rfl) (by kernel_rfl) (by kernel_rfl) (fun _ _ _ h => h) (by kernel_rfl) (by kernel_rfl) hS (Or.inl ⟨by rfl, ?_⟩) ?_
        · intro w' hw'
          rw [hSd] at hw'; obtain ⟨s0, s1, s2⟩ := hw'
          go_simp
        generalize W2.drew = W3 at *
        clear m0 m12
        refine wpAnyE_one (i := 5) rfl (by kernel_rfl) (fun K hK => ?_)
        go_simp
        refine (htx W3 ((HG.out.stp HS3.out).v)).mono ?_
        rintro e W4 ⟨rfl, hb4⟩
        have HB4 := hid (HB3.out.step hb4)
        have HW4 := hid (HW3.out.below hb4)
        have HS4 := hid (HS3.out.below hb4)
        have hS4 : S W4 := hSk W4 HB4.out.bc
        refine hK _ _ (fun _ => hS4) ?_
        clear hK K hb4 HB3 HW3 HS3 hS
        refine wpAnyE_one (i := 9) rfl (by kernel_rfl) (fun K hK => ?_)
        go_simp
        refine (hmo W4 HW4.out.head).mono ?_
        rintro e _ ⟨rfl, rfl⟩
        refine hK _ _ (fun _ => hS4) ?_
        clear hK K
        refine wpAnyE_one (i := 10) rfl (by kernel_rfl) (fun K hK => ?_)
        go_simp
        refine hK _ _ (fun _ => hS4) ?_
        clear hK K
        refine wpAnyE_one (i := 11) rfl (by kernel_rfl) (fun K hK => ?_)
        go_simp
        refine (hct W4 HW4.out (HG.out.stp HS4.out)).mono ?_
        rintro e W5 ⟨rfl, F5, h5, k5⟩
        have HB5 := hid (HB4.out.stp k5)
        have HW5 := hid h5
        have HS5 := hid (HS4.out.trans k5)
        have hS5 : S W5 := hSk W5 HB5.out.bc
        refine hK _ _ (fun _ => hS5) ?_
        clear hK K h5 k5 HB4 HW4 HS4 hS5 hct
        refine wpAnyE_one (i := 12) rfl (by kernel_rfl) (fun K hK => ?_)
        have e0 := HB5.out.ba.cell (i := 0) rfl
        have f0 := HB5.out.ba.frozen 0
        have e1 := HB5.out.ba.cell (i := 1) rfl
        have f1 := HB5.out.ba.frozen 1
        have e2 := HB5.out.ba.cell (i := 2) rfl
        have f2 := HB5.out.ba.frozen 2
        have e3 := HB5.out.ba.cell (i := 3) rfl
        have f3 := HB5.out.ba.frozen 3
        have e4 := HB5.out.ba.cell (i := 4) rfl
        have f4 := HB5.out.ba.frozen 4
        have e5 := HB5.out.ba.cell (i := 5) rfl
        have f5 := HB5.out.ba.frozen 5
        have e6 := HB5.out.ba.cell (i := 6) rfl
        have f6 := HB5.out.ba.frozen 6
        have e7 := HB5.out.ba.cell (i := 7) rfl
        have f7 := HB5.out.ba.frozen 7
        have e8 := HB5.out.ba.cell (i := 8) rfl
        have f8 := HB5.out.ba.frozen 8
        have e9 := HB5.out.ba.cell (i := 9) rfl
        have f9 := HB5.out.ba.frozen 9
        have e10 := HB5.out.ba.cell (i := 10) rfl
        have f10 := HB5.out.ba.frozen 10
        have e11 := HB5.out.ba.cell (i := 11) rfl
        have f11 := HB5.out.ba.frozen 11
        have e12 := HB5.out.ba.cell (i := 12) rfl
        have f12 := HB5.out.ba.frozen 12
        go_simp
        refine hK _ (stc W5 A (An.mk ast (It.mk ak af av ae ac al asb ao) an aw ax az).cells 0) (fun h => (by cases (show true = false from h))) (wpAnyE_done (by kernel_rfl) ?_ _)
        clear hK K
        have HA6 := hid (stc_all (vs := (An.mk ast (It.mk ak af av ae ac al asb ao) an aw ax az).cells) HB5.out.ba rfl)
        have HW6 := hid (wp_stc HW5.out HB5.out.na (An.mk ast (It.mk ak af av ae ac al asb ao) an aw ax az).cells 0)
        have HS6 := hid (stp_stc HS5.out HB5.out.ga (An.mk ast (It.mk ak af av ae ac al asb ao) an aw ax az).cells 0)
        clear e0 f0 e1 f1 e2 f2 e3 f3 e4 f4 e5 f5 e6 f6 e7 f7 e8 f8 e9 f9 e10 f10 e11 f11 e12 f12
        generalize stc W5 A (An.mk ast (It.mk ak af av ae ac al asb ao) an aw ax az).cells 0 = W6 at *
        go_wp2_with fail
        exact bodyPost_ret (res_ans (a := An.mk ast (It.mk ak af av ae ac al asb ao) an aw ax az) rfl HA6.out rfl) rfl ⟨rfl, F5, HW6.out, HS6.out⟩
        --END
      · have ho3' : (s.c.op == 3) = false := beq_eq_false_iff_ne.2 ho3
        have hR3 : R = (An.of 5, s) := by rw [HR.out, hv, decide_eq_false ho, decide_eq_false ho3]; rfl
        subst hR3
        clear HR hv hkp hct hmo htx
        generalize s.c.op = op at *
        --GEN no2
        have e0 := HB2.out.ba.cell (i := 0) rfl
        have f0 := HB2.out.ba.frozen 0
        have e1 := HB2.out.ba.cell (i := 1) rfl
        have f1 := HB2.out.ba.frozen 1
        have e2 := HB2.out.ba.cell (i := 2) rfl
        have f2 := HB2.out.ba.frozen 2
        have e3 := HB2.out.ba.cell (i := 3) rfl
        have f3 := HB2.out.ba.frozen 3
        have e4 := HB2.out.ba.cell (i := 4) rfl
        have f4 := HB2.out.ba.frozen 4
        have e5 := HB2.out.ba.cell (i := 5) rfl
        have f5 := HB2.out.ba.frozen 5
        have e6 := HB2.out.ba.cell (i := 6) rfl
        have f6 := HB2.out.ba.frozen 6
        have e7 := HB2.out.ba.cell (i := 7) rfl
        have f7 := HB2.out.ba.frozen 7
        have e8 := HB2.out.ba.cell (i := 8) rfl
        have f8 := HB2.out.ba.frozen 8
        have e9 := HB2.out.ba.cell (i := 9) rfl
        have f9 := HB2.out.ba.frozen 9
        have e10 := HB2.out.ba.cell (i := 10) rfl
        have f10 := HB2.out.ba.frozen 10
        have e11 := HB2.out.ba.cell (i := 11) rfl
        have f11 := HB2.out.ba.frozen 11
        have e12 := HB2.out.ba.cell (i := 12) rfl
        have f12 := HB2.out.ba.frozen 12
        go_wp2_with fail
        change bodyPost _ _ _ _ _ (stc W2 A (An.of 5).cells 0)
        exact bodyPost_ret (res_ans (a := An.of 5) rfl (stc_all HB2.out.ba rfl) rfl) rfl ⟨rfl, F, wp_stc HW2.out HB2.out.na _ _, stp_stc HS2.out HB2.out.ga _ _⟩
        --END
end
end Go.Proofs.YtpgljahomeebhaaDoor.Md

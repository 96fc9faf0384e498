/-
  The contract of do: a command is done to what is worked on. Conditions: the items stand in order, and are not over many; now is a moment; texts are not over long.
-/
import Derived.Test.YtpgljahomeebhaaDoorMpMiss
namespace Go.Proofs.YtpgljahomeebhaaDoor.Md
open Go Go.RowKit Go.Lib

def Wk.run (s : Wk) : An × Wk :=
  if s.c.op = 2 then s.sto
  else if s.c.op = 6 then s.flu
  else if s.there = false then s.mis
  else if s.c.op = 1 then s.getR
  else if s.c.op = 3 then s.count
  else if s.c.op = 4 then s.tou
  else if s.c.op = 5 then s.rem
  else (An.is 1 s.x, s)
/-- What a command may be done to. -/
structure Wk.Fine (s : Wk) : Prop where
  sorted : Sorted s.l
  len : s.l.length ≤ 4194304
  ix : s.ix < s.l.length
  n1 : 1 ≤ s.now
  n2 : s.now ≤ 1099511627776
  e1 : 0 ≤ s.x.exp
  e2 : s.x.exp ≤ 9223372036854775807
  key : s.x.key.size ≤ 1048576
  ckey : s.c.op ≠ 6 → s.c.key.size ≤ 1048576
  val : s.x.val.size + s.c.val.size ≤ 2097152
  init : s.c.init < 18446744073709551616
section
variable {B : Nat} {F : Nat → Prop} {s : Wk} {w w0 : World}
set_option maxHeartbeats 2000000 in
set_option maxRecDepth 100000 in
theorem wk_do (h : WP B F s w) (hg : Bg w0 F w) (hf : s.Fine) :
    Calls Tryd.prog 34 #[.pointer (some ⟨B, 0, none⟩)] w fun e w' => e = .returned s.run.1.v ∧ ∃ F', WP B F' s.run.2 w' ∧ Stp F F' w w' := by
  obtain ⟨R, hR⟩ : ∃ R, R = s.run := ⟨_, rfl⟩
  rw [← hR]
  have HR := hid (show R = (if s.c.op = 2 then s.sto else if s.c.op = 6 then s.flu else if s.there = false then s.mis else if s.c.op = 1 then s.getR else if s.c.op = 3 then s.count else if s.c.op = 4 then s.tou else if s.c.op = 5 then s.rem else (An.is 1 s.x, s)) from hR)
  have HG := hid hg
  have HF := hid hf
  clear hR hg hf
  --GEN open
  obtain ⟨A, hA⟩ : ∃ A, A = w.heap.size := ⟨_, rfl⟩
  obtain ⟨W1, h1⟩ : ∃ W1, w.alloc (.cells #[.int .i64 0, .string ⟨#[]⟩, .int .u32 0, .string ⟨#[]⟩, .int .i64 0, .int .u64 0, .int .i64 0, .bool false, .bool false, .int .u64 0, .bool false, .bool false, .bool false] 35) = W1 := ⟨_, rfl⟩
  have hb1 : Below w.heap.size w W1 := by rw [← h1]; exact abelow _ _
  have HA : Hid (Ka w.heap.size A F [.int .i64 0, .string ⟨#[]⟩, .int .u32 0, .string ⟨#[]⟩, .int .i64 0, .int .u64 0, .int .i64 0, .bool false, .bool false, .int .u64 0, .bool false, .bool false, .bool false] W1) := hid (by rw [← h1, hA]; exact Ka.begin h.lt #[.int .i64 0, .string ⟨#[]⟩, .int .u32 0, .string ⟨#[]⟩, .int .i64 0, .int .u64 0, .int .i64 0, .bool false, .bool false, .int .u64 0, .bool false, .bool false, .bool false])
  have HW := hid (h.below hb1)
  have HS : Hid (Stp F F w W1) := hid (Stp.of_below hb1)
  rw [eq_comm] at hA
  clear h hb1
  go_enter Tryd.func34, Tryd.ntmps34
  go_upto_region 1 with fail
  clear h1
  obtain ⟨v, G, hB, -⟩ := HW.out
  have b3 := hB.cell (i := 3) rfl
  change W1.cell? ⟨B, 3, none⟩ = some (.int .i64 s.c.op) at b3
  clear hB
  have ht := wk_there HW.out.head
  --END
  by_cases o2 : s.c.op = 2
  · have hc : Calls Tryd.prog 49 #[.pointer (some ⟨B, 0, none⟩)] W1 fun e w' => e = .returned R.1.v ∧ ∃ F', WP B F' R.2 w' ∧ Stp F F' W1 w' := by
      rw [HR.out, if_pos o2]; exact wk_store HW.out HF.out.sorted HF.out.len HF.out.ix HF.out.n1 HF.out.n2 HF.out.key (HF.out.ckey (by omega)) HF.out.val
    rw [o2] at b3
    --GEN l2
    clear HR
    obtain ⟨⟨ast, ⟨ak, af, av, ae, ac, al, asb, ao⟩, an, aw, ax, az⟩, S2⟩ := R
    simp only [an_all] at hc
    generalize s.c.op = op at *
    go_wp2_with fail
    refine hc.mono ?_
    rintro e W2 ⟨rfl, F2, h2, k2⟩
    have HA2 := hid (HA.out.stp k2)
    have HW2 := hid h2
    have HS2 := hid (HS.out.trans k2)
    clear h2 k2 hc HA HW HS ht b3
    have e0 := HA2.out.ba.cell (i := 0) rfl
    have f0 := HA2.out.ba.frozen 0
    have e1 := HA2.out.ba.cell (i := 1) rfl
    have f1 := HA2.out.ba.frozen 1
    have e2 := HA2.out.ba.cell (i := 2) rfl
    have f2 := HA2.out.ba.frozen 2
    have e3 := HA2.out.ba.cell (i := 3) rfl
    have f3 := HA2.out.ba.frozen 3
    have e4 := HA2.out.ba.cell (i := 4) rfl
    have f4 := HA2.out.ba.frozen 4
    have e5 := HA2.out.ba.cell (i := 5) rfl
    have f5 := HA2.out.ba.frozen 5
    have e6 := HA2.out.ba.cell (i := 6) rfl
    have f6 := HA2.out.ba.frozen 6
    have e7 := HA2.out.ba.cell (i := 7) rfl
    have f7 := HA2.out.ba.frozen 7
    have e8 := HA2.out.ba.cell (i := 8) rfl
    have f8 := HA2.out.ba.frozen 8
    have e9 := HA2.out.ba.cell (i := 9) rfl
    have f9 := HA2.out.ba.frozen 9
    have e10 := HA2.out.ba.cell (i := 10) rfl
    have f10 := HA2.out.ba.frozen 10
    have e11 := HA2.out.ba.cell (i := 11) rfl
    have f11 := HA2.out.ba.frozen 11
    have e12 := HA2.out.ba.cell (i := 12) rfl
    have f12 := HA2.out.ba.frozen 12
    go_wp2_with fail
    change bodyPost _ _ _ _ _ (stc W2 A (An.mk ast (It.mk ak af av ae ac al asb ao) an aw ax az).cells 0)
    exact bodyPost_ret (res_ans (a := An.mk ast (It.mk ak af av ae ac al asb ao) an aw ax az) rfl (stc_all HA2.out.ba rfl) rfl) rfl ⟨rfl, F2, wp_stc HW2.out HA2.out.na _ _, stp_stc HS2.out HA2.out.ga _ _⟩
    --END
  · have o2' : (s.c.op == 2) = false := beq_eq_false_iff_ne.2 o2
    by_cases o6 : s.c.op = 6
    · have hc : Calls Tryd.prog 50 #[.pointer (some ⟨B, 0, none⟩)] W1 fun e w' => e = .returned R.1.v ∧ ∃ F', WP B F' R.2 w' ∧ Stp F F' W1 w' := by
        rw [HR.out, if_neg o2, if_pos o6]; exact wk_flush HW.out HF.out.n1 HF.out.n2
      rw [o6] at b3
      --GEN l6
      clear HR
      obtain ⟨⟨ast, ⟨ak, af, av, ae, ac, al, asb, ao⟩, an, aw, ax, az⟩, S2⟩ := R
      simp only [an_all] at hc
      generalize s.c.op = op at *
      go_wp2_with fail
      refine hc.mono ?_
      rintro e W2 ⟨rfl, F2, h2, k2⟩
      have HA2 := hid (HA.out.stp k2)
      have HW2 := hid h2
      have HS2 := hid (HS.out.trans k2)
      clear h2 k2 hc HA HW HS ht b3
      have e0 := HA2.out.ba.cell (i := 0) rfl
      have f0 := HA2.out.ba.frozen 0
      have e1 := HA2.out.ba.cell (i := 1) rfl
      have f1 := HA2.out.ba.frozen 1
      have e2 := HA2.out.ba.cell (i := 2) rfl
      have f2 := HA2.out.ba.frozen 2
      have e3 := HA2.out.ba.cell (i := 3) rfl
      have f3 := HA2.out.ba.frozen 3
      have e4 := HA2.out.ba.cell (i := 4) rfl
      have f4 := HA2.out.ba.frozen 4
      have e5 := HA2.out.ba.cell (i := 5) rfl
      have f5 := HA2.out.ba.frozen 5
      have e6 := HA2.out.ba.cell (i := 6) rfl
      have f6 := HA2.out.ba.frozen 6
      have e7 := HA2.out.ba.cell (i := 7) rfl
      have f7 := HA2.out.ba.frozen 7
      have e8 := HA2.out.ba.cell (i := 8) rfl
      have f8 := HA2.out.ba.frozen 8
      have e9 := HA2.out.ba.cell (i := 9) rfl
      have f9 := HA2.out.ba.frozen 9
      have e10 := HA2.out.ba.cell (i := 10) rfl
      have f10 := HA2.out.ba.frozen 10
      have e11 := HA2.out.ba.cell (i := 11) rfl
      have f11 := HA2.out.ba.frozen 11
      have e12 := HA2.out.ba.cell (i := 12) rfl
      have f12 := HA2.out.ba.frozen 12
      go_wp2_with fail
      change bodyPost _ _ _ _ _ (stc W2 A (An.mk ast (It.mk ak af av ae ac al asb ao) an aw ax az).cells 0)
      exact bodyPost_ret (res_ans (a := An.mk ast (It.mk ak af av ae ac al asb ao) an aw ax az) rfl (stc_all HA2.out.ba rfl) rfl) rfl ⟨rfl, F2, wp_stc HW2.out HA2.out.na _ _, stp_stc HS2.out HA2.out.ga _ _⟩
      --END
    · have o6' : (s.c.op == 6) = false := beq_eq_false_iff_ne.2 o6
      cases hth : s.there
      · have hc : Calls Tryd.prog 51 #[.pointer (some ⟨B, 0, none⟩)] W1 fun e w' => e = .returned R.1.v ∧ ∃ F', WP B F' R.2 w' ∧ Stp F F' W1 w' := by
          rw [HR.out, if_neg o2, if_neg o6, if_pos hth]; exact wk_miss HW.out (HG.out.stp HS.out) HF.out.sorted HF.out.len HF.out.ix HF.out.n1 HF.out.n2 (HF.out.ckey o6) HF.out.init
        rw [hth] at ht
        --GEN lm
        clear HR
        obtain ⟨⟨ast, ⟨ak, af, av, ae, ac, al, asb, ao⟩, an, aw, ax, az⟩, S2⟩ := R
        simp only [an_all] at hc
        generalize s.c.op = op at *
        go_wp2_with (refine ht.mono ?_; rintro e _ ⟨rfl, rfl⟩)
        refine hc.mono ?_
        rintro e W2 ⟨rfl, F2, h2, k2⟩
        have HA2 := hid (HA.out.stp k2)
        have HW2 := hid h2
        have HS2 := hid (HS.out.trans k2)
        clear h2 k2 hc HA HW HS ht b3
        have e0 := HA2.out.ba.cell (i := 0) rfl
        have f0 := HA2.out.ba.frozen 0
        have e1 := HA2.out.ba.cell (i := 1) rfl
        have f1 := HA2.out.ba.frozen 1
        have e2 := HA2.out.ba.cell (i := 2) rfl
        have f2 := HA2.out.ba.frozen 2
        have e3 := HA2.out.ba.cell (i := 3) rfl
        have f3 := HA2.out.ba.frozen 3
        have e4 := HA2.out.ba.cell (i := 4) rfl
        have f4 := HA2.out.ba.frozen 4
        have e5 := HA2.out.ba.cell (i := 5) rfl
        have f5 := HA2.out.ba.frozen 5
        have e6 := HA2.out.ba.cell (i := 6) rfl
        have f6 := HA2.out.ba.frozen 6
        have e7 := HA2.out.ba.cell (i := 7) rfl
        have f7 := HA2.out.ba.frozen 7
        have e8 := HA2.out.ba.cell (i := 8) rfl
        have f8 := HA2.out.ba.frozen 8
        have e9 := HA2.out.ba.cell (i := 9) rfl
        have f9 := HA2.out.ba.frozen 9
        have e10 := HA2.out.ba.cell (i := 10) rfl
        have f10 := HA2.out.ba.frozen 10
        have e11 := HA2.out.ba.cell (i := 11) rfl
        have f11 := HA2.out.ba.frozen 11
        have e12 := HA2.out.ba.cell (i := 12) rfl
        have f12 := HA2.out.ba.frozen 12
        go_wp2_with fail
        change bodyPost _ _ _ _ _ (stc W2 A (An.mk ast (It.mk ak af av ae ac al asb ao) an aw ax az).cells 0)
        exact bodyPost_ret (res_ans (a := An.mk ast (It.mk ak af av ae ac al asb ao) an aw ax az) rfl (stc_all HA2.out.ba rfl) rfl) rfl ⟨rfl, F2, wp_stc HW2.out HA2.out.na _ _, stp_stc HS2.out HA2.out.ga _ _⟩
        --END
      · rw [hth] at ht
        have hth' : ¬ s.there = false := by rw [hth]; decide
        by_cases o1 : s.c.op = 1
        · have hc : Calls Tryd.prog 52 #[.pointer (some ⟨B, 0, none⟩)] W1 fun e w' => e = .returned R.1.v ∧ ∃ F', WP B F' R.2 w' ∧ Stp F F' W1 w' := by
            rw [HR.out, if_neg o2, if_neg o6, if_neg hth', if_pos o1]; exact wk_get HW.out HF.out.sorted HF.out.len HF.out.ix HF.out.n1 HF.out.n2 HF.out.e1 HF.out.e2
          rw [o1] at b3
          --GEN l1
          clear HR
          obtain ⟨⟨ast, ⟨ak, af, av, ae, ac, al, asb, ao⟩, an, aw, ax, az⟩, S2⟩ := R
          simp only [an_all] at hc
          generalize s.c.op = op at *
          go_wp2_with (refine ht.mono ?_; rintro e _ ⟨rfl, rfl⟩)
          refine hc.mono ?_
          rintro e W2 ⟨rfl, F2, h2, k2⟩
          have HA2 := hid (HA.out.stp k2)
          have HW2 := hid h2
          have HS2 := hid (HS.out.trans k2)
          clear h2 k2 hc HA HW HS ht b3
          have e0 := HA2.out.ba.cell (i := 0) rfl
          have f0 := HA2.out.ba.frozen 0
          have e1 := HA2.out.ba.cell (i := 1) rfl
          have f1 := HA2.out.ba.frozen 1
          have e2 := HA2.out.ba.cell (i := 2) rfl
          have f2 := HA2.out.ba.frozen 2
          have e3 := HA2.out.ba.cell (i := 3) rfl
          have f3 := HA2.out.ba.frozen 3
          have e4 := HA2.out.ba.cell (i := 4) rfl
          have f4 := HA2.out.ba.frozen 4
          have e5 := HA2.out.ba.cell (i := 5) rfl
          have f5 := HA2.out.ba.frozen 5
          have e6 := HA2.out.ba.cell (i := 6) rfl
          have f6 := HA2.out.ba.frozen 6
          have e7 := HA2.out.ba.cell (i := 7) rfl
          have f7 := HA2.out.ba.frozen 7
          have e8 := HA2.out.ba.cell (i := 8) rfl
          have f8 := HA2.out.ba.frozen 8
          have e9 := HA2.out.ba.cell (i := 9) rfl
          have f9 := HA2.out.ba.frozen 9
          have e10 := HA2.out.ba.cell (i := 10) rfl
          have f10 := HA2.out.ba.frozen 10
          have e11 := HA2.out.ba.cell (i := 11) rfl
          have f11 := HA2.out.ba.frozen 11
          have e12 := HA2.out.ba.cell (i := 12) rfl
          have f12 := HA2.out.ba.frozen 12
          go_wp2_with fail
          change bodyPost _ _ _ _ _ (stc W2 A (An.mk ast (It.mk ak af av ae ac al asb ao) an aw ax az).cells 0)
          exact bodyPost_ret (res_ans (a := An.mk ast (It.mk ak af av ae ac al asb ao) an aw ax az) rfl (stc_all HA2.out.ba rfl) rfl) rfl ⟨rfl, F2, wp_stc HW2.out HA2.out.na _ _, stp_stc HS2.out HA2.out.ga _ _⟩
          --END
        · have o1' : (s.c.op == 1) = false := beq_eq_false_iff_ne.2 o1
          by_cases o3 : s.c.op = 3
          · have hc : Calls Tryd.prog 53 #[.pointer (some ⟨B, 0, none⟩)] W1 fun e w' => e = .returned R.1.v ∧ ∃ F', WP B F' R.2 w' ∧ Stp F F' W1 w' := by
              rw [HR.out, if_neg o2, if_neg o6, if_neg hth', if_neg o1, if_pos o3]; exact wk_count HW.out (HG.out.stp HS.out) HF.out.sorted HF.out.len HF.out.ix HF.out.n1 HF.out.n2 HF.out.key
            rw [o3] at b3
            --GEN l3
            clear HR
            obtain ⟨⟨ast, ⟨ak, af, av, ae, ac, al, asb, ao⟩, an, aw, ax, az⟩, S2⟩ := R
            simp only [an_all] at hc
            generalize s.c.op = op at *
            go_wp2_with (refine ht.mono ?_; rintro e _ ⟨rfl, rfl⟩)
            refine hc.mono ?_
            rintro e W2 ⟨rfl, F2, h2, k2⟩
            have HA2 := hid (HA.out.stp k2)
            have HW2 := hid h2
            have HS2 := hid (HS.out.trans k2)
            clear h2 k2 hc HA HW HS ht b3
            have e0 := HA2.out.ba.cell (i := 0) rfl
            have f0 := HA2.out.ba.frozen 0
            have e1 := HA2.out.ba.cell (i := 1) rfl
            have f1 := HA2.out.ba.frozen 1
            have e2 := HA2.out.ba.cell (i := 2) rfl
            have f2 := HA2.out.ba.frozen 2
            have e3 := HA2.out.ba.cell (i := 3) rfl
            have f3 := HA2.out.ba.frozen 3
            have e4 := HA2.out.ba.cell (i := 4) rfl
            have f4 := HA2.out.ba.frozen 4
            have e5 := HA2.out.ba.cell (i := 5) rfl
            have f5 := HA2.out.ba.frozen 5
            have e6 := HA2.out.ba.cell (i := 6) rfl
            have f6 := HA2.out.ba.frozen 6
            have e7 := HA2.out.ba.cell (i := 7) rfl
            have f7 := HA2.out.ba.frozen 7
            have e8 := HA2.out.ba.cell (i := 8) rfl
            have f8 := HA2.out.ba.frozen 8
            have e9 := HA2.out.ba.cell (i := 9) rfl
            have f9 := HA2.out.ba.frozen 9
            have e10 := HA2.out.ba.cell (i := 10) rfl
            have f10 := HA2.out.ba.frozen 10
            have e11 := HA2.out.ba.cell (i := 11) rfl
            have f11 := HA2.out.ba.frozen 11
            have e12 := HA2.out.ba.cell (i := 12) rfl
            have f12 := HA2.out.ba.frozen 12
            go_wp2_with fail
            change bodyPost _ _ _ _ _ (stc W2 A (An.mk ast (It.mk ak af av ae ac al asb ao) an aw ax az).cells 0)
            exact bodyPost_ret (res_ans (a := An.mk ast (It.mk ak af av ae ac al asb ao) an aw ax az) rfl (stc_all HA2.out.ba rfl) rfl) rfl ⟨rfl, F2, wp_stc HW2.out HA2.out.na _ _, stp_stc HS2.out HA2.out.ga _ _⟩
            --END
          · have o3' : (s.c.op == 3) = false := beq_eq_false_iff_ne.2 o3
            by_cases o4 : s.c.op = 4
            · have hc : Calls Tryd.prog 54 #[.pointer (some ⟨B, 0, none⟩)] W1 fun e w' => e = .returned R.1.v ∧ ∃ F', WP B F' R.2 w' ∧ Stp F F' W1 w' := by
                rw [HR.out, if_neg o2, if_neg o6, if_neg hth', if_neg o1, if_neg o3, if_pos o4]; exact wk_touch HW.out HF.out.sorted HF.out.len HF.out.ix HF.out.n1 HF.out.n2
              rw [o4] at b3
              --GEN l4
              clear HR
              obtain ⟨⟨ast, ⟨ak, af, av, ae, ac, al, asb, ao⟩, an, aw, ax, az⟩, S2⟩ := R
              simp only [an_all] at hc
              generalize s.c.op = op at *
              go_wp2_with (refine ht.mono ?_; rintro e _ ⟨rfl, rfl⟩)
              refine hc.mono ?_
              rintro e W2 ⟨rfl, F2, h2, k2⟩
              have HA2 := hid (HA.out.stp k2)
              have HW2 := hid h2
              have HS2 := hid (HS.out.trans k2)
              clear h2 k2 hc HA HW HS ht b3
              have e0 := HA2.out.ba.cell (i := 0) rfl
              have f0 := HA2.out.ba.frozen 0
              have e1 := HA2.out.ba.cell (i := 1) rfl
              have f1 := HA2.out.ba.frozen 1
              have e2 := HA2.out.ba.cell (i := 2) rfl
              have f2 := HA2.out.ba.frozen 2
              have e3 := HA2.out.ba.cell (i := 3) rfl
              have f3 := HA2.out.ba.frozen 3
              have e4 := HA2.out.ba.cell (i := 4) rfl
              have f4 := HA2.out.ba.frozen 4
              have e5 := HA2.out.ba.cell (i := 5) rfl
              have f5 := HA2.out.ba.frozen 5
              have e6 := HA2.out.ba.cell (i := 6) rfl
              have f6 := HA2.out.ba.frozen 6
              have e7 := HA2.out.ba.cell (i := 7) rfl
              have f7 := HA2.out.ba.frozen 7
              have e8 := HA2.out.ba.cell (i := 8) rfl
              have f8 := HA2.out.ba.frozen 8
              have e9 := HA2.out.ba.cell (i := 9) rfl
              have f9 := HA2.out.ba.frozen 9
              have e10 := HA2.out.ba.cell (i := 10) rfl
              have f10 := HA2.out.ba.frozen 10
              have e11 := HA2.out.ba.cell (i := 11) rfl
              have f11 := HA2.out.ba.frozen 11
              have e12 := HA2.out.ba.cell (i := 12) rfl
              have f12 := HA2.out.ba.frozen 12
              go_wp2_with fail
              change bodyPost _ _ _ _ _ (stc W2 A (An.mk ast (It.mk ak af av ae ac al asb ao) an aw ax az).cells 0)
              exact bodyPost_ret (res_ans (a := An.mk ast (It.mk ak af av ae ac al asb ao) an aw ax az) rfl (stc_all HA2.out.ba rfl) rfl) rfl ⟨rfl, F2, wp_stc HW2.out HA2.out.na _ _, stp_stc HS2.out HA2.out.ga _ _⟩
              --END
            · have o4' : (s.c.op == 4) = false := beq_eq_false_iff_ne.2 o4
              by_cases o5 : s.c.op = 5
              · have hc : Calls Tryd.prog 55 #[.pointer (some ⟨B, 0, none⟩)] W1 fun e w' => e = .returned R.1.v ∧ ∃ F', WP B F' R.2 w' ∧ Stp F F' W1 w' := by
                  rw [HR.out, if_neg o2, if_neg o6, if_neg hth', if_neg o1, if_neg o3, if_neg o4, if_pos o5]; exact wk_remove HW.out HF.out.sorted HF.out.len HF.out.ix (of_decide_eq_true hth) HF.out.n1 HF.out.n2
                rw [o5] at b3
                --GEN l5
                clear HR
                obtain ⟨⟨ast, ⟨ak, af, av, ae, ac, al, asb, ao⟩, an, aw, ax, az⟩, S2⟩ := R
                simp only [an_all] at hc
                generalize s.c.op = op at *
                go_wp2_with (refine ht.mono ?_; rintro e _ ⟨rfl, rfl⟩)
                refine hc.mono ?_
                rintro e W2 ⟨rfl, F2, h2, k2⟩
                have HA2 := hid (HA.out.stp k2)
                have HW2 := hid h2
                have HS2 := hid (HS.out.trans k2)
                clear h2 k2 hc HA HW HS ht b3
                have e0 := HA2.out.ba.cell (i := 0) rfl
                have f0 := HA2.out.ba.frozen 0
                have e1 := HA2.out.ba.cell (i := 1) rfl
                have f1 := HA2.out.ba.frozen 1
                have e2 := HA2.out.ba.cell (i := 2) rfl
                have f2 := HA2.out.ba.frozen 2
                have e3 := HA2.out.ba.cell (i := 3) rfl
                have f3 := HA2.out.ba.frozen 3
                have e4 := HA2.out.ba.cell (i := 4) rfl
                have f4 := HA2.out.ba.frozen 4
                have e5 := HA2.out.ba.cell (i := 5) rfl
                have f5 := HA2.out.ba.frozen 5
                have e6 := HA2.out.ba.cell (i := 6) rfl
                have f6 := HA2.out.ba.frozen 6
                have e7 := HA2.out.ba.cell (i := 7) rfl
                have f7 := HA2.out.ba.frozen 7
                have e8 := HA2.out.ba.cell (i := 8) rfl
                have f8 := HA2.out.ba.frozen 8
                have e9 := HA2.out.ba.cell (i := 9) rfl
                have f9 := HA2.out.ba.frozen 9
                have e10 := HA2.out.ba.cell (i := 10) rfl
                have f10 := HA2.out.ba.frozen 10
                have e11 := HA2.out.ba.cell (i := 11) rfl
                have f11 := HA2.out.ba.frozen 11
                have e12 := HA2.out.ba.cell (i := 12) rfl
                have f12 := HA2.out.ba.frozen 12
                go_wp2_with fail
                change bodyPost _ _ _ _ _ (stc W2 A (An.mk ast (It.mk ak af av ae ac al asb ao) an aw ax az).cells 0)
                exact bodyPost_ret (res_ans (a := An.mk ast (It.mk ak af av ae ac al asb ao) an aw ax az) rfl (stc_all HA2.out.ba rfl) rfl) rfl ⟨rfl, F2, wp_stc HW2.out HA2.out.na _ _, stp_stc HS2.out HA2.out.ga _ _⟩
                --END
              · have o5' : (s.c.op == 5) = false := beq_eq_false_iff_ne.2 o5
                have hR3 : R = (An.is 1 s.x, s) := by rw [HR.out, if_neg o2, if_neg o6, if_neg hth', if_neg o1, if_neg o3, if_neg o4, if_neg o5]
                subst hR3
                --GEN l7
                obtain ⟨v, G, hB, -⟩ := HW.out
                have b22 := hB.cell (i := 22) rfl
                have b23 := hB.cell (i := 23) rfl
                have b24 := hB.cell (i := 24) rfl
                have b25 := hB.cell (i := 25) rfl
                have b26 := hB.cell (i := 26) rfl
                have b27 := hB.cell (i := 27) rfl
                have b28 := hB.cell (i := 28) rfl
                have b29 := hB.cell (i := 29) rfl
                clear hB
                clear HR
                generalize s.c.op = op at *
                have e0 := HA.out.ba.cell (i := 0) rfl
                have f0 := HA.out.ba.frozen 0
                have e1 := HA.out.ba.cell (i := 1) rfl
                have f1 := HA.out.ba.frozen 1
                have e2 := HA.out.ba.cell (i := 2) rfl
                have f2 := HA.out.ba.frozen 2
                have e3 := HA.out.ba.cell (i := 3) rfl
                have f3 := HA.out.ba.frozen 3
                have e4 := HA.out.ba.cell (i := 4) rfl
                have f4 := HA.out.ba.frozen 4
                have e5 := HA.out.ba.cell (i := 5) rfl
                have f5 := HA.out.ba.frozen 5
                have e6 := HA.out.ba.cell (i := 6) rfl
                have f6 := HA.out.ba.frozen 6
                have e7 := HA.out.ba.cell (i := 7) rfl
                have f7 := HA.out.ba.frozen 7
                have e8 := HA.out.ba.cell (i := 8) rfl
                have f8 := HA.out.ba.frozen 8
                have e9 := HA.out.ba.cell (i := 9) rfl
                have f9 := HA.out.ba.frozen 9
                have e10 := HA.out.ba.cell (i := 10) rfl
                have f10 := HA.out.ba.frozen 10
                have e11 := HA.out.ba.cell (i := 11) rfl
                have f11 := HA.out.ba.frozen 11
                have e12 := HA.out.ba.cell (i := 12) rfl
                have f12 := HA.out.ba.frozen 12
                go_wp2_with (refine ht.mono ?_; rintro e _ ⟨rfl, rfl⟩)
                change bodyPost _ _ _ _ _ (stc W1 A (An.is 1 s.x).cells 0)
                exact bodyPost_ret (res_ans (a := An.is 1 s.x) rfl (stc_all HA.out.ba rfl) rfl) rfl ⟨rfl, F, wp_stc HW.out HA.out.na _ _, stp_stc HS.out HA.out.ga _ _⟩
                --END
end
end Go.Proofs.YtpgljahomeebhaaDoor.Md

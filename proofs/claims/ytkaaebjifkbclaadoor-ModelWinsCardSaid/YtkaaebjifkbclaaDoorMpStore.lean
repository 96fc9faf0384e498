/-
  The contracts of refusal, stored, store. Conditions: the items stand in order, and are not over many; now is a moment; texts are not over long.
-/
import Derived.Test.YtkaaebjifkbclaaDoorMpGet
namespace Go.Proofs.YtkaaebjifkbclaaDoor.Md
open Go Go.RowKit Go.Lib

def Wk.refu (s : Wk) : Int :=
  if s.there then (if s.c.mode = 1 then 3 else if s.oth && !(s.c.inv && decide (s.c.cas < s.x.cas)) then 4 else 0)
  else (if 2 ≤ s.c.mode then 3 else if s.c.hasCas then 5 else 0)
def ccs (c : Cm) : Array Value := #[.int .i64 c.op, .int .i64 c.mode, .string c.key, .string c.val, .int .u32 c.flags, .int .i64 c.exp, .bool c.hasExp, .int .u64 c.cas, .bool c.hasCas, .int .u64 c.delta, .int .u64 c.init, .bool c.down, .bool c.viv, .int .i64 c.vive, .int .i64 c.rcc, .bool c.inv]
section
variable {B : Nat} {F : Nat → Prop} {s : Wk} {w : World}
set_option maxHeartbeats 1000000 in
set_option maxRecDepth 100000 in
theorem wk_refusal (h : WR B s w) : Calls Tryd.prog 56 #[.pointer (some ⟨B, 0, none⟩)] w fun e w' => e = .returned (.int .i64 s.refu) ∧ Below w.heap.size w w' := by
  obtain ⟨C, hC⟩ : ∃ C, C = w.heap.size := ⟨_, rfl⟩
  obtain ⟨W1, h1⟩ : ∃ W1, w.alloc (.cells #[.int .i64 s.c.op, .int .i64 s.c.mode, .string s.c.key, .string s.c.val, .int .u32 s.c.flags, .int .i64 s.c.exp, .bool s.c.hasExp, .int .u64 s.c.cas, .bool s.c.hasCas, .int .u64 s.c.delta, .int .u64 s.c.init, .bool s.c.down, .bool s.c.viv, .int .i64 s.c.vive, .int .i64 s.c.rcc, .bool s.c.inv] 28) = W1 := ⟨_, rfl⟩
  have hb1 : Below w.heap.size w W1 := by rw [← h1]; exact abelow _ _
  have hX : Blk W1 C 28 [.int .i64 s.c.op, .int .i64 s.c.mode, .string s.c.key, .string s.c.val, .int .u32 s.c.flags, .int .i64 s.c.exp, .bool s.c.hasExp, .int .u64 s.c.cas, .bool s.c.hasCas, .int .u64 s.c.delta, .int .u64 s.c.init, .bool s.c.down, .bool s.c.viv, .int .i64 s.c.vive, .int .i64 s.c.rcc, .bool s.c.inv] := by rw [← h1, hC]; exact Blk.new w #[.int .i64 s.c.op, .int .i64 s.c.mode, .string s.c.key, .string s.c.val, .int .u32 s.c.flags, .int .i64 s.c.exp, .bool s.c.hasExp, .int .u64 s.c.cas, .bool s.c.hasCas, .int .u64 s.c.delta, .int .u64 s.c.init, .bool s.c.down, .bool s.c.viv, .int .i64 s.c.vive, .int .i64 s.c.rcc, .bool s.c.inv] _
  have HH1 := hid (h.below hb1)
  obtain ⟨v, hB⟩ := h
  --GEN cells
  have b3 := hB.cell (i := 3) rfl
  have b4 := hB.cell (i := 4) rfl
  have b5 := hB.cell (i := 5) rfl
  have b6 := hB.cell (i := 6) rfl
  have b7 := hB.cell (i := 7) rfl
  have b8 := hB.cell (i := 8) rfl
  have b9 := hB.cell (i := 9) rfl
  have b10 := hB.cell (i := 10) rfl
  have b11 := hB.cell (i := 11) rfl
  have b12 := hB.cell (i := 12) rfl
  have b13 := hB.cell (i := 13) rfl
  have b14 := hB.cell (i := 14) rfl
  have b15 := hB.cell (i := 15) rfl
  have b16 := hB.cell (i := 16) rfl
  have b17 := hB.cell (i := 17) rfl
  have b18 := hB.cell (i := 18) rfl
  --END
  have m1 := hX.cell (i := 1) rfl
  have m7 := hX.cell (i := 7) rfl
  have m8 := hX.cell (i := 8) rfl
  have m15 := hX.cell (i := 15) rfl
  obtain ⟨v1, hB1⟩ := HH1.out
  have k26 := hB1.cell (i := 26) rfl
  change W1.cell? ⟨B, 26, none⟩ = some (.int .u64 s.x.cas) at k26
  have ht := wk_there HH1.out
  have hot := fun n => (wk_oth' (HH1.out.below (below_drewN' W1 n))).mono (fun e w' (hq : e = .returned (.bool s.oth) ∧ ∃ m, w' = (W1.drewN n).drewN m) => (show e = .returned (.bool s.oth) ∧ ∃ m, w' = W1.drewN m from ⟨hq.1, n + hq.2.choose, hq.2.choose_spec.trans (World.drewN_drewN _ _ _)⟩))
  have HB1 := hid hb1
  have HD := fun n => hb1.trans ((below_drewN' W1 n).mono hb1.size)
  obtain ⟨R, hR⟩ : ∃ R, R = s.refu := ⟨_, rfl⟩
  rw [← hR]
  have HR := hid (show R = if s.there then (if s.c.mode = 1 then 3 else if s.oth && !(s.c.inv && decide (s.c.cas < s.x.cas)) then 4 else 0) else (if 2 ≤ s.c.mode then 3 else if s.c.hasCas then 5 else 0) from hR)
  have HO := hid (show s.oth = (s.c.hasCas && decide (s.c.cas ≠ s.x.cas)) from rfl)
  have hC2 := hC.symm
  have H1 := hid h1
  clear hR hB hB1 hX hC hb1 h1 HH1
  go_enter Tryd.func56, Tryd.ntmps56
  go_upto_region 2 with fail
  try rw [hC2]
  rw [H1.out]
  --GEN clr
  clear b3 b4 b5 b6 b7 b8 b9 b10 b11 b12 b13 b14 b15 b16 b17 b18
  --END
  cases hth : s.there
  · rw [hth] at ht
    by_cases hm : 2 ≤ s.c.mode
    · have hR3 : R = 3 := by rw [HR.out, hth, if_neg (by decide), if_pos hm]
      subst hR3
      clear HR HO hth hot
      generalize s.c.mode = md at *
      go_wp2_with (refine ht.mono ?_; rintro e _ ⟨rfl, rfl⟩)
      go_ret
      exact ⟨rfl, HB1.out⟩
    · cases hca : s.c.hasCas
      · have ho : s.oth = false := by rw [HO.out, hca]; rfl
        rw [ho] at hot
        rw [hca] at m8
        have hR3 : R = 0 := by rw [HR.out, hth, if_neg (by decide), if_neg hm, hca]; rfl
        subst hR3
        clear HR HO hth hca ho
        generalize s.c.mode = md at *
        go_wp2_with (refine ht.mono ?_; rintro e _ ⟨rfl, rfl⟩)
        go_quiet (exact hot _)
        go_wp2_with fail
        go_ret
        exact ⟨rfl, HD _⟩
      · rw [hca] at m8
        have hR3 : R = 5 := by rw [HR.out, hth, if_neg (by decide), if_neg hm, hca]; rfl
        subst hR3
        clear HR HO hth hca hot
        generalize s.c.mode = md at *
        go_wp2_with (refine ht.mono ?_; rintro e _ ⟨rfl, rfl⟩)
        go_ret
        exact ⟨rfl, HB1.out⟩
  · rw [hth] at ht
    by_cases hm : s.c.mode = 1
    · rw [hm] at m1
      have hR3 : R = 3 := by rw [HR.out, hth, if_pos rfl, if_pos hm]
      subst hR3
      clear HR HO hth hot hm
      generalize s.c.mode = md at *
      go_wp2_with (refine ht.mono ?_; rintro e _ ⟨rfl, rfl⟩)
      go_ret
      exact ⟨rfl, HB1.out⟩
    · have hm' : (s.c.mode == 1) = false := beq_eq_false_iff_ne.2 hm
      cases ho : s.oth
      · rw [ho] at hot
        have hR3 : R = 0 := by rw [HR.out, hth, if_pos rfl, if_neg hm, ho]; rfl
        subst hR3
        clear HR HO hth ho
        generalize s.c.mode = md at *
        go_wp2_with (refine ht.mono ?_; rintro e _ ⟨rfl, rfl⟩)
        go_quiet (exact hot _)
        go_wp2_with fail
        go_ret
        exact ⟨rfl, HD _⟩
      · rw [ho] at hot
        cases hv : s.c.inv
        · rw [hv] at m15
          have hR3 : R = 4 := by rw [HR.out, hth, if_pos rfl, if_neg hm, ho, hv]; rfl
          subst hR3
          clear HR HO hth ho hv
          generalize s.c.mode = md at *
          go_wp2_with (refine ht.mono ?_; rintro e _ ⟨rfl, rfl⟩)
          go_quiet (exact hot _)
          go_wp2_with fail
          go_ret
          exact ⟨rfl, HD _⟩
        · rw [hv] at m15
          by_cases hl : s.c.cas < s.x.cas
          · have hl' : (s.c.cas : Int) < (s.x.cas : Int) := by omega
            have hR3 : R = 0 := by rw [HR.out, hth, if_pos rfl, if_neg hm, ho, hv, decide_eq_true hl]; rfl
            subst hR3
            clear HR HO hth ho hv
            generalize s.c.mode = md at *
            go_wp2_with (refine ht.mono ?_; rintro e _ ⟨rfl, rfl⟩)
            go_quiet (exact hot _)
            go_wp2_with fail
            go_ret
            exact ⟨rfl, HD _⟩
          · have hl' : decide ((s.c.cas : Int) < (s.x.cas : Int)) = false := decide_eq_false (by omega)
            have hl2 : decide (s.c.cas < s.x.cas) = false := decide_eq_false hl
            have hR3 : R = 4 := by rw [HR.out, hth, if_pos rfl, if_neg hm, ho, hv, hl2]; rfl
            subst hR3
            clear HR HO hth ho hv
            generalize s.c.mode = md at *
            go_wp2_with (refine ht.mono ?_; rintro e _ ⟨rfl, rfl⟩)
            go_quiet (exact hot _)
            go_wp2_with fail
            go_ret
            exact ⟨rfl, HD _⟩
end
end Go.Proofs.YtkaaebjifkbclaaDoor.Md

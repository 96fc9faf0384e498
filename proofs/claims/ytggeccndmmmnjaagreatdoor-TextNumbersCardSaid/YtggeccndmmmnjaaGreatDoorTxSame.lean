/-
  '==' and '!=' on commands that are the same; the document's own Same of two requests that are the same. Conditions: a request has at most 2^31 commands.
-/
import Derived.Test.YtggeccndmmmnjaaGreatDoorTxShown
import Derived.BigQuiet
namespace Go.Proofs.YtggeccndmmmnjaaGreatDoor.Tx
open Go Go.RowKit Go.Lib Md

theorem cm_equal (x : Cm) (W : World) : (Op.equalIn 10000 37 (cv x) (cv x)).run Tryz.prog W = .ok true W := by
  obtain ⟨x0, x1, x2, x3, x4, x5, x6, x7, x8, x9, x10, x11, x12, x13, x14, x15⟩ := x
  simp only [cv, cc]
  rw [run_equalIn_agg W 9999 37 _ _ (by kernel_rfl) (by kernel_rfl)]
  simp only [Program.fieldsOf, Tryz.underlying37]
  simp [go_sem, Tryz.underlying3, Tryz.underlying9, Tryz.underlying31, Tryz.underlying32, Tryz.underlying2, Tryz.underlying4]
theorem cm_neq (x : Cm) (W : World) : (binOp .neq 37 (cv x) (cv x)).run Tryz.prog W = .ok (.bool false) W := by
  have h := cm_equal x W
  unfold cv at h ⊢
  rw [run_neq_struct, h]; rfl
theorem cm_eql (x : Cm) (W : World) : (binOp .eql 37 (cv x) (cv x)).run Tryz.prog W = .ok (.bool true) W := by
  have h := cm_equal x W
  unfold cv at h ⊢
  rw [run_eql_struct, h]; rfl
theorem cms_at {n₀ : Nat} {w : World} {a : Option Addr} {n c : Nat} {l : List Cm} (h : Cms n₀ w (.slice a n c) l) {i : Nat} {x : Cm} (hi : l[i]? = some x) : ∃ b o, a = some ⟨b, o, none⟩ ∧ ∀ j u, (cc x)[j]? = some u → w.cell? ⟨b, o + i * 16 + j, none⟩ = some u := by
  obtain ⟨a', c', hv, -, -, hx⟩ := h
  injection hv with e1
  subst e1
  exact hx i x hi
theorem beq_S (l : List UInt8) : ((S l).toList == (S l).toList) = true := beq_self_eq_true _
set_option maxHeartbeats 4000000 in
set_option maxRecDepth 100000 in
theorem same_yes {n₀ : Nat} {q : Rq} {cs cs' : Value} {w : World} (h1 : Cms n₀ w cs q.cmds) (h2 : Cms n₀ w cs' q.cmds) (hlen : q.cmds.length ≤ 4194304) :
    Calls Tryz.prog 9 #[.agg (rqc q cs).toArray, .agg (rqc q cs').toArray] w fun e w' => e = .returned (.bool true) ∧ Below w.heap.size w w' := by
  obtain ⟨h0, hz, z, hb⟩ := alloc2 w (rqc q cs).toArray (rqc q cs').toArray 26 26
  have H1 := hidc (h1.below hb)
  have H2 := hidc (h2.below hb)
  obtain ⟨a1, c1, rfl, -⟩ := h1
  obtain ⟨a2, c2, rfl, -⟩ := h2
  have hsame := fun W => same_texts (.slice none 0 0) (.slice none 0 0) [] (by decide) W ⟨none, 0, rfl, Nat.le_refl _, fun j x h => (by simp at h)⟩ ⟨none, 0, rfl, Nat.le_refl _, fun j x h => (by simp at h)⟩
  have HA := hidc (And.intro h0 (And.intro hz hb))
  have HL := hidc hlen
  obtain ⟨kd, cms, qt, tk, rp, ag, sk, cl⟩ := q
  obtain ⟨N, hN⟩ : ∃ N, cms.length = N := ⟨_, rfl⟩
  simp only [rqc, hN] at H1 H2 HA HL ⊢
  have HN := hidc hN
  clear hlen hN h0 hz hb z
  go_enter Tryz.func9, Tryz.ntmps9
  go_upto_region 1 with fail
  obtain ⟨hA, hB, hbb⟩ := HA.out
  clear HA
  generalize (w.alloc (.cells _ 26)).alloc (.cells _ 26) = W at *
  have a9 := hA.cell (i := 9) rfl
  have b9 := hB.cell (i := 9) rfl
  go_wp2_with fail
  refine (hsame W).mono ?_
  rintro e W2 ⟨rfl, bW⟩
  clear hsame
  have hA2 := hA.below bW
  have hB2 := hB.below bW
  have HK := hidc (And.intro (H1.out.below bW) (And.intro (H2.out.below bW) (Below.then hbb bW)))
  clear H1 H2 hA hB hbb bW a9 b9
  have p0 := hA2.cell (i := 0) rfl
  have p1 := hA2.cell (i := 1) rfl
  have p2 := hA2.cell (i := 2) rfl
  have p3 := hA2.cell (i := 3) rfl
  have p4 := hA2.cell (i := 4) rfl
  have p5 := hA2.cell (i := 5) rfl
  have p6 := hA2.cell (i := 6) rfl
  have p7 := hA2.cell (i := 7) rfl
  have p8 := hA2.cell (i := 8) rfl
  have p9 := hA2.cell (i := 9) rfl
  have p10 := hA2.cell (i := 10) rfl
  have r0 := hB2.cell (i := 0) rfl
  have r1 := hB2.cell (i := 1) rfl
  have r2 := hB2.cell (i := 2) rfl
  have r3 := hB2.cell (i := 3) rfl
  have r4 := hB2.cell (i := 4) rfl
  have r5 := hB2.cell (i := 5) rfl
  have r6 := hB2.cell (i := 6) rfl
  have r7 := hB2.cell (i := 7) rfl
  have r8 := hB2.cell (i := 8) rfl
  have r9 := hB2.cell (i := 9) rfl
  have r10 := hB2.cell (i := 10) rfl
  clear hA2 hB2
  have hrp := beq_S rp
  have hag := beq_S ag
  generalize S rp = RP at *
  generalize S ag = AG at *
  go_wp2_with fail
  go_loopw [6] (fun i wr => ∃ k : Nat, i = .int .i64 k ∧ k ≤ N ∧ Hid (Below W2.heap.size W2 wr)) (fun i _ => N - (RowKit.intOf i).toNat)
  case atStart => exact ⟨0, rfl, Nat.zero_le _, hidc (Below.refl _ _)⟩
  case round =>
    obtain ⟨i, rfl, hi, HR⟩ := hrel
    have z1 := (HR.out.cell (cell_lt p1)).trans p1
    have u1 := (HR.out.cell (cell_lt r1)).trans r1
    by_cases hlt : i < N
    · have l1 : (i : Int) < (N : Int) := by omega
      have l0 : (0 : Int) ≤ (i : Int) := by omega
      have lw : IntKind.i64.wrap ((i : Int) + 1) = ((i + 1 : Nat) : Int) := by rw [IntKind.wrap_i64]; have := HL.out; omega
      obtain ⟨x, hx⟩ : ∃ x, cms[i]? = some x := ⟨_, List.getElem?_eq_getElem (by rw [HN.out]; omega)⟩
      obtain ⟨bb, oo, rfl, hc1⟩ := cms_at (HK.out.1.below HR.out) hx
      obtain ⟨bb', oo', rfl, hc2⟩ := cms_at (HK.out.2.1.below HR.out) hx
      have d0 := hc1 0 _ rfl
      have e0 := hc2 0 _ rfl
      have d1 := hc1 1 _ rfl
      have e1 := hc2 1 _ rfl
      have d2 := hc1 2 _ rfl
      have e2 := hc2 2 _ rfl
      have d3 := hc1 3 _ rfl
      have e3 := hc2 3 _ rfl
      have d4 := hc1 4 _ rfl
      have e4 := hc2 4 _ rfl
      have d5 := hc1 5 _ rfl
      have e5 := hc2 5 _ rfl
      have d6 := hc1 6 _ rfl
      have e6 := hc2 6 _ rfl
      have d7 := hc1 7 _ rfl
      have e7 := hc2 7 _ rfl
      have d8 := hc1 8 _ rfl
      have e8 := hc2 8 _ rfl
      have d9 := hc1 9 _ rfl
      have e9 := hc2 9 _ rfl
      have d10 := hc1 10 _ rfl
      have e10 := hc2 10 _ rfl
      have d11 := hc1 11 _ rfl
      have e11 := hc2 11 _ rfl
      have d12 := hc1 12 _ rfl
      have e12 := hc2 12 _ rfl
      have d13 := hc1 13 _ rfl
      have e13 := hc2 13 _ rfl
      have d14 := hc1 14 _ rfl
      have e14 := hc2 14 _ rfl
      have d15 := hc1 15 _ rfl
      have e15 := hc2 15 _ rfl
      rw [Nat.add_zero] at d0 e0
      have hq : ∀ W, (binOp .neq 37 (.agg #[.int .i64 x.op, .int .i64 x.mode, .string x.key, .string x.val, .int .u32 x.flags, .int .i64 x.exp, .bool x.hasExp, .int .u64 x.cas, .bool x.hasCas, .int .u64 x.delta, .int .u64 x.init, .bool x.down, .bool x.viv, .int .i64 x.vive, .int .i64 x.rcc, .bool x.inv]) (.agg #[.int .i64 x.op, .int .i64 x.mode, .string x.key, .string x.val, .int .u32 x.flags, .int .i64 x.exp, .bool x.hasExp, .int .u64 x.cas, .bool x.hasCas, .int .u64 x.delta, .int .u64 x.init, .bool x.down, .bool x.viv, .int .i64 x.vive, .int .i64 x.rcc, .bool x.inv])).run Tryz.prog W = .ok (.bool false) W := fun W => cm_neq x W
      clear hc1 hc2 p0 p1 p2 p3 p4 p5 p6 p7 p8 p9 p10 r0 r1 r2 r3 r4 r5 r6 r7 r8 r9 r10
      go_wp2_with fail
      go_quiet (fail)
      go_wp2_with fail
      go_roundw
      case rel => exact ⟨i + 1, by first | rfl | go_num, by omega, hidc (Below.then HR.out (bdrew _ _))⟩
      case measure => simp [RowKit.intOf] <;> omega
    · have l2 : decide ((i : Int) < (N : Int)) = false := decide_eq_false (by omega)
      have l3 : ¬ (i : Int) < (N : Int) := by omega
      go_wp2_with fail
      go_ret
      exact ⟨rfl, Below.then HK.out.2.2 HR.out⟩
end Go.Proofs.YtggeccndmmmnjaaGreatDoor.Tx

/-
  The reader's get and getTouching at this program. Conditions: the package variables hold what they were laid with.
-/
import Derived.Test.YtggeccndmmmnjaaDoorTxBox
namespace Go.Proofs.YtggeccndmmmnjaaDoor.Tx
open Go Go.RowKit Go.Lib Md

section
variable {P : Program} {ops : Array Oper} {Q : Exit → Act → World → Prop} {md : Region.Mode} {S : World → Prop} {st : Nat}
/-- A call that alone may come up. -/
theorem wpAnyE_call {i : Nat} {o : Oper} {fuel : Nat} {listed : Array Bool} {a : Act} {w : World} {f : FuncId} {args : Array Value} (ho : ops[i]? = some o) (hr : Region.ready md ops listed = [i]) (hw : Region.wanted o (yielded ops a.tmps) = true)
    (hrun : (execOp a.eval o).run P w = .ok (.enter f args) w)
    (h : Calls P f args w fun e w' => (∃ v, e = .returned v ∧ ((listed.setIfInBounds i true).getD st true = false → S w') ∧ wpAnyE P md ops Q S st fuel (listed.setIfInBounds i true) (a.put o.dst v) w') ∨ ∃ ch, e = .panicked ch ∧ Q (.panic ch) a w') : wpAnyE P md ops Q S st (fuel + 1) listed a w := by
  refine wpAnyE_one ho hr (fun K hK => ?_)
  rw [if_pos hw]
  unfold Oper.wp
  rw [hrun, Oper.upon_enter]
  refine h.mono ?_
  rintro e w' (⟨v, rfl, h1, h2⟩ | ⟨ch, rfl, h1⟩)
  · exact hK _ _ h1 h2
  · exact h1
theorem wp_stRq {op : Oper} {a : Act} {w : World} {K : Act → World → Prop} {Q : Exit → Act → World → Prop} {x y : Operand} {b : Nat} {cs cs' : List Value} (hb : Blk w b 27 cs') (hl' : cs'.length = 11) (hl : cs.length = 11) (ho : ∀ u ∈ cs, u.oneCell' = true)
    (h1 : op.op = .store 27 x y) (h2 : a.eval x = .pointer (some ⟨b, 0, none⟩)) (h3 : a.eval y = .agg cs.toArray) (h4 : ∀ W, Blk W b 27 cs → Only (fun x => x = b) w W → K (a.put op.dst undef) W) : op.wp Tryd.prog a w K Q :=
  wp_store_mid 27 x y h1 b 0 cs.toArray h2 h3 (Blk.there hb (by simp [hl, hl'])) (by rw [List.size_toArray, hl]; kernel_rfl) (all_oneCell_toArray ho) (h4 _ (setCells_blk cs 0 w [] cs' hb rfl (by omega)) (setCells_only cs 0 w w (Only.refl _ _)))
end
set_option maxHeartbeats 1000000 in
set_option maxRecDepth 100000 in
theorem get_any {R c : Nat} {ws : List (List UInt8)} {bh : List UInt8} {a : Option Addr} {w : World} (h : Rdr R ⟨ws, bh, false, 0, 0⟩ a c w) (hv : VarsR R w) (tokens : Bool) :
    Calls Tryd.prog 25 #[.pointer (some ⟨R, 0, none⟩), .bool tokens] w (RdP R w (getR ws tokens)) := by
  have hB := B1.start h hv
  have HB := hidc hB
  have hlen : ws.length ≤ 2048 := h.len.1
  clear h hB hv
  go_enter Tryd.func25, Tryd.ntmps25
  go_wp2_with fail
  generalize w.alloc (.cells #[.int .i64 0, .slice none 0 0, .bool false, .bool false, .string ⟨#[]⟩, .string ⟨#[]⟩, .int .i64 0, .bool false, .string ⟨#[]⟩, .slice none 0 0, .string ⟨#[]⟩] 27) = W at *
  by_cases hl : ws.length < 1
  case pos =>
    have HP := hidc (rdp_up (why := mError) (skip := 0) (used := 0) (x := getR ws tokens) (by unfold getR; rw [if_pos (.inl hl)]) HB.out.rd rfl rfl HB.out.only)
    have hnd := need_no HB.out.rd 1 2048 (.inl hl)
    generalize RdP R w (getR ws tokens) = Q at *
    refine hnd.mono ?_
    rintro e w2 ⟨rfl, rfl⟩
    go_wp2_with fail
    exact ⟨rfl, HP.out⟩
  have hgr : getR ws tokens = eachR ws (command 1) tokens := by unfold getR; rw [if_neg (by omega)]
  have hnd := need_ok HB.out.rd 1 2048 (by show 1 ≤ ws.length; omega) hlen
  refine hnd.mono ?_
  rintro e w2 ⟨rfl, rfl⟩
  clear hnd
  go_wp2_with fail
  have c0 : W.cell? ⟨R, 0, none⟩ = some (.slice a ws.length c) := HB.out.rd.blk.cell (i := 0) rfl
  obtain ⟨S, hSd⟩ : ∃ S : World → Prop, Hid (S = fun W' => W'.cell? ⟨R, 0, none⟩ = some (.slice a ws.length c)) := ⟨_, hidc rfl⟩
  have hS : S W.drew := by rw [hSd.out]; exact c0
  refine wp_region_E S 7 (by kernel_rfl) ?_
  refine wpAnyE_take (i := 0) (v := .pointer (some ⟨R, 0, none⟩)) rfl (by kernel_rfl) (by kernel_rfl) (by kernel_rfl) (fun _ _ _ h => h) (by kernel_rfl) (by kernel_rfl) hS (Or.inl ⟨by rfl, ?_⟩) ?_
  · intro w' hw'
    go_simp
  refine wpAnyE_take (i := 1) (v := .pointer (some ⟨R, 0, none⟩)) rfl (by kernel_rfl) (by kernel_rfl) (by kernel_rfl) (fun _ _ _ h => h) (by kernel_rfl) (by kernel_rfl) hS (Or.inl ⟨by rfl, ?_⟩) ?_
  · intro w' hw'
    go_simp
  refine wpAnyE_take (i := 2) (v := .pointer (some ⟨R, 0, none⟩)) rfl (by kernel_rfl) (by kernel_rfl) (by kernel_rfl) (fun _ _ _ h => h) (by kernel_rfl) (by kernel_rfl) hS (Or.inl ⟨by rfl, ?_⟩) ?_
  · intro w' hw'
    go_simp
  refine wpAnyE_take (i := 3) (v := .slice a ws.length c) rfl (by kernel_rfl) (by kernel_rfl) (by kernel_rfl) (fun _ _ _ h => h) (by kernel_rfl) (by kernel_rfl) hS (Or.inl ⟨by rfl, ?_⟩) ?_
  · intro w' hw'
    rw [hSd.out] at hw'
    have s0 := hw'
    clear hw'
    go_simp
  refine wpAnyE_take (i := 5) (v := .bool tokens) rfl (by kernel_rfl) (by kernel_rfl) (by kernel_rfl) (fun _ _ _ h => h) (by kernel_rfl) (by kernel_rfl) hS (Or.inl ⟨by rfl, ?_⟩) ?_
  · intro w' hw'
    go_simp
  refine wpAnyE_call (i := 4) rfl (by kernel_rfl) (by rfl) (f := 43) (args := #[.int .i64 1]) (by kernel_rfl) ?_
  have bD : Below W.heap.size W W.drew := ⟨rfl, rfl, rfl, Nat.le_refl _, fun _ _ => rfl⟩
  have HBD := hidc (HB.out.below bD)
  clear HB bD hS
  refine (command_any 1 _).mono ?_
  rintro e w3 ⟨rfl, b3⟩
  have HB3 := hidc (HBD.out.below b3)
  clear HBD b3 c0
  have hS3 : S w3 := by rw [hSd.out]; exact HB3.out.rd.blk.cell (i := 0) rfl
  refine .inl ⟨_, rfl, fun _ => hS3, ?_⟩
  clear hS3
  refine wpAnyE_call (i := 6) rfl (by kernel_rfl) (by rfl) (f := 42) (args := #[.slice a ws.length c, .agg (cc (command 1)).toArray, .bool tokens]) (by kernel_rfl) ?_
  refine (each_any a c ws (command 1) tokens w3 HB3.out.rd.txt hlen).mono ?_
  rintro e w4 hE
  unfold EachP at hE
  rcases hx : eachR ws (command 1) tokens with ⟨q, u⟩ | ⟨why, sk, u⟩
  · rw [hx] at hE
    obtain ⟨v, rfl, hq, b4⟩ := hE
    have hu : u = 0 := by have := each_bare ws (command 1) tokens; rw [hx] at this; exact this
    subst hu
    have HB4 := hidc (HB3.out.below b4)
    have hn0 : w.heap.size < w3.heap.size := HB3.out.res.lt
    have hS4 : S w4 := by rw [hSd.out]; exact HB4.out.rd.blk.cell (i := 0) rfl
    refine .inl ⟨v, rfl, fun _ => hS4, ?_⟩
    clear hS4 HB3 b4
    obtain ⟨cs, rfl, hcl, hco⟩ := isrq_cells hq
    refine wpAnyE_one (i := 7) rfl (by kernel_rfl) (fun K hK => ?_)
    rw [if_pos (by kernel_rfl)]
    have HF : Hid (∀ W, Only (fun b => b = w.heap.size) w4 W → RdP R w (getR ws tokens) (.returned (.agg cs.toArray)) W) := hidc fun W ho => HB4.out.laid hq hn0 ho (hgr.trans hx) rfl
    have HR := hidc HB4.out.res
    have HK := hidc hK
    generalize RdP R w (getR ws tokens) = Q at *
    clear hK HB4 hq hx hgr
    have hst := fun (op : Oper) (a : Act) (K : Act → World → Prop) (Q : Exit → Act → World → Prop) => wp_stRq (op := op) (a := a) (K := K) (Q := Q) (x := .tmp 4) (y := .tmp 13) HR.out rfl hcl hco
    refine hst _ _ _ _ ?ho ?hx ?hy ?hh
    case ho => kernel_rfl
    case hx => kernel_rfl
    case hy => kernel_rfl
    intro D hD oD
    clear hst
    have HW := hidc (And.intro hD (HF.out D oD))
    clear hD oD
    refine HK.out _ _ (fun h => (by cases (show true = false from h))) (wpAnyE_done (by kernel_rfl) ?_ _)
    clear HK K
    go_wp2_with fail
    exact bodyPost_ret (res_rqL hcl rfl HW.out.1 rfl) rfl HW.out.2
  · rw [hx] at hE
    obtain ⟨rfl, b4⟩ := hE
    have hu : u = 0 := by have := each_bare ws (command 1) tokens; rw [hx] at this; exact this
    have hsk : sk = 0 := by
      unfold eachR at hx
      split at hx
      · cases hx
      · cases hx; rfl
    subst hu hsk
    have HP := hidc (rdp_up (why := why) (skip := 0) (used := 0) (hgr.trans hx) (HB3.out.below b4).rd rfl rfl (HB3.out.below b4).only)
    exact .inr ⟨_, rfl, rfl, HP.out⟩
end Go.Proofs.YtggeccndmmmnjaaDoor.Tx

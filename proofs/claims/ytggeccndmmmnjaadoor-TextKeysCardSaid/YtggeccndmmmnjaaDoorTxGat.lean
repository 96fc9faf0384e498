/-
  The reader's getTouching at this program. Conditions: the package variables hold what they were laid with.
-/
import Derived.Test.YtggeccndmmmnjaaDoorTxGet
namespace Go.Proofs.YtggeccndmmmnjaaDoor.Tx
open Go Go.RowKit Go.Lib Md

theorem texts_drop {w : World} {b o N c : Nat} {ws : List (List UInt8)} (h : Texts w (.slice (some ⟨b, o, none⟩) ws.length c) ws) (hN : ws.length = N + 1) : Texts w (.slice (some ⟨b, o + 1, none⟩) N (c - 1)) (ws.drop 1) := by
  obtain ⟨a', c', hv, hc, hx⟩ := h
  injection hv with e1 e2 e3
  subst e1 e3
  have hdl : (ws.drop 1).length = N := by rw [List.length_drop, hN]; rfl
  refine ⟨_, _, by rw [hdl], by omega, fun j x hj => ?_⟩
  rw [List.getElem?_drop] at hj
  obtain ⟨b', o', e, hl, hcell⟩ := hx (1 + j) x hj
  cases e
  exact ⟨_, _, rfl, hl, by rw [Nat.add_assoc]; exact hcell⟩
set_option maxHeartbeats 4000000 in
set_option maxRecDepth 100000 in
theorem gat_any {R c : Nat} {ws : List (List UInt8)} {bh : List UInt8} {a : Option Addr} {w : World} (h : Rdr R ⟨ws, bh, false, 0, 0⟩ a c w) (hv : VarsR R w) (tokens : Bool) :
    Calls Tryd.prog 26 #[.pointer (some ⟨R, 0, none⟩), .bool tokens] w (RdP R w (gatR ws tokens)) := by
  have hB := B1.start h hv
  have HB := hidc hB
  have hlen : ws.length ≤ 2048 := h.len.1
  clear h hB hv
  go_enter Tryd.func26, Tryd.ntmps26
  go_wp2_with fail
  generalize w.alloc (.cells #[.int .i64 0, .slice none 0 0, .bool false, .bool false, .string ⟨#[]⟩, .string ⟨#[]⟩, .int .i64 0, .bool false, .string ⟨#[]⟩, .slice none 0 0, .string ⟨#[]⟩] 27) = W at *
  by_cases hl : ¬ (ws.length < 2 ∨ 2048 < ws.length)
  case neg =>
    have HP := hidc (rdp_up (why := mError) (skip := 0) (used := 0) (x := gatR ws tokens) (by unfold gatR; rw [if_pos (by omega)]) HB.out.rd rfl rfl HB.out.only)
    have hnd := need_no HB.out.rd 2 2048 (by show ws.length < _ ∨ _ < ws.length; omega)
    generalize RdP R w (gatR ws tokens) = Q at *
    go_wp2_with fail
    refine hnd.mono ?_
    rintro e w2 ⟨rfl, rfl⟩
    go_wp2_with fail
    exact ⟨rfl, HP.out⟩
  have hnd := need_ok HB.out.rd 2 2048 (by show _ ≤ ws.length; omega) (by show ws.length ≤ _; omega)
  go_wp2_with fail
  refine hnd.mono ?_
  rintro e w2 ⟨rfl, rfl⟩
  clear hnd
  go_wp2_with fail
  refine (command_any 1 _).mono ?_
  rintro e w3 ⟨rfl, b3⟩
  have HB2 := hidc (B2.start (cm := command 1) (HB.out.below b3) #[.int .i64 1, .int .i64 0, .string ⟨#[]⟩, .string ⟨#[]⟩, .int .u32 0, .int .i64 0, .bool false, .int .u64 0, .bool false, .int .u64 0, .int .u64 0, .bool false, .bool false, .int .i64 0, .int .i64 (-1), .bool false] rfl)
  clear HB b3
  go_upto_region 3 with fail
  generalize w3.alloc (.cells #[.int .i64 1, .int .i64 0, .string ⟨#[]⟩, .string ⟨#[]⟩, .int .u32 0, .int .i64 0, .bool false, .int .u64 0, .bool false, .int .u64 0, .int .u64 0, .bool false, .bool false, .int .i64 0, .int .i64 (-1), .bool false] 35) = V0 at *
  generalize w3.heap.size = D at *
  have i0 : (0 : Int) < (ws.length : Int) := by omega
  obtain ⟨x0, hx0⟩ : ∃ x, ws[0]? = some x := ⟨_, List.getElem?_eq_getElem (by omega)⟩
  have ea0 : at_ ws 0 = x0 := by simp [at_, hx0]
  obtain ⟨tb, tof, rfl, tl0, tc0⟩ := texts_cell HB2.out.b1.rd.txt hx0
  have c0 : V0.cell? ⟨R, 0, none⟩ = some (.slice (some ⟨tb, tof, none⟩) ws.length c) := HB2.out.b1.rd.blk.cell (i := 0) rfl
  rw [Nat.add_zero] at tc0
  rcases hp0 : secs x0 with _ | z
  · have hsc := seconds_no x0 mSec hp0 V0 HB2.out.b1.vars
    go_wp2_with fail
    refine hsc.mono ?_
    rintro e w5 ⟨rfl, b5⟩
    have HP := hidc (rdp_up (why := mSec) (skip := 0) (used := 0) (x := gatR ws tokens) (by unfold gatR; rw [if_neg (by omega)]; simp only [ea0, hp0]) (HB2.out.below b5).b1.rd rfl rfl (HB2.out.below b5).b1.only)
    generalize RdP R w (gatR ws tokens) = Q at *
    clear hsc HB2
    go_wp2_with fail
    exact ⟨rfl, HP.out⟩
  have hgr : gatR ws tokens = eachR (ws.drop 1) (gatC z) tokens := by unfold gatR; rw [if_neg (by omega)]; simp only [ea0, hp0]
  have hsc := seconds_ok x0 z mSec hp0 V0 HB2.out.b1.vars
  go_wp2_with fail
  refine hsc.mono ?_
  rintro e y0 ⟨rfl, b5⟩
  have HE0 := hidc (HB2.out.below b5)
  have g5 := HE0.out.box.cell (i := 5) rfl
  have f5 := HE0.out.box.frozen 5
  have g6 := HE0.out.box.cell (i := 6) rfl
  have f6 := HE0.out.box.frozen 6
  have HC0 := hidc ((HE0.out.set (cm' := { command 1 with exp := z }) 5 (.int .i64 z) rfl).set (cm' := gatC z) 6 (.bool true) rfl)
  clear hsc HB2 b5 c0 tc0 tl0 hx0 HE0
  go_upto_region 4 with fail
  clear g5 f5 g6 f6
  generalize (y0.setCell ⟨D, 5, none⟩ (.int .i64 z)).setCell ⟨D, 6, none⟩ (.bool true) = V1 at *
  obtain ⟨N, hN⟩ : ∃ N, ws.length = N + 1 := ⟨ws.length - 1, by omega⟩
  have hcap := texts_cap HC0.out.b1.rd.txt
  have hca : N + 1 ≤ c := by have := hcap.2; rw [← hN]; exact this
  have hcm : c ≤ 9223372036854775807 := HC0.out.b1.rd.len.2
  have c0 : V1.cell? ⟨R, 0, none⟩ = some (.slice (some ⟨tb, tof, none⟩) (N + 1) c) := by rw [← hN]; exact HC0.out.b1.rd.blk.cell (i := 0) rfl
  have hTD := hidc (texts_drop HC0.out.b1.rd.txt hN)
  obtain ⟨S, hSd⟩ : ∃ S : World → Prop, Hid (S = fun W' => W'.cell? ⟨R, 0, none⟩ = some (.slice (some ⟨tb, tof, none⟩) (N + 1) c) ∧ Blk W' D 35 (cc (gatC z))) := ⟨_, hidc rfl⟩
  have hS : S V1.drew := by rw [hSd.out]; exact ⟨c0, HC0.out.box.drew⟩
  have i7 : (1 : Int) ≤ ((N + 1 : Nat) : Int) := by omega
  have i8 : ((N + 1 : Nat) : Int) ≤ (c : Int) := by omega
  have i9 : ¬ c = 1 := by omega
  have i10 : ((N : Int) + 1 - 1).toNat = N := by omega
  have i11 : ((c : Int) - 1).toNat = c - 1 := by omega
  refine wp_region_E S 8 (by kernel_rfl) ?_
  refine wpAnyE_take (i := 0) (v := .pointer (some ⟨R, 0, none⟩)) rfl (by kernel_rfl) (by kernel_rfl) (by kernel_rfl) (fun _ _ _ h => h) (by kernel_rfl) (by kernel_rfl) hS (Or.inl ⟨by rfl, ?_⟩) ?_
  · intro w' hw'
    go_simp
  refine wpAnyE_take (i := 1) (v := .pointer (some ⟨R, 0, none⟩)) rfl (by kernel_rfl) (by kernel_rfl) (by kernel_rfl) (fun _ _ _ h => h) (by kernel_rfl) (by kernel_rfl) hS (Or.inl ⟨by rfl, ?_⟩) ?_
  · intro w' hw'
    go_simp
  refine wpAnyE_take (i := 2) (v := .pointer (some ⟨R, 0, none⟩)) rfl (by kernel_rfl) (by kernel_rfl) (by kernel_rfl) (fun _ _ _ h => h) (by kernel_rfl) (by kernel_rfl) hS (Or.inl ⟨by rfl, ?_⟩) ?_
  · intro w' hw'
    go_simp
  refine wpAnyE_take (i := 3) (v := .slice (some ⟨tb, tof, none⟩) (N + 1) c) rfl (by kernel_rfl) (by kernel_rfl) (by kernel_rfl) (fun _ _ _ h => h) (by kernel_rfl) (by kernel_rfl) hS (Or.inl ⟨by rfl, ?_⟩) ?_
  · intro w' hw'
    rw [hSd.out] at hw'
    have s0 := hw'.1
    clear hw'
    go_simp
  refine wpAnyE_take (i := 4) (v := .slice (some ⟨tb, tof + 1, none⟩) N (c - 1)) rfl (by kernel_rfl) (by kernel_rfl) (by kernel_rfl) (fun _ _ _ h => h) (by kernel_rfl) (by kernel_rfl) hS (Or.inl ⟨by rfl, ?_⟩) ?_
  · intro w' hw'
    go_simp
    intro e
    exfalso
    omega
  refine wpAnyE_take (i := 5) (v := .agg #[.int .i64 1, .int .i64 0, .string ⟨#[]⟩, .string ⟨#[]⟩, .int .u32 0, .int .i64 z, .bool true, .int .u64 0, .bool false, .int .u64 0, .int .u64 0, .bool false, .bool false, .int .i64 0, .int .i64 (-1), .bool false]) rfl (by kernel_rfl) (by kernel_rfl) (by kernel_rfl) (fun _ _ _ h => h) (by kernel_rfl) (by kernel_rfl) hS (yieldsIf_load_mid (by rfl) 35 (.tmp 5) rfl D 0 rfl [.int .i64 1, .int .i64 0, .string ⟨#[]⟩, .string ⟨#[]⟩, .int .u32 0, .int .i64 z, .bool true, .int .u64 0, .bool false, .int .u64 0, .int .u64 0, .bool false, .bool false, .int .i64 0, .int .i64 (-1), .bool false] _ ?_ Tryd.underlying35 rfl (by kernel_rfl)) ?_
  · intro w' hw' j v hj
    rw [hSd.out] at hw'
    rw [Nat.zero_add]; exact hw'.2.cell hj
  refine wpAnyE_take (i := 6) (v := .bool tokens) rfl (by kernel_rfl) (by kernel_rfl) (by kernel_rfl) (fun _ _ _ h => h) (by kernel_rfl) (by kernel_rfl) hS (Or.inl ⟨by rfl, ?_⟩) ?_
  · intro w' hw'
    go_simp
  have bD : Below V1.heap.size V1 V1.drew := ⟨rfl, rfl, rfl, Nat.le_refl _, fun _ _ => rfl⟩
  have HBD := hidc (HC0.out.below bD)
  have hTD2 := Texts.below hTD.out bD
  clear HC0 hS c0 hTD
  refine wpAnyE_call (i := 7) rfl (by kernel_rfl) (by rfl) (f := 42) (args := #[.slice (some ⟨tb, tof + 1, none⟩) N (c - 1), .agg #[.int .i64 1, .int .i64 0, .string ⟨#[]⟩, .string ⟨#[]⟩, .int .u32 0, .int .i64 z, .bool true, .int .u64 0, .bool false, .int .u64 0, .int .u64 0, .bool false, .bool false, .int .i64 0, .int .i64 (-1), .bool false], .bool tokens]) (by kernel_rfl) ?_
  have hdl : (ws.drop 1).length = N := by rw [List.length_drop, hN]; rfl
  have hea := each_any (some ⟨tb, tof + 1, none⟩) (c - 1) (ws.drop 1) (gatC z) tokens V1.drew (by rw [hdl]; exact hTD2) (by rw [hdl]; omega)
  rw [hdl] at hea
  refine hea.mono ?_
  rintro e w4 hE
  unfold EachP at hE
  rcases hx : eachR (ws.drop 1) (gatC z) tokens with ⟨q, u⟩ | ⟨why, sk, u⟩
  · rw [hx] at hE
    obtain ⟨v, rfl, hq, b4⟩ := hE
    have hu : u = 0 := by have := each_bare (ws.drop 1) (gatC z) tokens; rw [hx] at this; exact this
    subst hu
    have HB4 := hidc (HBD.out.below b4)
    have hn0 : w.heap.size < V1.drew.heap.size := HBD.out.b1.res.lt
    have hS4 : S w4 := by rw [hSd.out, ← hN]; exact ⟨HB4.out.b1.rd.blk.cell (i := 0) rfl, HB4.out.box⟩
    refine .inl ⟨v, rfl, fun _ => hS4, ?_⟩
    clear hS4 HBD b4
    obtain ⟨cs, rfl, hcl, hco⟩ := isrq_cells hq
    refine wpAnyE_one (i := 8) rfl (by kernel_rfl) (fun K hK => ?_)
    rw [if_pos (by kernel_rfl)]
    have HF : Hid (∀ W, Only (fun b => b = w.heap.size) w4 W → RdP R w (gatR ws tokens) (.returned (.agg cs.toArray)) W) := hidc fun W ho => HB4.out.b1.laid hq hn0 ho (hgr.trans hx) rfl
    have HR := hidc HB4.out.b1.res
    have HK := hidc hK
    generalize RdP R w (gatR ws tokens) = Q at *
    clear hK HB4 hq hx hgr hea hTD2
    have hst := fun (op : Oper) (a : Act) (K : Act → World → Prop) (Q : Exit → Act → World → Prop) => wp_stRq (op := op) (a := a) (K := K) (Q := Q) (x := .tmp 4) (y := .tmp 25) HR.out rfl hcl hco
    refine hst _ _ _ _ ?ho ?hx ?hy ?hh
    case ho => kernel_rfl
    case hx => kernel_rfl
    case hy => kernel_rfl
    intro D2 hD oD
    clear hst
    have HW := hidc (And.intro hD (HF.out D2 oD))
    clear hD oD
    refine HK.out _ _ (fun h => (by cases (show true = false from h))) (wpAnyE_done (by kernel_rfl) ?_ _)
    clear HK K
    go_wp2_with fail
    exact bodyPost_ret (res_rqL hcl rfl HW.out.1 rfl) rfl HW.out.2
  · rw [hx] at hE
    obtain ⟨rfl, b4⟩ := hE
    have hu : u = 0 := by have := each_bare (ws.drop 1) (gatC z) tokens; rw [hx] at this; exact this
    have hsk : sk = 0 := by
      unfold eachR at hx
      split at hx
      · cases hx
      · cases hx; rfl
    subst hu hsk
    have HP := hidc (rdp_up (why := why) (skip := 0) (used := 0) (hgr.trans hx) (HBD.out.below b4).b1.rd rfl rfl (HBD.out.below b4).b1.only)
    exact .inr ⟨_, rfl, rfl, HP.out⟩
end Go.Proofs.YtggeccndmmmnjaaDoor.Tx

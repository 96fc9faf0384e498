/-
  The reader's named at this program, for version, verbosity, stats, quit, and any other name. Conditions: the package variables hold what they were laid with.
-/
import Derived.Test.YtggeccndmmmnjaaDoorTxNamedB
namespace Go.Proofs.YtggeccndmmmnjaaDoor.Tx
open Go Go.RowKit Go.Lib Md

set_option maxHeartbeats 1000000 in
set_option maxRecDepth 100000 in
theorem named_wVersion {R c : Nat} {ws : List (List UInt8)} {bh : List UInt8} {a : Option Addr} {w : World} (h : Rdr R ⟨ws, bh, false, 0, 0⟩ a c w) (hv : VarsR R w) :
    Calls Tryd.prog 19 #[.pointer (some ⟨R, 0, none⟩), .string (S wVersion)] w (RdP R w (namedR wVersion ws bh)) := by
  have HB := hidc (B1.start h hv)
  have q0 : ((S wVersion).toList == [103, 101, 116]) = false := eq_no (by decide)
  have q1 : ((S wVersion).toList == [103, 101, 116, 115]) = false := eq_no (by decide)
  have q2 : ((S wVersion).toList == [103, 97, 116]) = false := eq_no (by decide)
  have q3 : ((S wVersion).toList == [103, 97, 116, 115]) = false := eq_no (by decide)
  have q4 : ((S wVersion).toList == [115, 101, 116]) = false := eq_no (by decide)
  have q5 : ((S wVersion).toList == [99, 97, 115]) = false := eq_no (by decide)
  have q6 : ((S wVersion).toList == [97, 100, 100]) = false := eq_no (by decide)
  have q7 : ((S wVersion).toList == [114, 101, 112, 108, 97, 99, 101]) = false := eq_no (by decide)
  have q8 : ((S wVersion).toList == [97, 112, 112, 101, 110, 100]) = false := eq_no (by decide)
  have q9 : ((S wVersion).toList == [112, 114, 101, 112, 101, 110, 100]) = false := eq_no (by decide)
  have q10 : ((S wVersion).toList == [105, 110, 99, 114]) = false := eq_no (by decide)
  have q11 : ((S wVersion).toList == [100, 101, 99, 114]) = false := eq_no (by decide)
  have q12 : ((S wVersion).toList == [116, 111, 117, 99, 104]) = false := eq_no (by decide)
  have q13 : ((S wVersion).toList == [100, 101, 108, 101, 116, 101]) = false := eq_no (by decide)
  have q14 : ((S wVersion).toList == [102, 108, 117, 115, 104, 95, 97, 108, 108]) = false := eq_no (by decide)
  have q15 : ((S wVersion).toList == [118, 101, 114, 115, 105, 111, 110]) = true := eq_yes _
  have q16 : ((S wVersion).toList == [118, 101, 114, 98, 111, 115, 105, 116, 121]) = false := eq_no (by decide)
  have q17 : ((S wVersion).toList == [115, 116, 97, 116, 115]) = false := eq_no (by decide)
  have q18 : ((S wVersion).toList == [113, 117, 105, 116]) = false := eq_no (by decide)
  have hx : namedR wVersion ws bh = versionR ws := by unfold namedR; rw [if_neg (by decide), if_neg (by decide), if_neg (by decide), if_neg (by decide), if_neg (by unfold isStore; decide), if_neg (by decide), if_neg (by decide), if_neg (by decide), if_neg (by decide), if_neg (by decide), if_pos rfl]
  rw [hx]
  clear hx h hv
  generalize hNM : S wVersion = NM at *
  clear hNM
  go_enter Tryd.func19, Tryd.ntmps19
  go_wp2_with fail
  generalize w.alloc (.cells #[.int .i64 0, .slice none 0 0, .bool false, .bool false, .string ⟨#[]⟩, .string ⟨#[]⟩, .int .i64 0, .bool false, .string ⟨#[]⟩, .slice none 0 0, .string ⟨#[]⟩] 27) = W at *
  by_cases hl : ¬ 0 < ws.length
  case neg =>
    have HP := hidc (rdp_up (why := mError) (skip := 0) (used := 0) (x := versionR ws) (by unfold versionR; rw [if_pos (by omega)]) HB.out.rd rfl rfl HB.out.only)
    have hnd := need_no HB.out.rd 0 0 (by show ws.length < _ ∨ _ < ws.length; omega)
    generalize RdP R w (versionR ws) = Q at *
    go_wp2_with fail
    refine hnd.mono ?_
    rintro e w2 ⟨rfl, rfl⟩
    go_wp2_with fail
    exact ⟨rfl, HP.out⟩
  have hnd := need_ok HB.out.rd 0 0 (by show _ ≤ ws.length; omega) (by show ws.length ≤ _; omega)
  refine hnd.mono ?_
  rintro e w2 ⟨rfl, rfl⟩
  clear hnd
  have HQ : Hid (versionR ws = .done ⟨3, [], false, false, [], [], 0, false⟩ 0) := hidc (by unfold versionR; rw [if_neg (by omega)])
  have HR := hidc HB.out.res
  have HF : Hid (∀ D, Only (fun b => b = w.heap.size) W D → RdP R w (versionR ws) (.returned (.agg (rqc ⟨3, [], false, false, [], [], 0, false⟩ (.slice none 0 0)).toArray)) D) := hidc fun D ho => HB.out.laid (n₀ := w.heap.size + 1) ⟨_, rfl, cms_nil _ _⟩ (by omega) ho HQ.out rfl
  have HOK := hidc (rq_ok ⟨3, [], false, false, [], [], 0, false⟩ (v := .slice none 0 0) ⟨_, _, _, rfl⟩)
  generalize RdP R w (versionR ws) = Q at *
  clear HQ HB
  go_wp2_with (refine stRq rfl rfl rfl rfl rfl HR.out rfl rfl HOK.out ?_; intro D hD oD; have HW := hidc (And.intro hD (HF.out D oD)); clear hD oD)
  exact bodyPost_ret (res_rqL rfl rfl HW.out.1 rfl) rfl HW.out.2
set_option maxHeartbeats 1000000 in
set_option maxRecDepth 100000 in
theorem named_wQuit {R c : Nat} {ws : List (List UInt8)} {bh : List UInt8} {a : Option Addr} {w : World} (h : Rdr R ⟨ws, bh, false, 0, 0⟩ a c w) (hv : VarsR R w) :
    Calls Tryd.prog 19 #[.pointer (some ⟨R, 0, none⟩), .string (S wQuit)] w (RdP R w (namedR wQuit ws bh)) := by
  have HB := hidc (B1.start h hv)
  have q0 : ((S wQuit).toList == [103, 101, 116]) = false := eq_no (by decide)
  have q1 : ((S wQuit).toList == [103, 101, 116, 115]) = false := eq_no (by decide)
  have q2 : ((S wQuit).toList == [103, 97, 116]) = false := eq_no (by decide)
  have q3 : ((S wQuit).toList == [103, 97, 116, 115]) = false := eq_no (by decide)
  have q4 : ((S wQuit).toList == [115, 101, 116]) = false := eq_no (by decide)
  have q5 : ((S wQuit).toList == [99, 97, 115]) = false := eq_no (by decide)
  have q6 : ((S wQuit).toList == [97, 100, 100]) = false := eq_no (by decide)
  have q7 : ((S wQuit).toList == [114, 101, 112, 108, 97, 99, 101]) = false := eq_no (by decide)
  have q8 : ((S wQuit).toList == [97, 112, 112, 101, 110, 100]) = false := eq_no (by decide)
  have q9 : ((S wQuit).toList == [112, 114, 101, 112, 101, 110, 100]) = false := eq_no (by decide)
  have q10 : ((S wQuit).toList == [105, 110, 99, 114]) = false := eq_no (by decide)
  have q11 : ((S wQuit).toList == [100, 101, 99, 114]) = false := eq_no (by decide)
  have q12 : ((S wQuit).toList == [116, 111, 117, 99, 104]) = false := eq_no (by decide)
  have q13 : ((S wQuit).toList == [100, 101, 108, 101, 116, 101]) = false := eq_no (by decide)
  have q14 : ((S wQuit).toList == [102, 108, 117, 115, 104, 95, 97, 108, 108]) = false := eq_no (by decide)
  have q15 : ((S wQuit).toList == [118, 101, 114, 115, 105, 111, 110]) = false := eq_no (by decide)
  have q16 : ((S wQuit).toList == [118, 101, 114, 98, 111, 115, 105, 116, 121]) = false := eq_no (by decide)
  have q17 : ((S wQuit).toList == [115, 116, 97, 116, 115]) = false := eq_no (by decide)
  have q18 : ((S wQuit).toList == [113, 117, 105, 116]) = true := eq_yes _
  have hx : namedR wQuit ws bh = quitR ws := by unfold namedR; rw [if_neg (by decide), if_neg (by decide), if_neg (by decide), if_neg (by decide), if_neg (by unfold isStore; decide), if_neg (by decide), if_neg (by decide), if_neg (by decide), if_neg (by decide), if_neg (by decide), if_neg (by decide), if_neg (by decide), if_neg (by decide), if_pos rfl]
  rw [hx]
  clear hx h hv
  generalize hNM : S wQuit = NM at *
  clear hNM
  go_enter Tryd.func19, Tryd.ntmps19
  go_wp2_with fail
  generalize w.alloc (.cells #[.int .i64 0, .slice none 0 0, .bool false, .bool false, .string ⟨#[]⟩, .string ⟨#[]⟩, .int .i64 0, .bool false, .string ⟨#[]⟩, .slice none 0 0, .string ⟨#[]⟩] 27) = W at *
  by_cases hl : ¬ 0 < ws.length
  case neg =>
    have HP := hidc (rdp_up (why := mError) (skip := 0) (used := 0) (x := quitR ws) (by unfold quitR; rw [if_pos (by omega)]) HB.out.rd rfl rfl HB.out.only)
    have hnd := need_no HB.out.rd 0 0 (by show ws.length < _ ∨ _ < ws.length; omega)
    generalize RdP R w (quitR ws) = Q at *
    go_wp2_with fail
    refine hnd.mono ?_
    rintro e w2 ⟨rfl, rfl⟩
    go_wp2_with fail
    exact ⟨rfl, HP.out⟩
  have hnd := need_ok HB.out.rd 0 0 (by show _ ≤ ws.length; omega) (by show ws.length ≤ _; omega)
  refine hnd.mono ?_
  rintro e w2 ⟨rfl, rfl⟩
  clear hnd
  have HQ : Hid (quitR ws = .done ⟨6, [], false, false, [], [], 0, true⟩ 0) := hidc (by unfold quitR; rw [if_neg (by omega)])
  have HR := hidc HB.out.res
  have HF : Hid (∀ D, Only (fun b => b = w.heap.size) W D → RdP R w (quitR ws) (.returned (.agg (rqc ⟨6, [], false, false, [], [], 0, true⟩ (.slice none 0 0)).toArray)) D) := hidc fun D ho => HB.out.laid (n₀ := w.heap.size + 1) ⟨_, rfl, cms_nil _ _⟩ (by omega) ho HQ.out rfl
  have HOK := hidc (rq_ok ⟨6, [], false, false, [], [], 0, true⟩ (v := .slice none 0 0) ⟨_, _, _, rfl⟩)
  generalize RdP R w (quitR ws) = Q at *
  clear HQ HB
  go_wp2_with (refine stRq rfl rfl rfl rfl rfl HR.out rfl rfl HOK.out ?_; intro D hD oD; have HW := hidc (And.intro hD (HF.out D oD)); clear hD oD)
  exact bodyPost_ret (res_rqL rfl rfl HW.out.1 rfl) rfl HW.out.2
set_option maxHeartbeats 1000000 in
set_option maxRecDepth 100000 in
theorem named_wVerbosity {R c : Nat} {ws : List (List UInt8)} {bh : List UInt8} {a : Option Addr} {w : World} (h : Rdr R ⟨ws, bh, false, 0, 0⟩ a c w) (hv : VarsR R w) :
    Calls Tryd.prog 19 #[.pointer (some ⟨R, 0, none⟩), .string (S wVerbosity)] w (RdP R w (namedR wVerbosity ws bh)) := by
  have HB := hidc (B1.start h hv)
  have q0 : ((S wVerbosity).toList == [103, 101, 116]) = false := eq_no (by decide)
  have q1 : ((S wVerbosity).toList == [103, 101, 116, 115]) = false := eq_no (by decide)
  have q2 : ((S wVerbosity).toList == [103, 97, 116]) = false := eq_no (by decide)
  have q3 : ((S wVerbosity).toList == [103, 97, 116, 115]) = false := eq_no (by decide)
  have q4 : ((S wVerbosity).toList == [115, 101, 116]) = false := eq_no (by decide)
  have q5 : ((S wVerbosity).toList == [99, 97, 115]) = false := eq_no (by decide)
  have q6 : ((S wVerbosity).toList == [97, 100, 100]) = false := eq_no (by decide)
  have q7 : ((S wVerbosity).toList == [114, 101, 112, 108, 97, 99, 101]) = false := eq_no (by decide)
  have q8 : ((S wVerbosity).toList == [97, 112, 112, 101, 110, 100]) = false := eq_no (by decide)
  have q9 : ((S wVerbosity).toList == [112, 114, 101, 112, 101, 110, 100]) = false := eq_no (by decide)
  have q10 : ((S wVerbosity).toList == [105, 110, 99, 114]) = false := eq_no (by decide)
  have q11 : ((S wVerbosity).toList == [100, 101, 99, 114]) = false := eq_no (by decide)
  have q12 : ((S wVerbosity).toList == [116, 111, 117, 99, 104]) = false := eq_no (by decide)
  have q13 : ((S wVerbosity).toList == [100, 101, 108, 101, 116, 101]) = false := eq_no (by decide)
  have q14 : ((S wVerbosity).toList == [102, 108, 117, 115, 104, 95, 97, 108, 108]) = false := eq_no (by decide)
  have q15 : ((S wVerbosity).toList == [118, 101, 114, 115, 105, 111, 110]) = false := eq_no (by decide)
  have q16 : ((S wVerbosity).toList == [118, 101, 114, 98, 111, 115, 105, 116, 121]) = true := eq_yes _
  have q17 : ((S wVerbosity).toList == [115, 116, 97, 116, 115]) = false := eq_no (by decide)
  have q18 : ((S wVerbosity).toList == [113, 117, 105, 116]) = false := eq_no (by decide)
  have hx : namedR wVerbosity ws bh = verbR ws := by unfold namedR; rw [if_neg (by decide), if_neg (by decide), if_neg (by decide), if_neg (by decide), if_neg (by unfold isStore; decide), if_neg (by decide), if_neg (by decide), if_neg (by decide), if_neg (by decide), if_neg (by decide), if_neg (by decide), if_pos rfl]
  rw [hx]
  clear hx h hv
  generalize hNM : S wVerbosity = NM at *
  clear hNM
  unfold verbR
  go_enter Tryd.func19, Tryd.ntmps19
  go_wp2_with fail
  generalize w.alloc (.cells #[.int .i64 0, .slice none 0 0, .bool false, .bool false, .string ⟨#[]⟩, .string ⟨#[]⟩, .int .i64 0, .bool false, .string ⟨#[]⟩, .slice none 0 0, .string ⟨#[]⟩] 27) = W at *
  refine (off_any HB.out.rd).mono ?_
  rintro e w1 ⟨rfl, r1, o1⟩
  rw [offE] at r1
  have HB1 := hidc (HB.out.turn r1 o1)
  clear HB r1 o1
  clear W
  generalize offW ws = us at *
  generalize offQ ws = qt at *
  by_cases hl : us.length = 1
  case neg =>
    have HP := hidc (rdp_up (why := mError) (skip := 0) (used := 0) (x := verbU us qt) (by unfold verbU; rw [if_pos (by omega)]) HB1.out.rd rfl rfl HB1.out.only)
    have hnd := need_no HB1.out.rd 1 1 (by show us.length < _ ∨ _ < us.length; omega)
    generalize RdP R w (verbU us qt) = Q at *
    go_wp2_with fail
    refine hnd.mono ?_
    rintro e w2 ⟨rfl, rfl⟩
    go_wp2_with fail
    exact ⟨rfl, HP.out⟩
  have hnd := need_ok HB1.out.rd 1 1 (by show _ ≤ us.length; omega) (by show us.length ≤ _; omega)
  go_wp2_with fail
  refine hnd.mono ?_
  rintro e w2 ⟨rfl, rfl⟩
  clear hnd
  have c2 : w1.cell? ⟨R, 2, none⟩ = some (.bool qt) := HB1.out.rd.blk.cell (i := 2) rfl
  have HQ : Hid (verbU us qt = .done ⟨4, [], qt, false, [], [], 0, false⟩ 0) := hidc (by unfold verbU; rw [if_neg (by omega)])
  have HR := hidc HB1.out.res
  have HF : Hid (∀ D, Only (fun b => b = w.heap.size) w1 D → RdP R w (verbU us qt) (.returned (.agg (rqc ⟨4, [], qt, false, [], [], 0, false⟩ (.slice none 0 0)).toArray)) D) := hidc fun D ho => HB1.out.laid (n₀ := w.heap.size + 1) ⟨_, rfl, cms_nil _ _⟩ (by omega) ho HQ.out rfl
  have HOK := hidc (rq_ok ⟨4, [], qt, false, [], [], 0, false⟩ (v := .slice none 0 0) ⟨_, _, _, rfl⟩)
  generalize RdP R w (verbU us qt) = Q at *
  clear HQ HB1
  go_wp2_with (refine stRq rfl rfl rfl rfl rfl HR.out rfl rfl HOK.out ?_; intro D hD oD; have HW := hidc (And.intro hD (HF.out D oD)); clear hD oD)
  exact bodyPost_ret (res_rqL rfl rfl HW.out.1 rfl) rfl HW.out.2
set_option maxHeartbeats 1000000 in
set_option maxRecDepth 100000 in
theorem named_wStats {R c : Nat} {ws : List (List UInt8)} {bh : List UInt8} {a : Option Addr} {w : World} (h : Rdr R ⟨ws, bh, false, 0, 0⟩ a c w) (hv : VarsR R w) (hj : (Lib.join ws [32]).length ≤ 140737488355328) :
    Calls Tryd.prog 19 #[.pointer (some ⟨R, 0, none⟩), .string (S wStats)] w (RdP R w (namedR wStats ws bh)) := by
  have HB := hidc (B1.start h hv)
  have q0 : ((S wStats).toList == [103, 101, 116]) = false := eq_no (by decide)
  have q1 : ((S wStats).toList == [103, 101, 116, 115]) = false := eq_no (by decide)
  have q2 : ((S wStats).toList == [103, 97, 116]) = false := eq_no (by decide)
  have q3 : ((S wStats).toList == [103, 97, 116, 115]) = false := eq_no (by decide)
  have q4 : ((S wStats).toList == [115, 101, 116]) = false := eq_no (by decide)
  have q5 : ((S wStats).toList == [99, 97, 115]) = false := eq_no (by decide)
  have q6 : ((S wStats).toList == [97, 100, 100]) = false := eq_no (by decide)
  have q7 : ((S wStats).toList == [114, 101, 112, 108, 97, 99, 101]) = false := eq_no (by decide)
  have q8 : ((S wStats).toList == [97, 112, 112, 101, 110, 100]) = false := eq_no (by decide)
  have q9 : ((S wStats).toList == [112, 114, 101, 112, 101, 110, 100]) = false := eq_no (by decide)
  have q10 : ((S wStats).toList == [105, 110, 99, 114]) = false := eq_no (by decide)
  have q11 : ((S wStats).toList == [100, 101, 99, 114]) = false := eq_no (by decide)
  have q12 : ((S wStats).toList == [116, 111, 117, 99, 104]) = false := eq_no (by decide)
  have q13 : ((S wStats).toList == [100, 101, 108, 101, 116, 101]) = false := eq_no (by decide)
  have q14 : ((S wStats).toList == [102, 108, 117, 115, 104, 95, 97, 108, 108]) = false := eq_no (by decide)
  have q15 : ((S wStats).toList == [118, 101, 114, 115, 105, 111, 110]) = false := eq_no (by decide)
  have q16 : ((S wStats).toList == [118, 101, 114, 98, 111, 115, 105, 116, 121]) = false := eq_no (by decide)
  have q17 : ((S wStats).toList == [115, 116, 97, 116, 115]) = true := eq_yes _
  have q18 : ((S wStats).toList == [113, 117, 105, 116]) = false := eq_no (by decide)
  have hx : namedR wStats ws bh = statsR ws := by unfold namedR; rw [if_neg (by decide), if_neg (by decide), if_neg (by decide), if_neg (by decide), if_neg (by unfold isStore; decide), if_neg (by decide), if_neg (by decide), if_neg (by decide), if_neg (by decide), if_neg (by decide), if_neg (by decide), if_neg (by decide), if_pos rfl]
  rw [hx]
  clear hx h hv
  generalize hNM : S wStats = NM at *
  clear hNM
  go_enter Tryd.func19, Tryd.ntmps19
  go_wp2_with fail
  generalize w.alloc (.cells #[.int .i64 0, .slice none 0 0, .bool false, .bool false, .string ⟨#[]⟩, .string ⟨#[]⟩, .int .i64 0, .bool false, .string ⟨#[]⟩, .slice none 0 0, .string ⟨#[]⟩] 27) = W at *
  by_cases hl : ¬ 1 < ws.length
  case neg =>
    have HP := hidc (rdp_up (why := mError) (skip := 0) (used := 0) (x := statsR ws) (by unfold statsR; rw [if_pos (by omega)]) HB.out.rd rfl rfl HB.out.only)
    have hnd := need_no HB.out.rd 0 1 (by show ws.length < _ ∨ _ < ws.length; omega)
    generalize RdP R w (statsR ws) = Q at *
    refine hnd.mono ?_
    rintro e w2 ⟨rfl, rfl⟩
    go_wp2_with fail
    exact ⟨rfl, HP.out⟩
  have hnd := need_ok HB.out.rd 0 1 (by show _ ≤ ws.length; omega) (by show ws.length ≤ _; omega)
  refine hnd.mono ?_
  rintro e w2 ⟨rfl, rfl⟩
  clear hnd
  have c0 : W.cell? ⟨R, 0, none⟩ = some (.slice a ws.length c) := HB.out.rd.blk.cell (i := 0) rfl
  have hjo := join_texts (.slice a ws.length c) ws (by omega) hj W HB.out.rd.txt
  go_wp2_with fail
  refine hjo.mono ?_
  rintro e w3 ⟨rfl, b3⟩
  have HB3 := hidc (HB.out.below b3)
  clear HB b3 hjo c0
  have HQ : Hid (statsR ws = .done ⟨5, [], false, false, [], Lib.join ws [32], 0, false⟩ 0) := hidc (by unfold statsR; rw [if_neg (by omega)])
  have HR := hidc HB3.out.res
  have HF : Hid (∀ D, Only (fun b => b = w.heap.size) w3 D → RdP R w (statsR ws) (.returned (.agg (rqc ⟨5, [], false, false, [], Lib.join ws [32], 0, false⟩ (.slice none 0 0)).toArray)) D) := hidc fun D ho => HB3.out.laid (n₀ := w.heap.size + 1) ⟨_, rfl, cms_nil _ _⟩ (by omega) ho HQ.out rfl
  have HOK := hidc (rq_ok ⟨5, [], false, false, [], Lib.join ws [32], 0, false⟩ (v := .slice none 0 0) ⟨_, _, _, rfl⟩)
  generalize RdP R w (statsR ws) = Q at *
  clear HQ HB3
  go_wp2_with (refine stRq rfl rfl rfl rfl rfl HR.out rfl rfl HOK.out ?_; intro D hD oD; have HW := hidc (And.intro hD (HF.out D oD)); clear hD oD)
  exact bodyPost_ret (res_rqL rfl rfl HW.out.1 rfl) rfl HW.out.2
set_option maxHeartbeats 1000000 in
set_option maxRecDepth 100000 in
theorem named_other {R c : Nat} {ws : List (List UInt8)} {bh : List UInt8} {a : Option Addr} {w : World} {name : List UInt8} (h : Rdr R ⟨ws, bh, false, 0, 0⟩ a c w) (hv : VarsR R w) (h0 : name ≠ wGet) (h1 : name ≠ wGets) (h2 : name ≠ wGat) (h3 : name ≠ wGats) (h4 : name ≠ wSet) (h5 : name ≠ wCas) (h6 : name ≠ wAdd) (h7 : name ≠ wReplace) (h8 : name ≠ wAppend) (h9 : name ≠ wPrepend) (h10 : name ≠ wIncr) (h11 : name ≠ wDecr) (h12 : name ≠ wTouch) (h13 : name ≠ wDelete) (h14 : name ≠ wFlush) (h15 : name ≠ wVersion) (h16 : name ≠ wVerbosity) (h17 : name ≠ wStats) (h18 : name ≠ wQuit) :
    Calls Tryd.prog 19 #[.pointer (some ⟨R, 0, none⟩), .string (S name)] w (RdP R w (namedR name ws bh)) := by
  have HB := hidc (B1.start h hv)
  have q0 : ((S name).toList == [103, 101, 116]) = false := eq_no h0
  have q1 : ((S name).toList == [103, 101, 116, 115]) = false := eq_no h1
  have q2 : ((S name).toList == [103, 97, 116]) = false := eq_no h2
  have q3 : ((S name).toList == [103, 97, 116, 115]) = false := eq_no h3
  have q4 : ((S name).toList == [115, 101, 116]) = false := eq_no h4
  have q5 : ((S name).toList == [99, 97, 115]) = false := eq_no h5
  have q6 : ((S name).toList == [97, 100, 100]) = false := eq_no h6
  have q7 : ((S name).toList == [114, 101, 112, 108, 97, 99, 101]) = false := eq_no h7
  have q8 : ((S name).toList == [97, 112, 112, 101, 110, 100]) = false := eq_no h8
  have q9 : ((S name).toList == [112, 114, 101, 112, 101, 110, 100]) = false := eq_no h9
  have q10 : ((S name).toList == [105, 110, 99, 114]) = false := eq_no h10
  have q11 : ((S name).toList == [100, 101, 99, 114]) = false := eq_no h11
  have q12 : ((S name).toList == [116, 111, 117, 99, 104]) = false := eq_no h12
  have q13 : ((S name).toList == [100, 101, 108, 101, 116, 101]) = false := eq_no h13
  have q14 : ((S name).toList == [102, 108, 117, 115, 104, 95, 97, 108, 108]) = false := eq_no h14
  have q15 : ((S name).toList == [118, 101, 114, 115, 105, 111, 110]) = false := eq_no h15
  have q16 : ((S name).toList == [118, 101, 114, 98, 111, 115, 105, 116, 121]) = false := eq_no h16
  have q17 : ((S name).toList == [115, 116, 97, 116, 115]) = false := eq_no h17
  have q18 : ((S name).toList == [113, 117, 105, 116]) = false := eq_no h18
  have hns : ¬ isStore name := by unfold isStore; simp only [not_or]; exact ⟨h4, h5, h6, h7, h8, h9⟩
  have hx : namedR name ws bh = .up mError 0 0 := by unfold namedR; rw [if_neg h0, if_neg h1, if_neg h2, if_neg h3, if_neg hns, if_neg h10, if_neg h11, if_neg h12, if_neg h13, if_neg h14, if_neg h15, if_neg h16, if_neg h17, if_neg h18]
  have HP := hidc (rdp_up (why := mError) (skip := 0) (used := 0) hx HB.out.rd rfl rfl HB.out.only)
  clear hx h hv HB hns h0 h1 h2 h3 h4 h5 h6 h7 h8 h9 h10 h11 h12 h13 h14 h15 h16 h17 h18
  generalize S name = NM at *
  generalize RdP R w (namedR name ws bh) = Q at *
  go_enter Tryd.func19, Tryd.ntmps19
  go_wp2_with fail
  exact ⟨rfl, HP.out⟩
end Go.Proofs.YtggeccndmmmnjaaDoor.Tx

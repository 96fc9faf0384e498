/-
  The reader's named at this program, for the stores. Conditions: the package variables hold what they were laid with.
-/
import Derived.Test.YtggeccndmmmnjaaDoorTxNamedA
import Derived.Test.YtggeccndmmmnjaaDoorTxStoreC
import Derived.Test.YtggeccndmmmnjaaDoorTxStoreO
namespace Go.Proofs.YtggeccndmmmnjaaDoor.Tx
open Go Go.RowKit Go.Lib Md

set_option maxHeartbeats 1000000 in
set_option maxRecDepth 100000 in
theorem named_wSet {R c : Nat} {ws : List (List UInt8)} {bh : List UInt8} {a : Option Addr} {w : World} (h : Rdr R ⟨ws, bh, false, 0, 0⟩ a c w) (hv : VarsR R w) :
    Calls Tryd.prog 19 #[.pointer (some ⟨R, 0, none⟩), .string (S wSet)] w (RdP R w (namedR wSet ws bh)) := by
  have HB := hidc (B1.start h hv)
  have q0 : ((S wSet).toList == [103, 101, 116]) = false := eq_no (by decide)
  have q1 : ((S wSet).toList == [103, 101, 116, 115]) = false := eq_no (by decide)
  have q2 : ((S wSet).toList == [103, 97, 116]) = false := eq_no (by decide)
  have q3 : ((S wSet).toList == [103, 97, 116, 115]) = false := eq_no (by decide)
  have q4 : ((S wSet).toList == [115, 101, 116]) = true := eq_yes _
  have q5 : ((S wSet).toList == [99, 97, 115]) = false := eq_no (by decide)
  have q6 : ((S wSet).toList == [97, 100, 100]) = false := eq_no (by decide)
  have q7 : ((S wSet).toList == [114, 101, 112, 108, 97, 99, 101]) = false := eq_no (by decide)
  have q8 : ((S wSet).toList == [97, 112, 112, 101, 110, 100]) = false := eq_no (by decide)
  have q9 : ((S wSet).toList == [112, 114, 101, 112, 101, 110, 100]) = false := eq_no (by decide)
  have q10 : ((S wSet).toList == [105, 110, 99, 114]) = false := eq_no (by decide)
  have q11 : ((S wSet).toList == [100, 101, 99, 114]) = false := eq_no (by decide)
  have q12 : ((S wSet).toList == [116, 111, 117, 99, 104]) = false := eq_no (by decide)
  have q13 : ((S wSet).toList == [100, 101, 108, 101, 116, 101]) = false := eq_no (by decide)
  have q14 : ((S wSet).toList == [102, 108, 117, 115, 104, 95, 97, 108, 108]) = false := eq_no (by decide)
  have q15 : ((S wSet).toList == [118, 101, 114, 115, 105, 111, 110]) = false := eq_no (by decide)
  have q16 : ((S wSet).toList == [118, 101, 114, 98, 111, 115, 105, 116, 121]) = false := eq_no (by decide)
  have q17 : ((S wSet).toList == [115, 116, 97, 116, 115]) = false := eq_no (by decide)
  have q18 : ((S wSet).toList == [113, 117, 105, 116]) = false := eq_no (by decide)
  have hx : namedR wSet ws bh = storeR wSet ws bh := by unfold namedR; rw [if_neg (by decide), if_neg (by decide), if_neg (by decide), if_neg (by decide), if_pos (by unfold isStore; decide)]
  rw [hx]
  clear hx h hv
  generalize hNM : S wSet = NM at *
  go_enter Tryd.func19, Tryd.ntmps19
  go_wp2_with fail
  generalize w.alloc (.cells #[.int .i64 0, .slice none 0 0, .bool false, .bool false, .string ⟨#[]⟩, .string ⟨#[]⟩, .int .i64 0, .bool false, .string ⟨#[]⟩, .slice none 0 0, .string ⟨#[]⟩] 27) = W at *
  rw [← hNM]
  refine (store_other HB.out.rd HB.out.vr (by decide)).mono ?_
  rintro e w1 hP
  rcases rdp_cases hP with ⟨cs, rfl, hcl, hco⟩ | ⟨ch, rfl⟩
  · have HR := hidc (rdp_res HB.out hP)
    have HF : Hid (∀ D, Only (fun b => b = w.heap.size) w1 D → RdP R w (storeR wSet ws bh) (.returned (.agg cs.toArray)) D) := hidc fun D ho => rdp_laid HB.out hP ho
    generalize RdP R w (storeR wSet ws bh) = Q at *
    clear hP HB
    have HL := hidc (And.intro hcl hco)
    clear hcl hco
    go_wp2_with (refine stRq rfl rfl rfl rfl rfl HR.out rfl HL.out.1 HL.out.2 ?_; intro D hD oD; have HW := hidc (And.intro hD (HF.out D oD)); clear hD oD)
    exact bodyPost_ret (res_rqL HL.out.1 rfl HW.out.1 rfl) rfl HW.out.2
  · have HP := hidc (rdp_thru HB.out hP)
    generalize RdP R w (storeR wSet ws bh) = Q at *
    clear hP HB
    go_wp2_with fail
    exact ⟨rfl, HP.out⟩
set_option maxHeartbeats 1000000 in
set_option maxRecDepth 100000 in
theorem named_wCas {R c : Nat} {ws : List (List UInt8)} {bh : List UInt8} {a : Option Addr} {w : World} (h : Rdr R ⟨ws, bh, false, 0, 0⟩ a c w) (hv : VarsR R w) :
    Calls Tryd.prog 19 #[.pointer (some ⟨R, 0, none⟩), .string (S wCas)] w (RdP R w (namedR wCas ws bh)) := by
  have HB := hidc (B1.start h hv)
  have q0 : ((S wCas).toList == [103, 101, 116]) = false := eq_no (by decide)
  have q1 : ((S wCas).toList == [103, 101, 116, 115]) = false := eq_no (by decide)
  have q2 : ((S wCas).toList == [103, 97, 116]) = false := eq_no (by decide)
  have q3 : ((S wCas).toList == [103, 97, 116, 115]) = false := eq_no (by decide)
  have q4 : ((S wCas).toList == [115, 101, 116]) = false := eq_no (by decide)
  have q5 : ((S wCas).toList == [99, 97, 115]) = true := eq_yes _
  have q6 : ((S wCas).toList == [97, 100, 100]) = false := eq_no (by decide)
  have q7 : ((S wCas).toList == [114, 101, 112, 108, 97, 99, 101]) = false := eq_no (by decide)
  have q8 : ((S wCas).toList == [97, 112, 112, 101, 110, 100]) = false := eq_no (by decide)
  have q9 : ((S wCas).toList == [112, 114, 101, 112, 101, 110, 100]) = false := eq_no (by decide)
  have q10 : ((S wCas).toList == [105, 110, 99, 114]) = false := eq_no (by decide)
  have q11 : ((S wCas).toList == [100, 101, 99, 114]) = false := eq_no (by decide)
  have q12 : ((S wCas).toList == [116, 111, 117, 99, 104]) = false := eq_no (by decide)
  have q13 : ((S wCas).toList == [100, 101, 108, 101, 116, 101]) = false := eq_no (by decide)
  have q14 : ((S wCas).toList == [102, 108, 117, 115, 104, 95, 97, 108, 108]) = false := eq_no (by decide)
  have q15 : ((S wCas).toList == [118, 101, 114, 115, 105, 111, 110]) = false := eq_no (by decide)
  have q16 : ((S wCas).toList == [118, 101, 114, 98, 111, 115, 105, 116, 121]) = false := eq_no (by decide)
  have q17 : ((S wCas).toList == [115, 116, 97, 116, 115]) = false := eq_no (by decide)
  have q18 : ((S wCas).toList == [113, 117, 105, 116]) = false := eq_no (by decide)
  have hx : namedR wCas ws bh = storeR wCas ws bh := by unfold namedR; rw [if_neg (by decide), if_neg (by decide), if_neg (by decide), if_neg (by decide), if_pos (by unfold isStore; decide)]
  rw [hx]
  clear hx h hv
  generalize hNM : S wCas = NM at *
  go_enter Tryd.func19, Tryd.ntmps19
  go_wp2_with fail
  generalize w.alloc (.cells #[.int .i64 0, .slice none 0 0, .bool false, .bool false, .string ⟨#[]⟩, .string ⟨#[]⟩, .int .i64 0, .bool false, .string ⟨#[]⟩, .slice none 0 0, .string ⟨#[]⟩] 27) = W at *
  rw [← hNM]
  refine (store_cas HB.out.rd HB.out.vr).mono ?_
  rintro e w1 hP
  rcases rdp_cases hP with ⟨cs, rfl, hcl, hco⟩ | ⟨ch, rfl⟩
  · have HR := hidc (rdp_res HB.out hP)
    have HF : Hid (∀ D, Only (fun b => b = w.heap.size) w1 D → RdP R w (storeR wCas ws bh) (.returned (.agg cs.toArray)) D) := hidc fun D ho => rdp_laid HB.out hP ho
    generalize RdP R w (storeR wCas ws bh) = Q at *
    clear hP HB
    have HL := hidc (And.intro hcl hco)
    clear hcl hco
    go_wp2_with (refine stRq rfl rfl rfl rfl rfl HR.out rfl HL.out.1 HL.out.2 ?_; intro D hD oD; have HW := hidc (And.intro hD (HF.out D oD)); clear hD oD)
    exact bodyPost_ret (res_rqL HL.out.1 rfl HW.out.1 rfl) rfl HW.out.2
  · have HP := hidc (rdp_thru HB.out hP)
    generalize RdP R w (storeR wCas ws bh) = Q at *
    clear hP HB
    go_wp2_with fail
    exact ⟨rfl, HP.out⟩
set_option maxHeartbeats 1000000 in
set_option maxRecDepth 100000 in
theorem named_wAdd {R c : Nat} {ws : List (List UInt8)} {bh : List UInt8} {a : Option Addr} {w : World} (h : Rdr R ⟨ws, bh, false, 0, 0⟩ a c w) (hv : VarsR R w) :
    Calls Tryd.prog 19 #[.pointer (some ⟨R, 0, none⟩), .string (S wAdd)] w (RdP R w (namedR wAdd ws bh)) := by
  have HB := hidc (B1.start h hv)
  have q0 : ((S wAdd).toList == [103, 101, 116]) = false := eq_no (by decide)
  have q1 : ((S wAdd).toList == [103, 101, 116, 115]) = false := eq_no (by decide)
  have q2 : ((S wAdd).toList == [103, 97, 116]) = false := eq_no (by decide)
  have q3 : ((S wAdd).toList == [103, 97, 116, 115]) = false := eq_no (by decide)
  have q4 : ((S wAdd).toList == [115, 101, 116]) = false := eq_no (by decide)
  have q5 : ((S wAdd).toList == [99, 97, 115]) = false := eq_no (by decide)
  have q6 : ((S wAdd).toList == [97, 100, 100]) = true := eq_yes _
  have q7 : ((S wAdd).toList == [114, 101, 112, 108, 97, 99, 101]) = false := eq_no (by decide)
  have q8 : ((S wAdd).toList == [97, 112, 112, 101, 110, 100]) = false := eq_no (by decide)
  have q9 : ((S wAdd).toList == [112, 114, 101, 112, 101, 110, 100]) = false := eq_no (by decide)
  have q10 : ((S wAdd).toList == [105, 110, 99, 114]) = false := eq_no (by decide)
  have q11 : ((S wAdd).toList == [100, 101, 99, 114]) = false := eq_no (by decide)
  have q12 : ((S wAdd).toList == [116, 111, 117, 99, 104]) = false := eq_no (by decide)
  have q13 : ((S wAdd).toList == [100, 101, 108, 101, 116, 101]) = false := eq_no (by decide)
  have q14 : ((S wAdd).toList == [102, 108, 117, 115, 104, 95, 97, 108, 108]) = false := eq_no (by decide)
  have q15 : ((S wAdd).toList == [118, 101, 114, 115, 105, 111, 110]) = false := eq_no (by decide)
  have q16 : ((S wAdd).toList == [118, 101, 114, 98, 111, 115, 105, 116, 121]) = false := eq_no (by decide)
  have q17 : ((S wAdd).toList == [115, 116, 97, 116, 115]) = false := eq_no (by decide)
  have q18 : ((S wAdd).toList == [113, 117, 105, 116]) = false := eq_no (by decide)
  have hx : namedR wAdd ws bh = storeR wAdd ws bh := by unfold namedR; rw [if_neg (by decide), if_neg (by decide), if_neg (by decide), if_neg (by decide), if_pos (by unfold isStore; decide)]
  rw [hx]
  clear hx h hv
  generalize hNM : S wAdd = NM at *
  go_enter Tryd.func19, Tryd.ntmps19
  go_wp2_with fail
  generalize w.alloc (.cells #[.int .i64 0, .slice none 0 0, .bool false, .bool false, .string ⟨#[]⟩, .string ⟨#[]⟩, .int .i64 0, .bool false, .string ⟨#[]⟩, .slice none 0 0, .string ⟨#[]⟩] 27) = W at *
  rw [← hNM]
  refine (store_other HB.out.rd HB.out.vr (by decide)).mono ?_
  rintro e w1 hP
  rcases rdp_cases hP with ⟨cs, rfl, hcl, hco⟩ | ⟨ch, rfl⟩
  · have HR := hidc (rdp_res HB.out hP)
    have HF : Hid (∀ D, Only (fun b => b = w.heap.size) w1 D → RdP R w (storeR wAdd ws bh) (.returned (.agg cs.toArray)) D) := hidc fun D ho => rdp_laid HB.out hP ho
    generalize RdP R w (storeR wAdd ws bh) = Q at *
    clear hP HB
    have HL := hidc (And.intro hcl hco)
    clear hcl hco
    go_wp2_with (refine stRq rfl rfl rfl rfl rfl HR.out rfl HL.out.1 HL.out.2 ?_; intro D hD oD; have HW := hidc (And.intro hD (HF.out D oD)); clear hD oD)
    exact bodyPost_ret (res_rqL HL.out.1 rfl HW.out.1 rfl) rfl HW.out.2
  · have HP := hidc (rdp_thru HB.out hP)
    generalize RdP R w (storeR wAdd ws bh) = Q at *
    clear hP HB
    go_wp2_with fail
    exact ⟨rfl, HP.out⟩
set_option maxHeartbeats 1000000 in
set_option maxRecDepth 100000 in
theorem named_wReplace {R c : Nat} {ws : List (List UInt8)} {bh : List UInt8} {a : Option Addr} {w : World} (h : Rdr R ⟨ws, bh, false, 0, 0⟩ a c w) (hv : VarsR R w) :
    Calls Tryd.prog 19 #[.pointer (some ⟨R, 0, none⟩), .string (S wReplace)] w (RdP R w (namedR wReplace ws bh)) := by
  have HB := hidc (B1.start h hv)
  have q0 : ((S wReplace).toList == [103, 101, 116]) = false := eq_no (by decide)
  have q1 : ((S wReplace).toList == [103, 101, 116, 115]) = false := eq_no (by decide)
  have q2 : ((S wReplace).toList == [103, 97, 116]) = false := eq_no (by decide)
  have q3 : ((S wReplace).toList == [103, 97, 116, 115]) = false := eq_no (by decide)
  have q4 : ((S wReplace).toList == [115, 101, 116]) = false := eq_no (by decide)
  have q5 : ((S wReplace).toList == [99, 97, 115]) = false := eq_no (by decide)
  have q6 : ((S wReplace).toList == [97, 100, 100]) = false := eq_no (by decide)
  have q7 : ((S wReplace).toList == [114, 101, 112, 108, 97, 99, 101]) = true := eq_yes _
  have q8 : ((S wReplace).toList == [97, 112, 112, 101, 110, 100]) = false := eq_no (by decide)
  have q9 : ((S wReplace).toList == [112, 114, 101, 112, 101, 110, 100]) = false := eq_no (by decide)
  have q10 : ((S wReplace).toList == [105, 110, 99, 114]) = false := eq_no (by decide)
  have q11 : ((S wReplace).toList == [100, 101, 99, 114]) = false := eq_no (by decide)
  have q12 : ((S wReplace).toList == [116, 111, 117, 99, 104]) = false := eq_no (by decide)
  have q13 : ((S wReplace).toList == [100, 101, 108, 101, 116, 101]) = false := eq_no (by decide)
  have q14 : ((S wReplace).toList == [102, 108, 117, 115, 104, 95, 97, 108, 108]) = false := eq_no (by decide)
  have q15 : ((S wReplace).toList == [118, 101, 114, 115, 105, 111, 110]) = false := eq_no (by decide)
  have q16 : ((S wReplace).toList == [118, 101, 114, 98, 111, 115, 105, 116, 121]) = false := eq_no (by decide)
  have q17 : ((S wReplace).toList == [115, 116, 97, 116, 115]) = false := eq_no (by decide)
  have q18 : ((S wReplace).toList == [113, 117, 105, 116]) = false := eq_no (by decide)
  have hx : namedR wReplace ws bh = storeR wReplace ws bh := by unfold namedR; rw [if_neg (by decide), if_neg (by decide), if_neg (by decide), if_neg (by decide), if_pos (by unfold isStore; decide)]
  rw [hx]
  clear hx h hv
  generalize hNM : S wReplace = NM at *
  go_enter Tryd.func19, Tryd.ntmps19
  go_wp2_with fail
  generalize w.alloc (.cells #[.int .i64 0, .slice none 0 0, .bool false, .bool false, .string ⟨#[]⟩, .string ⟨#[]⟩, .int .i64 0, .bool false, .string ⟨#[]⟩, .slice none 0 0, .string ⟨#[]⟩] 27) = W at *
  rw [← hNM]
  refine (store_other HB.out.rd HB.out.vr (by decide)).mono ?_
  rintro e w1 hP
  rcases rdp_cases hP with ⟨cs, rfl, hcl, hco⟩ | ⟨ch, rfl⟩
  · have HR := hidc (rdp_res HB.out hP)
    have HF : Hid (∀ D, Only (fun b => b = w.heap.size) w1 D → RdP R w (storeR wReplace ws bh) (.returned (.agg cs.toArray)) D) := hidc fun D ho => rdp_laid HB.out hP ho
    generalize RdP R w (storeR wReplace ws bh) = Q at *
    clear hP HB
    have HL := hidc (And.intro hcl hco)
    clear hcl hco
    go_wp2_with (refine stRq rfl rfl rfl rfl rfl HR.out rfl HL.out.1 HL.out.2 ?_; intro D hD oD; have HW := hidc (And.intro hD (HF.out D oD)); clear hD oD)
    exact bodyPost_ret (res_rqL HL.out.1 rfl HW.out.1 rfl) rfl HW.out.2
  · have HP := hidc (rdp_thru HB.out hP)
    generalize RdP R w (storeR wReplace ws bh) = Q at *
    clear hP HB
    go_wp2_with fail
    exact ⟨rfl, HP.out⟩
set_option maxHeartbeats 1000000 in
set_option maxRecDepth 100000 in
theorem named_wAppend {R c : Nat} {ws : List (List UInt8)} {bh : List UInt8} {a : Option Addr} {w : World} (h : Rdr R ⟨ws, bh, false, 0, 0⟩ a c w) (hv : VarsR R w) :
    Calls Tryd.prog 19 #[.pointer (some ⟨R, 0, none⟩), .string (S wAppend)] w (RdP R w (namedR wAppend ws bh)) := by
  have HB := hidc (B1.start h hv)
  have q0 : ((S wAppend).toList == [103, 101, 116]) = false := eq_no (by decide)
  have q1 : ((S wAppend).toList == [103, 101, 116, 115]) = false := eq_no (by decide)
  have q2 : ((S wAppend).toList == [103, 97, 116]) = false := eq_no (by decide)
  have q3 : ((S wAppend).toList == [103, 97, 116, 115]) = false := eq_no (by decide)
  have q4 : ((S wAppend).toList == [115, 101, 116]) = false := eq_no (by decide)
  have q5 : ((S wAppend).toList == [99, 97, 115]) = false := eq_no (by decide)
  have q6 : ((S wAppend).toList == [97, 100, 100]) = false := eq_no (by decide)
  have q7 : ((S wAppend).toList == [114, 101, 112, 108, 97, 99, 101]) = false := eq_no (by decide)
  have q8 : ((S wAppend).toList == [97, 112, 112, 101, 110, 100]) = true := eq_yes _
  have q9 : ((S wAppend).toList == [112, 114, 101, 112, 101, 110, 100]) = false := eq_no (by decide)
  have q10 : ((S wAppend).toList == [105, 110, 99, 114]) = false := eq_no (by decide)
  have q11 : ((S wAppend).toList == [100, 101, 99, 114]) = false := eq_no (by decide)
  have q12 : ((S wAppend).toList == [116, 111, 117, 99, 104]) = false := eq_no (by decide)
  have q13 : ((S wAppend).toList == [100, 101, 108, 101, 116, 101]) = false := eq_no (by decide)
  have q14 : ((S wAppend).toList == [102, 108, 117, 115, 104, 95, 97, 108, 108]) = false := eq_no (by decide)
  have q15 : ((S wAppend).toList == [118, 101, 114, 115, 105, 111, 110]) = false := eq_no (by decide)
  have q16 : ((S wAppend).toList == [118, 101, 114, 98, 111, 115, 105, 116, 121]) = false := eq_no (by decide)
  have q17 : ((S wAppend).toList == [115, 116, 97, 116, 115]) = false := eq_no (by decide)
  have q18 : ((S wAppend).toList == [113, 117, 105, 116]) = false := eq_no (by decide)
  have hx : namedR wAppend ws bh = storeR wAppend ws bh := by unfold namedR; rw [if_neg (by decide), if_neg (by decide), if_neg (by decide), if_neg (by decide), if_pos (by unfold isStore; decide)]
  rw [hx]
  clear hx h hv
  generalize hNM : S wAppend = NM at *
  go_enter Tryd.func19, Tryd.ntmps19
  go_wp2_with fail
  generalize w.alloc (.cells #[.int .i64 0, .slice none 0 0, .bool false, .bool false, .string ⟨#[]⟩, .string ⟨#[]⟩, .int .i64 0, .bool false, .string ⟨#[]⟩, .slice none 0 0, .string ⟨#[]⟩] 27) = W at *
  rw [← hNM]
  refine (store_other HB.out.rd HB.out.vr (by decide)).mono ?_
  rintro e w1 hP
  rcases rdp_cases hP with ⟨cs, rfl, hcl, hco⟩ | ⟨ch, rfl⟩
  · have HR := hidc (rdp_res HB.out hP)
    have HF : Hid (∀ D, Only (fun b => b = w.heap.size) w1 D → RdP R w (storeR wAppend ws bh) (.returned (.agg cs.toArray)) D) := hidc fun D ho => rdp_laid HB.out hP ho
    generalize RdP R w (storeR wAppend ws bh) = Q at *
    clear hP HB
    have HL := hidc (And.intro hcl hco)
    clear hcl hco
    go_wp2_with (refine stRq rfl rfl rfl rfl rfl HR.out rfl HL.out.1 HL.out.2 ?_; intro D hD oD; have HW := hidc (And.intro hD (HF.out D oD)); clear hD oD)
    exact bodyPost_ret (res_rqL HL.out.1 rfl HW.out.1 rfl) rfl HW.out.2
  · have HP := hidc (rdp_thru HB.out hP)
    generalize RdP R w (storeR wAppend ws bh) = Q at *
    clear hP HB
    go_wp2_with fail
    exact ⟨rfl, HP.out⟩
set_option maxHeartbeats 1000000 in
set_option maxRecDepth 100000 in
theorem named_wPrepend {R c : Nat} {ws : List (List UInt8)} {bh : List UInt8} {a : Option Addr} {w : World} (h : Rdr R ⟨ws, bh, false, 0, 0⟩ a c w) (hv : VarsR R w) :
    Calls Tryd.prog 19 #[.pointer (some ⟨R, 0, none⟩), .string (S wPrepend)] w (RdP R w (namedR wPrepend ws bh)) := by
  have HB := hidc (B1.start h hv)
  have q0 : ((S wPrepend).toList == [103, 101, 116]) = false := eq_no (by decide)
  have q1 : ((S wPrepend).toList == [103, 101, 116, 115]) = false := eq_no (by decide)
  have q2 : ((S wPrepend).toList == [103, 97, 116]) = false := eq_no (by decide)
  have q3 : ((S wPrepend).toList == [103, 97, 116, 115]) = false := eq_no (by decide)
  have q4 : ((S wPrepend).toList == [115, 101, 116]) = false := eq_no (by decide)
  have q5 : ((S wPrepend).toList == [99, 97, 115]) = false := eq_no (by decide)
  have q6 : ((S wPrepend).toList == [97, 100, 100]) = false := eq_no (by decide)
  have q7 : ((S wPrepend).toList == [114, 101, 112, 108, 97, 99, 101]) = false := eq_no (by decide)
  have q8 : ((S wPrepend).toList == [97, 112, 112, 101, 110, 100]) = false := eq_no (by decide)
  have q9 : ((S wPrepend).toList == [112, 114, 101, 112, 101, 110, 100]) = true := eq_yes _
  have q10 : ((S wPrepend).toList == [105, 110, 99, 114]) = false := eq_no (by decide)
  have q11 : ((S wPrepend).toList == [100, 101, 99, 114]) = false := eq_no (by decide)
  have q12 : ((S wPrepend).toList == [116, 111, 117, 99, 104]) = false := eq_no (by decide)
  have q13 : ((S wPrepend).toList == [100, 101, 108, 101, 116, 101]) = false := eq_no (by decide)
  have q14 : ((S wPrepend).toList == [102, 108, 117, 115, 104, 95, 97, 108, 108]) = false := eq_no (by decide)
  have q15 : ((S wPrepend).toList == [118, 101, 114, 115, 105, 111, 110]) = false := eq_no (by decide)
  have q16 : ((S wPrepend).toList == [118, 101, 114, 98, 111, 115, 105, 116, 121]) = false := eq_no (by decide)
  have q17 : ((S wPrepend).toList == [115, 116, 97, 116, 115]) = false := eq_no (by decide)
  have q18 : ((S wPrepend).toList == [113, 117, 105, 116]) = false := eq_no (by decide)
  have hx : namedR wPrepend ws bh = storeR wPrepend ws bh := by unfold namedR; rw [if_neg (by decide), if_neg (by decide), if_neg (by decide), if_neg (by decide), if_pos (by unfold isStore; decide)]
  rw [hx]
  clear hx h hv
  generalize hNM : S wPrepend = NM at *
  go_enter Tryd.func19, Tryd.ntmps19
  go_wp2_with fail
  generalize w.alloc (.cells #[.int .i64 0, .slice none 0 0, .bool false, .bool false, .string ⟨#[]⟩, .string ⟨#[]⟩, .int .i64 0, .bool false, .string ⟨#[]⟩, .slice none 0 0, .string ⟨#[]⟩] 27) = W at *
  rw [← hNM]
  refine (store_other HB.out.rd HB.out.vr (by decide)).mono ?_
  rintro e w1 hP
  rcases rdp_cases hP with ⟨cs, rfl, hcl, hco⟩ | ⟨ch, rfl⟩
  · have HR := hidc (rdp_res HB.out hP)
    have HF : Hid (∀ D, Only (fun b => b = w.heap.size) w1 D → RdP R w (storeR wPrepend ws bh) (.returned (.agg cs.toArray)) D) := hidc fun D ho => rdp_laid HB.out hP ho
    generalize RdP R w (storeR wPrepend ws bh) = Q at *
    clear hP HB
    have HL := hidc (And.intro hcl hco)
    clear hcl hco
    go_wp2_with (refine stRq rfl rfl rfl rfl rfl HR.out rfl HL.out.1 HL.out.2 ?_; intro D hD oD; have HW := hidc (And.intro hD (HF.out D oD)); clear hD oD)
    exact bodyPost_ret (res_rqL HL.out.1 rfl HW.out.1 rfl) rfl HW.out.2
  · have HP := hidc (rdp_thru HB.out hP)
    generalize RdP R w (storeR wPrepend ws bh) = Q at *
    clear hP HB
    go_wp2_with fail
    exact ⟨rfl, HP.out⟩
end Go.Proofs.YtggeccndmmmnjaaDoor.Tx

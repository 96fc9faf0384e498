/-
  The reader's named at this program, for get, gets, gat, gats, incr, decr, touch, delete, flush_all. Conditions: the package variables hold what they were laid with.
-/
import Derived.Test.YtggeccndmmmnjaaDoorTxGat
import Derived.Test.YtggeccndmmmnjaaDoorTxTouch
import Derived.Test.YtggeccndmmmnjaaDoorTxMathM
import Derived.Test.YtggeccndmmmnjaaDoorTxRemove
import Derived.Test.YtggeccndmmmnjaaDoorTxFlush
namespace Go.Proofs.YtggeccndmmmnjaaDoor.Tx
open Go Go.RowKit Go.Lib Md

/-! What a method comes to, read by who called it -/
section
variable {R c : Nat} {s : RS} {a : Option Addr} {w W w1 : World} {x : Rd} {e : Ending}
theorem rdp_cases (h : RdP R W x e w1) : (∃ cs : List Value, e = .returned (.agg cs.toArray) ∧ cs.length = 11 ∧ ∀ u ∈ cs, u.oneCell' = true) ∨ ∃ ch, e = .panicked ch := by
  obtain ⟨ho, h⟩ := h
  cases x with
  | done q used =>
    obtain ⟨v, rfl, hq, _⟩ := h
    obtain ⟨cs, rfl, h1, h2⟩ := isrq_cells hq
    exact .inl ⟨cs, rfl, h1, h2⟩
  | up why sk us =>
    obtain ⟨rfl, _⟩ := h
    exact .inr ⟨_, rfl⟩
theorem rdp_res (hB : B1 R s a c w W) (h : RdP R W x e w1) : Blk w1 w.heap.size 27 (rqc noRq (.slice none 0 0)) := hB.res.only h.1 (by have := hB.lt; omega)
theorem rdp_laid (hB : B1 R s a c w W) {cs : List Value} (h : RdP R W x (.returned (.agg cs.toArray)) w1) {D : World} (ho : Only (fun b => b = w.heap.size) w1 D) : RdP R w x (.returned (.agg cs.toArray)) D := by
  have h1 := hB.lt
  have h2 := hB.res.lt
  obtain ⟨hoW, h⟩ := h
  refine ⟨Only.trans (Only.trans hB.only hoW (fun _ e => .inl e)) ho (fun b e => .inr (by omega)), ?_⟩
  cases x with
  | done q used =>
    obtain ⟨v, e, hq, c0, c1, c2, c3, hb⟩ := h
    cases e
    exact ⟨_, rfl, (hq.only ho (fun b hb _ e => by omega)).mono (by omega), c0, c1, c2, c3, hb.only ho (by omega)⟩
  | up why sk us => cases h.1
theorem rdp_thru (hB : B1 R s a c w W) {ch : List PanicEntry} (h : RdP R W x (.panicked ch) w1) : RdP R w x (.panicked ch) w1 := by
  obtain ⟨hoW, h⟩ := h
  refine ⟨Only.trans hB.only hoW (fun _ e => .inl e), ?_⟩
  cases x with
  | done q used => obtain ⟨v, e, _⟩ := h; cases e
  | up why sk us => exact h
theorem B1.vr (h : B1 R s a c w W) : VarsR R W := h.vw.only h.only
end
set_option maxHeartbeats 1000000 in
set_option maxRecDepth 100000 in
theorem named_wGet {R c : Nat} {ws : List (List UInt8)} {bh : List UInt8} {a : Option Addr} {w : World} (h : Rdr R ⟨ws, bh, false, 0, 0⟩ a c w) (hv : VarsR R w) :
    Calls Tryd.prog 19 #[.pointer (some ⟨R, 0, none⟩), .string (S wGet)] w (RdP R w (namedR wGet ws bh)) := by
  have HB := hidc (B1.start h hv)
  have q0 : ((S wGet).toList == [103, 101, 116]) = true := eq_yes _
  have q1 : ((S wGet).toList == [103, 101, 116, 115]) = false := eq_no (by decide)
  have q2 : ((S wGet).toList == [103, 97, 116]) = false := eq_no (by decide)
  have q3 : ((S wGet).toList == [103, 97, 116, 115]) = false := eq_no (by decide)
  have q4 : ((S wGet).toList == [115, 101, 116]) = false := eq_no (by decide)
  have q5 : ((S wGet).toList == [99, 97, 115]) = false := eq_no (by decide)
  have q6 : ((S wGet).toList == [97, 100, 100]) = false := eq_no (by decide)
  have q7 : ((S wGet).toList == [114, 101, 112, 108, 97, 99, 101]) = false := eq_no (by decide)
  have q8 : ((S wGet).toList == [97, 112, 112, 101, 110, 100]) = false := eq_no (by decide)
  have q9 : ((S wGet).toList == [112, 114, 101, 112, 101, 110, 100]) = false := eq_no (by decide)
  have q10 : ((S wGet).toList == [105, 110, 99, 114]) = false := eq_no (by decide)
  have q11 : ((S wGet).toList == [100, 101, 99, 114]) = false := eq_no (by decide)
  have q12 : ((S wGet).toList == [116, 111, 117, 99, 104]) = false := eq_no (by decide)
  have q13 : ((S wGet).toList == [100, 101, 108, 101, 116, 101]) = false := eq_no (by decide)
  have q14 : ((S wGet).toList == [102, 108, 117, 115, 104, 95, 97, 108, 108]) = false := eq_no (by decide)
  have q15 : ((S wGet).toList == [118, 101, 114, 115, 105, 111, 110]) = false := eq_no (by decide)
  have q16 : ((S wGet).toList == [118, 101, 114, 98, 111, 115, 105, 116, 121]) = false := eq_no (by decide)
  have q17 : ((S wGet).toList == [115, 116, 97, 116, 115]) = false := eq_no (by decide)
  have q18 : ((S wGet).toList == [113, 117, 105, 116]) = false := eq_no (by decide)
  have hx : namedR wGet ws bh = getR ws false := by unfold namedR; rw [if_pos rfl]
  rw [hx]
  clear hx h hv
  generalize hNM : S wGet = NM at *
  go_enter Tryd.func19, Tryd.ntmps19
  go_wp2_with fail
  generalize w.alloc (.cells #[.int .i64 0, .slice none 0 0, .bool false, .bool false, .string ⟨#[]⟩, .string ⟨#[]⟩, .int .i64 0, .bool false, .string ⟨#[]⟩, .slice none 0 0, .string ⟨#[]⟩] 27) = W at *
  refine (get_any HB.out.rd HB.out.vr false).mono ?_
  rintro e w1 hP
  rcases rdp_cases hP with ⟨cs, rfl, hcl, hco⟩ | ⟨ch, rfl⟩
  · have HR := hidc (rdp_res HB.out hP)
    have HF : Hid (∀ D, Only (fun b => b = w.heap.size) w1 D → RdP R w (getR ws false) (.returned (.agg cs.toArray)) D) := hidc fun D ho => rdp_laid HB.out hP ho
    generalize RdP R w (getR ws false) = Q at *
    clear hP HB
    have HL := hidc (And.intro hcl hco)
    clear hcl hco
    go_wp2_with (refine stRq rfl rfl rfl rfl rfl HR.out rfl HL.out.1 HL.out.2 ?_; intro D hD oD; have HW := hidc (And.intro hD (HF.out D oD)); clear hD oD)
    exact bodyPost_ret (res_rqL HL.out.1 rfl HW.out.1 rfl) rfl HW.out.2
  · have HP := hidc (rdp_thru HB.out hP)
    generalize RdP R w (getR ws false) = Q at *
    clear hP HB
    go_wp2_with fail
    exact ⟨rfl, HP.out⟩
set_option maxHeartbeats 1000000 in
set_option maxRecDepth 100000 in
theorem named_wGets {R c : Nat} {ws : List (List UInt8)} {bh : List UInt8} {a : Option Addr} {w : World} (h : Rdr R ⟨ws, bh, false, 0, 0⟩ a c w) (hv : VarsR R w) :
    Calls Tryd.prog 19 #[.pointer (some ⟨R, 0, none⟩), .string (S wGets)] w (RdP R w (namedR wGets ws bh)) := by
  have HB := hidc (B1.start h hv)
  have q0 : ((S wGets).toList == [103, 101, 116]) = false := eq_no (by decide)
  have q1 : ((S wGets).toList == [103, 101, 116, 115]) = true := eq_yes _
  have q2 : ((S wGets).toList == [103, 97, 116]) = false := eq_no (by decide)
  have q3 : ((S wGets).toList == [103, 97, 116, 115]) = false := eq_no (by decide)
  have q4 : ((S wGets).toList == [115, 101, 116]) = false := eq_no (by decide)
  have q5 : ((S wGets).toList == [99, 97, 115]) = false := eq_no (by decide)
  have q6 : ((S wGets).toList == [97, 100, 100]) = false := eq_no (by decide)
  have q7 : ((S wGets).toList == [114, 101, 112, 108, 97, 99, 101]) = false := eq_no (by decide)
  have q8 : ((S wGets).toList == [97, 112, 112, 101, 110, 100]) = false := eq_no (by decide)
  have q9 : ((S wGets).toList == [112, 114, 101, 112, 101, 110, 100]) = false := eq_no (by decide)
  have q10 : ((S wGets).toList == [105, 110, 99, 114]) = false := eq_no (by decide)
  have q11 : ((S wGets).toList == [100, 101, 99, 114]) = false := eq_no (by decide)
  have q12 : ((S wGets).toList == [116, 111, 117, 99, 104]) = false := eq_no (by decide)
  have q13 : ((S wGets).toList == [100, 101, 108, 101, 116, 101]) = false := eq_no (by decide)
  have q14 : ((S wGets).toList == [102, 108, 117, 115, 104, 95, 97, 108, 108]) = false := eq_no (by decide)
  have q15 : ((S wGets).toList == [118, 101, 114, 115, 105, 111, 110]) = false := eq_no (by decide)
  have q16 : ((S wGets).toList == [118, 101, 114, 98, 111, 115, 105, 116, 121]) = false := eq_no (by decide)
  have q17 : ((S wGets).toList == [115, 116, 97, 116, 115]) = false := eq_no (by decide)
  have q18 : ((S wGets).toList == [113, 117, 105, 116]) = false := eq_no (by decide)
  have hx : namedR wGets ws bh = getR ws true := by unfold namedR; rw [if_neg (by decide), if_pos rfl]
  rw [hx]
  clear hx h hv
  generalize hNM : S wGets = NM at *
  go_enter Tryd.func19, Tryd.ntmps19
  go_wp2_with fail
  generalize w.alloc (.cells #[.int .i64 0, .slice none 0 0, .bool false, .bool false, .string ⟨#[]⟩, .string ⟨#[]⟩, .int .i64 0, .bool false, .string ⟨#[]⟩, .slice none 0 0, .string ⟨#[]⟩] 27) = W at *
  refine (get_any HB.out.rd HB.out.vr true).mono ?_
  rintro e w1 hP
  rcases rdp_cases hP with ⟨cs, rfl, hcl, hco⟩ | ⟨ch, rfl⟩
  · have HR := hidc (rdp_res HB.out hP)
    have HF : Hid (∀ D, Only (fun b => b = w.heap.size) w1 D → RdP R w (getR ws true) (.returned (.agg cs.toArray)) D) := hidc fun D ho => rdp_laid HB.out hP ho
    generalize RdP R w (getR ws true) = Q at *
    clear hP HB
    have HL := hidc (And.intro hcl hco)
    clear hcl hco
    go_wp2_with (refine stRq rfl rfl rfl rfl rfl HR.out rfl HL.out.1 HL.out.2 ?_; intro D hD oD; have HW := hidc (And.intro hD (HF.out D oD)); clear hD oD)
    exact bodyPost_ret (res_rqL HL.out.1 rfl HW.out.1 rfl) rfl HW.out.2
  · have HP := hidc (rdp_thru HB.out hP)
    generalize RdP R w (getR ws true) = Q at *
    clear hP HB
    go_wp2_with fail
    exact ⟨rfl, HP.out⟩
set_option maxHeartbeats 1000000 in
set_option maxRecDepth 100000 in
theorem named_wGat {R c : Nat} {ws : List (List UInt8)} {bh : List UInt8} {a : Option Addr} {w : World} (h : Rdr R ⟨ws, bh, false, 0, 0⟩ a c w) (hv : VarsR R w) :
    Calls Tryd.prog 19 #[.pointer (some ⟨R, 0, none⟩), .string (S wGat)] w (RdP R w (namedR wGat ws bh)) := by
  have HB := hidc (B1.start h hv)
  have q0 : ((S wGat).toList == [103, 101, 116]) = false := eq_no (by decide)
  have q1 : ((S wGat).toList == [103, 101, 116, 115]) = false := eq_no (by decide)
  have q2 : ((S wGat).toList == [103, 97, 116]) = true := eq_yes _
  have q3 : ((S wGat).toList == [103, 97, 116, 115]) = false := eq_no (by decide)
  have q4 : ((S wGat).toList == [115, 101, 116]) = false := eq_no (by decide)
  have q5 : ((S wGat).toList == [99, 97, 115]) = false := eq_no (by decide)
  have q6 : ((S wGat).toList == [97, 100, 100]) = false := eq_no (by decide)
  have q7 : ((S wGat).toList == [114, 101, 112, 108, 97, 99, 101]) = false := eq_no (by decide)
  have q8 : ((S wGat).toList == [97, 112, 112, 101, 110, 100]) = false := eq_no (by decide)
  have q9 : ((S wGat).toList == [112, 114, 101, 112, 101, 110, 100]) = false := eq_no (by decide)
  have q10 : ((S wGat).toList == [105, 110, 99, 114]) = false := eq_no (by decide)
  have q11 : ((S wGat).toList == [100, 101, 99, 114]) = false := eq_no (by decide)
  have q12 : ((S wGat).toList == [116, 111, 117, 99, 104]) = false := eq_no (by decide)
  have q13 : ((S wGat).toList == [100, 101, 108, 101, 116, 101]) = false := eq_no (by decide)
  have q14 : ((S wGat).toList == [102, 108, 117, 115, 104, 95, 97, 108, 108]) = false := eq_no (by decide)
  have q15 : ((S wGat).toList == [118, 101, 114, 115, 105, 111, 110]) = false := eq_no (by decide)
  have q16 : ((S wGat).toList == [118, 101, 114, 98, 111, 115, 105, 116, 121]) = false := eq_no (by decide)
  have q17 : ((S wGat).toList == [115, 116, 97, 116, 115]) = false := eq_no (by decide)
  have q18 : ((S wGat).toList == [113, 117, 105, 116]) = false := eq_no (by decide)
  have hx : namedR wGat ws bh = gatR ws false := by unfold namedR; rw [if_neg (by decide), if_neg (by decide), if_pos rfl]
  rw [hx]
  clear hx h hv
  generalize hNM : S wGat = NM at *
  go_enter Tryd.func19, Tryd.ntmps19
  go_wp2_with fail
  generalize w.alloc (.cells #[.int .i64 0, .slice none 0 0, .bool false, .bool false, .string ⟨#[]⟩, .string ⟨#[]⟩, .int .i64 0, .bool false, .string ⟨#[]⟩, .slice none 0 0, .string ⟨#[]⟩] 27) = W at *
  refine (gat_any HB.out.rd HB.out.vr false).mono ?_
  rintro e w1 hP
  rcases rdp_cases hP with ⟨cs, rfl, hcl, hco⟩ | ⟨ch, rfl⟩
  · have HR := hidc (rdp_res HB.out hP)
    have HF : Hid (∀ D, Only (fun b => b = w.heap.size) w1 D → RdP R w (gatR ws false) (.returned (.agg cs.toArray)) D) := hidc fun D ho => rdp_laid HB.out hP ho
    generalize RdP R w (gatR ws false) = Q at *
    clear hP HB
    have HL := hidc (And.intro hcl hco)
    clear hcl hco
    go_wp2_with (refine stRq rfl rfl rfl rfl rfl HR.out rfl HL.out.1 HL.out.2 ?_; intro D hD oD; have HW := hidc (And.intro hD (HF.out D oD)); clear hD oD)
    exact bodyPost_ret (res_rqL HL.out.1 rfl HW.out.1 rfl) rfl HW.out.2
  · have HP := hidc (rdp_thru HB.out hP)
    generalize RdP R w (gatR ws false) = Q at *
    clear hP HB
    go_wp2_with fail
    exact ⟨rfl, HP.out⟩
set_option maxHeartbeats 1000000 in
set_option maxRecDepth 100000 in
theorem named_wGats {R c : Nat} {ws : List (List UInt8)} {bh : List UInt8} {a : Option Addr} {w : World} (h : Rdr R ⟨ws, bh, false, 0, 0⟩ a c w) (hv : VarsR R w) :
    Calls Tryd.prog 19 #[.pointer (some ⟨R, 0, none⟩), .string (S wGats)] w (RdP R w (namedR wGats ws bh)) := by
  have HB := hidc (B1.start h hv)
  have q0 : ((S wGats).toList == [103, 101, 116]) = false := eq_no (by decide)
  have q1 : ((S wGats).toList == [103, 101, 116, 115]) = false := eq_no (by decide)
  have q2 : ((S wGats).toList == [103, 97, 116]) = false := eq_no (by decide)
  have q3 : ((S wGats).toList == [103, 97, 116, 115]) = true := eq_yes _
  have q4 : ((S wGats).toList == [115, 101, 116]) = false := eq_no (by decide)
  have q5 : ((S wGats).toList == [99, 97, 115]) = false := eq_no (by decide)
  have q6 : ((S wGats).toList == [97, 100, 100]) = false := eq_no (by decide)
  have q7 : ((S wGats).toList == [114, 101, 112, 108, 97, 99, 101]) = false := eq_no (by decide)
  have q8 : ((S wGats).toList == [97, 112, 112, 101, 110, 100]) = false := eq_no (by decide)
  have q9 : ((S wGats).toList == [112, 114, 101, 112, 101, 110, 100]) = false := eq_no (by decide)
  have q10 : ((S wGats).toList == [105, 110, 99, 114]) = false := eq_no (by decide)
  have q11 : ((S wGats).toList == [100, 101, 99, 114]) = false := eq_no (by decide)
  have q12 : ((S wGats).toList == [116, 111, 117, 99, 104]) = false := eq_no (by decide)
  have q13 : ((S wGats).toList == [100, 101, 108, 101, 116, 101]) = false := eq_no (by decide)
  have q14 : ((S wGats).toList == [102, 108, 117, 115, 104, 95, 97, 108, 108]) = false := eq_no (by decide)
  have q15 : ((S wGats).toList == [118, 101, 114, 115, 105, 111, 110]) = false := eq_no (by decide)
  have q16 : ((S wGats).toList == [118, 101, 114, 98, 111, 115, 105, 116, 121]) = false := eq_no (by decide)
  have q17 : ((S wGats).toList == [115, 116, 97, 116, 115]) = false := eq_no (by decide)
  have q18 : ((S wGats).toList == [113, 117, 105, 116]) = false := eq_no (by decide)
  have hx : namedR wGats ws bh = gatR ws true := by unfold namedR; rw [if_neg (by decide), if_neg (by decide), if_neg (by decide), if_pos rfl]
  rw [hx]
  clear hx h hv
  generalize hNM : S wGats = NM at *
  go_enter Tryd.func19, Tryd.ntmps19
  go_wp2_with fail
  generalize w.alloc (.cells #[.int .i64 0, .slice none 0 0, .bool false, .bool false, .string ⟨#[]⟩, .string ⟨#[]⟩, .int .i64 0, .bool false, .string ⟨#[]⟩, .slice none 0 0, .string ⟨#[]⟩] 27) = W at *
  refine (gat_any HB.out.rd HB.out.vr true).mono ?_
  rintro e w1 hP
  rcases rdp_cases hP with ⟨cs, rfl, hcl, hco⟩ | ⟨ch, rfl⟩
  · have HR := hidc (rdp_res HB.out hP)
    have HF : Hid (∀ D, Only (fun b => b = w.heap.size) w1 D → RdP R w (gatR ws true) (.returned (.agg cs.toArray)) D) := hidc fun D ho => rdp_laid HB.out hP ho
    generalize RdP R w (gatR ws true) = Q at *
    clear hP HB
    have HL := hidc (And.intro hcl hco)
    clear hcl hco
    go_wp2_with (refine stRq rfl rfl rfl rfl rfl HR.out rfl HL.out.1 HL.out.2 ?_; intro D hD oD; have HW := hidc (And.intro hD (HF.out D oD)); clear hD oD)
    exact bodyPost_ret (res_rqL HL.out.1 rfl HW.out.1 rfl) rfl HW.out.2
  · have HP := hidc (rdp_thru HB.out hP)
    generalize RdP R w (gatR ws true) = Q at *
    clear hP HB
    go_wp2_with fail
    exact ⟨rfl, HP.out⟩
set_option maxHeartbeats 1000000 in
set_option maxRecDepth 100000 in
theorem named_wIncr {R c : Nat} {ws : List (List UInt8)} {bh : List UInt8} {a : Option Addr} {w : World} (h : Rdr R ⟨ws, bh, false, 0, 0⟩ a c w) (hv : VarsR R w) :
    Calls Tryd.prog 19 #[.pointer (some ⟨R, 0, none⟩), .string (S wIncr)] w (RdP R w (namedR wIncr ws bh)) := by
  have HB := hidc (B1.start h hv)
  have q0 : ((S wIncr).toList == [103, 101, 116]) = false := eq_no (by decide)
  have q1 : ((S wIncr).toList == [103, 101, 116, 115]) = false := eq_no (by decide)
  have q2 : ((S wIncr).toList == [103, 97, 116]) = false := eq_no (by decide)
  have q3 : ((S wIncr).toList == [103, 97, 116, 115]) = false := eq_no (by decide)
  have q4 : ((S wIncr).toList == [115, 101, 116]) = false := eq_no (by decide)
  have q5 : ((S wIncr).toList == [99, 97, 115]) = false := eq_no (by decide)
  have q6 : ((S wIncr).toList == [97, 100, 100]) = false := eq_no (by decide)
  have q7 : ((S wIncr).toList == [114, 101, 112, 108, 97, 99, 101]) = false := eq_no (by decide)
  have q8 : ((S wIncr).toList == [97, 112, 112, 101, 110, 100]) = false := eq_no (by decide)
  have q9 : ((S wIncr).toList == [112, 114, 101, 112, 101, 110, 100]) = false := eq_no (by decide)
  have q10 : ((S wIncr).toList == [105, 110, 99, 114]) = true := eq_yes _
  have q11 : ((S wIncr).toList == [100, 101, 99, 114]) = false := eq_no (by decide)
  have q12 : ((S wIncr).toList == [116, 111, 117, 99, 104]) = false := eq_no (by decide)
  have q13 : ((S wIncr).toList == [100, 101, 108, 101, 116, 101]) = false := eq_no (by decide)
  have q14 : ((S wIncr).toList == [102, 108, 117, 115, 104, 95, 97, 108, 108]) = false := eq_no (by decide)
  have q15 : ((S wIncr).toList == [118, 101, 114, 115, 105, 111, 110]) = false := eq_no (by decide)
  have q16 : ((S wIncr).toList == [118, 101, 114, 98, 111, 115, 105, 116, 121]) = false := eq_no (by decide)
  have q17 : ((S wIncr).toList == [115, 116, 97, 116, 115]) = false := eq_no (by decide)
  have q18 : ((S wIncr).toList == [113, 117, 105, 116]) = false := eq_no (by decide)
  have hx : namedR wIncr ws bh = mathR ws false := by unfold namedR; rw [if_neg (by decide), if_neg (by decide), if_neg (by decide), if_neg (by decide), if_neg (by unfold isStore; decide), if_pos rfl]
  rw [hx]
  clear hx h hv
  generalize hNM : S wIncr = NM at *
  go_enter Tryd.func19, Tryd.ntmps19
  go_wp2_with fail
  generalize w.alloc (.cells #[.int .i64 0, .slice none 0 0, .bool false, .bool false, .string ⟨#[]⟩, .string ⟨#[]⟩, .int .i64 0, .bool false, .string ⟨#[]⟩, .slice none 0 0, .string ⟨#[]⟩] 27) = W at *
  refine (math_any HB.out.rd HB.out.vr false).mono ?_
  rintro e w1 hP
  rcases rdp_cases hP with ⟨cs, rfl, hcl, hco⟩ | ⟨ch, rfl⟩
  · have HR := hidc (rdp_res HB.out hP)
    have HF : Hid (∀ D, Only (fun b => b = w.heap.size) w1 D → RdP R w (mathR ws false) (.returned (.agg cs.toArray)) D) := hidc fun D ho => rdp_laid HB.out hP ho
    generalize RdP R w (mathR ws false) = Q at *
    clear hP HB
    have HL := hidc (And.intro hcl hco)
    clear hcl hco
    go_wp2_with (refine stRq rfl rfl rfl rfl rfl HR.out rfl HL.out.1 HL.out.2 ?_; intro D hD oD; have HW := hidc (And.intro hD (HF.out D oD)); clear hD oD)
    exact bodyPost_ret (res_rqL HL.out.1 rfl HW.out.1 rfl) rfl HW.out.2
  · have HP := hidc (rdp_thru HB.out hP)
    generalize RdP R w (mathR ws false) = Q at *
    clear hP HB
    go_wp2_with fail
    exact ⟨rfl, HP.out⟩
set_option maxHeartbeats 1000000 in
set_option maxRecDepth 100000 in
theorem named_wDecr {R c : Nat} {ws : List (List UInt8)} {bh : List UInt8} {a : Option Addr} {w : World} (h : Rdr R ⟨ws, bh, false, 0, 0⟩ a c w) (hv : VarsR R w) :
    Calls Tryd.prog 19 #[.pointer (some ⟨R, 0, none⟩), .string (S wDecr)] w (RdP R w (namedR wDecr ws bh)) := by
  have HB := hidc (B1.start h hv)
  have q0 : ((S wDecr).toList == [103, 101, 116]) = false := eq_no (by decide)
  have q1 : ((S wDecr).toList == [103, 101, 116, 115]) = false := eq_no (by decide)
  have q2 : ((S wDecr).toList == [103, 97, 116]) = false := eq_no (by decide)
  have q3 : ((S wDecr).toList == [103, 97, 116, 115]) = false := eq_no (by decide)
  have q4 : ((S wDecr).toList == [115, 101, 116]) = false := eq_no (by decide)
  have q5 : ((S wDecr).toList == [99, 97, 115]) = false := eq_no (by decide)
  have q6 : ((S wDecr).toList == [97, 100, 100]) = false := eq_no (by decide)
  have q7 : ((S wDecr).toList == [114, 101, 112, 108, 97, 99, 101]) = false := eq_no (by decide)
  have q8 : ((S wDecr).toList == [97, 112, 112, 101, 110, 100]) = false := eq_no (by decide)
  have q9 : ((S wDecr).toList == [112, 114, 101, 112, 101, 110, 100]) = false := eq_no (by decide)
  have q10 : ((S wDecr).toList == [105, 110, 99, 114]) = false := eq_no (by decide)
  have q11 : ((S wDecr).toList == [100, 101, 99, 114]) = true := eq_yes _
  have q12 : ((S wDecr).toList == [116, 111, 117, 99, 104]) = false := eq_no (by decide)
  have q13 : ((S wDecr).toList == [100, 101, 108, 101, 116, 101]) = false := eq_no (by decide)
  have q14 : ((S wDecr).toList == [102, 108, 117, 115, 104, 95, 97, 108, 108]) = false := eq_no (by decide)
  have q15 : ((S wDecr).toList == [118, 101, 114, 115, 105, 111, 110]) = false := eq_no (by decide)
  have q16 : ((S wDecr).toList == [118, 101, 114, 98, 111, 115, 105, 116, 121]) = false := eq_no (by decide)
  have q17 : ((S wDecr).toList == [115, 116, 97, 116, 115]) = false := eq_no (by decide)
  have q18 : ((S wDecr).toList == [113, 117, 105, 116]) = false := eq_no (by decide)
  have hx : namedR wDecr ws bh = mathR ws true := by unfold namedR; rw [if_neg (by decide), if_neg (by decide), if_neg (by decide), if_neg (by decide), if_neg (by unfold isStore; decide), if_neg (by decide), if_pos rfl]
  rw [hx]
  clear hx h hv
  generalize hNM : S wDecr = NM at *
  go_enter Tryd.func19, Tryd.ntmps19
  go_wp2_with fail
  generalize w.alloc (.cells #[.int .i64 0, .slice none 0 0, .bool false, .bool false, .string ⟨#[]⟩, .string ⟨#[]⟩, .int .i64 0, .bool false, .string ⟨#[]⟩, .slice none 0 0, .string ⟨#[]⟩] 27) = W at *
  refine (math_any HB.out.rd HB.out.vr true).mono ?_
  rintro e w1 hP
  rcases rdp_cases hP with ⟨cs, rfl, hcl, hco⟩ | ⟨ch, rfl⟩
  · have HR := hidc (rdp_res HB.out hP)
    have HF : Hid (∀ D, Only (fun b => b = w.heap.size) w1 D → RdP R w (mathR ws true) (.returned (.agg cs.toArray)) D) := hidc fun D ho => rdp_laid HB.out hP ho
    generalize RdP R w (mathR ws true) = Q at *
    clear hP HB
    have HL := hidc (And.intro hcl hco)
    clear hcl hco
    go_wp2_with (refine stRq rfl rfl rfl rfl rfl HR.out rfl HL.out.1 HL.out.2 ?_; intro D hD oD; have HW := hidc (And.intro hD (HF.out D oD)); clear hD oD)
    exact bodyPost_ret (res_rqL HL.out.1 rfl HW.out.1 rfl) rfl HW.out.2
  · have HP := hidc (rdp_thru HB.out hP)
    generalize RdP R w (mathR ws true) = Q at *
    clear hP HB
    go_wp2_with fail
    exact ⟨rfl, HP.out⟩
set_option maxHeartbeats 1000000 in
set_option maxRecDepth 100000 in
theorem named_wTouch {R c : Nat} {ws : List (List UInt8)} {bh : List UInt8} {a : Option Addr} {w : World} (h : Rdr R ⟨ws, bh, false, 0, 0⟩ a c w) (hv : VarsR R w) :
    Calls Tryd.prog 19 #[.pointer (some ⟨R, 0, none⟩), .string (S wTouch)] w (RdP R w (namedR wTouch ws bh)) := by
  have HB := hidc (B1.start h hv)
  have q0 : ((S wTouch).toList == [103, 101, 116]) = false := eq_no (by decide)
  have q1 : ((S wTouch).toList == [103, 101, 116, 115]) = false := eq_no (by decide)
  have q2 : ((S wTouch).toList == [103, 97, 116]) = false := eq_no (by decide)
  have q3 : ((S wTouch).toList == [103, 97, 116, 115]) = false := eq_no (by decide)
  have q4 : ((S wTouch).toList == [115, 101, 116]) = false := eq_no (by decide)
  have q5 : ((S wTouch).toList == [99, 97, 115]) = false := eq_no (by decide)
  have q6 : ((S wTouch).toList == [97, 100, 100]) = false := eq_no (by decide)
  have q7 : ((S wTouch).toList == [114, 101, 112, 108, 97, 99, 101]) = false := eq_no (by decide)
  have q8 : ((S wTouch).toList == [97, 112, 112, 101, 110, 100]) = false := eq_no (by decide)
  have q9 : ((S wTouch).toList == [112, 114, 101, 112, 101, 110, 100]) = false := eq_no (by decide)
  have q10 : ((S wTouch).toList == [105, 110, 99, 114]) = false := eq_no (by decide)
  have q11 : ((S wTouch).toList == [100, 101, 99, 114]) = false := eq_no (by decide)
  have q12 : ((S wTouch).toList == [116, 111, 117, 99, 104]) = true := eq_yes _
  have q13 : ((S wTouch).toList == [100, 101, 108, 101, 116, 101]) = false := eq_no (by decide)
  have q14 : ((S wTouch).toList == [102, 108, 117, 115, 104, 95, 97, 108, 108]) = false := eq_no (by decide)
  have q15 : ((S wTouch).toList == [118, 101, 114, 115, 105, 111, 110]) = false := eq_no (by decide)
  have q16 : ((S wTouch).toList == [118, 101, 114, 98, 111, 115, 105, 116, 121]) = false := eq_no (by decide)
  have q17 : ((S wTouch).toList == [115, 116, 97, 116, 115]) = false := eq_no (by decide)
  have q18 : ((S wTouch).toList == [113, 117, 105, 116]) = false := eq_no (by decide)
  have hx : namedR wTouch ws bh = touchR ws := by unfold namedR; rw [if_neg (by decide), if_neg (by decide), if_neg (by decide), if_neg (by decide), if_neg (by unfold isStore; decide), if_neg (by decide), if_neg (by decide), if_pos rfl]
  rw [hx]
  clear hx h hv
  generalize hNM : S wTouch = NM at *
  go_enter Tryd.func19, Tryd.ntmps19
  go_wp2_with fail
  generalize w.alloc (.cells #[.int .i64 0, .slice none 0 0, .bool false, .bool false, .string ⟨#[]⟩, .string ⟨#[]⟩, .int .i64 0, .bool false, .string ⟨#[]⟩, .slice none 0 0, .string ⟨#[]⟩] 27) = W at *
  refine (touch_any HB.out.rd HB.out.vr).mono ?_
  rintro e w1 hP
  rcases rdp_cases hP with ⟨cs, rfl, hcl, hco⟩ | ⟨ch, rfl⟩
  · have HR := hidc (rdp_res HB.out hP)
    have HF : Hid (∀ D, Only (fun b => b = w.heap.size) w1 D → RdP R w (touchR ws) (.returned (.agg cs.toArray)) D) := hidc fun D ho => rdp_laid HB.out hP ho
    generalize RdP R w (touchR ws) = Q at *
    clear hP HB
    have HL := hidc (And.intro hcl hco)
    clear hcl hco
    go_wp2_with (refine stRq rfl rfl rfl rfl rfl HR.out rfl HL.out.1 HL.out.2 ?_; intro D hD oD; have HW := hidc (And.intro hD (HF.out D oD)); clear hD oD)
    exact bodyPost_ret (res_rqL HL.out.1 rfl HW.out.1 rfl) rfl HW.out.2
  · have HP := hidc (rdp_thru HB.out hP)
    generalize RdP R w (touchR ws) = Q at *
    clear hP HB
    go_wp2_with fail
    exact ⟨rfl, HP.out⟩
set_option maxHeartbeats 1000000 in
set_option maxRecDepth 100000 in
theorem named_wDelete {R c : Nat} {ws : List (List UInt8)} {bh : List UInt8} {a : Option Addr} {w : World} (h : Rdr R ⟨ws, bh, false, 0, 0⟩ a c w) (hv : VarsR R w) :
    Calls Tryd.prog 19 #[.pointer (some ⟨R, 0, none⟩), .string (S wDelete)] w (RdP R w (namedR wDelete ws bh)) := by
  have HB := hidc (B1.start h hv)
  have q0 : ((S wDelete).toList == [103, 101, 116]) = false := eq_no (by decide)
  have q1 : ((S wDelete).toList == [103, 101, 116, 115]) = false := eq_no (by decide)
  have q2 : ((S wDelete).toList == [103, 97, 116]) = false := eq_no (by decide)
  have q3 : ((S wDelete).toList == [103, 97, 116, 115]) = false := eq_no (by decide)
  have q4 : ((S wDelete).toList == [115, 101, 116]) = false := eq_no (by decide)
  have q5 : ((S wDelete).toList == [99, 97, 115]) = false := eq_no (by decide)
  have q6 : ((S wDelete).toList == [97, 100, 100]) = false := eq_no (by decide)
  have q7 : ((S wDelete).toList == [114, 101, 112, 108, 97, 99, 101]) = false := eq_no (by decide)
  have q8 : ((S wDelete).toList == [97, 112, 112, 101, 110, 100]) = false := eq_no (by decide)
  have q9 : ((S wDelete).toList == [112, 114, 101, 112, 101, 110, 100]) = false := eq_no (by decide)
  have q10 : ((S wDelete).toList == [105, 110, 99, 114]) = false := eq_no (by decide)
  have q11 : ((S wDelete).toList == [100, 101, 99, 114]) = false := eq_no (by decide)
  have q12 : ((S wDelete).toList == [116, 111, 117, 99, 104]) = false := eq_no (by decide)
  have q13 : ((S wDelete).toList == [100, 101, 108, 101, 116, 101]) = true := eq_yes _
  have q14 : ((S wDelete).toList == [102, 108, 117, 115, 104, 95, 97, 108, 108]) = false := eq_no (by decide)
  have q15 : ((S wDelete).toList == [118, 101, 114, 115, 105, 111, 110]) = false := eq_no (by decide)
  have q16 : ((S wDelete).toList == [118, 101, 114, 98, 111, 115, 105, 116, 121]) = false := eq_no (by decide)
  have q17 : ((S wDelete).toList == [115, 116, 97, 116, 115]) = false := eq_no (by decide)
  have q18 : ((S wDelete).toList == [113, 117, 105, 116]) = false := eq_no (by decide)
  have hx : namedR wDelete ws bh = delR ws := by unfold namedR; rw [if_neg (by decide), if_neg (by decide), if_neg (by decide), if_neg (by decide), if_neg (by unfold isStore; decide), if_neg (by decide), if_neg (by decide), if_neg (by decide), if_pos rfl]
  rw [hx]
  clear hx h hv
  generalize hNM : S wDelete = NM at *
  go_enter Tryd.func19, Tryd.ntmps19
  go_wp2_with fail
  generalize w.alloc (.cells #[.int .i64 0, .slice none 0 0, .bool false, .bool false, .string ⟨#[]⟩, .string ⟨#[]⟩, .int .i64 0, .bool false, .string ⟨#[]⟩, .slice none 0 0, .string ⟨#[]⟩] 27) = W at *
  refine (remove_any HB.out.rd HB.out.vr).mono ?_
  rintro e w1 hP
  rcases rdp_cases hP with ⟨cs, rfl, hcl, hco⟩ | ⟨ch, rfl⟩
  · have HR := hidc (rdp_res HB.out hP)
    have HF : Hid (∀ D, Only (fun b => b = w.heap.size) w1 D → RdP R w (delR ws) (.returned (.agg cs.toArray)) D) := hidc fun D ho => rdp_laid HB.out hP ho
    generalize RdP R w (delR ws) = Q at *
    clear hP HB
    have HL := hidc (And.intro hcl hco)
    clear hcl hco
    go_wp2_with (refine stRq rfl rfl rfl rfl rfl HR.out rfl HL.out.1 HL.out.2 ?_; intro D hD oD; have HW := hidc (And.intro hD (HF.out D oD)); clear hD oD)
    exact bodyPost_ret (res_rqL HL.out.1 rfl HW.out.1 rfl) rfl HW.out.2
  · have HP := hidc (rdp_thru HB.out hP)
    generalize RdP R w (delR ws) = Q at *
    clear hP HB
    go_wp2_with fail
    exact ⟨rfl, HP.out⟩
set_option maxHeartbeats 1000000 in
set_option maxRecDepth 100000 in
theorem named_wFlush {R c : Nat} {ws : List (List UInt8)} {bh : List UInt8} {a : Option Addr} {w : World} (h : Rdr R ⟨ws, bh, false, 0, 0⟩ a c w) (hv : VarsR R w) :
    Calls Tryd.prog 19 #[.pointer (some ⟨R, 0, none⟩), .string (S wFlush)] w (RdP R w (namedR wFlush ws bh)) := by
  have HB := hidc (B1.start h hv)
  have q0 : ((S wFlush).toList == [103, 101, 116]) = false := eq_no (by decide)
  have q1 : ((S wFlush).toList == [103, 101, 116, 115]) = false := eq_no (by decide)
  have q2 : ((S wFlush).toList == [103, 97, 116]) = false := eq_no (by decide)
  have q3 : ((S wFlush).toList == [103, 97, 116, 115]) = false := eq_no (by decide)
  have q4 : ((S wFlush).toList == [115, 101, 116]) = false := eq_no (by decide)
  have q5 : ((S wFlush).toList == [99, 97, 115]) = false := eq_no (by decide)
  have q6 : ((S wFlush).toList == [97, 100, 100]) = false := eq_no (by decide)
  have q7 : ((S wFlush).toList == [114, 101, 112, 108, 97, 99, 101]) = false := eq_no (by decide)
  have q8 : ((S wFlush).toList == [97, 112, 112, 101, 110, 100]) = false := eq_no (by decide)
  have q9 : ((S wFlush).toList == [112, 114, 101, 112, 101, 110, 100]) = false := eq_no (by decide)
  have q10 : ((S wFlush).toList == [105, 110, 99, 114]) = false := eq_no (by decide)
  have q11 : ((S wFlush).toList == [100, 101, 99, 114]) = false := eq_no (by decide)
  have q12 : ((S wFlush).toList == [116, 111, 117, 99, 104]) = false := eq_no (by decide)
  have q13 : ((S wFlush).toList == [100, 101, 108, 101, 116, 101]) = false := eq_no (by decide)
  have q14 : ((S wFlush).toList == [102, 108, 117, 115, 104, 95, 97, 108, 108]) = true := eq_yes _
  have q15 : ((S wFlush).toList == [118, 101, 114, 115, 105, 111, 110]) = false := eq_no (by decide)
  have q16 : ((S wFlush).toList == [118, 101, 114, 98, 111, 115, 105, 116, 121]) = false := eq_no (by decide)
  have q17 : ((S wFlush).toList == [115, 116, 97, 116, 115]) = false := eq_no (by decide)
  have q18 : ((S wFlush).toList == [113, 117, 105, 116]) = false := eq_no (by decide)
  have hx : namedR wFlush ws bh = flushR ws := by unfold namedR; rw [if_neg (by decide), if_neg (by decide), if_neg (by decide), if_neg (by decide), if_neg (by unfold isStore; decide), if_neg (by decide), if_neg (by decide), if_neg (by decide), if_neg (by decide), if_pos rfl]
  rw [hx]
  clear hx h hv
  generalize hNM : S wFlush = NM at *
  go_enter Tryd.func19, Tryd.ntmps19
  go_wp2_with fail
  generalize w.alloc (.cells #[.int .i64 0, .slice none 0 0, .bool false, .bool false, .string ⟨#[]⟩, .string ⟨#[]⟩, .int .i64 0, .bool false, .string ⟨#[]⟩, .slice none 0 0, .string ⟨#[]⟩] 27) = W at *
  refine (flush_any HB.out.rd HB.out.vr).mono ?_
  rintro e w1 hP
  rcases rdp_cases hP with ⟨cs, rfl, hcl, hco⟩ | ⟨ch, rfl⟩
  · have HR := hidc (rdp_res HB.out hP)
    have HF : Hid (∀ D, Only (fun b => b = w.heap.size) w1 D → RdP R w (flushR ws) (.returned (.agg cs.toArray)) D) := hidc fun D ho => rdp_laid HB.out hP ho
    generalize RdP R w (flushR ws) = Q at *
    clear hP HB
    have HL := hidc (And.intro hcl hco)
    clear hcl hco
    go_wp2_with (refine stRq rfl rfl rfl rfl rfl HR.out rfl HL.out.1 HL.out.2 ?_; intro D hD oD; have HW := hidc (And.intro hD (HF.out D oD)); clear hD oD)
    exact bodyPost_ret (res_rqL HL.out.1 rfl HW.out.1 rfl) rfl HW.out.2
  · have HP := hidc (rdp_thru HB.out hP)
    generalize RdP R w (flushR ws) = Q at *
    clear hP HB
    go_wp2_with fail
    exact ⟨rfl, HP.out⟩
end Go.Proofs.YtggeccndmmmnjaaDoor.Tx

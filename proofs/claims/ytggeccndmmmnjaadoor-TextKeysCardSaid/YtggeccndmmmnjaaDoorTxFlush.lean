/-
  The reader's flush at this program. Conditions: the package variables hold what they were laid with.
-/
import Derived.Test.YtggeccndmmmnjaaDoorTxBox
namespace Go.Proofs.YtggeccndmmmnjaaDoor.Tx
open Go Go.RowKit Go.Lib Md

set_option maxHeartbeats 4000000 in
set_option maxRecDepth 100000 in
theorem flush_any {R c : Nat} {ws : List (List UInt8)} {bh : List UInt8} {a : Option Addr} {w : World} (h : Rdr R ⟨ws, bh, false, 0, 0⟩ a c w) (hv : VarsR R w) :
    Calls Tryd.prog 31 #[.pointer (some ⟨R, 0, none⟩)] w (RdP R w (flushR ws)) := by
  have hB := B1.start h hv
  have HB := hidc hB
  unfold flushR
  clear h hB hv
  go_enter Tryd.func31, Tryd.ntmps31
  go_wp2_with fail
  generalize w.alloc (.cells #[.int .i64 0, .slice none 0 0, .bool false, .bool false, .string ⟨#[]⟩, .string ⟨#[]⟩, .int .i64 0, .bool false, .string ⟨#[]⟩, .slice none 0 0, .string ⟨#[]⟩] 27) = W at *
  refine (off_any HB.out.rd).mono ?_
  rintro e w1 ⟨rfl, r1, o1⟩
  rw [offE] at r1
  have HB1 := hidc (HB.out.turn r1 o1)
  clear HB r1 o1
  clear W
  generalize offW ws = us at *
  generalize offQ ws = qt at *
  by_cases hl : ¬ 1 < us.length
  case neg =>
    have HP := hidc (rdp_up (why := mError) (skip := 0) (used := 0) (x := flushU us qt) (by unfold flushU; rw [if_pos (by omega)]) HB1.out.rd rfl rfl HB1.out.only)
    have hnd := need_no HB1.out.rd 0 1 (by show us.length < _ ∨ _ < us.length; omega)
    generalize RdP R w (flushU us qt) = Q at *
    go_wp2_with fail
    refine hnd.mono ?_
    rintro e w2 ⟨rfl, rfl⟩
    go_wp2_with fail
    exact ⟨rfl, HP.out⟩
  have hnd := need_ok HB1.out.rd 0 1 (by show _ ≤ us.length; omega) (by show us.length ≤ _; omega)
  go_wp2_with fail
  refine hnd.mono ?_
  rintro e w2 ⟨rfl, rfl⟩
  clear hnd
  go_wp2_with fail
  refine (command_any 6 _).mono ?_
  rintro e w3 ⟨rfl, b3⟩
  have HB2 := hidc (B2.start (cm := command 6) (HB1.out.below b3) #[.int .i64 6, .int .i64 0, .string ⟨#[]⟩, .string ⟨#[]⟩, .int .u32 0, .int .i64 0, .bool false, .int .u64 0, .bool false, .int .u64 0, .int .u64 0, .bool false, .bool false, .int .i64 0, .int .i64 (-1), .bool false] rfl)
  clear HB1 b3
  go_upto_region 4 with fail
  generalize w3.alloc (.cells #[.int .i64 6, .int .i64 0, .string ⟨#[]⟩, .string ⟨#[]⟩, .int .u32 0, .int .i64 0, .bool false, .int .u64 0, .bool false, .int .u64 0, .int .u64 0, .bool false, .bool false, .int .i64 0, .int .i64 (-1), .bool false] 35) = V0 at *
  generalize w3.heap.size = D at *
  have c7 := HB2.out.b1.rd.blk.cell (i := 0) rfl
  by_cases h2 : us.length = 1
  case neg =>
    have i2 : ¬ (us.length : Int) = 1 := by omega
    have HC8 := hidc (show B2 R _ _ _ D (flushC 0) w V0 from HB2.out)
    clear HB2
    have HQ : Hid (flushU us qt = .done (oneQ (flushC 0) qt) 0) := hidc (by unfold flushU; rw [if_neg (by omega)]; rw [if_neg h2])
    have hon := one_any HC8.out.b1.rd (flushC 0)
    have HBX := hidc HC8.out.box
    go_wp2_with (refine ldCm rfl rfl rfl HBX.out rfl ?_)
    refine hon.mono ?_
    rintro e w6 ⟨v, rfl, hq, b6⟩
    obtain ⟨cs, rfl, hcl, hco⟩ := isrq_cells hq
    have HB6 := hidc (HC8.out.below b6)
    have HR := hidc HB6.out.b1.res
    have HF : Hid (∀ W, Only (fun b => b = w.heap.size) w6 W → RdP R w (flushU us qt) (.returned (.agg cs.toArray)) W) := hidc fun W ho => HB6.out.b1.laid hq (by have := HC8.out.ge; have := HC8.out.box.lt; omega) ho HQ.out rfl
    generalize RdP R w (flushU us qt) = Q at *
    clear hq b6 HC8 HB6 HQ hon HBX
    have HL := hidc (And.intro hcl hco)
    clear hcl hco
    go_wp2_with (refine stRq rfl rfl rfl rfl rfl HR.out rfl HL.out.1 HL.out.2 ?_; intro W hW oW; have HW := hidc (And.intro hW (HF.out W oW)); clear hW oW)
    exact bodyPost_ret (res_rqL HL.out.1 rfl HW.out.1 rfl) rfl HW.out.2
  obtain ⟨x0, hx0⟩ : ∃ x, us[0]? = some x := ⟨_, List.getElem?_eq_getElem (by omega)⟩
  have ea0 : at_ us 0 = x0 := by simp [at_, hx0]
  obtain ⟨tb, tof, rfl, tl0, tc0⟩ := texts_cell HB2.out.b1.rd.txt hx0
  have c0 := HB2.out.b1.rd.blk.cell (i := 0) rfl
  have i0 : (0 : Int) < (us.length : Int) := by omega
  rw [Nat.add_zero] at tc0
  rcases hp0 : secs x0 with _ | z
  · have hsc := seconds_no x0 mSec hp0 V0 HB2.out.b1.vars
    go_wp2_with fail
    refine hsc.mono ?_
    rintro e w5 ⟨rfl, b5⟩
    have HP := hidc (rdp_up (why := mSec) (skip := 0) (used := 0) (x := flushU us qt) (by unfold flushU; rw [if_neg (by omega)]; rw [if_pos h2]; simp only [ea0, hp0]) (HB2.out.below b5).b1.rd rfl rfl (HB2.out.below b5).b1.only)
    generalize RdP R w (flushU us qt) = Q at *
    clear hsc HB2
    go_wp2_with fail
    exact ⟨rfl, HP.out⟩
  have hsc := seconds_ok x0 z mSec hp0 V0 HB2.out.b1.vars
  go_wp2_with fail
  refine hsc.mono ?_
  rintro e y0 ⟨rfl, b5⟩
  have HE0 := hidc (HB2.out.below b5)
  have g0 := HE0.out.box.cell (i := 5) rfl
  have f0 := HE0.out.box.frozen 5
  have HC0 := hidc (HE0.out.set (cm' := flushC z) 5 (.int .i64 z) rfl)
  clear hsc HB2 b5 c0 tc0 tl0 hx0 HE0
  go_upto_region 6 with fail
  clear g0 f0
  generalize y0.setCell ⟨D, 5, none⟩ (.int .i64 z) = V1 at *
  have HQ : Hid (flushU us qt = .done (oneQ (flushC z) qt) 0) := hidc (by unfold flushU; rw [if_neg (by omega)]; rw [if_pos h2]; simp only [ea0, hp0])
  have hon := one_any HC0.out.b1.rd (flushC z)
  have HBX := hidc HC0.out.box
  go_wp2_with (refine ldCm rfl rfl rfl HBX.out rfl ?_)
  refine hon.mono ?_
  rintro e w6 ⟨v, rfl, hq, b6⟩
  obtain ⟨cs, rfl, hcl, hco⟩ := isrq_cells hq
  have HB6 := hidc (HC0.out.below b6)
  have HR := hidc HB6.out.b1.res
  have HF : Hid (∀ W, Only (fun b => b = w.heap.size) w6 W → RdP R w (flushU us qt) (.returned (.agg cs.toArray)) W) := hidc fun W ho => HB6.out.b1.laid hq (by have := HC0.out.ge; have := HC0.out.box.lt; omega) ho HQ.out rfl
  generalize RdP R w (flushU us qt) = Q at *
  clear hq b6 HC0 HB6 HQ hon HBX
  have HL := hidc (And.intro hcl hco)
  clear hcl hco
  go_wp2_with (refine stRq rfl rfl rfl rfl rfl HR.out rfl HL.out.1 HL.out.2 ?_; intro W hW oW; have HW := hidc (And.intro hW (HF.out W oW)); clear hW oW)
  exact bodyPost_ret (res_rqL HL.out.1 rfl HW.out.1 rfl) rfl HW.out.2
end Go.Proofs.YtggeccndmmmnjaaDoor.Tx

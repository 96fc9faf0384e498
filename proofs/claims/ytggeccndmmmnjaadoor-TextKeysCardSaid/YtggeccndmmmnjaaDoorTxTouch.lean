/-
  The reader's touch at this program. Conditions: the package variables hold what they were laid with.
-/
import Derived.Test.YtggeccndmmmnjaaDoorTxBox
namespace Go.Proofs.YtggeccndmmmnjaaDoor.Tx
open Go Go.RowKit Go.Lib Md

set_option maxHeartbeats 4000000 in
set_option maxRecDepth 100000 in
theorem touch_any {R c : Nat} {ws : List (List UInt8)} {bh : List UInt8} {a : Option Addr} {w : World} (h : Rdr R ⟨ws, bh, false, 0, 0⟩ a c w) (hv : VarsR R w) :
    Calls Tryd.prog 29 #[.pointer (some ⟨R, 0, none⟩)] w (RdP R w (touchR ws)) := by
  have hB := B1.start h hv
  have HB := hidc hB
  unfold touchR
  clear h hB hv
  go_enter Tryd.func29, Tryd.ntmps29
  go_wp2_with fail
  generalize w.alloc (.cells #[.int .i64 0, .slice none 0 0, .bool false, .bool false, .string ⟨#[]⟩, .string ⟨#[]⟩, .int .i64 0, .bool false, .string ⟨#[]⟩, .slice none 0 0, .string ⟨#[]⟩] 27) = W at *
  refine (off_any HB.out.rd).mono ?_
  rintro e w1 ⟨rfl, r1, o1⟩
  rw [offE] at r1
  have HB1 := hidc (HB.out.turn r1 o1)
  clear HB r1 o1
  clear W
  generalize offW ws = us at *
  generalize offQ ws = qt at *
  by_cases hl : us.length = 2
  case neg =>
    have HP := hidc (rdp_up (why := mError) (skip := 0) (used := 0) (x := touchU us qt) (by unfold touchU; rw [if_pos (by omega)]) HB1.out.rd rfl rfl HB1.out.only)
    have hnd := need_no HB1.out.rd 2 2 (by show us.length < _ ∨ _ < us.length; omega)
    generalize RdP R w (touchU us qt) = Q at *
    go_wp2_with fail
    refine hnd.mono ?_
    rintro e w2 ⟨rfl, rfl⟩
    go_wp2_with fail
    exact ⟨rfl, HP.out⟩
  have hnd := need_ok HB1.out.rd 2 2 (by show _ ≤ us.length; omega) (by show us.length ≤ _; omega)
  go_wp2_with fail
  refine hnd.mono ?_
  rintro e w2 ⟨rfl, rfl⟩
  clear hnd
  go_wp2_with fail
  refine (command_any 4 _).mono ?_
  rintro e w3 ⟨rfl, b3⟩
  have HB2 := hidc (B2.start (cm := command 4) (HB1.out.below b3) #[.int .i64 4, .int .i64 0, .string ⟨#[]⟩, .string ⟨#[]⟩, .int .u32 0, .int .i64 0, .bool false, .int .u64 0, .bool false, .int .u64 0, .int .u64 0, .bool false, .bool false, .int .i64 0, .int .i64 (-1), .bool false] rfl)
  clear HB1 b3
  go_upto_region 4 with fail
  generalize w3.alloc (.cells #[.int .i64 4, .int .i64 0, .string ⟨#[]⟩, .string ⟨#[]⟩, .int .u32 0, .int .i64 0, .bool false, .int .u64 0, .bool false, .int .u64 0, .int .u64 0, .bool false, .bool false, .int .i64 0, .int .i64 (-1), .bool false] 35) = V0 at *
  generalize w3.heap.size = D at *
  obtain ⟨x0, hx0⟩ : ∃ x, us[0]? = some x := ⟨_, List.getElem?_eq_getElem (by omega)⟩
  have ea0 : at_ us 0 = x0 := by simp [at_, hx0]
  obtain ⟨tb, tof, rfl, tl0, tc0⟩ := texts_cell HB2.out.b1.rd.txt hx0
  have c0 := HB2.out.b1.rd.blk.cell (i := 0) rfl
  have i0 : (0 : Int) < (us.length : Int) := by omega
  rw [Nat.add_zero] at tc0
  have g0 := HB2.out.box.cell (i := 2) rfl
  have f0 := HB2.out.box.frozen 2
  by_cases hk0 : keyB x0 = true
  case neg =>
    have hk0 : keyB x0 = false := by simpa using hk0
    have HP := hidc (rdp_up (why := mLine) (skip := 0) (used := 0) (x := touchU us qt) (by unfold touchU; rw [if_neg (by omega)]; rw [ea0, if_pos hk0]) HB2.out.b1.rd rfl rfl HB2.out.b1.only)
    generalize RdP R w (touchU us qt) = Q at *
    go_wp2_with fail
    refine (key_no x0 hk0 _).mono ?_
    rintro e w4 ⟨rfl, rfl⟩
    go_wp2_with fail
    exact ⟨rfl, HP.out⟩
  have HC0 := hidc (HB2.out.set (cm' := withKey (command 4) x0) 2 (.string (S x0)) rfl)
  go_wp2_with fail
  refine (key_ok x0 hk0 _).mono ?_
  rintro e w4 ⟨rfl, rfl⟩
  go_upto_region 5 with fail
  clear HB2 c0 tc0 tl0 g0 f0 hx0
  generalize V0.setCell ⟨D, 2, none⟩ (.string (S x0)) = V1 at *
  obtain ⟨x1, hx1⟩ : ∃ x, us[1]? = some x := ⟨_, List.getElem?_eq_getElem (by omega)⟩
  have ea1 : at_ us 1 = x1 := by simp [at_, hx1]
  obtain ⟨tb1, tof1, e1, tl1, tc1⟩ := texts_cell HC0.out.b1.rd.txt hx1
  cases e1
  have c1 := HC0.out.b1.rd.blk.cell (i := 0) rfl
  have i1 : (1 : Int) < (us.length : Int) := by omega
  rcases hp1 : secs x1 with _ | z
  · have hsc := seconds_no x1 mSec hp1 V1 HC0.out.b1.vars
    go_wp2_with fail
    refine hsc.mono ?_
    rintro e w5 ⟨rfl, b5⟩
    have HP := hidc (rdp_up (why := mSec) (skip := 0) (used := 0) (x := touchU us qt) (by unfold touchU; rw [if_neg (by omega)]; rw [ea0, if_neg (by rw [hk0]; decide)]; simp only [ea1, hp1]) (HC0.out.below b5).b1.rd rfl rfl (HC0.out.below b5).b1.only)
    generalize RdP R w (touchU us qt) = Q at *
    clear hsc HC0
    go_wp2_with fail
    exact ⟨rfl, HP.out⟩
  have hsc := seconds_ok x1 z mSec hp1 V1 HC0.out.b1.vars
  go_wp2_with fail
  refine hsc.mono ?_
  rintro e y1 ⟨rfl, b5⟩
  have HE1 := hidc (HC0.out.below b5)
  have g1 := HE1.out.box.cell (i := 5) rfl
  have f1 := HE1.out.box.frozen 5
  have HC1 := hidc (HE1.out.set (cm' := touchC x0 z) 5 (.int .i64 z) rfl)
  clear hsc HC0 b5 c1 tc1 tl1 hx1 HE1
  go_upto_region 6 with fail
  clear g1 f1
  generalize y1.setCell ⟨D, 5, none⟩ (.int .i64 z) = V2 at *
  have HQ : Hid (touchU us qt = .done (oneQ (touchC x0 z) qt) 0) := hidc (by unfold touchU; rw [if_neg (by omega)]; rw [ea0, if_neg (by rw [hk0]; decide)]; simp only [ea1, hp1])
  have hon := one_any HC1.out.b1.rd (touchC x0 z)
  have HBX := hidc HC1.out.box
  go_wp2_with (refine ldCm rfl rfl rfl HBX.out rfl ?_)
  refine hon.mono ?_
  rintro e w6 ⟨v, rfl, hq, b6⟩
  obtain ⟨cs, rfl, hcl, hco⟩ := isrq_cells hq
  have HB6 := hidc (HC1.out.below b6)
  have HR := hidc HB6.out.b1.res
  have HF : Hid (∀ W, Only (fun b => b = w.heap.size) w6 W → RdP R w (touchU us qt) (.returned (.agg cs.toArray)) W) := hidc fun W ho => HB6.out.b1.laid hq (by have := HC1.out.ge; have := HC1.out.box.lt; omega) ho HQ.out rfl
  generalize RdP R w (touchU us qt) = Q at *
  clear hq b6 HC1 HB6 HQ hon HBX
  have HL := hidc (And.intro hcl hco)
  clear hcl hco
  go_wp2_with (refine stRq rfl rfl rfl rfl rfl HR.out rfl HL.out.1 HL.out.2 ?_; intro W hW oW; have HW := hidc (And.intro hW (HF.out W oW)); clear hW oW)
  exact bodyPost_ret (res_rqL HL.out.1 rfl HW.out.1 rfl) rfl HW.out.2
end Go.Proofs.YtggeccndmmmnjaaDoor.Tx

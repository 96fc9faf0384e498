/-
  The reader's store at this program, of the names but cas. Conditions: the package variables hold what they were laid with.
-/
import Derived.Test.YtggeccndmmmnjaaDoorTxValue
namespace Go.Proofs.YtggeccndmmmnjaaDoor.Tx
open Go Go.RowKit Go.Lib Md

set_option maxHeartbeats 4000000 in
set_option maxRecDepth 100000 in
theorem store_other {R c : Nat} {ws : List (List UInt8)} {bh : List UInt8} {a : Option Addr} {w : World} (h : Rdr R ⟨ws, bh, false, 0, 0⟩ a c w) (hv : VarsR R w) {name : List UInt8} (hname : name ≠ wCas) :
    Calls Tryd.prog 27 #[.pointer (some ⟨R, 0, none⟩), .string (S name)] w (RdP R w (storeR name ws bh)) := by
  have hB := B1.start h hv
  have HB := hidc hB
  unfold storeR
  have q0 : ((S name).toList == [99, 97, 115]) = false := eq_no hname
  have hdec : decide (name = wCas) = false := decide_eq_false hname
  have cmo := fun W => mode_any name W
  obtain ⟨mo, hmo2⟩ : ∃ mo, mo = modeN name := ⟨_, rfl⟩
  rw [← hmo2] at cmo
  have HMO := hidc hmo2
  clear hmo2
  generalize hNM : S name = NM at *
  clear hNM
  clear h hB hv
  go_enter Tryd.func27, Tryd.ntmps27
  go_wp2_with fail
  generalize w.alloc (.cells #[.int .i64 0, .slice none 0 0, .bool false, .bool false, .string ⟨#[]⟩, .string ⟨#[]⟩, .int .i64 0, .bool false, .string ⟨#[]⟩, .slice none 0 0, .string ⟨#[]⟩] 27) = W at *
  refine (command_any 2 _).mono ?_
  rintro e w3 ⟨rfl, b3⟩
  have HB2 := hidc (B2.start (cm := command 2) (HB.out.below b3) #[.int .i64 2, .int .i64 0, .string ⟨#[]⟩, .string ⟨#[]⟩, .int .u32 0, .int .i64 0, .bool false, .int .u64 0, .bool false, .int .u64 0, .int .u64 0, .bool false, .bool false, .int .i64 0, .int .i64 (-1), .bool false] rfl)
  clear HB b3
  go_upto_region 2 with fail
  generalize w3.alloc (.cells #[.int .i64 2, .int .i64 0, .string ⟨#[]⟩, .string ⟨#[]⟩, .int .u32 0, .int .i64 0, .bool false, .int .u64 0, .bool false, .int .u64 0, .int .u64 0, .bool false, .bool false, .int .i64 0, .int .i64 (-1), .bool false] 35) = V0 at *
  generalize w3.heap.size = D at *
  have g1 := HB2.out.box.cell (i := 1) rfl
  have f1 := HB2.out.box.frozen 1
  have g8 := HB2.out.box.cell (i := 8) rfl
  have f8 := HB2.out.box.frozen 8
  have HBS := hidc ((HB2.out.set (cm' := { command 2 with mode := mo }) 1 (.int .i64 mo) rfl).set (cm' := { command 2 with mode := mo, hasCas := false }) 8 (.bool false) rfl)
  clear HB2
  go_wp2_with fail
  refine (cmo _).mono ?_
  rintro e w4 ⟨rfl, rfl⟩
  go_upto_region 3 with fail
  clear cmo g1 f1 g8 f8 q0
  generalize (V0.setCell ⟨D, 1, none⟩ (.int .i64 mo)).setCell ⟨D, 8, none⟩ (.bool false) = V10 at *
  go_wp2_with fail
  refine (off_any HBS.out.b1.rd).mono ?_
  rintro e w1 ⟨rfl, r1, o1⟩
  rw [offE] at r1
  have HBO := hidc (HBS.out.turn r1 o1 HBS.out.ap)
  clear HBS r1 o1
  clear V10
  generalize offW ws = us at *
  generalize offQ ws = qt at *
  have g8 := HBO.out.box.cell (i := 8) rfl
  by_cases hl : us.length = 4
  case neg =>
    have HP := hidc (rdp_up (why := mError) (skip := 0) (used := 0) (x := storeU name us qt bh) (by unfold storeU; rw [if_pos (by rw [if_neg hname]; exact hl)]) HBO.out.b1.rd rfl rfl HBO.out.b1.only)
    have hnd := need_no HBO.out.b1.rd 4 4 (by show us.length < _ ∨ _ < us.length; omega)
    generalize RdP R w (storeU name us qt bh) = Q at *
    go_wp2_with fail
    refine hnd.mono ?_
    rintro e w2 ⟨rfl, rfl⟩
    go_wp2_with fail
    exact ⟨rfl, HP.out⟩
  have hnd := need_ok HBO.out.b1.rd 4 4 (by show _ ≤ us.length; omega) (by show us.length ≤ _; omega)
  go_wp2_with fail
  refine hnd.mono ?_
  rintro e w2 ⟨rfl, rfl⟩
  clear hnd g8
  go_upto_region 7 with fail
  obtain ⟨x3, hx0⟩ : ∃ x, us[3]? = some x := ⟨_, List.getElem?_eq_getElem (by omega)⟩
  have ea0 : at_ us 3 = x3 := by simp [at_, hx0]
  obtain ⟨tb, tof, rfl, tl0, tc0⟩ := texts_cell HBO.out.b1.rd.txt hx0
  have c0 := HBO.out.b1.rd.blk.cell (i := 0) rfl
  have i0 : (3 : Int) < (us.length : Int) := by omega
  rcases hp0 : numU x3 1073741824 with _ | n
  · have hsc := number_no x3 1073741824 mLine hp0 w1 HBO.out.b1.vars
    go_wp2_with fail
    refine hsc.mono ?_
    rintro e w5 ⟨rfl, b5⟩
    have HP := hidc (rdp_up (why := mLine) (skip := 0) (used := 0) (x := storeU name us qt bh) (by unfold storeU; rw [if_neg (by rw [if_neg hname]; exact fun e => e hl)]; simp only [ea0, hp0]) (HBO.out.below b5).b1.rd rfl rfl (HBO.out.below b5).b1.only)
    generalize RdP R w (storeU name us qt bh) = Q at *
    clear hsc HBO
    go_wp2_with fail
    exact ⟨rfl, HP.out⟩
  have hnm : n ≤ 1073741824 := numU_le hp0
  have hwn : IntKind.i64.wrap (n : Int) = (n : Int) := by rw [IntKind.wrap_i64]; omega
  have hw2 : IntKind.i64.wrap ((n : Int) + 2) = (n : Int) + 2 := by rw [IntKind.wrap_i64]; omega
  have hsc := number_ok x3 1073741824 n mLine hp0 w1 HBO.out.b1.vars
  go_wp2_with fail
  refine hsc.mono ?_
  rintro e y0 ⟨rfl, b5⟩
  have HE0 := hidc (HBO.out.below b5)
  clear hsc HBO b5 c0 tc0 tl0 hx0
  have g3 := HE0.out.b1.rd.blk.cell (i := 3) rfl
  have f3 := HE0.out.b1.rd.blk.frozen 3
  have HS0 := hidc (skip_set HE0.out n)
  go_upto_region 9 with fail
  clear HE0 g3 f3
  generalize y0.setCell ⟨R, 3, none⟩ (.int .i64 ((n : Int) + 2)) = V1 at *
  obtain ⟨x0, hx1⟩ : ∃ x, us[0]? = some x := ⟨_, List.getElem?_eq_getElem (by omega)⟩
  have ea1 : at_ us 0 = x0 := by simp [at_, hx1]
  obtain ⟨tb1, tof1, e1, tl1, tc1⟩ := texts_cell HS0.out.b1.rd.txt hx1
  cases e1
  have c1 := HS0.out.b1.rd.blk.cell (i := 0) rfl
  have i1 : (0 : Int) < (us.length : Int) := by omega
  rw [Nat.add_zero] at tc1
  have g1 := HS0.out.box.cell (i := 2) rfl
  have f1 := HS0.out.box.frozen 2
  by_cases hk1 : keyB x0 = true
  case neg =>
    have hk1 : keyB x0 = false := by simpa using hk1
    have HP := hidc (rdp_up (why := mLine) (skip := n + 2) (used := 0) (x := storeU name us qt bh) (by unfold storeU; rw [if_neg (by rw [if_neg hname]; exact fun e => e hl)]; simp only [ea0, hp0]; rw [ea1, if_pos hk1]) HS0.out.b1.rd rfl rfl HS0.out.b1.only)
    generalize RdP R w (storeU name us qt bh) = Q at *
    go_wp2_with fail
    refine (key_no x0 hk1 _).mono ?_
    rintro e w4 ⟨rfl, rfl⟩
    go_wp2_with fail
    exact ⟨rfl, HP.out⟩
  have HC1 := hidc (HS0.out.set (cm' := (⟨2, mo, S x0, emp, 0, 0, false, 0, false, 0, 0, false, false, 0, -1, false⟩ : Cm)) 2 (.string (S x0)) rfl)
  go_wp2_with fail
  refine (key_ok x0 hk1 _).mono ?_
  rintro e w4 ⟨rfl, rfl⟩
  go_upto_region 10 with fail
  clear HS0 c1 tc1 tl1 g1 f1 hx1
  generalize V1.setCell ⟨D, 2, none⟩ (.string (S x0)) = V2 at *
  obtain ⟨x1, hx2⟩ : ∃ x, us[1]? = some x := ⟨_, List.getElem?_eq_getElem (by omega)⟩
  have ea2 : at_ us 1 = x1 := by simp [at_, hx2]
  obtain ⟨tb2, tof2, e2, tl2, tc2⟩ := texts_cell HC1.out.b1.rd.txt hx2
  cases e2
  have c2 := HC1.out.b1.rd.blk.cell (i := 0) rfl
  have i2 : (1 : Int) < (us.length : Int) := by omega
  rcases hp2 : numU x1 4294967295 with _ | f
  · have hsc := number_no x1 4294967295 mLine hp2 V2 HC1.out.b1.vars
    go_wp2_with fail
    refine hsc.mono ?_
    rintro e w5 ⟨rfl, b5⟩
    have HP := hidc (rdp_up (why := mLine) (skip := n + 2) (used := 0) (x := storeU name us qt bh) (by unfold storeU; rw [if_neg (by rw [if_neg hname]; exact fun e => e hl)]; simp only [ea0, hp0]; rw [ea1, if_neg (by rw [hk1]; decide)]; simp only [ea2, hp2]) (HC1.out.below b5).b1.rd rfl rfl (HC1.out.below b5).b1.only)
    generalize RdP R w (storeU name us qt bh) = Q at *
    clear hsc HC1
    go_wp2_with fail
    exact ⟨rfl, HP.out⟩
  have hfm : f ≤ 4294967295 := numU_le hp2
  have hwf : IntKind.u32.wrap (f : Int) = (f : Int) := by rw [IntKind.wrap_u32]; omega
  have hsc := number_ok x1 4294967295 f mLine hp2 V2 HC1.out.b1.vars
  go_wp2_with fail
  refine hsc.mono ?_
  rintro e y1 ⟨rfl, b5⟩
  have HE1 := hidc (HC1.out.below b5)
  have g4 := HE1.out.box.cell (i := 4) rfl
  have f4 := HE1.out.box.frozen 4
  have HF1 := hidc (HE1.out.set (cm' := (⟨2, mo, S x0, emp, f, 0, false, 0, false, 0, 0, false, false, 0, -1, false⟩ : Cm)) 4 (.int .u32 (f : Int)) rfl)
  clear hsc HC1 b5 c2 tc2 tl2 hx2 HE1
  go_upto_region 11 with fail
  clear g4 f4
  generalize y1.setCell ⟨D, 4, none⟩ (.int .u32 (f : Int)) = V5 at *
  obtain ⟨x2, hx3⟩ : ∃ x, us[2]? = some x := ⟨_, List.getElem?_eq_getElem (by omega)⟩
  have ea3 : at_ us 2 = x2 := by simp [at_, hx3]
  obtain ⟨tb3, tof3, e3, tl3, tc3⟩ := texts_cell HF1.out.b1.rd.txt hx3
  cases e3
  have c3 := HF1.out.b1.rd.blk.cell (i := 0) rfl
  have i3 : (2 : Int) < (us.length : Int) := by omega
  rcases hp3 : secs x2 with _ | z
  · have hsc := seconds_no x2 mLine hp3 V5 HF1.out.b1.vars
    go_wp2_with fail
    refine hsc.mono ?_
    rintro e w5 ⟨rfl, b5⟩
    have HP := hidc (rdp_up (why := mLine) (skip := n + 2) (used := 0) (x := storeU name us qt bh) (by unfold storeU; rw [if_neg (by rw [if_neg hname]; exact fun e => e hl)]; simp only [ea0, hp0]; rw [ea1, if_neg (by rw [hk1]; decide)]; simp only [ea2, hp2]; simp only [ea3, hp3]) (HF1.out.below b5).b1.rd rfl rfl (HF1.out.below b5).b1.only)
    generalize RdP R w (storeU name us qt bh) = Q at *
    clear hsc HF1
    go_wp2_with fail
    exact ⟨rfl, HP.out⟩
  have hsc := seconds_ok x2 z mLine hp3 V5 HF1.out.b1.vars
  go_wp2_with fail
  refine hsc.mono ?_
  rintro e y3 ⟨rfl, b5⟩
  have HE3 := hidc (HF1.out.below b5)
  have g3 := HE3.out.box.cell (i := 5) rfl
  have f3 := HE3.out.box.frozen 5
  have HC3 := hidc (HE3.out.set (cm' := (⟨2, mo, S x0, emp, f, z, false, 0, false, 0, 0, false, false, 0, -1, false⟩ : Cm)) 5 (.int .i64 z) rfl)
  clear hsc HF1 b5 c3 tc3 tl3 hx3 HE3
  go_upto_region 12 with fail
  clear g3 f3
  generalize y3.setCell ⟨D, 5, none⟩ (.int .i64 z) = V4 at *
  have g88 := HC3.out.box.cell (i := 8) rfl
  go_upto_region 14 with fail
  clear g88
  by_cases hbig : 65536 < n
  case pos =>
    have i9 : (65536 : Int) < (n : Int) := by omega
    have HP := hidc (rdp_up (why := mLarge) (skip := n + 2) (used := 0) (x := storeU name us qt bh) (by unfold storeU; rw [if_neg (by rw [if_neg hname]; exact fun e => e hl)]; simp only [ea0, hp0]; rw [ea1, if_neg (by rw [hk1]; decide)]; simp only [ea2, hp2]; simp only [ea3, hp3]; simp only [casR, if_neg hname]; unfold valueR; rw [if_pos hbig]) HC3.out.b1.rd rfl rfl HC3.out.b1.only)
    generalize RdP R w (storeU name us qt bh) = Q at *
    go_wp2_with fail
    exact ⟨rfl, HP.out⟩
  have i9 : ¬ (65536 : Int) < (n : Int) := by omega
  have c1 : V4.cell? ⟨R, 1, none⟩ = some (.string (S bh)) := HC3.out.b1.rd.blk.cell (i := 1) rfl
  have c3 : V4.cell? ⟨R, 3, none⟩ = some (.int .i64 ((n : Int) + 2)) := HC3.out.b1.rd.blk.cell (i := 3) rfl
  have hbz : (S bh).size = bh.length := S_size _
  go_upto_region 16 with fail
  by_cases hsh : bh.length < n + 2
  case pos =>
    have d1 : decide (((S bh).size : Int) < (n : Int) + 2) = true := by simp; omega
    have d2 : ((S bh).size : Int) < (n : Int) + 2 := by omega
    have HQ : Hid (storeU name us qt bh = .done noRq 0) := hidc (by unfold storeU; rw [if_neg (by rw [if_neg hname]; exact fun e => e hl)]; simp only [ea0, hp0]; rw [ea1, if_neg (by rw [hk1]; decide)]; simp only [ea2, hp2]; simp only [ea3, hp3]; simp only [casR, if_neg hname]; unfold valueR; rw [if_neg hbig]; rw [if_pos hsh])
    go_quiet (fail)
    have HBD := hidc (HC3.out.below (bdrew V4 nq))
    clear HC3 c1 c3
    generalize V4.drewN nq = V6 at *
    have HR := hidc HBD.out.b1.res
    have HOK := hidc (rq_ok noRq (v := .slice none 0 0) ⟨_, _, _, rfl⟩)
    have HF : Hid (∀ W, Only (fun b => b = w.heap.size) V6 W → RdP R w (storeU name us qt bh) (.returned (.agg (rqc noRq (.slice none 0 0)).toArray)) W) := hidc fun W ho => HBD.out.b1.laid (n₀ := w.heap.size + 1) ⟨_, rfl, cms_nil _ _⟩ (by omega) ho HQ.out rfl
    generalize RdP R w (storeU name us qt bh) = Q at *
    clear HBD HQ
    go_wp2_with (refine stRq rfl rfl rfl rfl rfl HR.out rfl rfl HOK.out ?_; intro W hW oW; have HW := hidc (And.intro hW (HF.out W oW)); clear hW oW)
    exact bodyPost_ret (res_rqL rfl rfl HW.out.1 rfl) rfl HW.out.2
  have d1 : decide (((S bh).size : Int) < (n : Int) + 2) = false := by simp; omega
  have d2 : ¬ ((S bh).size : Int) < (n : Int) + 2 := by omega
  go_quiet (fail)
  have HBD := hidc (HC3.out.below (bdrew V4 nq))
  clear HC3 c1 c3 d1 d2 hbz
  generalize V4.drewN nq = V6 at *
  have hva := value_any HBD.out.b1.rd (by omega) (by omega)
  go_wp2_with fail
  refine hva.mono ?_
  rintro e w7 ⟨hif, r7, o7⟩
  have HB7 := hidc (HBD.out.turn r7 o7 HBD.out.ap)
  clear HBD r7 o7 hva
  by_cases hd : (bh.take (n + 2)).drop n = [13, 10]
  case neg =>
    rw [if_neg hd] at hif
    subst hif
    have HP := hidc (rdp_up (why := mData) (skip := 0) (used := n + 2) (x := storeU name us qt bh) (by unfold storeU; rw [if_neg (by rw [if_neg hname]; exact fun e => e hl)]; simp only [ea0, hp0]; rw [ea1, if_neg (by rw [hk1]; decide)]; simp only [ea2, hp2]; simp only [ea3, hp3]; simp only [casR, if_neg hname]; unfold valueR; rw [if_neg hbig]; rw [if_neg hsh]; rw [if_neg hd]) HB7.out.b1.rd rfl rfl HB7.out.b1.only)
    generalize RdP R w (storeU name us qt bh) = Q at *
    clear HB7 hd
    go_wp2_with fail
    exact ⟨rfl, HP.out⟩
  rw [if_pos hd] at hif
  subst hif
  have g33 := HB7.out.box.cell (i := 3) rfl
  have f33 := HB7.out.box.frozen 3
  have HB8 := hidc (HB7.out.set (cm' := storeC name x0 f z 0 (bh.take n)) 3 (.string (S (bh.take n))) (by unfold storeC; rw [hdec, HMO.out]; rfl))
  clear HB7
  go_upto_region 19 with fail
  clear g33 f33
  generalize w7.setCell ⟨D, 3, none⟩ (.string (S (bh.take n))) = V8 at *
  have HQ : Hid (storeU name us qt bh = .done (oneQ (storeC name x0 f z 0 (bh.take n)) qt) (n + 2)) := hidc (by unfold storeU; rw [if_neg (by rw [if_neg hname]; exact fun e => e hl)]; simp only [ea0, hp0]; rw [ea1, if_neg (by rw [hk1]; decide)]; simp only [ea2, hp2]; simp only [ea3, hp3]; simp only [casR, if_neg hname]; unfold valueR; rw [if_neg hbig]; rw [if_neg hsh]; rw [if_pos hd])
  have hon := one_any HB8.out.b1.rd (storeC name x0 f z 0 (bh.take n))
  have HBX := hidc HB8.out.box
  go_wp2_with (refine ldCm rfl rfl rfl HBX.out rfl ?_)
  refine hon.mono ?_
  rintro e w6 ⟨v, rfl, hq, b6⟩
  obtain ⟨cs, rfl, hcl, hco⟩ := isrq_cells hq
  have HB6 := hidc (HB8.out.below b6)
  have HR := hidc HB6.out.b1.res
  have HF : Hid (∀ W, Only (fun b => b = w.heap.size) w6 W → RdP R w (storeU name us qt bh) (.returned (.agg cs.toArray)) W) := hidc fun W ho => HB6.out.b1.laid hq (by have := HB8.out.ge; have := HB8.out.box.lt; omega) ho HQ.out rfl
  generalize RdP R w (storeU name us qt bh) = Q at *
  clear hq b6 HB8 HB6 HQ hon HBX
  have HL := hidc (And.intro hcl hco)
  clear hcl hco
  go_wp2_with (refine stRq rfl rfl rfl rfl rfl HR.out rfl HL.out.1 HL.out.2 ?_; intro W hW oW; have HW := hidc (And.intro hW (HF.out W oW)); clear hW oW)
  exact bodyPost_ret (res_rqL HL.out.1 rfl HW.out.1 rfl) rfl HW.out.2
end Go.Proofs.YtggeccndmmmnjaaDoor.Tx

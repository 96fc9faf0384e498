/-
  The law ItemReads at this program: bytes begin with one item, or with none. Conditions: at most 2^47 - 4096 bytes.
-/
import Derived.Test.YtdbaldkinjdeaaaItemLent
import Derived.Test.YtdbaldkinjdeaaaItemRDecC
import Derived.BigRegion
namespace Go.Proofs.Ytdbaldkinjdeaaa
open Go Go.RowKit Go.Lib

set_option maxHeartbeats 4000000 in
set_option maxRecDepth 100000 in
theorem reads_law (a : Option Addr) (n c : Nat) (l : List UInt8) (hl : l.length = n) (w : World) (hv : Byts w (.slice a n c) l) (hc : n ≤ c) (hnil : a = none → c = 0) (hn : n ≤ 140737488351232) :
    Calls Try.prog 4 #[.slice a n c] w fun e w' => e = .returned (.bool true) ∧ Below w.heap.size w w' := by
  obtain ⟨i0, hi, hz0, hz1, hz2⟩ := info_parts infoByte
  obtain ⟨z, ec, hz⟩ := decV_form (dec l)
  obtain ⟨cl, hcl⟩ : ∃ cl, cl = bc l := ⟨_, rfl⟩
  have hcn : cl.length = n := by rw [hcl, bc_len, hl]
  have HO := hid (bc_ok l)
  rw [← hcl] at HO
  have HCL := hid hcl
  have HV := hid hv
  have HLN := hid hl
  have HZV := hid hz
  have HNIL := hid hnil
  clear hv hl hcl hz hnil
  go_enter Try.func4, Try.ntmps4
  go_wp2_with fail
  refine (shown_any _).mono ?_
  rintro e w1 ⟨rfl, b1⟩
  have HV1 := hid (HV.out.below b1)
  have HB1 := hid b1
  clear b1
  have HW := hid (World.ownsRow_made (base := w1.heap.size) (e := 5) (size := 1) w1 #[] 0 (Nat.le_refl _) (by unfold maxLen; omega) rfl)
  go_upto_region 2 with fail
  go_cut [4] from 11 to 13 (fun v wx => Hid (Lent w1 n l v wx))
  case first =>
    cases a with
    | none =>
      obtain rfl : c = 0 := HNIL.out rfl
      obtain rfl : n = 0 := HV1.out.none_ HLN.out
      obtain rfl : cl = [] := List.eq_nil_of_length_eq_zero hcn
      go_wp2_with (at_builtin; refine wpList_append_own_none rfl _ _ 27 rfl w1.heap.size 5 i0 1 Try.underlying27 hi (.slice (some ⟨w1.heap.size, 0, none⟩) 0 0) 0 [] rfl HW.out rfl ?_)
      go_meet
      exact hid (lent_of (by rw [← HCL.out]; exact HW.out) (fun e => by cases e) ((Below.refl _ _).alloc (Nat.le_refl _) _))
    | some ad =>
      have HC := hid (fun (ob : Obj) j v (hj : cl[j]? = some v) => cell_alloc (HV1.out.cells (by rw [← HCL.out]; exact hj)) ob)
      go_wp2_with (at_builtin; refine wpList_append_own _ rfl _ _ 27 rfl w1.heap.size 5 i0 (.int .u8 0) 1 1 Try.underlying27 hi hz0 hz1 hz2 rfl (by decide) (.slice (some ⟨w1.heap.size, 0, none⟩) 0 0) 0 [] rfl HW.out ad n c cl rfl (by rw [hcn, Nat.mul_one]) (HC.out _) HO.out (by unfold maxLen; omega) (by omega) (by simp) ?_; intro v' w2 hown hgrow hnn)
      have hb : Below w1.heap.size w1 w2 := ((Below.refl w1.heap.size w1).alloc (Nat.le_refl _) _).grown hgrow (by simp) (fun k hk => by simp [Value.ownBlock] at hk; omega)
      rw [Nat.zero_add, List.nil_append, HCL.out] at hown
      have hL := hid (lent_of hown (fun e => by have := (hnn.1 e).1; cases this) hb)
      clear hown hgrow hnn hb
      go_wp2_with fail
      go_meet
      exact hL
  case rest =>
    obtain ⟨gl, cp, cur, rfl, hcp, hgl, hblk, hcur, hb⟩ := hcut.out
    have hd1 := dec_any wc (some ⟨gl, 0, none⟩) n cp l (lent_byts hblk hcur HLN.out) HLN.out hcp
    rw [HZV.out] at hd1
    have HBK := hid hblk
    have HCU := hid hcur
    have HVc := hid (HV1.out.below hb)
    have HBc := hid (Below.then HB1.out hb)
    have HGL := hid (Nat.le_trans HB1.out.size hgl)
    clear hcut hblk hcur hb hgl HB1 HV1 HO HCL HW hcn cl hz0 hz1 hz2 hi i0
    unfold It.v It.cells at hd1
    go_wp2_with fail
    refine hd1.mono ?_
    rintro e w3 ⟨rfl, b3⟩
    clear hd1
    have hd2 : ∀ ob, _ := fun ob => rdec_any (w3.alloc ob) a n c l ((HVc.out.below b3).below ((Below.refl _ _).alloc (Nat.le_refl _) ob)) HLN.out hc (by omega)
    rw [HZV.out] at hd2
    have HBK3 := hid (HBK.out.below b3)
    have HB3 := hid (Below.then HBc.out b3)
    clear b3 HBK HVc HBc
    unfold It.v It.cells at hd2
    go_wp2_with fail
    refine (hd2 _).mono ?_
    rintro e w4 ⟨rfl, b4⟩
    have hx1 : Blk w4 w3.heap.size 25 z.cells := (Blk.new w3 z.cells.toArray 25).below b4
    have hl1 : gl < w3.heap.size := HBK3.out.lt
    have hk4 := ((HBK3.out.alloc _).below b4)
    have hb4 := Below.then (HB3.out.alloc HB3.out.size _) b4
    have hs4 := hx1.lt
    clear hd2 b4 HBK3 HB3
    have HX1 := hid (hx1.alloc (.cells z.cells.toArray 25))
    have HX2 := hid (Blk.new w4 z.cells.toArray 25)
    have HBK5 := hid (hk4.alloc (.cells z.cells.toArray 25))
    have HB5 := hid (hb4.alloc hb4.size (.cells z.cells.toArray 25))
    have hg1 : ¬ gl = w3.heap.size := by omega
    have hg2 : ¬ gl = w4.heap.size := by omega
    have HG := hid (And.intro hg1 hg2)
    clear hx1 hk4 hb4 hs4 hl1 hg1 hg2
    simp only [It.cells] at HX1 HX2 HBK5 HB5
    go_wp2_with fail
    generalize w4.alloc (.cells #[.string z.key, .int .u32 z.flags, .string z.val, .int .i64 z.exp, .int .u64 z.cas, .int .i64 z.last, .bool z.stale, .bool z.won] 25) = w5 at *
    go_loopw [9] (fun v wr => ∃ (k : Nat) (cv : List Value), k ≤ n ∧ v = .int .i64 k ∧ Hid (Blk wr gl 5 cv) ∧ Hid (∀ (j : Nat) b, k ≤ j → l[j]? = some b → cv[j]? = some (.int .u8 (b.toNat : Int))) ∧ Hid (Only (fun b => b = gl) w5 wr)) (fun v _ => n - (RowKit.intOf v).toNat)
    case atStart => exact ⟨0, cur, Nat.zero_le _, rfl, HBK5, hid (fun j b _ hj => HCU.out j b hj), hid (Only.refl _ _)⟩
    case round =>
      obtain ⟨k, cv, hk, rfl, HV2, HJ, HO⟩ := hrel
      by_cases hlt : k < n
      · obtain ⟨b, hbk⟩ : ∃ b, l[k]? = some b := ⟨_, List.getElem?_eq_getElem (by rw [HLN.out]; exact hlt)⟩
        have hbr : Byts wr (.slice a n c) l := by
          have hbb : Below w.heap.size w wr := HB5.out.trans (HO.out.below HB5.out.size (fun x hx => by subst hx; exact HGL.out))
          exact HV.out.below hbb
        obtain ⟨ga, oa, rfl, hcd⟩ := hbr.look hbk
        have hcl' := HV2.out.cell (HJ.out k b (Nat.le_refl _) hbk)
        have hfl := HV2.out.frozen k
        have ilt : (k : Int) < (n : Int) := by omega
        have hxor := xor_same (b.toNat : Int)
        have HV' : Hid (Blk ((wr.setCell ⟨gl, k, none⟩ (.int .u8 0)).drew) gl 5 (cv.set k (.int .u8 0))) := hid (HV2.out.set k _).drew
        have HJ' : Hid (∀ (j : Nat) b, k + 1 ≤ j → l[j]? = some b → (cv.set k (.int .u8 0))[j]? = some (.int .u8 (b.toNat : Int))) := hid (fun j b' hj hb' => by
          rw [List.getElem?_set_ne (by omega)]; exact HJ.out j b' (by omega) hb')
        have HO' : Hid (Only (fun b => b = gl) w5 ((wr.setCell ⟨gl, k, none⟩ (.int .u8 0)).drew)) := hid (HO.out.setCell (p := ⟨gl, k, none⟩) (.inl rfl) _).drew
        clear HV2 HJ HO hbr hbk
        generalize b.toNat = bb at *
        go_wp2_with fail
        go_region
        go_wp2_with fail
        go_roundw
        case rel => exact ⟨k + 1, _, by omega, by go_num, HV', HJ', HO'⟩
        case measure => simp [RowKit.intOf] <;> omega
      · have hx1 := HX1.out.only HO.out (fun e => HG.out.1 e.symm)
        have hx2 := HX2.out.only HO.out (fun e => HG.out.2 e.symm)
        have hbb := hid (HB5.out.trans (HO.out.below HB5.out.size (fun x hx => by subst hx; exact HGL.out)))
        obtain ⟨q0, q1, q2, q3, q4, q5, q6, q7⟩ := box_cells (x := z) hx1
        obtain ⟨p0, p1, p2, p3, p4, p5, p6, p7⟩ := box_cells (x := z) hx2
        have heq := fun W => item_eql z z W
        rw [sameB_iff.2 rfl] at heq
        simp only [It.v, It.cells] at heq
        clear HV2 HJ HO hx1 hx2 HX1 HX2 HBK5 HB5 HG HGL HCU
        go_wp2_with fail
        go_ret
        exact ⟨rfl, hbb.out⟩
end Go.Proofs.Ytdbaldkinjdeaaa

/-
  One step on both arenas (ambrylaw06.does) at this program: a write. No conditions but that the numbers are an int's.
-/
import Derived.Test.YtclddaacbfgnlaaArenaDoes
import Derived.Laws.AppendOwnNone
namespace Go.Proofs.Ytclddaacbfgnlaa
open Go Go.RowKit Go.Lib

set_option maxHeartbeats 4000000 in
set_option maxRecDepth 100000 in
theorem does_write {d : Ids} {s : St} {w : World} (h : Two d s w) (A B C : Int) (hB : B ≤ 9223372036854775807) (a : Option Addr) (n c : Nat) (l : List UInt8) (hl : l.length = n) (hnc : n ≤ c) (hc63 : c ≤ 9223372036854775807) (hv : Byts w (.slice a n c) l) (hF : 0 < l.length → ∀ g o, a = some ⟨g, o, none⟩ → ¬ Foot d g) (hnil : a = none → c = 0) :
    Calls Try.prog 10 #[.pointer (some ⟨d.P, 0, none⟩), .pointer (some ⟨d.P', 0, none⟩), .agg #[.int .i64 3, .int .i64 A, .int .i64 B, .int .i64 C, .slice a n c]] w fun e w' => e = .returned (.bool true) ∧ ∃ d' s', Step d s w d' s' w' := by
  have HT := hid h
  have HC := hid (And.intro hl (And.intro hv (And.intro hF hnil)))
  clear h hl hv hF hnil
  go_enter Try.func10, Try.ntmps10
  go_upto_if 27 with fail
  go_cut [] from 24 to 31 (fun wx => Hid (Cut w (Foot d) 3 A B C wx))
  case first =>
    obtain ⟨hl, hv, hF, hnil⟩ := HC.out
    by_cases hn : n ≤ 2000
    · have HK := hid (cut_same (kd := 3) (A := A) (B := B) (C := C) hn hl hv hF hnil)
      have ilt : (n : Int) ≤ 2000 := by omega
      clear hv hF hl hnil HC
      go_wp2_with fail
      go_meet
      exact HK
    · obtain ⟨g, o, rfl⟩ : ∃ g o, a = some ⟨g, o, none⟩ := by
        obtain ⟨a', c', e, hx⟩ := hv
        cases e
        obtain ⟨g, o, ha, _⟩ := hx 0 (l[0]'(by omega)) (List.getElem?_eq_getElem _)
        exact ⟨g, o, ha⟩
      have HK := hid (cut_less (kd := 3) (A := A) (B := B) (C := C) (by omega) hl hv hF)
      have ilt : (2000 : Int) < (n : Int) := by omega
      clear hv hF hl hnil HC
      go_wp2_with fail
      go_meet
      exact HK
  case rest =>
    obtain ⟨a2, n2, c2, l2, hn2, hl2, hv2, hF2, hnil2, hB2, hb2⟩ := hcut.out
    have hx0 : wc.cell? ⟨w.heap.size, 0, none⟩ = some (.int .i64 3) := hB2.cell rfl
    have hx1 : wc.cell? ⟨w.heap.size, 1, none⟩ = some (.int .i64 A) := hB2.cell rfl
    have hT2 := HT.out.below hb2
    have H2 := hid hT2
    have hXO : w.heap.size ≠ d.O := fun e => by have := HT.out.lt _ (.inr (.inl rfl)); omega
    have hXO' : w.heap.size ≠ d.O' := fun e => by have := HT.out.lt _ (.inr (.inr (.inr (.inr (.inl rfl))))); omega
    have hXlt : w.heap.size < wc.heap.size := hB2.lt
    have HB := hid hB2
    have hbw := hb2
    clear hcut hT2 HC hb2 hB2
    obtain ⟨i0, hii, hz0, hz1, hz2⟩ := info_parts infoByte
    have hx2 : wc.cell? ⟨w.heap.size, 2, none⟩ = some (.int .i64 B) := HB.out.cell rfl
    have hx4 : wc.cell? ⟨w.heap.size, 4, none⟩ = some (.slice a2 n2 c2) := HB.out.cell rfl
    have hbyc : Byts wc (.slice a2 n2 c2) l2 := byts_below hv2 hbw rfl
    have HBY := hid hbyc
    have HF2 := hid hF2
    have HL2 := hid hl2
    obtain ⟨cl, hcl⟩ : ∃ cl, cl = bc l2 := ⟨_, rfl⟩
    have hcn : cl.length = n2 := by rw [hcl, bc_len, hl2]
    have HO := hid (bc_ok l2)
    rw [← hcl] at HO
    have HCL := hid hcl
    have HW := hid (World.ownsRow_made (base := wc.heap.size) (e := 5) (size := 1) wc #[] 0 (Nat.le_refl _) (by unfold maxLen; omega) rfl)
    have HV0 := hid hv2
    clear hv2 hF2 hbyc hl2 hcl
    rename World => wB
    go_upto_region 11 with fail
    go_cut [11] from 71 to 74 (fun v wx => (∃ gl cp, v = .slice (some ⟨gl, 0, none⟩) n2 cp ∧ Hid (wx.ownsRow wB.heap.size 5 1 v n2 cl)) ∧ Below wB.heap.size wB wx)
    case first =>
      cases a2 with
      | none =>
        obtain rfl : c2 = 0 := hnil2 rfl
        obtain rfl : n2 = 0 := byts_nil HBY.out HL2.out
        obtain rfl : cl = [] := List.eq_nil_of_length_eq_zero hcn
        go_wp2_with (at_builtin; refine wpList_append_own_none rfl _ _ 32 rfl wB.heap.size 5 i0 1 Try.underlying32 hii (.slice (some ⟨wB.heap.size, 0, none⟩) 0 0) 0 [] rfl HW.out rfl ?_)
        go_meet
        exact ⟨⟨wB.heap.size, 0, rfl, HW⟩, (Below.refl _ _).alloc (Nat.le_refl _) _⟩
      | some ad =>
        have HV := hid (fun (o : Obj) j v (hj : cl[j]? = some v) => cell_alloc (byts_cells HBY.out (by rw [← HCL.out]; exact hj)) o)
        go_wp2_with (at_builtin; refine wpList_append_own _ rfl _ _ 32 rfl wB.heap.size 5 i0 (.int .u8 0) 1 1 Try.underlying32 hii hz0 hz1 hz2 rfl (by decide) (.slice (some ⟨wB.heap.size, 0, none⟩) 0 0) 0 [] rfl HW.out ad n2 c2 cl rfl (by rw [hcn, Nat.mul_one]) (HV.out _) HO.out (by unfold maxLen; omega) (by omega) (by simp) ?_; intro v' w1 hown hgrow hnn)
        have hb : Below wB.heap.size wB w1 := ((Below.refl wB.heap.size wB).alloc (Nat.le_refl _) _).grown hgrow (by simp) (fun k hk => by simp [Value.ownBlock] at hk; omega)
        rw [Nat.zero_add, List.nil_append] at hown
        have hv' : ∃ gl cp, v' = .slice (some ⟨gl, 0, none⟩) n2 cp := by
          rcases hown.2 with ⟨e, _⟩ | ⟨gl, cp, _, e, _⟩
          · have := (hnn.1 e).1; cases this
          · exact ⟨gl, cp, e⟩
        obtain ⟨gl, cp, rfl⟩ := hv'
        clear hgrow hnn
        go_wp2_with fail
        go_meet
        exact ⟨⟨gl, cp, rfl, hid hown⟩, hb⟩
    case rest =>
      obtain ⟨⟨gl, cp, rfl, HR⟩, hb⟩ := hcut
      have hlt := HR.out.lt gl rfl
      obtain ⟨cur, hcur, hcc⟩ := own_cells HR.out HCL.out
      have H5 := hid (H2.out.below hb)
      have hby : Byts wc (.slice (some ⟨gl, 0, none⟩) n2 cp) l2 := by
        have hr := HR.out
        rw [HCL.out, ← HL2.out] at hr
        have := byts_row hr
        rw [HL2.out] at this; exact this
      have hLR : gl ≠ d.R := fun e => by have := H2.out.lt _ (.inr (.inr (.inl rfl))); omega
      have hXR : w.heap.size ≠ d.R := fun e => by have := HT.out.lt _ (.inr (.inr (.inl rfl))); omega
      have hwr := write_any H5.out.a A B hB _ l2 (by rw [HL2.out]; omega) hby
      have hy1 : wc.cell? ⟨w.heap.size, 1, none⟩ = some (.int .i64 A) := (hb.cell (p := ⟨w.heap.size, 1, none⟩) hXlt).trans hx1
      have hy2 : wc.cell? ⟨w.heap.size, 2, none⟩ = some (.int .i64 B) := (hb.cell (p := ⟨w.heap.size, 2, none⟩) hXlt).trans hx2
      have hy4 : wc.cell? ⟨w.heap.size, 4, none⟩ = some (.slice a2 n2 c2) := (hb.cell (p := ⟨w.heap.size, 4, none⟩) hXlt).trans hx4
      have HBY5 := hid (byts_below HBY.out hb rfl)
      have hXlt5 : w.heap.size < wc.heap.size := Nat.lt_of_lt_of_le hXlt hb.size
      obtain ⟨ee, s1, hgs⟩ : ∃ ee s1, s.write A B l2 = (ee, s1) := ⟨_, _, rfl⟩
      have hsz : s1.size = s.size := by have := write_size s A B l2; rw [hgs] at this; exact this
      rw [hgs] at hwr
      have HG := hid hgs
      have HCC := hid hcc
      have HCU := hid hcur
      have HBD := hid hb
      clear hgs hcc hcur hby hx1 hx2 hx4 HR HW HO hcn hnil2 hx0
      go_wp2_with fail
      refine hwr.mono ?_
      rintro e w6 ⟨rfl, h6, o6⟩
      have hz1' : w6.cell? ⟨w.heap.size, 1, none⟩ = some (.int .i64 A) := (o6.cell (p := ⟨w.heap.size, 1, none⟩) hXlt5 hXR).trans hy1
      have hz2' : w6.cell? ⟨w.heap.size, 2, none⟩ = some (.int .i64 B) := (o6.cell (p := ⟨w.heap.size, 2, none⟩) hXlt5 hXR).trans hy2
      have hz4' : w6.cell? ⟨w.heap.size, 4, none⟩ = some (.slice a2 n2 c2) := (o6.cell (p := ⟨w.heap.size, 4, none⟩) hXlt5 hXR).trans hy4
      have HBY6 := hid (HBY5.out.onlyN o6 (fun h0 g o n' c' e e' => HF2.out h0 g o (by cases e; rfl) (.inr (.inr (.inl e')))))
      have HCU6 := hid (HCU.out.only o6 hLR)
      have HA6 := hid h6
      have HO6 := hid o6
      have hXlt6 := Nat.lt_of_lt_of_le hXlt5 o6.size
      have hXL : w.heap.size ≠ gl := by omega
      have HZ := hid (And.intro hz1' (And.intro hz2' hz4'))
      clear hwr h6 o6 hy1 hy2 hy4 HBY HBY5 HCU H5 hz1' hz2' hz4'
      go_wp2_with fail
      go_loopw [13] (fun v wr => ∃ (k : Nat) (cv : List Value), k ≤ n2 ∧ v = .int .i64 k ∧ Hid (Blk wr gl 5 cv) ∧ Hid (∀ (j : Nat) b, k ≤ j → l2[j]? = some b → cv[j]? = some (.int .u8 (b.toNat : Int))) ∧ Hid (Only (fun b => b = gl) w6 wr)) (fun v _ => n2 - (intOf v).toNat)
      case atStart => exact ⟨0, cur, Nat.zero_le _, rfl, HCU6, hid (fun j b _ hj => HCC.out j b hj), hid (Only.refl _ _)⟩
      case round =>
        obtain ⟨k, cv, hk, rfl, HV, HJ, HO⟩ := hrel
        have hk4 : wr.cell? ⟨w.heap.size, 4, none⟩ = some (.slice a2 n2 c2) := (HO.out.cell (p := ⟨w.heap.size, 4, none⟩) hXlt6 hXL).trans HZ.out.2.2
        have HBYr := hid (byts_only2 HV0.out HBY6.out HO.out (fun g o n' c' _ hg0 e => by omega))
        by_cases hlt' : k < n2
        · obtain ⟨b, hbk⟩ : ∃ b, l2[k]? = some b := ⟨_, List.getElem?_eq_getElem (by rw [HL2.out]; exact hlt')⟩
          obtain ⟨ga, oa, rfl, -, hcd⟩ := byts_at HBYr.out hbk
          have hcl' := HV.out.cell (HJ.out k b (Nat.le_refl _) hbk)
          have hfl := HV.out.frozen k
          have ilt : (k : Int) < (n2 : Int) := by omega
          have HV' : Hid (Blk (wr.drew.setCell ⟨gl, k, none⟩ (.int .u8 7)) gl 5 (cv.set k (.int .u8 7))) := hid (HV.out.drew.set k _)
          have HJ' : Hid (∀ (j : Nat) b, k + 1 ≤ j → l2[j]? = some b → (cv.set k (.int .u8 7))[j]? = some (.int .u8 (b.toNat : Int))) := hid (fun j b' hj hb' => by
            rw [List.getElem?_set_ne (by omega)]; exact HJ.out j b' (by omega) hb')
          have HO' : Hid (Only (fun b => b = gl) w6 (wr.drew.setCell ⟨gl, k, none⟩ (.int .u8 7))) := hid (HO.out.drew.setCell (p := ⟨gl, k, none⟩) (.inl rfl) _)
          clear HV HJ HO HBYr HBY6 hbk HCU6 HA6 HO6 HZ HBD HCC HG HL2 HF2 HV0 HCL HB H2 HT
          go_wp2_with fail
          go_region_held3 (fun w' => w'.cell? ⟨w.heap.size, 4, none⟩ = some (.slice (some ⟨ga, oa, none⟩) n2 c2) ∧ w'.cell? ⟨gl, k, none⟩ = some (.int .u8 (b.toNat : Int)) ∧ w'.cell? ⟨ga, oa + k, none⟩ = some (.int .u8 (b.toNat : Int))) (go_keep) (first | fail)
          go_wp2_with fail
          go_roundw
          case rel => exact ⟨k + 1, _, by omega, by go_num, HV', HJ', HO'⟩
          case measure => simp [intOf] <;> omega
        · obtain rfl : k = n2 := by omega
          have hk1 : wr.cell? ⟨w.heap.size, 1, none⟩ = some (.int .i64 A) := (HO.out.cell (p := ⟨w.heap.size, 1, none⟩) hXlt6 hXL).trans HZ.out.1
          have hk2 : wr.cell? ⟨w.heap.size, 2, none⟩ = some (.int .i64 B) := (HO.out.cell (p := ⟨w.heap.size, 2, none⟩) hXlt6 hXL).trans HZ.out.2.1
          have o1 : Only (fun b => b = d.O ∨ b = d.R) wB wr := ((Below.only (D := fun b => b = d.O ∨ b = d.R) HBD.out).trans (onlyR HO6.out) (fun _ hx => .inl hx)).trans HO.out (fun x hx => by subst hx; exact .inr hlt.1)
          have hAr := HA6.out.only HO.out (fun e => by have := HT.out.lt _ (.inl rfl); omega) (fun e => by have := HT.out.lt _ (.inr (.inl rfl)); omega) (fun e => hLR e.symm)
          have hRr := ref_after H2.out o1
          have hwr := ref_write hRr A B hB _ l2 (by rw [HL2.out]; omega) HBYr.out (fun h0 g o n' c' e e' => by
            cases e
            exact HF2.out h0 g o rfl (by rw [e']; exact .inr (.inr (.inr (.inr (.inr (.inl rfl)))))))
          rw [HG.out] at hwr
          have H7 := hid (And.intro o1 hAr)
          clear o1 hAr hRr HV HJ HO HBYr HBY6 HCU6 HA6 HO6 HZ HBD HCC HL2 HF2 HV0 HCL HB HG
          go_wp2_with fail
          refine hwr.mono ?_
          rintro e w8 ⟨rfl, bl', h8, hn8, o8⟩
          have hst := (step_ar H2.out hsz H7.out.2 H7.out.1 h8 hn8 o8).after hbw
          clear hwr h8 hn8 o8 H7 H2 HT hbw
          go_wp2_with fail
          go_ret
          exact ⟨rfl, _, _, hst⟩

end Go.Proofs.Ytclddaacbfgnlaa

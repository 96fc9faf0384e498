/-
  One step on both arenas (ambrylaw06.does) at this program: a pass. No conditions but that the numbers are an int's.
-/
import Derived.Test.YtclddaacbfgnlaaArenaDoes
import Derived.BigQuiet
namespace Go.Proofs.Ytclddaacbfgnlaa
open Go Go.RowKit Go.Lib

set_option maxHeartbeats 4000000 in
set_option maxRecDepth 100000 in
theorem does_pass {d : Ids} {s : St} {w : World} (h : Two d s w) (A B C : Int) (_hB : B ≤ 9223372036854775807) (a : Option Addr) (n c : Nat) (l : List UInt8) (hl : l.length = n) (hnc : n ≤ c) (hc63 : c ≤ 9223372036854775807) (hv : Byts w (.slice a n c) l) (hF : 0 < l.length → ∀ g o, a = some ⟨g, o, none⟩ → ¬ Foot d g) (hnil : a = none → c = 0) :
    Calls Try.prog 10 #[.pointer (some ⟨d.P, 0, none⟩), .pointer (some ⟨d.P', 0, none⟩), .agg #[.int .i64 5, .int .i64 A, .int .i64 B, .int .i64 C, .slice a n c]] w fun e w' => e = .returned (.bool true) ∧ ∃ d' s', Step d s w d' s' w' := by
  have HT := hid h
  have HC := hid (And.intro hl (And.intro hv (And.intro hF hnil)))
  clear h hl hv hF hnil
  go_enter Try.func10, Try.ntmps10
  go_upto_if 27 with fail
  go_cut [] from 24 to 31 (fun wx => Hid (Cut w (Foot d) 5 A B C wx))
  case first =>
    obtain ⟨hl, hv, hF, hnil⟩ := HC.out
    by_cases hn : n ≤ 2000
    · have HK := hid (cut_same (kd := 5) (A := A) (B := B) (C := C) hn hl hv hF hnil)
      have ilt : (n : Int) ≤ 2000 := by omega
      clear hv hF hl hnil HC
      go_wp2_with fail
      go_meet
      exact HK
    · obtain ⟨g, o, rfl⟩ : ∃ g o, a = some ⟨g, o, none⟩ := by
        obtain ⟨a', c', e, hx⟩ := hv
        cases e
        obtain ⟨g, o, ha, _⟩ := hx 0 (l[0]'(by omega)) (List.getElem?_eq_getElem _)
        exact ⟨g, o, ha⟩
      have HK := hid (cut_less (kd := 5) (A := A) (B := B) (C := C) (by omega) hl hv hF)
      have ilt : (2000 : Int) < (n : Int) := by omega
      clear hv hF hl hnil HC
      go_wp2_with fail
      go_meet
      exact HK
  case rest =>
    obtain ⟨a2, n2, c2, l2, hn2, hl2, hv2, hF2, hnil2, hB2, hb2⟩ := hcut.out
    have hx0 : wc.cell? ⟨w.heap.size, 0, none⟩ = some (.int .i64 5) := hB2.cell rfl
    have hx1 : wc.cell? ⟨w.heap.size, 1, none⟩ = some (.int .i64 A) := hB2.cell rfl
    have hT2 := HT.out.below hb2
    have H2 := hid hT2
    have hXO : w.heap.size ≠ d.O := fun e => by have := HT.out.lt _ (.inr (.inl rfl)); omega
    have hXO' : w.heap.size ≠ d.O' := fun e => by have := HT.out.lt _ (.inr (.inr (.inr (.inr (.inl rfl))))); omega
    have hXlt : w.heap.size < wc.heap.size := hB2.lt
    have HB := hid hB2
    have hbw := hb2
    clear hcut hT2 HC hb2 hB2
    have hx2 : wc.cell? ⟨w.heap.size, 2, none⟩ = some (.int .i64 B) := HB.out.cell rfl
    clear hv2 hF2 hl2 hnil2
    obtain ⟨ee, s1, hgs⟩ : ∃ ee s1, s.pass A B = (ee, s1) := ⟨_, _, rfl⟩
    have hsz : s1.size = s.size := by have := pass_size s A B; rw [hgs] at this; exact this
    have H2d := hid (H2.out.drew)
    have hA1 := pass_any H2d.out.a A B
    have hR1 := ref_pass H2d.out.r A B
    rw [hgs] at hA1 hR1
    have HG := hid hgs
    clear hgs
    go_upto_region 29 with fail
    go_cut [172] from 155 to 172 (fun v wx => v = .bool false ∧ Hid (∃ d1, Step d s wc d1 s1 wx) ∧ wx.cell? ⟨w.heap.size, 1, none⟩ = some (.int .i64 A))
    case first =>
      go_region_held3 (fun w' => w'.cell? ⟨w.heap.size, 0, none⟩ = some (.int .i64 5) ∧ w'.cell? ⟨w.heap.size, 1, none⟩ = some (.int .i64 A) ∧ w'.cell? ⟨w.heap.size, 2, none⟩ = some (.int .i64 B)) (first | exact ⟨hxi, hxj, hxk⟩ | exact ⟨hx0, hx1, hx2⟩) (first
        | (go_at_call 19; refine hA2.mono ?_; rintro e w4 ⟨rfl, h4, o4⟩; have hxi := (o4.cell (p := ⟨w.heap.size, 0, none⟩) hXlt3 hXO).trans hxi; have hxj := (o4.cell (p := ⟨w.heap.size, 1, none⟩) hXlt3 hXO).trans hxj; have hxk := (o4.cell (p := ⟨w.heap.size, 2, none⟩) hXlt3 hXO).trans hxk; have hst := hid (step_ra H2d.out hsz H3.out.1 H3.out.2 h4 o4); clear h4 o4)
        | (go_at_call 19; refine hA1.mono ?_; rintro e w3 ⟨rfl, h3, o3⟩; have hxi := (o3.cell (p := ⟨w.heap.size, 0, none⟩) hXlt hXO).trans hx0; have hxj := (o3.cell (p := ⟨w.heap.size, 1, none⟩) hXlt hXO).trans hx1; have hxk := (o3.cell (p := ⟨w.heap.size, 2, none⟩) hXlt hXO).trans hx2; have hXlt3 := Nat.lt_of_lt_of_le hXlt o3.size; have hR2 := ref_pass (ref_after H2d.out (onlyO o3)) A B; rw [HG.out] at hR2; have H3 := hid (And.intro h3 (onlyO o3)); clear h3 o3)
        | (go_at_call 27; refine hR2.mono ?_; rintro e w4 ⟨rfl, h4, o4⟩; have hxi := (o4.cell (p := ⟨w.heap.size, 0, none⟩) hXlt3 hXO').trans hxi; have hxj := (o4.cell (p := ⟨w.heap.size, 1, none⟩) hXlt3 hXO').trans hxj; have hxk := (o4.cell (p := ⟨w.heap.size, 2, none⟩) hXlt3 hXO').trans hxk; have hst := hid (step_ar H2d.out hsz H3.out.1 H3.out.2 h4 (fun i b hb => .inl hb) (onlyO' o4)); clear h4 o4)
        | (go_at_call 27; refine hR1.mono ?_; rintro e w3 ⟨rfl, h3, o3⟩; have hxi := (o3.cell (p := ⟨w.heap.size, 0, none⟩) hXlt hXO').trans hx0; have hxj := (o3.cell (p := ⟨w.heap.size, 1, none⟩) hXlt hXO').trans hx1; have hxk := (o3.cell (p := ⟨w.heap.size, 2, none⟩) hXlt hXO').trans hx2; have hXlt3 := Nat.lt_of_lt_of_le hXlt o3.size; have hA2 := pass_any (arena_after H2d.out o3) A B; rw [HG.out] at hA2; have H3 := hid (And.intro h3 o3); clear h3 o3))
      all_goals
        have hst2 := hid (hst.out.after (w0 := wc) (Below.refl _ _).drew)
        go_wp2_with fail
        go_meet
        exact ⟨rfl, hid ⟨_, hst2.out⟩, hxj⟩
    case rest =>
      obtain ⟨rfl, HDS, hkW⟩ := hcut
      obtain ⟨d1, hst⟩ := HDS.out
      have HST := hid hst
      have hXW : w.heap.size < wc.heap.size := cell_lt hkW
      clear hA1 hR1 HG H2d HDS hst HB hx0 hx1 hx2
      have hpa := pages_any HST.out.two.a A
      rw [HST.out.p] at hpa
      have HT1 := hid HST.out.two
      go_wp2_with fail
      refine hpa.mono ?_
      rintro e w5 ⟨v1, rfl, hown, hb5⟩
      have hpr := ref_pages (HT1.out.r.below hb5) A
      rw [HST.out.p'] at hpr
      have hk5 : w5.cell? ⟨w.heap.size, 1, none⟩ = some (.int .i64 A) := (hb5.cell (p := ⟨w.heap.size, 1, none⟩) hXW).trans hkW
      obtain ⟨L, hL⟩ : ∃ L, (pagesOf s1.ow A).length = L := ⟨_, rfl⟩
      have hL16 : L ≤ 1024 := by
        have h1 := HT1.out.a.ok.n2
        have h2 := pagesTo_len s1.ow A s1.ow.length
        have h3 : (pagesOf s1.ow A).length ≤ (pagesTo s1.ow A s1.ow.length).length := by
          unfold pagesOf
          split
          · exact Nat.le_refl _
          · simp
        omega
      rw [hL] at hown hpr
      have HL := hid hL
      have hltb := hown.lt
      have HLT := hid hltb
      have HOWN := hid hown
      have HB5 := hid hb5
      obtain ⟨a1, c1, rfl⟩ := row_form hown
      clear hpa hb5 hL hltb hown hkW
      go_wp2_with fail
      refine hpr.mono ?_
      rintro e w6 ⟨v2, rfl, hown2, hb6⟩
      have hkeep : w6.ownsRow wc.heap.size 3 1 (.slice a1 L c1) L (ic (pagesOf s1.ow A)) := own_only HOWN.out (Below.only (D := fun _ => False) hb6) (fun _ _ => id)
      obtain ⟨a3, c3, rfl⟩ := row_form hown2
      have hk6 : w6.cell? ⟨w.heap.size, 1, none⟩ = some (.int .i64 A) := (hb6.cell (p := ⟨w.heap.size, 1, none⟩) (Nat.lt_of_lt_of_le hXW HB5.out.size)).trans hk5
      have hb56 := HB5.out.trans (hb6.mono HB5.out.size)
      have HT6 := hid (HT1.out.below hb56)
      have cA : ∀ n, Calls Try.prog 17 #[.pointer (some ⟨d.P, 0, none⟩), .int .i64 A] (w6.drewN n) fun e w'' => e = .returned (.int .i64 (ownerOf s1.ow A)) ∧ ∃ m, w'' = w6.drewN m := fun n => by
        have h := owner_any (HT6.out.below (drewn_below (Below.refl _ _) n)).a A
        rw [HST.out.p] at h
        exact h.mono fun e w' ⟨he, hw⟩ => ⟨he, n, hw.symm⟩
      have cR : ∀ n, Calls Try.prog 29 #[.pointer (some ⟨d.P', 0, none⟩), .int .i64 A] (w6.drewN n) fun e w'' => e = .returned (.int .i64 (ownerOf s1.ow A)) ∧ ∃ m, w'' = w6.drewN m := fun n => by
        have h := ref_owner (HT6.out.below (drewn_below (Below.refl _ _) n)).r A
        rw [HST.out.p'] at h
        exact h.mono fun e w' ⟨he, hw⟩ => ⟨he, n, hw.symm⟩
      obtain ⟨y, hy⟩ : ∃ y, ownerOf s1.ow A = y := ⟨_, rfl⟩
      rw [hy] at cA cR
      have HSL : Hid (Slots w6 3 (.slice a1 L c1) L wc.heap.size) := hid ⟨_, hkeep⟩
      have HI1 := hid (row_ints HL.out hkeep)
      have HI2 := hid (row_ints HL.out hown2)
      have HLT2 := hid hown2.lt
      have HB6 := hid hb6
      clear hpr hown2 hb6 hkeep hk5 hy HOWN
      go_wp2_with fail
      go_quiet (first | exact cA _ | exact cR _)
      clear cA cR hk6
      go_wp2_with fail
      have hq6 : Below wc.heap.size wc (w6.drewN nq) := drewn_below hb56 nq
      go_loopw [22, 23] (fun ok iv wr => ∃ k : Nat, k ≤ L ∧ iv = .int .i64 k ∧ ok = .bool true ∧ Hid (∀ (j : Nat) z, k ≤ j → (pagesOf s1.ow A)[j]? = some z → ∃ b, a1 = some ⟨b, 0, none⟩ ∧ wr.cell? ⟨b, j, none⟩ = some (.int .i64 z)) ∧ Hid (Slots wr 3 (.slice a1 L c1) L wc.heap.size) ∧ Hid (Only (fun b => wc.heap.size ≤ b ∧ b < w5.heap.size) (w6.drewN nq) wr)) (fun _ iv _ => L - (intOf iv).toNat)
      case atStart => exact ⟨0, Nat.zero_le _, rfl, rfl, hid (fun j z _ hj => by obtain ⟨b, e, _, _, hc⟩ := HI1.out j z hj; exact ⟨b, e, hc⟩), HSL, hid (Only.refl _ _)⟩
      case round =>
        obtain ⟨k, hk, rfl, rfl, HJ, HS, HO⟩ := hrel
        clear HSL HI1
        by_cases hkL : k < L
        · obtain ⟨z, hz⟩ : ∃ z, (pagesOf s1.ow A)[k]? = some z := ⟨_, List.getElem?_eq_getElem (by rw [HL.out]; exact hkL)⟩
          obtain ⟨b1, rfl, hc1⟩ := HJ.out k z (Nat.le_refl _) hz
          obtain ⟨b3, rfl, hb3, hb3l, hc3⟩ := HI2.out k z hz
          have hc3' : wr.cell? ⟨b3, k, none⟩ = some (.int .i64 z) := (HO.out.cell (p := ⟨b3, k, none⟩) hb3l (fun e => absurd e.2 (Nat.not_lt.2 hb3))).trans hc3
          obtain ⟨b1', x, e1, hcx, hfx, hset⟩ := HS.out.at hkL
          cases e1
          have hbd := HLT.out b1 rfl
          have ilt : (k : Int) < (L : Int) := by omega
          have HS' : Hid (Slots (wr.drew.setCell ⟨b1, k, none⟩ (.int .i64 99)) 3 (.slice (some ⟨b1, 0, none⟩) L c1) L wc.heap.size) := hid (slots_drew (hset (.int .i64 99)))
          have HJ' : Hid (∀ (j : Nat) z, k + 1 ≤ j → (pagesOf s1.ow A)[j]? = some z → ∃ b, (some ⟨b1, 0, none⟩ : Option Addr) = some ⟨b, 0, none⟩ ∧ (wr.drew.setCell ⟨b1, k, none⟩ (.int .i64 99)).cell? ⟨b, j, none⟩ = some (.int .i64 z)) := hid (fun j z' hj hz' => by
            obtain ⟨b, e, hc⟩ := HJ.out j z' (by omega) hz'
            cases e
            exact ⟨b1, rfl, cell_set_ne hc (by omega)⟩)
          have HO' : Hid (Only (fun b => wc.heap.size ≤ b ∧ b < w5.heap.size) (w6.drewN nq) (wr.drew.setCell ⟨b1, k, none⟩ (.int .i64 99))) := hid (HO.out.drew.setCell (p := ⟨b1, k, none⟩) (.inl hbd) _)
          clear HJ HS HO HI2 HLT HLT2 HL HB5 HB6 HT6 HT1 HST HT H2 hset hb3 hb3l hc3 hz hbd hb56 hq6 hbw
          go_wp2_with fail
          go_region_held3 (fun w' => w'.cell? ⟨b1, k, none⟩ = some (.int .i64 z) ∧ w'.cell? ⟨b3, k, none⟩ = some (.int .i64 z)) (go_keep) (first | fail)
          go_wp2_with fail
          go_roundw
          case rel => exact ⟨k + 1, by omega, by go_num, rfl, HJ', HS', HO'⟩
          case measure => simp [intOf] <;> omega
        · have hst := (((HST.out.before hq6).more HO.out (fun b hf hb => by have := HT1.out.lt b hf; omega) (fun b hb => Nat.le_trans HST.out.only.size hb.1)).after hbw)
          clear HJ HS HO HI2 HLT HLT2 HL HB5 HB6 HT6 HT1 HST HT H2 hb56 hq6 hbw
          go_wp2_with fail
          go_ret
          exact ⟨rfl, _, _, hst⟩

end Go.Proofs.Ytclddaacbfgnlaa

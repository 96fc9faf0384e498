/-
  One step on both slabs (ambrylaw07.does) at this program: Put, Get. No conditions but that the numbers are an int's.
-/
import Derived.Test.YtldfpacdlephcaaM8
import Derived.Deep.RegionHeld3
import Derived.Deep.DeepCutAuto
namespace Go.Proofs.Ytldfpacdlephcaa
open Go Go.RowKit Go.Lib

set_option maxHeartbeats 4000000 in
set_option maxRecDepth 100000 in
theorem does7_put {d : Di} {r : Dr} {s : Sl} {tk cl : List Nat} {w : World} (h : Two7 d r s tk cl w) (A B : Int) (_hA0 : -9223372036854775808 ≤ A) (hA : A ≤ 9223372036854775807) (a : Option Addr) (n c : Nat) (l : List UInt8) (hl : l.length = n) (hnc : n ≤ c) (hc63 : c ≤ 9223372036854775807) (hv : Byts w (.slice a n c) l) (hF : 0 < l.length → ∀ g o, a = some ⟨g, o, none⟩ → ¬ FF d r s g) :
    Calls Try.prog 13 #[.pointer (some ⟨d.P, 0, none⟩), .pointer (some ⟨r.P, 0, none⟩), .agg #[.int .i64 6, .int .i64 A, .int .i64 B, .slice a n c]] w fun e w' => e = .returned (.bool true) ∧ Go7 d r s w w' := by
  have HT := hid h
  have HC := hid (And.intro hl (And.intro hv hF))
  clear h hl hv hF
  go_enter Try.func13, Try.ntmps13
  go_upto_if 30 with fail
  go_cut [] from 27 to 34 (fun wx => Hid (Cut7 w (FF d r s) 6 A B wx))
  case first =>
    obtain ⟨hl, hv, hF⟩ := HC.out
    by_cases hn : n ≤ 2000
    · have HK := hid (cut7_same (kd := 6) (A := A) (B := B) (c := c) hn hl hv hF)
      have ilt : (n : Int) ≤ 2000 := by omega
      clear hv hF hl HC
      go_wp2_with fail
      go_meet
      exact HK
    · obtain ⟨g, o, rfl⟩ : ∃ g o, a = some ⟨g, o, none⟩ := by
        obtain ⟨a', c', e, hx⟩ := hv
        cases e
        obtain ⟨g, o, ha, _⟩ := hx 0 (l[0]'(by omega)) (List.getElem?_eq_getElem _)
        exact ⟨g, o, ha⟩
      have HK := hid (cut7_less (kd := 6) (A := A) (B := B) (c := c) (by omega) hl hv hF)
      have ilt : (2000 : Int) < (n : Int) := by omega
      clear hv hF hl HC
      go_wp2_with fail
      go_meet
      exact HK
  case rest =>
    obtain ⟨a2, n2, c2, l2, hn2, hl2, hv2, hF2, hB2, hb2⟩ := hcut.out
    have hx0 : wc.cell? ⟨w.heap.size, 0, none⟩ = some (.int .i64 6) := hB2.cell rfl
    have hx1 : wc.cell? ⟨w.heap.size, 1, none⟩ = some (.int .i64 A) := hB2.cell rfl
    have H2 := hid (HT.out.below hb2)
    have hXs : ¬ SFoot d s w.heap.size := fun e => by have := HT.out.m.lt e; omega
    have hXt : ¬ TFoot r s.sz.length w.heap.size := fun e => by have := HT.out.rm.lt e; omega
    have hXlt : w.heap.size < wc.heap.size := hB2.lt
    have HB := hid hB2
    have hbw := hb2
    clear hcut HC hb2 hB2
    have hx3 : wc.cell? ⟨w.heap.size, 3, none⟩ = some (.slice a2 n2 c2) := HB.out.cell rfl
    have hN1 : Hid (0 < l2.length → ∀ g o n c, Value.slice a2 n2 c2 = .slice (some ⟨g, o, none⟩) n c → ¬ SFoot d s g) := hid (fun h0 g o n c e hf => hF2 h0 g o (by cases e; rfl) (.inl hf))
    have hN2 : Hid (0 < l2.length → ∀ g o n c, Value.slice a2 n2 c2 = .slice (some ⟨g, o, none⟩) n c → ¬ TFoot r s.sz.length g) := hid (fun h0 g o n c e hf => hF2 h0 g o (by cases e; rfl) (.inr hf))
    have HBY : Hid (Byts wc.drew (.slice a2 n2 c2) l2) := hid (byts_in hv2 (Below.then hbw (Below.refl _ wc).drew))
    obtain ⟨ee, s1, hgs⟩ : ∃ ee s1, s.put A l2 = (ee, s1) := ⟨_, _, rfl⟩
    have HP : Hid (∀ W, MIs d s W → Byts W (.slice a2 n2 c2) l2 → Calls Try.prog 19 #[.pointer (some ⟨d.P, 0, none⟩), .int .i64 A, .slice a2 n2 c2] W fun e w' => e = .returned (.int .i64 ee) ∧ ∃ d', Stp d s W d' s1 w') := hid (fun W hm hb => by
      have h := put_any hm H2.out.ok A hA (.slice a2 n2 c2) l2 (by omega) hb
      rw [hgs] at h
      exact h)
    have HR : Hid (∀ W, RM r (rf s tk cl) W → Byts W (.slice a2 n2 c2) l2 → Calls Try.prog 40 #[.pointer (some ⟨r.P, 0, none⟩), .int .i64 A, .slice a2 n2 c2] W fun e w' => e = .returned (.int .i64 ee) ∧ RGo r s tk cl W s1 w') := hid (fun W hm hb => by
      have h := ref_put hm H2.out.ok H2.out.ag A (.slice a2 n2 c2) l2 (by omega) hb (fun h0 g o n c e hg => hN2.out h0 g o n c e (by rw [hg]; exact tfoot_ar (.inr (.inr (.inl rfl)))))
      rw [hgs] at h
      exact h)
    have OK1 : Hid s1.Ok := hid (by
      have h := H2.out.ok.putOk A l2
      rw [hgs] at h
      exact h)
    have H2d := hid H2.out.drew
    clear hgs hv2 hF2 hl2
    go_wp2_with fail
    go_region_held3 (fun w' => w'.cell? ⟨w.heap.size, 1, none⟩ = some (.int .i64 A) ∧ w'.cell? ⟨w.heap.size, 3, none⟩ = some (.slice a2 n2 c2)) (first | exact ⟨hxj1, hxj3⟩ | exact ⟨hxi1, hxi3⟩ | exact ⟨hx1, hx3⟩) (first
      | (go_at_call 19; refine (HP.out _ hm2 hb2).mono ?_; rintro e w4 ⟨rfl, d4, h4⟩; have hxj1 := (h4.only.cell (p := ⟨w.heap.size, 1, none⟩) hXlt3 hXs).trans hxi1; have hxj3 := (h4.only.cell (p := ⟨w.heap.size, 3, none⟩) hXlt3 hXs).trans hxi3; have hst := hid (two_rp H2d.out OK1.out HG3.out h4); clear h4)
      | (go_at_call 19; refine (HP.out _ H2d.out.m HBY.out).mono ?_; rintro e w3 ⟨rfl, d3, h3⟩; have hxi1 := (h3.only.cell (p := ⟨w.heap.size, 1, none⟩) hXlt hXs).trans hx1; have hxi3 := (h3.only.cell (p := ⟨w.heap.size, 3, none⟩) hXlt hXs).trans hx3; have hXlt3 := Nat.lt_of_lt_of_le hXlt h3.only.size; have hr2 := mid_r H2d.out h3; have hb2 := HBY.out.onlyN h3.only hN1.out; have HS3 := hid h3; clear h3)
      | (go_at_call 40; refine (HR.out _ hr2 hb2).mono ?_; rintro e w4 ⟨rfl, h4⟩; have hxj1 := (h4.only.cell (p := ⟨w.heap.size, 1, none⟩) hXlt3 hXt).trans hxi1; have hxj3 := (h4.only.cell (p := ⟨w.heap.size, 3, none⟩) hXlt3 hXt).trans hxi3; have hst := hid (two_pr H2d.out OK1.out HS3.out h4); clear h4)
      | (go_at_call 40; refine (HR.out _ H2d.out.rm HBY.out).mono ?_; rintro e w3 ⟨rfl, h3⟩; have hxi1 := (h3.only.cell (p := ⟨w.heap.size, 1, none⟩) hXlt hXt).trans hx1; have hxi3 := (h3.only.cell (p := ⟨w.heap.size, 3, none⟩) hXlt hXt).trans hx3; have hXlt3 := Nat.lt_of_lt_of_le hXlt h3.only.size; have hm2 := mid_p H2d.out h3; have hb2 := HBY.out.onlyN h3.only hN2.out; have HG3 := hid h3; clear h3))
    all_goals
      have hst2 := hid (Go7.after hbw (Go7.after (Below.refl _ _).drew hst.out))
      clear hst HB H2 H2d HT HP HR OK1 hbw hb2 HBY
      go_wp2_with fail
      go_ret
      exact ⟨rfl, hst2.out⟩

set_option maxHeartbeats 4000000 in
set_option maxRecDepth 100000 in
theorem does7_get {d : Di} {r : Dr} {s : Sl} {tk cl : List Nat} {w : World} (h : Two7 d r s tk cl w) (A B : Int) (_hA0 : -9223372036854775808 ≤ A) (hA : A ≤ 9223372036854775807) (a : Option Addr) (n c : Nat) (l : List UInt8) (hl : l.length = n) (hnc : n ≤ c) (hc63 : c ≤ 9223372036854775807) (hv : Byts w (.slice a n c) l) (hF : 0 < l.length → ∀ g o, a = some ⟨g, o, none⟩ → ¬ FF d r s g) :
    Calls Try.prog 13 #[.pointer (some ⟨d.P, 0, none⟩), .pointer (some ⟨r.P, 0, none⟩), .agg #[.int .i64 7, .int .i64 A, .int .i64 B, .slice a n c]] w fun e w' => e = .returned (.bool true) ∧ Go7 d r s w w' := by
  have HT := hid h
  have HC := hid (And.intro hl (And.intro hv hF))
  clear h hl hv hF
  go_enter Try.func13, Try.ntmps13
  go_upto_if 30 with fail
  go_cut [] from 27 to 34 (fun wx => Hid (Cut7 w (FF d r s) 7 A B wx))
  case first =>
    obtain ⟨hl, hv, hF⟩ := HC.out
    by_cases hn : n ≤ 2000
    · have HK := hid (cut7_same (kd := 7) (A := A) (B := B) (c := c) hn hl hv hF)
      have ilt : (n : Int) ≤ 2000 := by omega
      clear hv hF hl HC
      go_wp2_with fail
      go_meet
      exact HK
    · obtain ⟨g, o, rfl⟩ : ∃ g o, a = some ⟨g, o, none⟩ := by
        obtain ⟨a', c', e, hx⟩ := hv
        cases e
        obtain ⟨g, o, ha, _⟩ := hx 0 (l[0]'(by omega)) (List.getElem?_eq_getElem _)
        exact ⟨g, o, ha⟩
      have HK := hid (cut7_less (kd := 7) (A := A) (B := B) (c := c) (by omega) hl hv hF)
      have ilt : (2000 : Int) < (n : Int) := by omega
      clear hv hF hl HC
      go_wp2_with fail
      go_meet
      exact HK
  case rest =>
    obtain ⟨a2, n2, c2, l2, hn2, hl2, hv2, hF2, hB2, hb2⟩ := hcut.out
    have hx0 : wc.cell? ⟨w.heap.size, 0, none⟩ = some (.int .i64 7) := hB2.cell rfl
    have hx1 : wc.cell? ⟨w.heap.size, 1, none⟩ = some (.int .i64 A) := hB2.cell rfl
    have H2 := hid (HT.out.below hb2)
    have hXs : ¬ SFoot d s w.heap.size := fun e => by have := HT.out.m.lt e; omega
    have hXt : ¬ TFoot r s.sz.length w.heap.size := fun e => by have := HT.out.rm.lt e; omega
    have hXlt : w.heap.size < wc.heap.size := hB2.lt
    have HB := hid hB2
    have hbw := hb2
    clear hcut HC hb2 hB2
    have hx2 : wc.cell? ⟨w.heap.size, 2, none⟩ = some (.int .i64 B) := HB.out.cell rfl
    clear hF2 hv2 hl2
    have hg := get_any H2.out.m H2.out.ok A B hA
    obtain ⟨ee, gl, hgs⟩ : ∃ ee gl, s.get A B = (ee, gl) := ⟨_, _, rfl⟩
    rw [hgs] at hg
    have HG := hid hgs
    clear hgs
    go_wp2_with fail
    refine hg.mono ?_
    rintro e w3 ⟨v1, rfl, hown, hb3⟩
    have hx1' : w3.cell? ⟨w.heap.size, 1, none⟩ = some (.int .i64 A) := (hb3.cell (p := ⟨w.heap.size, 1, none⟩) hXlt).trans hx1
    have hx2' : w3.cell? ⟨w.heap.size, 2, none⟩ = some (.int .i64 B) := (hb3.cell (p := ⟨w.heap.size, 2, none⟩) hXlt).trans hx2
    have H3 := hid (H2.out.below hb3)
    have hgr := ref_get H3.out.rm H3.out.ok H3.out.ag A B
    rw [HG.out] at hgr
    have HOWN := hid hown
    have HB3 := hid hb3
    obtain ⟨a1, c1, rfl⟩ := row_form hown
    have hltb := own_ge hown
    have hlu := own_lt hown
    clear hg hown hb3 hx0 hx1 hx2
    go_wp2_with fail
    refine hgr.mono ?_
    rintro e w4 ⟨v2, rfl, hown2, h4⟩
    have hkeep := own_only HOWN.out h4.only (fun b hb e => by
      have h1 := hltb b hb
      have h2 := H2.out.rm.lt e
      omega)
    obtain ⟨a3, c3, rfl⟩ := row_form hown2
    have hcv1 := conv_row_len rfl hkeep
    have hcv2 := conv_row_len rfl hown2
    have hst := hid (Go7.after hbw (Go7.after HB3.out (two_pr H3.out H3.out.ok (Stp.refl H3.out.m) h4)))
    clear hgr hown2 hkeep h4 hx1' hx2' HOWN HG H2 H3 HB HT HB3 hbw hltb hlu
    generalize S gl = X at hcv1 hcv2
    generalize gl.length = m at *
    go_wp2_with fail
    go_ret
    exact ⟨rfl, hst.out⟩

end Go.Proofs.Ytldfpacdlephcaa

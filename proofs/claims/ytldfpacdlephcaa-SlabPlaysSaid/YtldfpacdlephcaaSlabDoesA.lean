/-
  One step on both slabs (ambrylaw07.does) at this program: Alloc, Free, Close, Open, Move. No conditions but that the numbers are an int's.
-/
import Derived.Test.YtldfpacdlephcaaM8
import Derived.Deep.RegionHeld3
import Derived.Deep.DeepCutAuto
namespace Go.Proofs.Ytldfpacdlephcaa
open Go Go.RowKit Go.Lib

set_option maxHeartbeats 4000000 in
set_option maxRecDepth 100000 in
theorem does7_alloc {d : Di} {r : Dr} {s : Sl} {tk cl : List Nat} {w : World} (h : Two7 d r s tk cl w) (A B : Int) (_hA0 : -9223372036854775808 ≤ A) (_hA : A ≤ 9223372036854775807) (a : Option Addr) (n c : Nat) (l : List UInt8) (hl : l.length = n) (hnc : n ≤ c) (hc63 : c ≤ 9223372036854775807) (hv : Byts w (.slice a n c) l) (hF : 0 < l.length → ∀ g o, a = some ⟨g, o, none⟩ → ¬ FF d r s g) :
    Calls Try.prog 13 #[.pointer (some ⟨d.P, 0, none⟩), .pointer (some ⟨r.P, 0, none⟩), .agg #[.int .i64 1, .int .i64 A, .int .i64 B, .slice a n c]] w fun e w' => e = .returned (.bool true) ∧ Go7 d r s w w' := by
  have HT := hid h
  have HC := hid (And.intro hl (And.intro hv hF))
  clear h hl hv hF
  go_enter Try.func13, Try.ntmps13
  go_upto_if 30 with fail
  go_cut [] from 27 to 34 (fun wx => Hid (Cut7 w (FF d r s) 1 A B wx))
  case first =>
    obtain ⟨hl, hv, hF⟩ := HC.out
    by_cases hn : n ≤ 2000
    · have HK := hid (cut7_same (kd := 1) (A := A) (B := B) (c := c) hn hl hv hF)
      have ilt : (n : Int) ≤ 2000 := by omega
      clear hv hF hl HC
      go_wp2_with fail
      go_meet
      exact HK
    · obtain ⟨g, o, rfl⟩ : ∃ g o, a = some ⟨g, o, none⟩ := by
        obtain ⟨a', c', e, hx⟩ := hv
        cases e
        obtain ⟨g, o, ha, _⟩ := hx 0 (l[0]'(by omega)) (List.getElem?_eq_getElem _)
        exact ⟨g, o, ha⟩
      have HK := hid (cut7_less (kd := 1) (A := A) (B := B) (c := c) (by omega) hl hv hF)
      have ilt : (2000 : Int) < (n : Int) := by omega
      clear hv hF hl HC
      go_wp2_with fail
      go_meet
      exact HK
  case rest =>
    obtain ⟨a2, n2, c2, l2, hn2, hl2, hv2, hF2, hB2, hb2⟩ := hcut.out
    have hx0 : wc.cell? ⟨w.heap.size, 0, none⟩ = some (.int .i64 1) := hB2.cell rfl
    have hx1 : wc.cell? ⟨w.heap.size, 1, none⟩ = some (.int .i64 A) := hB2.cell rfl
    have H2 := hid (HT.out.below hb2)
    have hXs : ¬ SFoot d s w.heap.size := fun e => by have := HT.out.m.lt e; omega
    have hXt : ¬ TFoot r s.sz.length w.heap.size := fun e => by have := HT.out.rm.lt e; omega
    have hXlt : w.heap.size < wc.heap.size := hB2.lt
    have HB := hid hB2
    have hbw := hb2
    clear hcut HC hb2 hB2
    clear hF2 hv2 hl2
    obtain ⟨pp, ee, s1, hgs⟩ : ∃ pp ee s1, s.alloc A = (pp, ee, s1) := ⟨_, _, _, rfl⟩
    have hg := alloc_any H2.out.m H2.out.ok A
    have OK1 : Hid s1.Ok := hid (by
      have h := H2.out.ok.allocOk A
      rw [hgs] at h
      exact h)
    rw [hgs] at hg
    have HG := hid hgs
    clear hgs
    go_wp2_with fail
    refine hg.mono ?_
    rintro e w3 ⟨rfl, d3, h3⟩
    have hgr := ref_alloc (mid_r H2.out h3) H2.out.ok H2.out.ag A
    have hx1' : w3.cell? ⟨w.heap.size, 1, none⟩ = some (.int .i64 A) := (h3.only.cell (p := ⟨w.heap.size, 1, none⟩) hXlt hXs).trans hx1
    rw [HG.out] at hgr
    have H3 := hid h3
    clear h3 hg
    go_wp2_with fail
    refine hgr.mono ?_
    rintro e w4 ⟨rfl, h4⟩
    have hst := hid (Go7.after hbw (two_pr H2.out OK1.out H3.out h4))
    clear hgr h4 H3 HG HB H2 HT hbw OK1
    go_wp2_with fail
    go_ret
    exact ⟨rfl, hst.out⟩

set_option maxHeartbeats 4000000 in
set_option maxRecDepth 100000 in
theorem does7_free {d : Di} {r : Dr} {s : Sl} {tk cl : List Nat} {w : World} (h : Two7 d r s tk cl w) (A B : Int) (_hA0 : -9223372036854775808 ≤ A) (hA : A ≤ 9223372036854775807) (a : Option Addr) (n c : Nat) (l : List UInt8) (hl : l.length = n) (hnc : n ≤ c) (hc63 : c ≤ 9223372036854775807) (hv : Byts w (.slice a n c) l) (hF : 0 < l.length → ∀ g o, a = some ⟨g, o, none⟩ → ¬ FF d r s g) :
    Calls Try.prog 13 #[.pointer (some ⟨d.P, 0, none⟩), .pointer (some ⟨r.P, 0, none⟩), .agg #[.int .i64 2, .int .i64 A, .int .i64 B, .slice a n c]] w fun e w' => e = .returned (.bool true) ∧ Go7 d r s w w' := by
  have HT := hid h
  have HC := hid (And.intro hl (And.intro hv hF))
  clear h hl hv hF
  go_enter Try.func13, Try.ntmps13
  go_upto_if 30 with fail
  go_cut [] from 27 to 34 (fun wx => Hid (Cut7 w (FF d r s) 2 A B wx))
  case first =>
    obtain ⟨hl, hv, hF⟩ := HC.out
    by_cases hn : n ≤ 2000
    · have HK := hid (cut7_same (kd := 2) (A := A) (B := B) (c := c) hn hl hv hF)
      have ilt : (n : Int) ≤ 2000 := by omega
      clear hv hF hl HC
      go_wp2_with fail
      go_meet
      exact HK
    · obtain ⟨g, o, rfl⟩ : ∃ g o, a = some ⟨g, o, none⟩ := by
        obtain ⟨a', c', e, hx⟩ := hv
        cases e
        obtain ⟨g, o, ha, _⟩ := hx 0 (l[0]'(by omega)) (List.getElem?_eq_getElem _)
        exact ⟨g, o, ha⟩
      have HK := hid (cut7_less (kd := 2) (A := A) (B := B) (c := c) (by omega) hl hv hF)
      have ilt : (2000 : Int) < (n : Int) := by omega
      clear hv hF hl HC
      go_wp2_with fail
      go_meet
      exact HK
  case rest =>
    obtain ⟨a2, n2, c2, l2, hn2, hl2, hv2, hF2, hB2, hb2⟩ := hcut.out
    have hx0 : wc.cell? ⟨w.heap.size, 0, none⟩ = some (.int .i64 2) := hB2.cell rfl
    have hx1 : wc.cell? ⟨w.heap.size, 1, none⟩ = some (.int .i64 A) := hB2.cell rfl
    have H2 := hid (HT.out.below hb2)
    have hXs : ¬ SFoot d s w.heap.size := fun e => by have := HT.out.m.lt e; omega
    have hXt : ¬ TFoot r s.sz.length w.heap.size := fun e => by have := HT.out.rm.lt e; omega
    have hXlt : w.heap.size < wc.heap.size := hB2.lt
    have HB := hid hB2
    have hbw := hb2
    clear hcut HC hb2 hB2
    clear hF2 hv2 hl2
    obtain ⟨ee, s1, hgs⟩ : ∃ ee s1, s.free A = (ee, s1) := ⟨_, _, rfl⟩
    have HP : Hid (∀ W, MIs d s W → Calls Try.prog 16 #[.pointer (some ⟨d.P, 0, none⟩), .int .i64 A] W fun e w' => e = .returned (.int .i64 ee) ∧ ∃ d', Stp d s W d' s1 w') := hid (fun W hm => by
      have h := free_any hm H2.out.ok A hA
      rw [hgs] at h
      exact h)
    have HR : Hid (∀ W, RM r (rf s tk cl) W → Calls Try.prog 36 #[.pointer (some ⟨r.P, 0, none⟩), .int .i64 A] W fun e w' => e = .returned (.int .i64 ee) ∧ RGo r s tk cl W s1 w') := hid (fun W hm => by
      have h := ref_free hm H2.out.ok H2.out.ag A
      rw [hgs] at h
      exact h)
    have OK1 : Hid s1.Ok := hid (by
      have h := H2.out.ok.freeOk A
      rw [hgs] at h
      exact h)
    have H2d := hid H2.out.drew
    clear hgs
    go_wp2_with fail
    go_region_held3 (fun w' => w'.cell? ⟨w.heap.size, 1, none⟩ = some (.int .i64 A)) (first | exact hxj1 | exact hxi1 | exact hx1) (first
      | (go_at_call 16; refine (HP.out _ hm2).mono ?_; rintro e w4 ⟨rfl, d4, h4⟩; have hxj1 := (h4.only.cell (p := ⟨w.heap.size, 1, none⟩) hXlt3 hXs).trans hxi1; have hst := hid (two_rp H2d.out OK1.out HG3.out h4); clear h4)
      | (go_at_call 16; refine (HP.out _ H2d.out.m).mono ?_; rintro e w3 ⟨rfl, d3, h3⟩; have hxi1 := (h3.only.cell (p := ⟨w.heap.size, 1, none⟩) hXlt hXs).trans hx1; have hXlt3 := Nat.lt_of_lt_of_le hXlt h3.only.size; have hr2 := mid_r H2d.out h3; have HS3 := hid h3; clear h3)
      | (go_at_call 36; refine (HR.out _ hr2).mono ?_; rintro e w4 ⟨rfl, h4⟩; have hxj1 := (h4.only.cell (p := ⟨w.heap.size, 1, none⟩) hXlt3 hXt).trans hxi1; have hst := hid (two_pr H2d.out OK1.out HS3.out h4); clear h4)
      | (go_at_call 36; refine (HR.out _ H2d.out.rm).mono ?_; rintro e w3 ⟨rfl, h3⟩; have hxi1 := (h3.only.cell (p := ⟨w.heap.size, 1, none⟩) hXlt hXt).trans hx1; have hXlt3 := Nat.lt_of_lt_of_le hXlt h3.only.size; have hm2 := mid_p H2d.out h3; have HG3 := hid h3; clear h3))
    all_goals
      have hst2 := hid (Go7.after hbw (Go7.after (Below.refl _ _).drew hst.out))
      clear hst HB H2 H2d HT HP HR OK1 hbw
      go_wp2_with fail
      go_ret
      exact ⟨rfl, hst2.out⟩

set_option maxHeartbeats 4000000 in
set_option maxRecDepth 100000 in
theorem does7_close {d : Di} {r : Dr} {s : Sl} {tk cl : List Nat} {w : World} (h : Two7 d r s tk cl w) (A B : Int) (_hA0 : -9223372036854775808 ≤ A) (_hA : A ≤ 9223372036854775807) (a : Option Addr) (n c : Nat) (l : List UInt8) (hl : l.length = n) (hnc : n ≤ c) (hc63 : c ≤ 9223372036854775807) (hv : Byts w (.slice a n c) l) (hF : 0 < l.length → ∀ g o, a = some ⟨g, o, none⟩ → ¬ FF d r s g) :
    Calls Try.prog 13 #[.pointer (some ⟨d.P, 0, none⟩), .pointer (some ⟨r.P, 0, none⟩), .agg #[.int .i64 3, .int .i64 A, .int .i64 B, .slice a n c]] w fun e w' => e = .returned (.bool true) ∧ Go7 d r s w w' := by
  have HT := hid h
  have HC := hid (And.intro hl (And.intro hv hF))
  clear h hl hv hF
  go_enter Try.func13, Try.ntmps13
  go_upto_if 30 with fail
  go_cut [] from 27 to 34 (fun wx => Hid (Cut7 w (FF d r s) 3 A B wx))
  case first =>
    obtain ⟨hl, hv, hF⟩ := HC.out
    by_cases hn : n ≤ 2000
    · have HK := hid (cut7_same (kd := 3) (A := A) (B := B) (c := c) hn hl hv hF)
      have ilt : (n : Int) ≤ 2000 := by omega
      clear hv hF hl HC
      go_wp2_with fail
      go_meet
      exact HK
    · obtain ⟨g, o, rfl⟩ : ∃ g o, a = some ⟨g, o, none⟩ := by
        obtain ⟨a', c', e, hx⟩ := hv
        cases e
        obtain ⟨g, o, ha, _⟩ := hx 0 (l[0]'(by omega)) (List.getElem?_eq_getElem _)
        exact ⟨g, o, ha⟩
      have HK := hid (cut7_less (kd := 3) (A := A) (B := B) (c := c) (by omega) hl hv hF)
      have ilt : (2000 : Int) < (n : Int) := by omega
      clear hv hF hl HC
      go_wp2_with fail
      go_meet
      exact HK
  case rest =>
    obtain ⟨a2, n2, c2, l2, hn2, hl2, hv2, hF2, hB2, hb2⟩ := hcut.out
    have hx0 : wc.cell? ⟨w.heap.size, 0, none⟩ = some (.int .i64 3) := hB2.cell rfl
    have hx1 : wc.cell? ⟨w.heap.size, 1, none⟩ = some (.int .i64 A) := hB2.cell rfl
    have H2 := hid (HT.out.below hb2)
    have hXs : ¬ SFoot d s w.heap.size := fun e => by have := HT.out.m.lt e; omega
    have hXt : ¬ TFoot r s.sz.length w.heap.size := fun e => by have := HT.out.rm.lt e; omega
    have hXlt : w.heap.size < wc.heap.size := hB2.lt
    have HB := hid hB2
    have hbw := hb2
    clear hcut HC hb2 hB2
    clear hF2 hv2 hl2
    obtain ⟨ee, s1, hgs⟩ : ∃ ee s1, s.close A = (ee, s1) := ⟨_, _, rfl⟩
    have HP : Hid (∀ W, MIs d s W → Calls Try.prog 22 #[.pointer (some ⟨d.P, 0, none⟩), .int .i64 A] W fun e w' => e = .returned (.int .i64 ee) ∧ ∃ d', Stp d s W d' s1 w') := hid (fun W hm => by
      have h := close_any hm H2.out.ok A
      rw [hgs] at h
      exact h)
    have HR : Hid (∀ W, RM r (rf s tk cl) W → Calls Try.prog 37 #[.pointer (some ⟨r.P, 0, none⟩), .int .i64 A] W fun e w' => e = .returned (.int .i64 ee) ∧ RGo r s tk cl W s1 w') := hid (fun W hm => by
      have h := ref_close hm H2.out.ok H2.out.ag A
      rw [hgs] at h
      exact h)
    have OK1 : Hid s1.Ok := hid (by
      have h := H2.out.ok.closeOk A
      rw [hgs] at h
      exact h)
    have H2d := hid H2.out.drew
    clear hgs
    go_wp2_with fail
    go_region_held3 (fun w' => w'.cell? ⟨w.heap.size, 1, none⟩ = some (.int .i64 A)) (first | exact hxj1 | exact hxi1 | exact hx1) (first
      | (go_at_call 22; refine (HP.out _ hm2).mono ?_; rintro e w4 ⟨rfl, d4, h4⟩; have hxj1 := (h4.only.cell (p := ⟨w.heap.size, 1, none⟩) hXlt3 hXs).trans hxi1; have hst := hid (two_rp H2d.out OK1.out HG3.out h4); clear h4)
      | (go_at_call 22; refine (HP.out _ H2d.out.m).mono ?_; rintro e w3 ⟨rfl, d3, h3⟩; have hxi1 := (h3.only.cell (p := ⟨w.heap.size, 1, none⟩) hXlt hXs).trans hx1; have hXlt3 := Nat.lt_of_lt_of_le hXlt h3.only.size; have hr2 := mid_r H2d.out h3; have HS3 := hid h3; clear h3)
      | (go_at_call 37; refine (HR.out _ hr2).mono ?_; rintro e w4 ⟨rfl, h4⟩; have hxj1 := (h4.only.cell (p := ⟨w.heap.size, 1, none⟩) hXlt3 hXt).trans hxi1; have hst := hid (two_pr H2d.out OK1.out HS3.out h4); clear h4)
      | (go_at_call 37; refine (HR.out _ H2d.out.rm).mono ?_; rintro e w3 ⟨rfl, h3⟩; have hxi1 := (h3.only.cell (p := ⟨w.heap.size, 1, none⟩) hXlt hXt).trans hx1; have hXlt3 := Nat.lt_of_lt_of_le hXlt h3.only.size; have hm2 := mid_p H2d.out h3; have HG3 := hid h3; clear h3))
    all_goals
      have hst2 := hid (Go7.after hbw (Go7.after (Below.refl _ _).drew hst.out))
      clear hst HB H2 H2d HT HP HR OK1 hbw
      go_wp2_with fail
      go_ret
      exact ⟨rfl, hst2.out⟩

set_option maxHeartbeats 4000000 in
set_option maxRecDepth 100000 in
theorem does7_open {d : Di} {r : Dr} {s : Sl} {tk cl : List Nat} {w : World} (h : Two7 d r s tk cl w) (A B : Int) (_hA0 : -9223372036854775808 ≤ A) (_hA : A ≤ 9223372036854775807) (a : Option Addr) (n c : Nat) (l : List UInt8) (hl : l.length = n) (hnc : n ≤ c) (hc63 : c ≤ 9223372036854775807) (hv : Byts w (.slice a n c) l) (hF : 0 < l.length → ∀ g o, a = some ⟨g, o, none⟩ → ¬ FF d r s g) :
    Calls Try.prog 13 #[.pointer (some ⟨d.P, 0, none⟩), .pointer (some ⟨r.P, 0, none⟩), .agg #[.int .i64 4, .int .i64 A, .int .i64 B, .slice a n c]] w fun e w' => e = .returned (.bool true) ∧ Go7 d r s w w' := by
  have HT := hid h
  have HC := hid (And.intro hl (And.intro hv hF))
  clear h hl hv hF
  go_enter Try.func13, Try.ntmps13
  go_upto_if 30 with fail
  go_cut [] from 27 to 34 (fun wx => Hid (Cut7 w (FF d r s) 4 A B wx))
  case first =>
    obtain ⟨hl, hv, hF⟩ := HC.out
    by_cases hn : n ≤ 2000
    · have HK := hid (cut7_same (kd := 4) (A := A) (B := B) (c := c) hn hl hv hF)
      have ilt : (n : Int) ≤ 2000 := by omega
      clear hv hF hl HC
      go_wp2_with fail
      go_meet
      exact HK
    · obtain ⟨g, o, rfl⟩ : ∃ g o, a = some ⟨g, o, none⟩ := by
        obtain ⟨a', c', e, hx⟩ := hv
        cases e
        obtain ⟨g, o, ha, _⟩ := hx 0 (l[0]'(by omega)) (List.getElem?_eq_getElem _)
        exact ⟨g, o, ha⟩
      have HK := hid (cut7_less (kd := 4) (A := A) (B := B) (c := c) (by omega) hl hv hF)
      have ilt : (2000 : Int) < (n : Int) := by omega
      clear hv hF hl HC
      go_wp2_with fail
      go_meet
      exact HK
  case rest =>
    obtain ⟨a2, n2, c2, l2, hn2, hl2, hv2, hF2, hB2, hb2⟩ := hcut.out
    have hx0 : wc.cell? ⟨w.heap.size, 0, none⟩ = some (.int .i64 4) := hB2.cell rfl
    have hx1 : wc.cell? ⟨w.heap.size, 1, none⟩ = some (.int .i64 A) := hB2.cell rfl
    have H2 := hid (HT.out.below hb2)
    have hXs : ¬ SFoot d s w.heap.size := fun e => by have := HT.out.m.lt e; omega
    have hXt : ¬ TFoot r s.sz.length w.heap.size := fun e => by have := HT.out.rm.lt e; omega
    have hXlt : w.heap.size < wc.heap.size := hB2.lt
    have HB := hid hB2
    have hbw := hb2
    clear hcut HC hb2 hB2
    clear hF2 hv2 hl2
    obtain ⟨ee, s1, hgs⟩ : ∃ ee s1, s.openP A = (ee, s1) := ⟨_, _, rfl⟩
    have HP : Hid (∀ W, MIs d s W → Calls Try.prog 26 #[.pointer (some ⟨d.P, 0, none⟩), .int .i64 A] W fun e w' => e = .returned (.int .i64 ee) ∧ ∃ d', Stp d s W d' s1 w') := hid (fun W hm => by
      have h := open_any hm H2.out.ok A
      rw [hgs] at h
      exact h)
    have HR : Hid (∀ W, RM r (rf s tk cl) W → Calls Try.prog 38 #[.pointer (some ⟨r.P, 0, none⟩), .int .i64 A] W fun e w' => e = .returned (.int .i64 ee) ∧ RGo r s tk cl W s1 w') := hid (fun W hm => by
      have h := ref_open hm H2.out.ok H2.out.ag A
      rw [hgs] at h
      exact h)
    have OK1 : Hid s1.Ok := hid (by
      have h := H2.out.ok.openOk A
      rw [hgs] at h
      exact h)
    have H2d := hid H2.out.drew
    clear hgs
    go_wp2_with fail
    go_region_held3 (fun w' => w'.cell? ⟨w.heap.size, 1, none⟩ = some (.int .i64 A)) (first | exact hxj1 | exact hxi1 | exact hx1) (first
      | (go_at_call 26; refine (HP.out _ hm2).mono ?_; rintro e w4 ⟨rfl, d4, h4⟩; have hxj1 := (h4.only.cell (p := ⟨w.heap.size, 1, none⟩) hXlt3 hXs).trans hxi1; have hst := hid (two_rp H2d.out OK1.out HG3.out h4); clear h4)
      | (go_at_call 26; refine (HP.out _ H2d.out.m).mono ?_; rintro e w3 ⟨rfl, d3, h3⟩; have hxi1 := (h3.only.cell (p := ⟨w.heap.size, 1, none⟩) hXlt hXs).trans hx1; have hXlt3 := Nat.lt_of_lt_of_le hXlt h3.only.size; have hr2 := mid_r H2d.out h3; have HS3 := hid h3; clear h3)
      | (go_at_call 38; refine (HR.out _ hr2).mono ?_; rintro e w4 ⟨rfl, h4⟩; have hxj1 := (h4.only.cell (p := ⟨w.heap.size, 1, none⟩) hXlt3 hXt).trans hxi1; have hst := hid (two_pr H2d.out OK1.out HS3.out h4); clear h4)
      | (go_at_call 38; refine (HR.out _ H2d.out.rm).mono ?_; rintro e w3 ⟨rfl, h3⟩; have hxi1 := (h3.only.cell (p := ⟨w.heap.size, 1, none⟩) hXlt hXt).trans hx1; have hXlt3 := Nat.lt_of_lt_of_le hXlt h3.only.size; have hm2 := mid_p H2d.out h3; have HG3 := hid h3; clear h3))
    all_goals
      have hst2 := hid (Go7.after hbw (Go7.after (Below.refl _ _).drew hst.out))
      clear hst HB H2 H2d HT HP HR OK1 hbw
      go_wp2_with fail
      go_ret
      exact ⟨rfl, hst2.out⟩

set_option maxHeartbeats 4000000 in
set_option maxRecDepth 100000 in
theorem does7_move {d : Di} {r : Dr} {s : Sl} {tk cl : List Nat} {w : World} (h : Two7 d r s tk cl w) (A B : Int) (_hA0 : -9223372036854775808 ≤ A) (_hA : A ≤ 9223372036854775807) (a : Option Addr) (n c : Nat) (l : List UInt8) (hl : l.length = n) (hnc : n ≤ c) (hc63 : c ≤ 9223372036854775807) (hv : Byts w (.slice a n c) l) (hF : 0 < l.length → ∀ g o, a = some ⟨g, o, none⟩ → ¬ FF d r s g) :
    Calls Try.prog 13 #[.pointer (some ⟨d.P, 0, none⟩), .pointer (some ⟨r.P, 0, none⟩), .agg #[.int .i64 5, .int .i64 A, .int .i64 B, .slice a n c]] w fun e w' => e = .returned (.bool true) ∧ Go7 d r s w w' := by
  have HT := hid h
  have HC := hid (And.intro hl (And.intro hv hF))
  clear h hl hv hF
  go_enter Try.func13, Try.ntmps13
  go_upto_if 30 with fail
  go_cut [] from 27 to 34 (fun wx => Hid (Cut7 w (FF d r s) 5 A B wx))
  case first =>
    obtain ⟨hl, hv, hF⟩ := HC.out
    by_cases hn : n ≤ 2000
    · have HK := hid (cut7_same (kd := 5) (A := A) (B := B) (c := c) hn hl hv hF)
      have ilt : (n : Int) ≤ 2000 := by omega
      clear hv hF hl HC
      go_wp2_with fail
      go_meet
      exact HK
    · obtain ⟨g, o, rfl⟩ : ∃ g o, a = some ⟨g, o, none⟩ := by
        obtain ⟨a', c', e, hx⟩ := hv
        cases e
        obtain ⟨g, o, ha, _⟩ := hx 0 (l[0]'(by omega)) (List.getElem?_eq_getElem _)
        exact ⟨g, o, ha⟩
      have HK := hid (cut7_less (kd := 5) (A := A) (B := B) (c := c) (by omega) hl hv hF)
      have ilt : (2000 : Int) < (n : Int) := by omega
      clear hv hF hl HC
      go_wp2_with fail
      go_meet
      exact HK
  case rest =>
    obtain ⟨a2, n2, c2, l2, hn2, hl2, hv2, hF2, hB2, hb2⟩ := hcut.out
    have hx0 : wc.cell? ⟨w.heap.size, 0, none⟩ = some (.int .i64 5) := hB2.cell rfl
    have hx1 : wc.cell? ⟨w.heap.size, 1, none⟩ = some (.int .i64 A) := hB2.cell rfl
    have H2 := hid (HT.out.below hb2)
    have hXs : ¬ SFoot d s w.heap.size := fun e => by have := HT.out.m.lt e; omega
    have hXt : ¬ TFoot r s.sz.length w.heap.size := fun e => by have := HT.out.rm.lt e; omega
    have hXlt : w.heap.size < wc.heap.size := hB2.lt
    have HB := hid hB2
    have hbw := hb2
    clear hcut HC hb2 hB2
    have hx2 : wc.cell? ⟨w.heap.size, 2, none⟩ = some (.int .i64 B) := HB.out.cell rfl
    clear hF2 hv2 hl2
    obtain ⟨ee, s1, hgs⟩ : ∃ ee s1, s.move A B = (ee, s1) := ⟨_, _, rfl⟩
    have HP : Hid (∀ W, MIs d s W → Calls Try.prog 23 #[.pointer (some ⟨d.P, 0, none⟩), .int .i64 A, .int .i64 B] W fun e w' => e = .returned (.int .i64 ee) ∧ ∃ d', Stp d s W d' s1 w') := hid (fun W hm => by
      have h := move_any hm H2.out.ok A B
      rw [hgs] at h
      exact h)
    have HR : Hid (∀ W, RM r (rf s tk cl) W → Calls Try.prog 39 #[.pointer (some ⟨r.P, 0, none⟩), .int .i64 A, .int .i64 B] W fun e w' => e = .returned (.int .i64 ee) ∧ RGo r s tk cl W s1 w') := hid (fun W hm => by
      have h := ref_move hm H2.out.ok H2.out.ag A B
      rw [hgs] at h
      exact h)
    have OK1 : Hid s1.Ok := hid (by
      have h := H2.out.ok.moveOk A B
      rw [hgs] at h
      exact h)
    have H2d := hid H2.out.drew
    clear hgs
    go_wp2_with fail
    go_region_held3 (fun w' => w'.cell? ⟨w.heap.size, 1, none⟩ = some (.int .i64 A) ∧ w'.cell? ⟨w.heap.size, 2, none⟩ = some (.int .i64 B)) (first | exact ⟨hxj1, hxj2⟩ | exact ⟨hxi1, hxi2⟩ | exact ⟨hx1, hx2⟩) (first
      | (go_at_call 23; refine (HP.out _ hm2).mono ?_; rintro e w4 ⟨rfl, d4, h4⟩; have hxj1 := (h4.only.cell (p := ⟨w.heap.size, 1, none⟩) hXlt3 hXs).trans hxi1; have hxj2 := (h4.only.cell (p := ⟨w.heap.size, 2, none⟩) hXlt3 hXs).trans hxi2; have hst := hid (two_rp H2d.out OK1.out HG3.out h4); clear h4)
      | (go_at_call 23; refine (HP.out _ H2d.out.m).mono ?_; rintro e w3 ⟨rfl, d3, h3⟩; have hxi1 := (h3.only.cell (p := ⟨w.heap.size, 1, none⟩) hXlt hXs).trans hx1; have hxi2 := (h3.only.cell (p := ⟨w.heap.size, 2, none⟩) hXlt hXs).trans hx2; have hXlt3 := Nat.lt_of_lt_of_le hXlt h3.only.size; have hr2 := mid_r H2d.out h3; have HS3 := hid h3; clear h3)
      | (go_at_call 39; refine (HR.out _ hr2).mono ?_; rintro e w4 ⟨rfl, h4⟩; have hxj1 := (h4.only.cell (p := ⟨w.heap.size, 1, none⟩) hXlt3 hXt).trans hxi1; have hxj2 := (h4.only.cell (p := ⟨w.heap.size, 2, none⟩) hXlt3 hXt).trans hxi2; have hst := hid (two_pr H2d.out OK1.out HS3.out h4); clear h4)
      | (go_at_call 39; refine (HR.out _ H2d.out.rm).mono ?_; rintro e w3 ⟨rfl, h3⟩; have hxi1 := (h3.only.cell (p := ⟨w.heap.size, 1, none⟩) hXlt hXt).trans hx1; have hxi2 := (h3.only.cell (p := ⟨w.heap.size, 2, none⟩) hXlt hXt).trans hx2; have hXlt3 := Nat.lt_of_lt_of_le hXlt h3.only.size; have hm2 := mid_p H2d.out h3; have HG3 := hid h3; clear h3))
    all_goals
      have hst2 := hid (Go7.after hbw (Go7.after (Below.refl _ _).drew hst.out))
      clear hst HB H2 H2d HT HP HR OK1 hbw
      go_wp2_with fail
      go_ret
      exact ⟨rfl, hst2.out⟩

end Go.Proofs.Ytldfpacdlephcaa

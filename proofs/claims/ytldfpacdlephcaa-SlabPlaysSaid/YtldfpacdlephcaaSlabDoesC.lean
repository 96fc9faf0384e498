/-
  One step on both slabs (ambrylaw07.does) at this program: Free of a used chunk. No conditions but that the numbers are an int's.
-/
import Derived.Test.YtldfpacdlephcaaM8
import Derived.Deep.RegionHeld3
import Derived.Deep.DeepCutAuto
namespace Go.Proofs.Ytldfpacdlephcaa
open Go Go.RowKit Go.Lib

set_option maxHeartbeats 4000000 in
set_option maxRecDepth 100000 in
theorem does7_last {d : Di} {r : Dr} {s : Sl} {tk cl : List Nat} {w : World} (h : Two7 d r s tk cl w) (A B : Int) (_hA0 : -9223372036854775808 ≤ A) (hA : A ≤ 9223372036854775807) (a : Option Addr) (n c : Nat) (l : List UInt8) (hl : l.length = n) (hnc : n ≤ c) (hc63 : c ≤ 9223372036854775807) (hv : Byts w (.slice a n c) l) (hF : 0 < l.length → ∀ g o, a = some ⟨g, o, none⟩ → ¬ FF d r s g) :
    Calls Try.prog 13 #[.pointer (some ⟨d.P, 0, none⟩), .pointer (some ⟨r.P, 0, none⟩), .agg #[.int .i64 8, .int .i64 A, .int .i64 B, .slice a n c]] w fun e w' => e = .returned (.bool true) ∧ Go7 d r s w w' := by
  have HT := hid h
  have HC := hid (And.intro hl (And.intro hv hF))
  clear h hl hv hF
  go_enter Try.func13, Try.ntmps13
  go_upto_if 30 with fail
  go_cut [] from 27 to 34 (fun wx => Hid (Cut7 w (FF d r s) 8 A B wx))
  case first =>
    obtain ⟨hl, hv, hF⟩ := HC.out
    by_cases hn : n ≤ 2000
    · have HK := hid (cut7_same (kd := 8) (A := A) (B := B) (c := c) hn hl hv hF)
      have ilt : (n : Int) ≤ 2000 := by omega
      clear hv hF hl HC
      go_wp2_with fail
      go_meet
      exact HK
    · obtain ⟨g, o, rfl⟩ : ∃ g o, a = some ⟨g, o, none⟩ := by
        obtain ⟨a', c', e, hx⟩ := hv
        cases e
        obtain ⟨g, o, ha, _⟩ := hx 0 (l[0]'(by omega)) (List.getElem?_eq_getElem _)
        exact ⟨g, o, ha⟩
      have HK := hid (cut7_less (kd := 8) (A := A) (B := B) (c := c) (by omega) hl hv hF)
      have ilt : (2000 : Int) < (n : Int) := by omega
      clear hv hF hl HC
      go_wp2_with fail
      go_meet
      exact HK
  case rest =>
    obtain ⟨a2, n2, c2, l2, hn2, hl2, hv2, hF2, hB2, hb2⟩ := hcut.out
    have hx0 : wc.cell? ⟨w.heap.size, 0, none⟩ = some (.int .i64 8) := hB2.cell rfl
    have hx1 : wc.cell? ⟨w.heap.size, 1, none⟩ = some (.int .i64 A) := hB2.cell rfl
    have H2 := hid (HT.out.below hb2)
    have hXs : ¬ SFoot d s w.heap.size := fun e => by have := HT.out.m.lt e; omega
    have hXt : ¬ TFoot r s.sz.length w.heap.size := fun e => by have := HT.out.rm.lt e; omega
    have hXlt : w.heap.size < wc.heap.size := hB2.lt
    have HB := hid hB2
    have hbw := hb2
    clear hcut HC hb2 hB2
    clear hF2 hv2 hl2
    obtain ⟨x, hxA⟩ : ∃ x : Nat, (A < 0 ∧ A = -(x : Int) - 1) ∨ (¬ A < 0 ∧ A = (x : Int)) := by
      by_cases h : A < 0
      · exact ⟨(-(A + 1)).toNat, .inl ⟨h, by omega⟩⟩
      · exact ⟨A.toNat, .inr ⟨h, by omega⟩⟩
    have hx63 : (x : Int) ≤ 9223372036854775807 := by omega
    go_upto_if 159 with fail
    rename World => wB
    go_cut [15] from 158 to 162 (fun v wx => wx = wB ∧ v = .int .i64 (x : Int))
    case first =>
      clear HB H2 HT hbw hx0 hx1
      rcases hxA with ⟨t0, rfl⟩ | ⟨t0, rfl⟩
      all_goals
        go_wp2_with fail
        go_meet
        exact ⟨rfl, by go_num⟩
    case rest =>
      obtain ⟨hcw, rfl⟩ := hcut
      subst hcw
      have c3 : wc.cell? ⟨r.P, 3, none⟩ = some (r.rv s.sz.length) := H2.out.rm.h3.1
      have htr : wc.ownsRow 0 3 1 (r.rv s.sz.length) tk.length (nc tk) := by
        have h := H2.out.rm.row s.sz.length (by show s.sz.length < s.sz.length + 2; omega)
        rw [rf_tk] at h
        exact h
      obtain ⟨va, vc, ev⟩ := row_form htr
      rw [ev] at c3 htr
      have htl := H2.out.ag.tlen H2.out.ok
      by_cases h0 : tk.length = 0
      · have hst := hid (Go7.after hbw (Go7.refl H2.out))
        rw [h0] at c3
        clear HB H2 HT hbw htr ev htl hxA hx0 hx1
        go_wp2_with fail
        go_ret
        exact ⟨rfl, hst.out⟩
      · obtain ⟨q, hq⟩ : ∃ q, x % tk.length = q := ⟨_, rfl⟩
        have hql : q < tk.length := hq ▸ Nat.mod_lt _ (by omega)
        obtain ⟨y, hy⟩ : ∃ y, tk[q]? = some y := ⟨_, List.getElem?_eq_getElem hql⟩
        obtain ⟨g, c', e, hcap, hcy, _⟩ := own_cell htr hy
        cases e
        have hyl : (y : Int) ≤ 9223372036854775807 := by
          obtain ⟨k, hk, _⟩ := Sl.usedN_true ((H2.out.ag.mem y).1 (List.mem_of_getElem? hy))
          have := H2.out.ok.cut_1024 hk
          omega
        have H2d := hid H2.out.drew
        obtain ⟨ee, s1, hgs⟩ : ∃ ee s1, s.free (y : Int) = (ee, s1) := ⟨_, _, rfl⟩
        have OK1 : Hid s1.Ok := hid (by
          have h := H2.out.ok.freeOk (y : Int)
          rw [hgs] at h
          exact h)
        have hf := free_any H2d.out.m H2.out.ok (y : Int) hyl
        rw [hgs] at hf
        have HR : Hid (∀ W, RM r (rf s tk cl) W → Calls Try.prog 36 #[.pointer (some ⟨r.P, 0, none⟩), .int .i64 (y : Int)] W fun e w' => e = .returned (.int .i64 ee) ∧ RGo r s tk cl W s1 w') := hid (fun W hm => by
          have h := ref_free hm H2.out.ok H2.out.ag (y : Int)
          rw [hgs] at h
          exact h)
        obtain ⟨L, hL⟩ : ∃ L, L = tk.length := ⟨_, rfl⟩
        rw [← hL] at c3 hcap htl hq hql
        have hm1 : (x : Int) % (L : Int) = (q : Int) := by omega
        have hm2 : (x : Int).tmod (L : Int) = (q : Int) := by rw [Int.tmod_eq_emod_of_nonneg (by omega)]; exact hm1
        have hL0 : ¬ (L : Int) = 0 := by omega
        have hL2 : ¬ L = 0 := by omega
        have hL3 : (1 : Int) ≤ (L : Int) := by omega
        have hL1 : ((L : Int) == 0) = false := by simpa using hL0
        have iq0 : (0 : Int) ≤ (q : Int) := by omega
        have iq1 : (q : Int) < (L : Int) := by omega
        clear HB H2 HT htr ev h0 hy hgs hxA hx0 hx1 hL
        go_wp2_with fail
        go_region_held3 (fun w' => w'.cell? ⟨r.P, 3, none⟩ = some (.slice (some ⟨g, 0, none⟩) L vc) ∧ w'.cell? ⟨g, q, none⟩ = some (.int .i64 (y : Int))) (go_keep) (first | fail)
        clear c3 hcy
        go_wp2_with fail
        refine hf.mono ?_
        rintro e w3 ⟨rfl, d3, h3⟩
        have hr := HR.out _ (mid_r H2d.out h3)
        have H3 := hid h3
        clear hf h3 HR
        go_wp2_with fail
        refine hr.mono ?_
        rintro e w4 ⟨rfl, h4⟩
        have hst := hid (Go7.after hbw (Go7.after (Below.refl _ _).drew (two_pr H2d.out OK1.out H3.out h4)))
        clear hr h4 H3 H2d OK1 hbw
        go_wp2_with fail
        go_ret
        exact ⟨rfl, hst.out⟩

end Go.Proofs.Ytldfpacdlephcaa

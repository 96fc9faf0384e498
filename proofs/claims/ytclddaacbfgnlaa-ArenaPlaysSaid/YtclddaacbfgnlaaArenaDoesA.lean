/-
  One step on both arenas (ambrylaw06.does) at this program: a grant, a return. No conditions but that the numbers are an int's.
-/
import Derived.Test.YtclddaacbfgnlaaArenaDoes
namespace Go.Proofs.Ytclddaacbfgnlaa
open Go Go.RowKit Go.Lib

set_option maxHeartbeats 4000000 in
set_option maxRecDepth 100000 in
theorem does_grant {d : Ids} {s : St} {w : World} (h : Two d s w) (A B C : Int) (_hB : B ≤ 9223372036854775807) (a : Option Addr) (n c : Nat) (l : List UInt8) (hl : l.length = n) (hnc : n ≤ c) (hc63 : c ≤ 9223372036854775807) (hv : Byts w (.slice a n c) l) (hF : 0 < l.length → ∀ g o, a = some ⟨g, o, none⟩ → ¬ Foot d g) (hnil : a = none → c = 0) :
    Calls Try.prog 10 #[.pointer (some ⟨d.P, 0, none⟩), .pointer (some ⟨d.P', 0, none⟩), .agg #[.int .i64 1, .int .i64 A, .int .i64 B, .int .i64 C, .slice a n c]] w fun e w' => e = .returned (.bool true) ∧ ∃ d' s', Step d s w d' s' w' := by
  have HT := hid h
  have HC := hid (And.intro hl (And.intro hv (And.intro hF hnil)))
  clear h hl hv hF hnil
  go_enter Try.func10, Try.ntmps10
  go_upto_if 27 with fail
  go_cut [] from 24 to 31 (fun wx => Hid (Cut w (Foot d) 1 A B C wx))
  case first =>
    obtain ⟨hl, hv, hF, hnil⟩ := HC.out
    by_cases hn : n ≤ 2000
    · have HK := hid (cut_same (kd := 1) (A := A) (B := B) (C := C) hn hl hv hF hnil)
      have ilt : (n : Int) ≤ 2000 := by omega
      clear hv hF hl hnil HC
      go_wp2_with fail
      go_meet
      exact HK
    · obtain ⟨g, o, rfl⟩ : ∃ g o, a = some ⟨g, o, none⟩ := by
        obtain ⟨a', c', e, hx⟩ := hv
        cases e
        obtain ⟨g, o, ha, _⟩ := hx 0 (l[0]'(by omega)) (List.getElem?_eq_getElem _)
        exact ⟨g, o, ha⟩
      have HK := hid (cut_less (kd := 1) (A := A) (B := B) (C := C) (by omega) hl hv hF)
      have ilt : (2000 : Int) < (n : Int) := by omega
      clear hv hF hl hnil HC
      go_wp2_with fail
      go_meet
      exact HK
  case rest =>
    obtain ⟨a2, n2, c2, l2, hn2, hl2, hv2, hF2, hnil2, hB2, hb2⟩ := hcut.out
    have hx0 : wc.cell? ⟨w.heap.size, 0, none⟩ = some (.int .i64 1) := hB2.cell rfl
    have hx1 : wc.cell? ⟨w.heap.size, 1, none⟩ = some (.int .i64 A) := hB2.cell rfl
    have hT2 := HT.out.below hb2
    have H2 := hid hT2
    have hXO : w.heap.size ≠ d.O := fun e => by have := HT.out.lt _ (.inr (.inl rfl)); omega
    have hXO' : w.heap.size ≠ d.O' := fun e => by have := HT.out.lt _ (.inr (.inr (.inr (.inr (.inl rfl))))); omega
    have hXlt : w.heap.size < wc.heap.size := hB2.lt
    have HB := hid hB2
    have hbw := hb2
    clear hcut hT2 HC hb2 hB2
    clear hF2 hv2 hl2 hnil2
    obtain ⟨pp, ee, s1, hgs⟩ : ∃ pp ee s1, s.grant A = (pp, ee, s1) := ⟨_, _, _, rfl⟩
    have hsz : s1.size = s.size := by have := grant_size s A; rw [hgs] at this; exact this
    have hg := grant_any H2.out.a A
    rw [hgs] at hg
    have HG := hid hgs
    clear hgs
    go_wp2_with fail
    refine hg.mono ?_
    rintro e w3 ⟨rfl, h3, o3⟩
    have o3' := onlyO o3
    have hgr := ref_grant (ref_after H2.out o3') A
    have hx1' : w3.cell? ⟨w.heap.size, 1, none⟩ = some (.int .i64 A) := (o3.cell (p := ⟨w.heap.size, 1, none⟩) hXlt hXO).trans hx1
    rw [HG.out] at hgr
    have H3 := hid (And.intro h3 o3')
    clear h3 o3 o3' hg
    go_wp2_with fail
    refine hgr.mono ?_
    rintro e w4 ⟨rfl, h4, o4⟩
    have hst := (step_ar H2.out hsz H3.out.1 H3.out.2 h4 (fun i b hb => .inl hb) (onlyO' o4)).after hbw
    clear hgr h4 o4 H3 HG HB H2 HT hbw
    go_wp2_with fail
    go_ret
    exact ⟨rfl, _, _, hst⟩

set_option maxHeartbeats 4000000 in
set_option maxRecDepth 100000 in
theorem does_return {d : Ids} {s : St} {w : World} (h : Two d s w) (A B C : Int) (_hB : B ≤ 9223372036854775807) (a : Option Addr) (n c : Nat) (l : List UInt8) (hl : l.length = n) (hnc : n ≤ c) (hc63 : c ≤ 9223372036854775807) (hv : Byts w (.slice a n c) l) (hF : 0 < l.length → ∀ g o, a = some ⟨g, o, none⟩ → ¬ Foot d g) (hnil : a = none → c = 0) :
    Calls Try.prog 10 #[.pointer (some ⟨d.P, 0, none⟩), .pointer (some ⟨d.P', 0, none⟩), .agg #[.int .i64 2, .int .i64 A, .int .i64 B, .int .i64 C, .slice a n c]] w fun e w' => e = .returned (.bool true) ∧ ∃ d' s', Step d s w d' s' w' := by
  have HT := hid h
  have HC := hid (And.intro hl (And.intro hv (And.intro hF hnil)))
  clear h hl hv hF hnil
  go_enter Try.func10, Try.ntmps10
  go_upto_if 27 with fail
  go_cut [] from 24 to 31 (fun wx => Hid (Cut w (Foot d) 2 A B C wx))
  case first =>
    obtain ⟨hl, hv, hF, hnil⟩ := HC.out
    by_cases hn : n ≤ 2000
    · have HK := hid (cut_same (kd := 2) (A := A) (B := B) (C := C) hn hl hv hF hnil)
      have ilt : (n : Int) ≤ 2000 := by omega
      clear hv hF hl hnil HC
      go_wp2_with fail
      go_meet
      exact HK
    · obtain ⟨g, o, rfl⟩ : ∃ g o, a = some ⟨g, o, none⟩ := by
        obtain ⟨a', c', e, hx⟩ := hv
        cases e
        obtain ⟨g, o, ha, _⟩ := hx 0 (l[0]'(by omega)) (List.getElem?_eq_getElem _)
        exact ⟨g, o, ha⟩
      have HK := hid (cut_less (kd := 2) (A := A) (B := B) (C := C) (by omega) hl hv hF)
      have ilt : (2000 : Int) < (n : Int) := by omega
      clear hv hF hl hnil HC
      go_wp2_with fail
      go_meet
      exact HK
  case rest =>
    obtain ⟨a2, n2, c2, l2, hn2, hl2, hv2, hF2, hnil2, hB2, hb2⟩ := hcut.out
    have hx0 : wc.cell? ⟨w.heap.size, 0, none⟩ = some (.int .i64 2) := hB2.cell rfl
    have hx1 : wc.cell? ⟨w.heap.size, 1, none⟩ = some (.int .i64 A) := hB2.cell rfl
    have hT2 := HT.out.below hb2
    have H2 := hid hT2
    have hXO : w.heap.size ≠ d.O := fun e => by have := HT.out.lt _ (.inr (.inl rfl)); omega
    have hXO' : w.heap.size ≠ d.O' := fun e => by have := HT.out.lt _ (.inr (.inr (.inr (.inr (.inl rfl))))); omega
    have hXlt : w.heap.size < wc.heap.size := hB2.lt
    have HB := hid hB2
    have hbw := hb2
    clear hcut hT2 HC hb2 hB2
    clear hF2 hv2 hl2 hnil2
    obtain ⟨ee, s1, hgs⟩ : ∃ ee s1, s.ret A = (ee, s1) := ⟨_, _, rfl⟩
    have hsz : s1.size = s.size := by have := ret_size s A; rw [hgs] at this; exact this
    have H2d := hid (H2.out.drew)
    have hA1 := return_any H2d.out.a A
    have hR1 := ref_return H2d.out.r A
    rw [hgs] at hA1 hR1
    have HG := hid hgs
    clear hgs
    go_wp2_with fail
    go_region_held3 (fun w' => w'.cell? ⟨w.heap.size, 1, none⟩ = some (.int .i64 A)) (first | exact hxk | exact hx1) (first
      | (go_at_call 14; refine hA2.mono ?_; rintro e w4 ⟨rfl, h4, o4⟩; have hxk := (o4.cell (p := ⟨w.heap.size, 1, none⟩) hXlt3 hXO).trans hxk; have hst := hid (step_ra H2d.out hsz H3.out.1 H3.out.2 h4 o4); clear h4 o4)
      | (go_at_call 14; refine hA1.mono ?_; rintro e w3 ⟨rfl, h3, o3⟩; have hxk := (o3.cell (p := ⟨w.heap.size, 1, none⟩) hXlt hXO).trans hx1; have hXlt3 := Nat.lt_of_lt_of_le hXlt o3.size; have hR2 := ref_return (ref_after H2d.out (onlyO o3)) A; rw [HG.out] at hR2; have H3 := hid (And.intro h3 (onlyO o3)); clear h3 o3)
      | (go_at_call 24; refine hR2.mono ?_; rintro e w4 ⟨rfl, h4, o4⟩; have hxk := (o4.cell (p := ⟨w.heap.size, 1, none⟩) hXlt3 hXO').trans hxk; have hst := hid (step_ar H2d.out hsz H3.out.1 H3.out.2 h4 (fun i b hb => .inl hb) (onlyO' o4)); clear h4 o4)
      | (go_at_call 24; refine hR1.mono ?_; rintro e w3 ⟨rfl, h3, o3⟩; have hxk := (o3.cell (p := ⟨w.heap.size, 1, none⟩) hXlt hXO').trans hx1; have hXlt3 := Nat.lt_of_lt_of_le hXlt o3.size; have hA2 := return_any (arena_after H2d.out o3) A; rw [HG.out] at hA2; have H3 := hid (And.intro h3 o3); clear h3 o3))
    all_goals
      have hst2 := hid ((hst.out.after (w0 := wc) (Below.refl _ _).drew).after hbw)
      clear hst H3 HG HB H2 H2d HT hbw hA1 hR1
      go_wp2_with fail
      go_ret
      exact ⟨rfl, _, _, hst2.out⟩
end Go.Proofs.Ytclddaacbfgnlaa

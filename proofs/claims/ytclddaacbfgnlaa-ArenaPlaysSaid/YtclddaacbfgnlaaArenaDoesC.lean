/-
  One step on both arenas (ambrylaw06.does) at this program: a read. No conditions but that the numbers are an int's.
-/
import Derived.Test.YtclddaacbfgnlaaArenaDoes
namespace Go.Proofs.Ytclddaacbfgnlaa
open Go Go.RowKit Go.Lib

set_option maxHeartbeats 4000000 in
set_option maxRecDepth 100000 in
theorem does_read {d : Ids} {s : St} {w : World} (h : Two d s w) (A B C : Int) (hB : B ≤ 9223372036854775807) (a : Option Addr) (n c : Nat) (l : List UInt8) (hl : l.length = n) (hnc : n ≤ c) (hc63 : c ≤ 9223372036854775807) (hv : Byts w (.slice a n c) l) (hF : 0 < l.length → ∀ g o, a = some ⟨g, o, none⟩ → ¬ Foot d g) (hnil : a = none → c = 0) :
    Calls Try.prog 10 #[.pointer (some ⟨d.P, 0, none⟩), .pointer (some ⟨d.P', 0, none⟩), .agg #[.int .i64 4, .int .i64 A, .int .i64 B, .int .i64 C, .slice a n c]] w fun e w' => e = .returned (.bool true) ∧ ∃ d' s', Step d s w d' s' w' := by
  have HT := hid h
  have HC := hid (And.intro hl (And.intro hv (And.intro hF hnil)))
  clear h hl hv hF hnil
  go_enter Try.func10, Try.ntmps10
  go_upto_if 27 with fail
  go_cut [] from 24 to 31 (fun wx => Hid (Cut w (Foot d) 4 A B C wx))
  case first =>
    obtain ⟨hl, hv, hF, hnil⟩ := HC.out
    by_cases hn : n ≤ 2000
    · have HK := hid (cut_same (kd := 4) (A := A) (B := B) (C := C) hn hl hv hF hnil)
      have ilt : (n : Int) ≤ 2000 := by omega
      clear hv hF hl hnil HC
      go_wp2_with fail
      go_meet
      exact HK
    · obtain ⟨g, o, rfl⟩ : ∃ g o, a = some ⟨g, o, none⟩ := by
        obtain ⟨a', c', e, hx⟩ := hv
        cases e
        obtain ⟨g, o, ha, _⟩ := hx 0 (l[0]'(by omega)) (List.getElem?_eq_getElem _)
        exact ⟨g, o, ha⟩
      have HK := hid (cut_less (kd := 4) (A := A) (B := B) (C := C) (by omega) hl hv hF)
      have ilt : (2000 : Int) < (n : Int) := by omega
      clear hv hF hl hnil HC
      go_wp2_with fail
      go_meet
      exact HK
  case rest =>
    obtain ⟨a2, n2, c2, l2, hn2, hl2, hv2, hF2, hnil2, hB2, hb2⟩ := hcut.out
    have hx0 : wc.cell? ⟨w.heap.size, 0, none⟩ = some (.int .i64 4) := hB2.cell rfl
    have hx1 : wc.cell? ⟨w.heap.size, 1, none⟩ = some (.int .i64 A) := hB2.cell rfl
    have hT2 := HT.out.below hb2
    have H2 := hid hT2
    have hXO : w.heap.size ≠ d.O := fun e => by have := HT.out.lt _ (.inr (.inl rfl)); omega
    have hXO' : w.heap.size ≠ d.O' := fun e => by have := HT.out.lt _ (.inr (.inr (.inr (.inr (.inl rfl))))); omega
    have hXlt : w.heap.size < wc.heap.size := hB2.lt
    have HB := hid hB2
    have hbw := hb2
    clear hcut hT2 HC hb2 hB2
    have hx2 : wc.cell? ⟨w.heap.size, 2, none⟩ = some (.int .i64 B) := HB.out.cell rfl
    have hx3 : wc.cell? ⟨w.heap.size, 3, none⟩ = some (.int .i64 C) := HB.out.cell rfl
    clear hv2 hF2 hl2 hnil2
    have hcase : (∃ cc, cc = s.code A B C ∧ cc ≠ 0 ∧ (cc = 1 ∨ cc = 7)) ∨ (grB s.ow A = true ∧ ∃ k i m : Nat, A = k ∧ B = i ∧ C = m ∧ k < s.ow.length ∧ i + m ≤ s.size) := by
      rcases code_cases s A B C with ⟨h1, _⟩ | ⟨h1, _⟩ | ⟨_, h2, h3⟩
      · exact .inl ⟨7, h1.symm, by decide, .inr rfl⟩
      · exact .inl ⟨1, h1.symm, by decide, .inl rfl⟩
      · exact .inr ⟨h2, h3⟩
    rcases hcase with ⟨cc, hcc, hc0, hc17⟩ | ⟨hgr, k, i, m, rfl, rfl, rfl, hk, hi⟩
    · have hra := read_bad H2.out.a A B C hB cc hcc hc0 hc17
      have hrr := ref_read_bad H2.out.r A B C hB cc hcc hc0
      have hcv := conv_nil
      have HST := hid ((Step.refl H2.out).after hbw)
      clear hcc hc0 hc17 HB H2 HT hbw
      go_wp2_with fail
      refine hra.mono ?_
      rintro e w3 ⟨rfl, rfl⟩
      clear hra
      go_wp2_with fail
      refine hrr.mono ?_
      rintro e w3 ⟨rfl, rfl⟩
      clear hrr
      go_wp2_with fail
      clear hcv
      go_loop [19] (fun v => v = .int .i64 0) (fun _ => 0)
      case atStart => rfl
      case round =>
        obtain rfl := hrel
        go_wp2_with fail
        go_ret
        exact ⟨rfl, _, _, HST.out⟩
    · have hmB : m ≤ 65536 := by have := H2.out.a.ok.s2; omega
      have hra := read_ok H2.out.a k i m hgr hk hi
      have HGR := hid (And.intro hgr (And.intro hk hi))
      clear hgr hk hi HB
      go_wp2_with fail
      refine hra.mono ?_
      rintro e w3 ⟨v1, rfl, hown, hb3⟩
      have hrr := ref_read_ok (H2.out.r.below hb3) k i m HGR.out.1 HGR.out.2.1 HGR.out.2.2
      have hy1 : w3.cell? ⟨w.heap.size, 1, none⟩ = some (.int .i64 (k : Int)) := (hb3.cell (p := ⟨w.heap.size, 1, none⟩) hXlt).trans hx1
      have hy2 : w3.cell? ⟨w.heap.size, 2, none⟩ = some (.int .i64 (i : Int)) := (hb3.cell (p := ⟨w.heap.size, 2, none⟩) hXlt).trans hx2
      have hy3 : w3.cell? ⟨w.heap.size, 3, none⟩ = some (.int .i64 (m : Int)) := (hb3.cell (p := ⟨w.heap.size, 3, none⟩) hXlt).trans hx3
      have hlen := St.get_len H2.out.a.ok HGR.out.2.1 HGR.out.2.2
      have HLEN := hid hlen
      obtain ⟨a1, c1, rfl⟩ := row_form hown
      have hltb := hown.lt
      have HLT := hid hltb
      have HOWN := hid hown
      have HB3 := hid hb3
      clear hra hb3 hx0 hx1 hx2 hx3 hown hlen hltb
      go_wp2_with fail
      refine hrr.mono ?_
      rintro e w4 ⟨v2, rfl, hown2, bl', h4, hn4, o4⟩
      have hkeep : w4.ownsRow wc.heap.size 5 1 (.slice a1 m c1) m (bc (s.get k i m)) := own_only HOWN.out o4 (fun g hg e => by
        have h1 := (HLT.out g hg).1
        have h2 := H2.out.lt d.B' (.inr (.inr (.inr (.inr (.inr (.inl rfl))))))
        omega)
      obtain ⟨a3, c3, rfl⟩ := row_form hown2
      have hcv1 := conv_row_len HLEN.out hkeep
      have hcv2 := conv_row_len HLEN.out hown2
      have HSL : Hid (Slots w4 5 (.slice a1 m c1) m wc.heap.size) := hid ⟨_, hkeep⟩
      have HST := hid (step_ar (s1 := s) H2.out rfl (H2.out.a.below HB3.out) (Below.only HB3.out) h4 hn4 (onlyB' o4))
      have HFT := hid (foot_new H2.out hn4)
      generalize S (s.get k i m) = X at hcv1 hcv2
      clear hrr hown2 hkeep h4 hn4 o4 hy1 hy2 hy3 HOWN HGR HLEN
      go_wp2_with fail
      clear hcv1 hcv2
      go_loopw [19] (fun v wr => ∃ j : Nat, j ≤ m ∧ v = .int .i64 j ∧ Hid (Slots wr 5 (.slice a1 m c1) m wc.heap.size) ∧ Hid (Only (fun b => wc.heap.size ≤ b ∧ b < w3.heap.size) w4 wr)) (fun v _ => m - (intOf v).toNat)
      case atStart => exact ⟨0, Nat.zero_le _, rfl, HSL, hid (Only.refl _ _)⟩
      case round =>
        obtain ⟨j, hj, rfl, HS, HO⟩ := hrel
        clear HSL
        by_cases hjm : j < m
        · obtain ⟨g, x, rfl, hcg, hfg, hset⟩ := HS.out.at hjm
          have ilt : (j : Int) < (m : Int) := by omega
          have hgb := HLT.out g rfl
          have HS' := hid (hset (.int .u8 9))
          have HO' := hid (HO.out.setCell (p := ⟨g, j, none⟩) (.inl hgb) (.int .u8 9))
          clear HS HO hset hgb HLT HB3 HST HFT H2 HT hbw
          go_wp2_with fail
          go_roundw
          case rel => exact ⟨j + 1, by omega, by go_num, HS', HO'⟩
          case measure => simp [intOf] <;> omega
        · have hst := ((HST.out.more HO.out HFT.out (fun b hb => hb.1)).after hbw)
          clear HS HO HLT HB3 HST HFT H2 HT hbw
          go_wp2_with fail
          go_ret
          exact ⟨rfl, _, _, hst⟩

end Go.Proofs.Ytclddaacbfgnlaa

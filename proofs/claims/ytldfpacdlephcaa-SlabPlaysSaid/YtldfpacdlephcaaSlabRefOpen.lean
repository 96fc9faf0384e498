/-
  The document's own answer for layer 7 (ambryref07) at this program: Open and Move, of any slab and any numbers. No conditions.
-/
import Derived.Test.YtldfpacdlephcaaSlabRefClose
import Derived.Test.YtldfpacdlephcaaSlabRefSee
namespace Go.Proofs.Ytldfpacdlephcaa
open Go Go.RowKit Go.Lib

theorem Ag.reopen {s : Sl} {tk cl : List Nat} (h : Ag s tk cl) {p : Nat} {k : Ct} (hk : s.cut p = some k) : Ag (s.setCut p (k.shut false)) tk (wo cl (p : Int)) := by
  refine ⟨h.srt, fun x => (h.mem x).trans (by rw [show (s.setCut p (k.shut false)).usedN x = s.usedN x from setCut_used (k' := k.shut false) hk rfl x]), fun q => ?_, h.cnd.sublist List.filter_sublist⟩
  show q ∈ wo cl (p : Int) ↔ ∃ k', upd s.cut p (some (k.shut false)) q = some k' ∧ k'.closed = true
  rw [wo_mem, h.cls q]
  by_cases e : q = p
  · subst e
    rw [upd_same]
    constructor
    · rintro ⟨_, h2⟩; exact (h2 rfl).elim
    · rintro ⟨k', h1, h2⟩
      cases h1
      cases h2
  · rw [upd_ne _ _ e]
    exact ⟨fun h => h.1, fun h => ⟨h, by omega⟩⟩

/-- What has says of the closed pages. -/
theorem ref_shut {d : Dr} {s : Sl} {tk cl : List Nat} {w : World} (h : RM d (rf s tk cl) w) (ok : s.Ok) (ag : Ag s tk cl) (z : Int) : ∃ a c, w.cell? ⟨d.P, 4, none⟩ = some (.slice a cl.length c) ∧ w.ownsRow 0 3 1 (.slice a cl.length c) cl.length (nc cl) ∧
    Calls Try.prog 64 #[.slice a cl.length c, .int .i64 z] w fun e w' => e = .returned (.bool (hasB cl z)) ∧ w = w' := by
  have hr := h.row (s.sz.length + 1) (by show s.sz.length + 1 < s.sz.length + 2; omega)
  have e : (rf s tk cl).rows (s.sz.length + 1) = cl := rf_cl s _ cl
  rw [e] at hr
  have hh := ref_has hr (Nat.le_trans (ag.clen ok) (by decide)) z
  obtain ⟨c4, -⟩ := h.h4
  have es : (rf s tk cl).sz.length = s.sz.length := rfl
  obtain ⟨a, c, hv⟩ := row_form hr
  rw [es, hv] at c4
  rw [hv] at hh hr
  exact ⟨a, c, c4, hr, hh⟩

set_option maxHeartbeats 4000000 in
set_option maxRecDepth 100000 in
theorem ref_open {d : Dr} {s : Sl} {tk cl : List Nat} {w : World} (h : RM d (rf s tk cl) w) (ok : s.Ok) (ag : Ag s tk cl) (z : Int) :
    Calls Try.prog 38 #[.pointer (some ⟨d.P, 0, none⟩), .int .i64 z] w fun e w' => e = .returned (.int .i64 (s.openP z).1) ∧ RGo d s tk cl w (s.openP z).2 w' := by
  obtain ⟨ca, cc, c4, hrow, hh⟩ := ref_shut h ok ag z
  rcases ag.shut ok z with ⟨h1, h2⟩ | ⟨p, k, rfl, hk, hc, hk', h5⟩
  · have e : s.openP z = (7, s) := by
      rcases h2 with h2 | ⟨q, k, rfl, h3, h4, h5⟩
      · exact Sl.open_none h2
      · exact Sl.open_open h5 h4
    rw [e]
    rw [h1] at hh
    have hgo := hid (RGo.refl h ag)
    clear h ok ag h1 h2 e hrow
    generalize cl.length = nl at *
    go_enter Try.func38, Try.ntmps38
    go_wp2_with fail
    refine hh.mono ?_
    rintro e w' ⟨rfl, rfl⟩
    clear hh
    go_wp2_with fail
    go_ret
    exact ⟨rfl, hgo.out⟩
  · rw [Sl.open_shut hk hc]
    rw [h5] at hh
    have hwo := ref_without hrow (Nat.le_trans (ag.clen ok) (by decide)) (p : Int)
    have hp := ok.cut_1024 hk
    have hag := ag.reopen hk
    have hok := Sl.reopen_ok ok hk hc false
    have lP := h.head.lt
    have f4 := h.h4.2
    have H := hid h
    have HL := hid (fun (d2 : Dr) (w2 : World) (h2 : RM d2 (rf (s.setCut p (k.shut false)) tk (wo cl (p : Int))) w2) => ref_lay h2 hok hag (p := p) (k := k.shut false) (upd_same _ _ _))
    have HAG : Hid (Ag (s.opened p k) tk (wo cl (p : Int))) := hid (hag.same (fun _ => rfl) (fun _ => Iff.rfl))
    clear h ok ag h5 hk hc hk' hag hok hrow
    generalize cl.length = nl at *
    go_enter Try.func38, Try.ntmps38
    go_wp2_with fail
    refine hh.mono ?_
    rintro e w' ⟨rfl, rfl⟩
    clear hh
    go_wp2_with fail
    refine hwo.mono ?_
    rintro e w1 ⟨v, rfl, hown, hB⟩
    obtain ⟨a1, c1, rfl⟩ := row_form hown
    have c41 := (hB.cell (p := ⟨d.P, 4, none⟩) lP).trans c4
    have f41 := (hB.frozen (p := ⟨d.P, 4, none⟩) lP).trans f4
    obtain ⟨d2, hP2, -, hS⟩ := RStp.cl H.out (Below.only hB) (own_base hown (Nat.zero_le _)) (fun b hb => .inr (own_ge hown b hb))
    have hlay := HL.out d2 _ hS.m
    rw [hP2] at hlay
    have HS := hid hS
    clear hwo hown hB hS hP2 H HL c4 f4 lP
    go_wp2_with fail
    refine hlay.mono ?_
    rintro e w3 ⟨⟨v, rfl⟩, d3, hS3⟩
    have HF : Hid (RGo d s tk cl w (s.opened p k) w3) := hid ⟨d3, tk, wo cl (p : Int), HS.out.trans hS3, HAG.out⟩
    clear hlay hS3 HS HAG c41 f41
    go_wp2_with fail
    go_ret
    exact ⟨rfl, HF.out⟩

theorem pass_yes {s : St} {p c c0 : Nat} (hp : s.ow[p]? = some (c0 : Int)) (hc : c < 63) : s.pass (p : Int) (c : Int) = (0, s.setOw p (c : Int)) := by
  unfold St.pass
  have h1 : grB s.ow (p : Int) = true := by
    unfold grB
    rw [ownerOf_at hp]
    simp only [bne_iff_ne, ne_eq]; omega
  have h2 : ownB (c : Int) = true := by unfold ownB; rw [decide_eq_true_iff]; omega
  rw [h1, if_pos rfl, h2, if_pos rfl, Int.toNat_natCast]
theorem chunks_len {s : Sl} {p : Nat} {k : Ct} (hk : s.cut p = some k) : (s.chunks (p : Int)).length = tru k.used := by
  unfold Sl.chunks
  rw [s.atP_nat, hk]
  show (chTo k.used _ k.used.length).length = _
  rw [chTo_tru k.used _ _ (Nat.le_refl _), List.take_length]
theorem Ag.passed {s : Sl} {tk cl : List Nat} (h : Ag s tk cl) {p c : Nat} {k : Ct} (hk : s.cut p = some k) : Ag (s.passed p k c) tk cl := by
  refine h.same (fun x => setCut_used (s := { s with a := s.a.setOw p (c : Int) }) (k' := k.to c) hk rfl x) (fun q => ?_)
  show (∃ k', upd s.cut p (some (k.to c)) q = some k' ∧ k'.closed = true) ↔ _
  by_cases e : q = p
  · subst e
    rw [upd_same, hk]
    constructor
    · rintro ⟨k', h1, h2⟩
      cases h1
      exact ⟨k, rfl, h2⟩
    · rintro ⟨k', h1, h2⟩
      cases h1
      exact ⟨_, rfl, h2⟩
  · rw [upd_ne _ _ e]

set_option maxHeartbeats 4000000 in
set_option maxRecDepth 100000 in
theorem ref_move {d : Dr} {s : Sl} {tk cl : List Nat} {w : World} (h : RM d (rf s tk cl) w) (ok : s.Ok) (ag : Ag s tk cl) (z c : Int) :
    Calls Try.prog 39 #[.pointer (some ⟨d.P, 0, none⟩), .int .i64 z, .int .i64 c] w fun e w' => e = .returned (.int .i64 (s.move z c).1) ∧ RGo d s tk cl w (s.move z c).2 w' := by
  obtain ⟨ca, cc, c4, -, hh⟩ := ref_shut h ok ag z
  have hgo := hid (RGo.refl h ag)
  have c1 := h.h1
  have es : (rf s tk cl).sz.length = s.sz.length := rfl
  rw [es] at c1
  rcases ag.shut ok z with ⟨h1, h2⟩ | ⟨p, k, rfl, hk, hc, hk', h5⟩
  · have e : s.move z c = (7, s) := by
      rcases h2 with h2 | ⟨q, k, rfl, h3, h4, h5⟩
      · exact Sl.move_none h2
      · exact Sl.move_open h5 h4
    rw [e]
    rw [h1] at hh
    clear h ok ag h1 h2 e es c1
    generalize cl.length = nl at *
    go_enter Try.func39, Try.ntmps39
    go_wp2_with fail
    refine hh.mono ?_
    rintro e w' ⟨rfl, rfl⟩
    clear hh
    go_wp2_with fail
    go_ret
    exact ⟨rfl, hgo.out⟩
  · rw [h5] at hh
    rcases s.class_cases c with ⟨hb, hcase⟩ | ⟨c, rfl, hcl, hb⟩
    · rw [Sl.move_bad hk' hc hb]
      clear h ok ag hk hc hk' h5 hb es
      generalize cl.length = nl at *
      generalize s.sz.length = n at *
      rcases hcase with g1 | ⟨g1, g2⟩
      · go_enter Try.func39, Try.ntmps39
        go_wp2_with fail
        refine hh.mono ?_
        rintro e w' ⟨rfl, rfl⟩
        clear hh
        go_wp2_with fail
        go_ret
        exact ⟨rfl, hgo.out⟩
      · have g3 : ¬ c < 0 := by omega
        go_enter Try.func39, Try.ntmps39
        go_wp2_with fail
        refine hh.mono ?_
        rintro e w' ⟨rfl, rfl⟩
        clear hh
        go_wp2_with fail
        go_ret
        exact ⟨rfl, hgo.out⟩
    · have hch := ref_chunks h ok ag (p : Int)
      rw [chunks_len hk] at hch
      have q1 : (c : Int) < (s.sz.length : Int) := by omega
      have hU := ok.U_le
      have hul := (ok.ct p k hk).2.2.1
      have htl := tru_le k.used
      by_cases ht : 0 < tru k.used
      · rw [Sl.move_busy hk' hc hb ht]
        have HRM := hid (RStp.refl h)
        have HAG := hid ag
        have ht1 : (0 : Int) < (tru k.used : Int) := by omega
        clear h ok ag hk hc hk' h5 hb es hul
        generalize cl.length = nl at *
        generalize s.sz.length = n at *
        generalize tru k.used = t at *
        go_enter Try.func39, Try.ntmps39
        go_wp2_with fail
        refine hh.mono ?_
        rintro e w' ⟨rfl, rfl⟩
        clear hh
        go_wp2_with fail
        refine hch.mono ?_
        rintro e w1 ⟨v, rfl, hown, hB⟩
        obtain ⟨va, vc, rfl⟩ := row_form hown
        have HF : Hid (RGo d s tk cl w s w1) := hid ⟨_, _, _, HRM.out.more hB, HAG.out⟩
        clear hch hown hB HRM HAG hgo
        go_wp2_with fail
        go_ret
        exact ⟨rfl, HF.out⟩
      · rw [Sl.move_ok hk hc hb ht]
        have ht0 : tru k.used = 0 := by omega
        rw [ht0] at hch
        have hn63 := ok.n2
        have hok1 := Sl.passed_ok ok hk hc hcl ht
        have hag1 := ag.passed (c := c) hk
        have hps := pass_yes (ok.ct p k hk).1 (c := c) (by omega)
        have HPS := hid (fun (w1 : World) (h1 : RM d (rf s tk cl) w1) => by
          have hx := ref_pass h1.ar (p : Int) (c : Int)
          have ea : (rf s tk cl).a = s.a := rfl
          rw [ea, hps] at hx
          exact hx)
        have hopn : (s.passed p k c).openP (p : Int) = (0, s.moved p k c) := Sl.open_shut (s := s.passed p k c) (k := k.to c) (upd_same _ _ _) hc
        have HOP := hid (fun (d2 : Dr) (w2 : World) (h2 : RM d2 (rf (s.passed p k c) tk cl) w2) => by
          have hx := ref_open h2 hok1 hag1 (p : Int)
          rw [hopn] at hx
          exact hx)
        have H := hid h
        have c0 := h.h0
        have lP := h.head.lt
        clear h ok ag hk hc hk' h5 hb es hul ht hok1 hag1 hps hopn ht0 htl hgo
        generalize cl.length = nl at *
        generalize s.sz.length = n at *
        go_enter Try.func39, Try.ntmps39
        go_wp2_with fail
        refine hh.mono ?_
        rintro e w' ⟨rfl, rfl⟩
        clear hh
        go_wp2_with fail
        refine hch.mono ?_
        rintro e w1 ⟨v, rfl, hown, hB⟩
        obtain ⟨va, vc, rfl⟩ := row_form hown
        have hp1 := HPS.out w1 (H.out.below hB)
        have c01 := (hB.cell (p := ⟨d.P, 0, none⟩) lP).trans c0
        have HB := hid hB
        clear hch hown hB HPS c0
        go_wp2_with fail
        refine hp1.mono ?_
        rintro e w2 ⟨rfl, ha, hO⟩
        have hS : RStp d (rf s tk cl) w1 _ (rf (s.passed p k c) tk cl) w2 := RStp.arena (H.out.below HB.out) ha (fun i b hb => .inl hb) (hO.mono (fun b hb => .inl hb))
        have hop := HOP.out _ w2 hS.m
        have HS := hid (RStp.after HB.out hS)
        clear hp1 ha hO hS HOP c01 HB H
        go_wp2_with fail
        refine hop.mono ?_
        rintro e w3 ⟨rfl, d3, tk3, cl3, hS3, hag3⟩
        have HF : Hid (RGo d s tk cl w (s.moved p k c) w3) := hid ⟨d3, tk3, cl3, HS.out.trans hS3, hag3⟩
        clear hop hS3 hag3 HS
        go_wp2_with fail
        go_ret
        exact ⟨rfl, HF.out⟩
end Go.Proofs.Ytldfpacdlephcaa

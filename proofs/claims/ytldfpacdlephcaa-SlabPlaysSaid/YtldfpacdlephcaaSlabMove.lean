/-
  Package slab at this program: Open and Move, of any slab, any page and any class. No conditions.
-/
import Derived.Test.YtldfpacdlephcaaSlabClose
namespace Go.Proofs.Ytldfpacdlephcaa
open Go Go.RowKit Go.Lib

/-- A closed page is open again: its free chunks are laid. -/
def Sl.opened (s : Sl) (p : Nat) (k : Ct) : Sl := (s.setCut p (k.shut false)).laid p (k.shut false)
def Sl.openP (s : Sl) (z : Int) : Int × Sl := match s.atP z with | none => (7, s) | some k => if k.closed = true then (0, s.opened z.toNat k) else (7, s)
theorem Sl.open_none {s : Sl} {z : Int} (h : s.atP z = none) : s.openP z = (7, s) := by unfold Sl.openP; rw [h]
theorem Sl.open_open {s : Sl} {z : Int} {k : Ct} (h : s.atP z = some k) (hc : k.closed = false) : s.openP z = (7, s) := by
  unfold Sl.openP
  rw [h]
  show (if k.closed = true then _ else _) = _
  rw [hc, if_neg (by decide)]
theorem Sl.open_shut {s : Sl} {p : Nat} {k : Ct} (h : s.cut p = some k) (hc : k.closed = true) : s.openP (p : Int) = (0, s.opened p k) := by
  unfold Sl.openP
  rw [s.atP_nat, h]
  show (if k.closed = true then _ else _) = _
  rw [hc, if_pos rfl, Int.toNat_natCast]
/-- None of a closed page's chunks stands in a row. -/
theorem Sl.shut_row {s : Sl} (h : s.Ok) {p : Nat} {k : Ct} (hk : s.cut p = some k) (hc : k.closed = true) {c x : Nat} (hcl : c < s.sz.length) (hx : x ∈ s.rows c) : x / 4096 ≠ p := fun e => by
  obtain ⟨k2, hk2, _, h3, _⟩ := h.rw c x hcl hx
  rw [e, hk] at hk2
  cases hk2
  rw [hc] at h3; cases h3
theorem Sl.reopen_ok {s : Sl} (h : s.Ok) {p : Nat} {k : Ct} (hk : s.cut p = some k) (hc : k.closed = true) (b : Bool) : (s.setCut p (k.shut b)).Ok := by
  obtain ⟨h1, h2, h3, h4⟩ := h.ct p k hk
  refine ⟨h.ao, h.n1, h.n2, h.sz, fun q l hl => ?_, fun q hq hql => ?_, fun c x hcl hx => ?_, h.nd⟩
  · have hl' : upd s.cut p (some (k.shut b)) q = some l := hl
    by_cases e : q = p
    · subst e
      rw [upd_same] at hl'
      cases hl'
      exact ⟨h1, h2, h3, h4⟩
    · rw [upd_ne _ _ e] at hl'
      exact h.ct q l hl'
  · have hq' : upd s.cut p (some (k.shut b)) q = none := hq
    by_cases e : q = p
    · subst e
      rw [upd_same] at hq'; cases hq'
    · rw [upd_ne _ _ e] at hq'
      exact h.no q hq' hql
  · have hne := Sl.shut_row h hk hc hcl hx
    obtain ⟨k2, hk2, r⟩ := h.rw c x hcl hx
    refine ⟨k2, ?_, r⟩
    show upd s.cut p _ (x / 4096) = _
    rw [upd_ne _ _ hne]; exact hk2
theorem Sl.opened_ok {s : Sl} (h : s.Ok) {p : Nat} {k : Ct} (hk : s.cut p = some k) (hc : k.closed = true) : (s.opened p k).Ok :=
  Sl.laid_ok (Sl.reopen_ok h hk hc false) (upd_same _ _ _) rfl (fun _ hx => Sl.shut_row h hk hc (h.ct p k hk).2.1 hx)
theorem Sl.Ok.openOk {s : Sl} (h : s.Ok) (z : Int) : (s.openP z).2.Ok := by
  rcases Sl.atP_cases h z with ⟨hn, _⟩ | ⟨p, k, rfl, _, hk, hk'⟩
  · rw [Sl.open_none hn]; exact h
  · cases hc : k.closed with
    | false => rw [Sl.open_open hk' hc]; exact h
    | true => rw [Sl.open_shut hk hc]; exact Sl.opened_ok h hk hc

set_option maxHeartbeats 2000000 in
set_option maxRecDepth 100000 in
theorem open_any {d : Di} {s : Sl} {w : World} (h : MIs d s w) (ok : s.Ok) (z : Int) :
    Calls Try.prog 26 #[.pointer (some ⟨d.P, 0, none⟩), .int .i64 z] w fun e w' => e = .returned (.int .i64 (s.openP z).1) ∧ ∃ d', Stp d s w d' (s.openP z).2 w' := by
  rcases Sl.atP_cases ok z with ⟨hn, _⟩ | ⟨p, k, rfl, _, hk, hk'⟩
  · rw [Sl.open_none hn]
    have hg := granted_no h ok z hn
    have H := hid h
    clear h hn ok
    go_enter Try.func26, Try.ntmps26
    go_wp2_with fail
    refine hg.mono ?_
    rintro e w' ⟨rfl, rfl⟩
    clear hg
    go_wp2_with fail
    go_ret
    exact ⟨rfl, d, Stp.refl H.out⟩
  · have hg := granted_yes h ok hk
    have f3 := h.k3 hk
    have ff := (h.cut _ k hk).1.frozen 3
    cases hc : k.closed with
    | false =>
      rw [Sl.open_open hk' hc]
      rw [hc] at f3
      have H := hid h
      clear h hk hk' ok hc
      go_enter Try.func26, Try.ntmps26
      go_wp2_with fail
      refine hg.mono ?_
      rintro e w' ⟨rfl, rfl⟩
      clear hg
      go_wp2_with fail
      go_ret
      exact ⟨rfl, d, Stp.refl H.out⟩
    | true =>
      rw [Sl.open_shut hk hc]
      rw [hc] at f3
      have S1 := shut_cell h hk false
      have hl := lay_any S1.m (Sl.reopen_ok ok hk hc false) (p := p) (k := k.shut false) (upd_same _ _ _) rfl (fun _ hx => Sl.shut_row ok hk hc (ok.ct p k hk).2.1 hx)
      have HS := hid S1
      clear h hk hk' ok hc S1
      go_enter Try.func26, Try.ntmps26
      go_wp2_with fail
      refine hg.mono ?_
      rintro e w' ⟨rfl, rfl⟩
      clear hg
      go_wp2_with fail
      refine hl.mono ?_
      rintro e w2 ⟨⟨u, rfl⟩, d2, h2⟩
      have H2 := hid h2
      clear hl h2
      go_wp2_with fail
      go_ret
      exact ⟨rfl, d2, HS.out.trans H2.out⟩

def Ct.to (k : Ct) (c : Nat) : Ct := { k with cls := c }
/-- The page is another class's. -/
def Sl.passed (s : Sl) (p : Nat) (k : Ct) (c : Nat) : Sl := ({ s with a := s.a.setOw p (c : Int) } : Sl).setCut p (k.to c)
def Sl.moved (s : Sl) (p : Nat) (k : Ct) (c : Nat) : Sl := (s.passed p k c).opened p (k.to c)
def Sl.move (s : Sl) (z cl : Int) : Int × Sl := match s.atP z with
  | none => (7, s)
  | some k => if k.closed = true then (if s.classB cl = true then (if 0 < tru k.used then (10, s) else (0, s.moved z.toNat k cl.toNat)) else (1, s)) else (7, s)
theorem Sl.move_none {s : Sl} {z cl : Int} (h : s.atP z = none) : s.move z cl = (7, s) := by unfold Sl.move; rw [h]
theorem Sl.move_open {s : Sl} {z cl : Int} {k : Ct} (h : s.atP z = some k) (hc : k.closed = false) : s.move z cl = (7, s) := by
  unfold Sl.move
  rw [h]
  show (if k.closed = true then _ else _) = _
  rw [hc, if_neg (by decide)]
theorem Sl.move_bad {s : Sl} {z cl : Int} {k : Ct} (h : s.atP z = some k) (hc : k.closed = true) (hb : s.classB cl = false) : s.move z cl = (1, s) := by
  unfold Sl.move
  rw [h]
  show (if k.closed = true then _ else _) = _
  rw [hc, if_pos rfl, hb, if_neg (by decide)]
theorem Sl.move_busy {s : Sl} {z cl : Int} {k : Ct} (h : s.atP z = some k) (hc : k.closed = true) (hb : s.classB cl = true) (ht : 0 < tru k.used) : s.move z cl = (10, s) := by
  unfold Sl.move
  rw [h]
  show (if k.closed = true then _ else _) = _
  rw [hc, if_pos rfl, hb, if_pos rfl, if_pos ht]
theorem Sl.move_ok {s : Sl} {p c : Nat} {k : Ct} (h : s.cut p = some k) (hc : k.closed = true) (hb : s.classB (c : Int) = true) (ht : ¬ 0 < tru k.used) : s.move (p : Int) (c : Int) = (0, s.moved p k c) := by
  unfold Sl.move
  rw [s.atP_nat, h]
  show (if k.closed = true then _ else _) = _
  rw [hc, if_pos rfl, hb, if_pos rfl, if_neg ht, Int.toNat_natCast, Int.toNat_natCast]
theorem Sl.passed_ok {s : Sl} (h : s.Ok) {p c : Nat} {k : Ct} (hk : s.cut p = some k) (hc : k.closed = true) (hcl : c < s.sz.length) (ht : ¬ 0 < tru k.used) : (s.passed p k c).Ok := by
  obtain ⟨h1, h2, h3, h4⟩ := h.ct p k hk
  have hpl := h.cut_lt hk
  have hn2 := h.n2
  refine ⟨St.setOw_ok h.ao p (by omega), h.n1, h.n2, h.sz, fun q l hl => ?_, fun q hq hql => ?_, fun c' x hc' hx => ?_, h.nd⟩
  · have hl' : upd s.cut p (some (k.to c)) q = some l := hl
    show (s.a.ow.set p (c : Int))[q]? = _ ∧ _
    by_cases e : q = p
    · subst e
      rw [upd_same] at hl'
      cases hl'
      refine ⟨by rw [List.getElem?_set_self hpl]; rfl, hcl, h3, fun i hi => (tru_zero (l := k.used) (by omega) i hi).elim⟩
    · rw [upd_ne _ _ e] at hl'
      obtain ⟨a1, a2, a3, a4⟩ := h.ct q l hl'
      exact ⟨by rw [List.getElem?_set_ne (fun e' => e e'.symm)]; exact a1, a2, a3, a4⟩
  · have hq' : upd s.cut p (some (k.to c)) q = none := hq
    show (s.a.ow.set p (c : Int))[q]? = _
    by_cases e : q = p
    · subst e
      rw [upd_same] at hq'; cases hq'
    · rw [upd_ne _ _ e] at hq'
      rw [List.getElem?_set_ne (fun e' => e e'.symm)]
      have hql' : q < (s.a.ow.set p (c : Int)).length := hql
      rw [List.length_set] at hql'
      exact h.no q hq' hql'
  · have hne := Sl.shut_row h hk hc hc' hx
    obtain ⟨k2, hk2, r⟩ := h.rw c' x hc' hx
    refine ⟨k2, ?_, r⟩
    show upd s.cut p _ (x / 4096) = _
    rw [upd_ne _ _ hne]; exact hk2
theorem Sl.Ok.moveOk {s : Sl} (h : s.Ok) (z cl : Int) : (s.move z cl).2.Ok := by
  rcases Sl.atP_cases h z with ⟨hn, _⟩ | ⟨p, k, rfl, _, hk, hk'⟩
  · rw [Sl.move_none hn]; exact h
  · cases hc : k.closed with
    | false => rw [Sl.move_open hk' hc]; exact h
    | true =>
      rcases s.class_cases cl with ⟨hb, _⟩ | ⟨c, rfl, hcl, hb⟩
      · rw [Sl.move_bad hk' hc hb]; exact h
      · by_cases ht : 0 < tru k.used
        · rw [Sl.move_busy hk' hc hb ht]; exact h
        · rw [Sl.move_ok hk hc hb ht]
          exact Sl.opened_ok (Sl.passed_ok h hk hc hcl ht) (upd_same _ _ _) hc

theorem passed_cell {d : Di} {s : Sl} {w W : World} {p c : Nat} (hS : Stp d s w d { s with a := s.a.setOw p (c : Int) } W) {k : Ct} (hk : s.cut p = some k) : Stp d s w d (s.passed p k c) (W.setCell ⟨d.cb p, 0, none⟩ (.int .i64 (c : Int))) := by
  have hk' : ({ s with a := s.a.setOw p (c : Int) } : Sl).cut p = some k := hk
  obtain ⟨b1, b2⟩ := hS.m.cut _ k hk'
  have hne : d.cb p ≠ d.ub p := b1.ne b2 (by decide)
  exact hS.trans (Stp.cut hS.m hk' (k.to c) ((Only.refl (fun b => b = d.cb p ∨ b = d.ub p) W).setCell (p := ⟨d.cb p, 0, none⟩) (.inl (.inl rfl)) _) (b1.set 0 (.int .i64 (c : Int))) (b2.setOther (p := ⟨d.cb p, 0, none⟩) hne.symm _))

set_option maxHeartbeats 2000000 in
set_option maxRecDepth 100000 in
theorem move_any {d : Di} {s : Sl} {w : World} (h : MIs d s w) (ok : s.Ok) (z cl : Int) :
    Calls Try.prog 23 #[.pointer (some ⟨d.P, 0, none⟩), .int .i64 z, .int .i64 cl] w fun e w' => e = .returned (.int .i64 (s.move z cl).1) ∧ ∃ d', Stp d s w d' (s.move z cl).2 w' := by
  rcases Sl.atP_cases ok z with ⟨hn, _⟩ | ⟨p, k, rfl, _, hk, hk'⟩
  · rw [Sl.move_none hn]
    have hg := granted_no h ok z hn
    have H := hid h
    clear h hn ok
    go_enter Try.func23, Try.ntmps23
    go_wp2_with fail
    refine hg.mono ?_
    rintro e w' ⟨rfl, rfl⟩
    clear hg
    go_wp2_with fail
    go_ret
    exact ⟨rfl, d, Stp.refl H.out⟩
  have hg := granted_yes h ok hk
  have f3 := h.k3 hk
  cases hc : k.closed with
  | false =>
    rw [Sl.move_open hk' hc]
    rw [hc] at f3
    have H := hid h
    clear h hk hk' ok hc
    go_enter Try.func23, Try.ntmps23
    go_wp2_with fail
    refine hg.mono ?_
    rintro e w' ⟨rfl, rfl⟩
    clear hg
    go_wp2_with fail
    go_ret
    exact ⟨rfl, d, Stp.refl H.out⟩
  | true =>
    rw [hc] at f3
    have hic := isClass_any h cl
    rcases s.class_cases cl with ⟨hb, _⟩ | ⟨c, rfl, hcl, hb⟩
    · rw [Sl.move_bad hk' hc hb]
      rw [hb] at hic
      have H := hid h
      clear h hk hk' ok hc hb
      go_enter Try.func23, Try.ntmps23
      go_wp2_with fail
      refine hg.mono ?_
      rintro e w' ⟨rfl, rfl⟩
      clear hg
      go_wp2_with fail
      refine hic.mono ?_
      rintro e w' ⟨rfl, rfl⟩
      clear hic
      go_wp2_with fail
      go_ret
      exact ⟨rfl, d, Stp.refl H.out⟩
    · rw [hb] at hic
      have f2 := h.k2 hk
      by_cases ht : 0 < tru k.used
      · rw [Sl.move_busy hk' hc hb ht]
        have ht' : (0 : Int) < ((tru k.used : Nat) : Int) := by omega
        have H := hid h
        clear h hk hk' ok hc hb
        go_enter Try.func23, Try.ntmps23
        go_wp2_with fail
        refine hg.mono ?_
        rintro e w' ⟨rfl, rfl⟩
        clear hg
        go_wp2_with fail
        refine hic.mono ?_
        rintro e w' ⟨rfl, rfl⟩
        clear hic
        go_wp2_with fail
        go_ret
        exact ⟨rfl, d, Stp.refl H.out⟩
      · rw [Sl.move_ok hk hc hb ht]
        have ht0 : tru k.used = 0 := by omega
        rw [ht0] at f2
        have c0 := h.h0
        have hn2 := ok.n2
        have hoB : ownB (c : Int) = true := by unfold ownB; rw [decide_eq_true_iff]; omega
        have hgr : grB s.a.ow (p : Int) = true := by
          unfold grB
          rw [ownerOf_at (ok.ct p k hk).1]
          simp
        have hps := pass_any h.ar (p : Int) (c : Int)
        have ep : s.a.pass (p : Int) (c : Int) = (0, s.a.setOw p (c : Int)) := by
          unfold St.pass
          rw [hgr, if_pos rfl, hoB, if_pos rfl, Int.toNat_natCast]
        rw [ep] at hps
        have hpo := Sl.passed_ok ok hk hc hcl ht
        have HX := hid (And.intro h (And.intro hk hc))
        have HO := hid hpo
        clear h hk hk' ok hb ht hoB hgr ep hpo
        go_enter Try.func23, Try.ntmps23
        go_wp2_with fail
        refine hg.mono ?_
        rintro e w' ⟨rfl, rfl⟩
        clear hg
        go_wp2_with fail
        refine hic.mono ?_
        rintro e w' ⟨rfl, rfl⟩
        clear hic
        go_wp2_with fail
        refine hps.mono ?_
        rintro e W ⟨rfl, ha, ho⟩
        obtain ⟨h, hk, hc⟩ := HX.out
        have hS := Stp.arena h (s.a.setOw p (c : Int)) rfl (ho.mono (fun _ h => .inl h)) ha
        have hk1 : ({ s with a := s.a.setOw p (c : Int) } : Sl).cut p = some k := hk
        have g0 := hS.m.k0 hk1
        have gf := (hS.m.cut _ _ hk1).1.frozen 0
        have hS2 := passed_cell hS hk
        have hop := open_any hS2.m HO.out (p : Int)
        rw [Sl.open_shut (s := s.passed p k c) (k := k.to c) (upd_same _ _ _) hc] at hop
        have H2 := hid hS2
        clear hps ha ho hS hk1 hS2 h hk hc HX HO f3 f2
        go_wp2_with fail
        refine hop.mono ?_
        rintro e w2 ⟨rfl, d2, h2⟩
        have H3 := hid h2
        clear hop h2
        go_wp2_with fail
        go_ret
        exact ⟨rfl, d2, H2.out.trans H3.out⟩
end Go.Proofs.Ytldfpacdlephcaa

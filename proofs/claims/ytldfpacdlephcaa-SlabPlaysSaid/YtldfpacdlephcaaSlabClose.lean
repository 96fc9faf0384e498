/-
  Package slab at this program: Close, of any slab and any page. No conditions but that the number is an int's.
-/
import Derived.Test.YtldfpacdlephcaaSlabHeld
namespace Go.Proofs.Ytldfpacdlephcaa
open Go Go.RowKit Go.Lib

def Ct.shut (k : Ct) (b : Bool) : Ct := { k with closed := b }
/-- A page is closed: its chunks leave the row. -/
def Sl.shut (s : Sl) (p : Nat) (k : Ct) : Sl := (s.setCut p (k.shut true)).setRow k.cls (keep p (s.rows k.cls))
def Sl.close (s : Sl) (z : Int) : Int × Sl := match s.atP z with | none => (7, s) | some k => if k.closed = true then (7, s) else (0, s.shut z.toNat k)
theorem Sl.close_none {s : Sl} {z : Int} (h : s.atP z = none) : s.close z = (7, s) := by unfold Sl.close; rw [h]
theorem Sl.close_shut {s : Sl} {z : Int} {k : Ct} (h : s.atP z = some k) (hc : k.closed = true) : s.close z = (7, s) := by unfold Sl.close; rw [h]; exact if_pos hc
theorem Sl.close_open {s : Sl} {p : Nat} {k : Ct} (h : s.cut p = some k) (hc : k.closed = false) : s.close (p : Int) = (0, s.shut p k) := by
  unfold Sl.close
  rw [s.atP_nat, h]
  show (if k.closed = true then _ else _) = _
  rw [hc, if_neg (by decide), Int.toNat_natCast]

theorem Sl.shut_ok {s : Sl} (h : s.Ok) {p : Nat} {k : Ct} (hk : s.cut p = some k) : (s.shut p k).Ok := by
  obtain ⟨h1, h2, h3, h4⟩ := h.ct p k hk
  refine ⟨h.ao, h.n1, h.n2, h.sz, fun q l hl => ?_, fun q hq hql => ?_, fun c x hc hx => ?_, fun c hc => ?_⟩
  · have hl' : upd s.cut p (some (k.shut true)) q = some l := hl
    by_cases e : q = p
    · subst e
      rw [upd_same] at hl'
      cases hl'
      exact ⟨h1, h2, h3, h4⟩
    · rw [upd_ne _ _ e] at hl'
      exact h.ct q l hl'
  · have hq' : upd s.cut p (some (k.shut true)) q = none := hq
    by_cases e : q = p
    · subst e
      rw [upd_same] at hq'; cases hq'
    · rw [upd_ne _ _ e] at hq'
      exact h.no q hq' hql
  · have hx' : x ∈ upd s.rows k.cls (keep p (s.rows k.cls)) c := hx
    have hx2 : x ∈ s.rows c ∧ x / 4096 ≠ p := by
      by_cases e : c = k.cls
      · subst e
        rw [upd_same] at hx'
        obtain ⟨a1, a2⟩ := List.mem_filter.1 hx'
        exact ⟨a1, by simpa [other] using a2⟩
      · rw [upd_ne _ _ e] at hx'
        refine ⟨hx', fun e2 => ?_⟩
        obtain ⟨k2, hk2, hc2, _⟩ := h.rw c x hc hx'
        rw [e2, hk] at hk2
        cases hk2
        exact e hc2.symm
    obtain ⟨k2, hk2, r⟩ := h.rw c x hc hx2.1
    refine ⟨k2, ?_, r⟩
    show upd s.cut p _ (x / 4096) = _
    rw [upd_ne _ _ hx2.2]; exact hk2
  · show (upd s.rows k.cls (keep p (s.rows k.cls)) c).Nodup
    by_cases e : c = k.cls
    · subst e
      rw [upd_same]
      exact (h.nd _ hc).filter _
    · rw [upd_ne _ _ e]; exact h.nd c hc
theorem Sl.Ok.closeOk {s : Sl} (h : s.Ok) (z : Int) : (s.close z).2.Ok := by
  rcases Sl.atP_cases h z with ⟨hn, _⟩ | ⟨p, k, rfl, _, hk, hk'⟩
  · rw [Sl.close_none hn]; exact h
  · cases hc : k.closed with
    | true => rw [Sl.close_shut hk' hc]; exact h
    | false => rw [Sl.close_open hk hc]; exact Sl.shut_ok h hk

theorem shut_cell {d : Di} {s : Sl} {w : World} (h : MIs d s w) {p : Nat} {k : Ct} (hk : s.cut p = some k) (b : Bool) : Stp d s w d (s.setCut p (k.shut b)) (w.setCell ⟨d.cb p, 3, none⟩ (.bool b)) := by
  obtain ⟨b1, b2⟩ := h.cut _ k hk
  have hne : d.cb p ≠ d.ub p := b1.ne b2 (by decide)
  exact Stp.cut h hk (k.shut b) ((Only.refl (fun b => b = d.cb p ∨ b = d.ub p) w).setCell (p := ⟨d.cb p, 3, none⟩) (.inl (.inl rfl)) _) (b1.set 3 (.bool b)) (b2.setOther (p := ⟨d.cb p, 3, none⟩) hne.symm _)

theorem alloc_stp {d : Di} {s : Sl} {w : World} (h : MIs d s w) (o : Obj) : Stp d s w d s (w.alloc o) := Stp.after ((Below.refl _ w).alloc (Nat.le_refl _) o) (Stp.refl (h.alloc o))

set_option maxHeartbeats 2000000 in
set_option maxRecDepth 100000 in
theorem close_no {d : Di} {s : Sl} {w : World} (h : MIs d s w) (ok : s.Ok) (z : Int) (hz : s.close z = (7, s)) :
    Calls Try.prog 22 #[.pointer (some ⟨d.P, 0, none⟩), .int .i64 z] w fun e w' => e = .returned (.int .i64 7) ∧ ∃ d', Stp d s w d' s w' := by
  have h0 := h.alloc (.cells #[.int .i64 z] 3)
  have hB : (w.alloc (.cells #[.int .i64 z] 3)).cell? ⟨w.heap.size, 0, none⟩ = some (.int .i64 z) := (Blk.new w #[.int .i64 z] 3).cell rfl
  rcases Sl.atP_cases ok z with ⟨hn, _⟩ | ⟨p, k, rfl, _, hk, hk'⟩
  · have hg := granted_no h0 ok z hn
    have H := hid h
    clear h h0 hn ok hz
    go_enter Try.func22, Try.ntmps22
    go_wp2_with fail
    refine hg.mono ?_
    rintro e w' ⟨rfl, rfl⟩
    clear hg
    go_wp2_with fail
    go_ret
    exact ⟨rfl, d, alloc_stp H.out _⟩
  · have hcl : k.closed = true := by
      cases hc : k.closed with
      | true => rfl
      | false => rw [Sl.close_open hk hc] at hz; cases hz
    have hg := granted_yes h0 ok hk
    have f3 := h0.k3 hk
    rw [hcl] at f3
    have H := hid h
    clear h h0 hk hk' ok hz hcl
    go_enter Try.func22, Try.ntmps22
    go_wp2_with fail
    refine hg.mono ?_
    rintro e w' ⟨rfl, rfl⟩
    clear hg
    go_wp2_with fail
    go_ret
    exact ⟨rfl, d, alloc_stp H.out _⟩

/-- Behind the row's cut. -/
theorem close_end {d : Di} {s s1 : Sl} {w W w2 : World} {p : Nat} {k : Ct} (hS : Stp d s w d s1 W) (hc : k.cls < s1.sz.length) {a : Option Addr} {c : Nat} (hown : w2.ownsRow 0 3 1 (.slice a (keep p (s1.rows k.cls)).length c) (keep p (s1.rows k.cls)).length (nc (keep p (s1.rows k.cls))))
    (hv : (Value.slice a (keep p (s1.rows k.cls)).length c).ownBlock = (d.rv k.cls).ownBlock) (ho : Only (fun b => (d.rv k.cls).ownBlock = some b) W.drew w2) :
    ∃ d', Stp d s w d' (s1.setRow k.cls (keep p (s1.rows k.cls))) (w2.setCell ⟨d.R, k.cls, none⟩ (.slice a (keep p (s1.rows k.cls)).length c)) :=
  ⟨_, hS.trans (Stp.row hS.m hc _ _ ((Only.refl _ W).drew.trans ho (fun _ h => .inl h)) hown (fun _ hb => .inl (hv.symm.trans hb)))⟩

/-- What the row's cut reads. -/
def CloS (P R q c n : Nat) (v : Value) (w : World) : Prop :=
  w.cell? ⟨P, 2, none⟩ = some (.slice (some ⟨R, 0, none⟩) n n) ∧ w.cell? ⟨q, 0, none⟩ = some (.int .i64 (c : Int)) ∧ w.cell? ⟨R, c, none⟩ = some v

set_option maxHeartbeats 8000000 in
set_option maxRecDepth 100000 in
theorem close_yes {d : Di} {s : Sl} {w : World} (h : MIs d s w) (ok : s.Ok) {p : Nat} {k : Ct} (hk : s.cut p = some k) (hcl : k.closed = false) :
    Calls Try.prog 22 #[.pointer (some ⟨d.P, 0, none⟩), .int .i64 p] w fun e w' => e = .returned (.int .i64 0) ∧ ∃ d', Stp d s w d' (s.shut p k) w' := by
  obtain ⟨W0, hW0⟩ : ∃ W0, W0 = w.alloc (.cells #[.int .i64 p] 3) := ⟨_, rfl⟩
  have bw : Below w.heap.size w W0 := by rw [hW0]; exact (Below.refl _ w).alloc (Nat.le_refl _) _
  have h0 := h.below bw
  have hB : W0.cell? ⟨w.heap.size, 0, none⟩ = some (.int .i64 (p : Int)) := by rw [hW0]; exact (Blk.new w #[.int .i64 p] 3).cell rfl
  have hg := granted_yes h0 ok hk
  have f3 := h0.k3 hk
  rw [hcl] at f3
  have ff := (h0.cut _ k hk).1.frozen 3
  have hkc := (ok.ct p k hk).2.1
  have hne : d.cb p ≠ w.heap.size := fun e => by have := h.lt (foot_cb hk); omega
  have S0 := shut_cell h0 hk true
  obtain ⟨W1, hW1⟩ : ∃ W1, W1 = W0.setCell ⟨d.cb p, 3, none⟩ (.bool true) := ⟨_, rfl⟩
  have S1 : Stp d s w d (s.setCut p (k.shut true)) W1 := by rw [hW1]; exact Stp.after bw S0
  have hk1 : (s.setCut p (k.shut true)).cut p = some (k.shut true) := upd_same _ _ _
  have g2 := S1.m.h2
  obtain ⟨gr, gf⟩ := S1.m.hr (c := k.cls) hkc
  have gc := S1.m.k0 hk1
  have hown := S1.m.row k.cls hkc
  have lP := S1.m.lt (foot_P _ _)
  have lR := S1.m.lt (foot_R _ _)
  have lK := S1.m.lt (foot_cb hk1)
  have nP : (d.rv k.cls).ownBlock ≠ some d.P := fun e => by
    obtain ⟨cs, hB⟩ := own_blk hown e
    exact hB.ne S1.m.head (by decide) rfl
  have nR : (d.rv k.cls).ownBlock ≠ some d.R := fun e => by
    obtain ⟨cs, hB⟩ := own_blk hown e
    exact hB.ne S1.m.rws (by decide) rfl
  have nK : (d.rv k.cls).ownBlock ≠ some (d.cb p) := fun e => by
    obtain ⟨cs, hB⟩ := own_blk hown e
    exact hB.ne (S1.m.cut _ _ hk1).1 (by decide) rfl
  have nB : (d.rv k.cls).ownBlock ≠ some w.heap.size := fun e => by
    obtain ⟨cs, hB⟩ := own_blk (h.row k.cls hkc) e
    have := hB.lt; omega
  have hB1 : W1.cell? ⟨w.heap.size, 0, none⟩ = some (.int .i64 (p : Int)) := by
    rw [hW1]
    exact (World.cell?_setCell_far _ _ _ _ hne).trans hB
  have hdel := delf_any (d.rv k.cls) (s.rows k.cls) p w.heap.size W1.drew (Nat.le_trans (ok.row_len hkc) (by decide)) (fun x hx => by
    obtain ⟨k2, hk2, _⟩ := ok.rw k.cls x hkc hx
    have := ok.cut_1024 hk2
    omega) hown.drew hB1 nB
  have HE := hid (fun (w2 : World) a c => close_end (w2 := w2) (p := p) S1 (k := k) hkc (a := a) (c := c))
  have HL : Hid (s.shut p k = (s.setCut p (k.shut true)).setRow k.cls (keep p (s.rows k.cls))) := hid rfl
  have q1 : (k.cls : Int) < (s.sz.length : Int) := by omega
  have q0 : (0 : Int) ≤ (k.cls : Int) := by omega
  have HW0 := hid hW0
  have HW1 := hid hW1
  have HO := hid hown
  obtain ⟨ra, rc, hrv⟩ := row_form hown
  have hrows : (s.setCut p (k.shut true)).rows k.cls = s.rows k.cls := rfl
  rw [hrows] at hrv
  have g3 := g2
  have gk : W1.cell? ⟨d.cb p, 0, none⟩ = some (.int .i64 (k.cls : Int)) := gc
  rw [hrv] at gr hdel nP nR nK
  have hsz : (s.setCut p (k.shut true)).sz.length = s.sz.length := rfl
  rw [hsz] at g2
  clear h ok h0 hk hcl S0 S1 hk1 hown nB hW0 hW1 gc hrows g3 hsz bw
  have HRV := hid hrv
  clear hrv
  generalize hRL : (s.rows k.cls).length = rn at *
  clear hRL
  go_enter Try.func22, Try.ntmps22
  go_wp2_with fail
  rw [← HW0.out]
  refine hg.mono ?_
  rintro e w' ⟨rfl, rfl⟩
  clear hg
  go_wp2_with fail
  rw [← HW1.out]
  clear HW0 HW1 hB f3 ff
  have hS : CloS d.P d.R (d.cb p) k.cls s.sz.length (.slice ra rn rc) W1.drew := ⟨g2, gk, gr⟩
  refine wp_region_E (CloS d.P d.R (d.cb p) k.cls s.sz.length (.slice ra rn rc)) 21 (by kernel_rfl) ?_
  --TAKES wpAnyE_take | 3 | 0=.pointer (some ⟨d.P, 0, none⟩) ; 1=.pointer (some ⟨d.P, 0, none⟩) ; 2=.pointer (some ⟨d.P, 2, none⟩) ; 3=.slice (some ⟨d.R, 0, none⟩) s.sz.length s.sz.length ; 4=.pointer (some ⟨d.cb p, 0, none⟩) ; 5=.pointer (some ⟨d.cb p, 0, none⟩) ; 6=.pointer (some ⟨d.cb p, 0, none⟩) ; 7=.int .i64 (k.cls : Int) ; 8=.pointer (some ⟨d.P, 0, none⟩) ; 9=.pointer (some ⟨d.P, 0, none⟩) ; 10=.pointer (some ⟨d.P, 2, none⟩) ; 11=.slice (some ⟨d.R, 0, none⟩) s.sz.length s.sz.length ; 12=.pointer (some ⟨d.cb p, 0, none⟩) ; 13=.pointer (some ⟨d.cb p, 0, none⟩) ; 14=.pointer (some ⟨d.cb p, 0, none⟩) ; 15=.int .i64 (k.cls : Int) ; 16=.pointer (some ⟨d.R, k.cls, none⟩) ; 17=.slice ra rn rc ; 18=.func (.func 55) #[] #[.pointer (some ⟨w.heap.size, 0, none⟩)]
  refine wpAnyE_take (i := 0) (v := .pointer (some ⟨d.P, 0, none⟩)) rfl (by kernel_rfl) (by kernel_rfl) (by kernel_rfl) (fun _ _ _ h => h) (by kernel_rfl) (by kernel_rfl) hS (Or.inl ⟨by rfl, ?_⟩) ?_
  · intro w' hw'
    obtain ⟨s0, s1, s2⟩ := hw'
    go_simp
  refine wpAnyE_take (i := 1) (v := .pointer (some ⟨d.P, 0, none⟩)) rfl (by kernel_rfl) (by kernel_rfl) (by kernel_rfl) (fun _ _ _ h => h) (by kernel_rfl) (by kernel_rfl) hS (Or.inl ⟨by rfl, ?_⟩) ?_
  · intro w' hw'
    obtain ⟨s0, s1, s2⟩ := hw'
    go_simp
  refine wpAnyE_take (i := 2) (v := .pointer (some ⟨d.P, 2, none⟩)) rfl (by kernel_rfl) (by kernel_rfl) (by kernel_rfl) (fun _ _ _ h => h) (by kernel_rfl) (by kernel_rfl) hS (Or.inl ⟨by rfl, ?_⟩) ?_
  · intro w' hw'
    obtain ⟨s0, s1, s2⟩ := hw'
    go_simp
  refine wpAnyE_take (i := 3) (v := .slice (some ⟨d.R, 0, none⟩) s.sz.length s.sz.length) rfl (by kernel_rfl) (by kernel_rfl) (by kernel_rfl) (fun _ _ _ h => h) (by kernel_rfl) (by kernel_rfl) hS (Or.inl ⟨by rfl, ?_⟩) ?_
  · intro w' hw'
    obtain ⟨s0, s1, s2⟩ := hw'
    go_simp
  refine wpAnyE_take (i := 4) (v := .pointer (some ⟨d.cb p, 0, none⟩)) rfl (by kernel_rfl) (by kernel_rfl) (by kernel_rfl) (fun _ _ _ h => h) (by kernel_rfl) (by kernel_rfl) hS (Or.inl ⟨by rfl, ?_⟩) ?_
  · intro w' hw'
    obtain ⟨s0, s1, s2⟩ := hw'
    go_simp
  refine wpAnyE_take (i := 5) (v := .pointer (some ⟨d.cb p, 0, none⟩)) rfl (by kernel_rfl) (by kernel_rfl) (by kernel_rfl) (fun _ _ _ h => h) (by kernel_rfl) (by kernel_rfl) hS (Or.inl ⟨by rfl, ?_⟩) ?_
  · intro w' hw'
    obtain ⟨s0, s1, s2⟩ := hw'
    go_simp
  refine wpAnyE_take (i := 6) (v := .pointer (some ⟨d.cb p, 0, none⟩)) rfl (by kernel_rfl) (by kernel_rfl) (by kernel_rfl) (fun _ _ _ h => h) (by kernel_rfl) (by kernel_rfl) hS (Or.inl ⟨by rfl, ?_⟩) ?_
  · intro w' hw'
    obtain ⟨s0, s1, s2⟩ := hw'
    go_simp
  refine wpAnyE_take (i := 7) (v := .int .i64 (k.cls : Int)) rfl (by kernel_rfl) (by kernel_rfl) (by kernel_rfl) (fun _ _ _ h => h) (by kernel_rfl) (by kernel_rfl) hS (Or.inl ⟨by rfl, ?_⟩) ?_
  · intro w' hw'
    obtain ⟨s0, s1, s2⟩ := hw'
    go_simp
  refine wpAnyE_take (i := 8) (v := .pointer (some ⟨d.P, 0, none⟩)) rfl (by kernel_rfl) (by kernel_rfl) (by kernel_rfl) (fun _ _ _ h => h) (by kernel_rfl) (by kernel_rfl) hS (Or.inl ⟨by rfl, ?_⟩) ?_
  · intro w' hw'
    obtain ⟨s0, s1, s2⟩ := hw'
    go_simp
  refine wpAnyE_take (i := 9) (v := .pointer (some ⟨d.P, 0, none⟩)) rfl (by kernel_rfl) (by kernel_rfl) (by kernel_rfl) (fun _ _ _ h => h) (by kernel_rfl) (by kernel_rfl) hS (Or.inl ⟨by rfl, ?_⟩) ?_
  · intro w' hw'
    obtain ⟨s0, s1, s2⟩ := hw'
    go_simp
  refine wpAnyE_take (i := 10) (v := .pointer (some ⟨d.P, 2, none⟩)) rfl (by kernel_rfl) (by kernel_rfl) (by kernel_rfl) (fun _ _ _ h => h) (by kernel_rfl) (by kernel_rfl) hS (Or.inl ⟨by rfl, ?_⟩) ?_
  · intro w' hw'
    obtain ⟨s0, s1, s2⟩ := hw'
    go_simp
  refine wpAnyE_take (i := 11) (v := .slice (some ⟨d.R, 0, none⟩) s.sz.length s.sz.length) rfl (by kernel_rfl) (by kernel_rfl) (by kernel_rfl) (fun _ _ _ h => h) (by kernel_rfl) (by kernel_rfl) hS (Or.inl ⟨by rfl, ?_⟩) ?_
  · intro w' hw'
    obtain ⟨s0, s1, s2⟩ := hw'
    go_simp
  refine wpAnyE_take (i := 12) (v := .pointer (some ⟨d.cb p, 0, none⟩)) rfl (by kernel_rfl) (by kernel_rfl) (by kernel_rfl) (fun _ _ _ h => h) (by kernel_rfl) (by kernel_rfl) hS (Or.inl ⟨by rfl, ?_⟩) ?_
  · intro w' hw'
    obtain ⟨s0, s1, s2⟩ := hw'
    go_simp
  refine wpAnyE_take (i := 13) (v := .pointer (some ⟨d.cb p, 0, none⟩)) rfl (by kernel_rfl) (by kernel_rfl) (by kernel_rfl) (fun _ _ _ h => h) (by kernel_rfl) (by kernel_rfl) hS (Or.inl ⟨by rfl, ?_⟩) ?_
  · intro w' hw'
    obtain ⟨s0, s1, s2⟩ := hw'
    go_simp
  refine wpAnyE_take (i := 14) (v := .pointer (some ⟨d.cb p, 0, none⟩)) rfl (by kernel_rfl) (by kernel_rfl) (by kernel_rfl) (fun _ _ _ h => h) (by kernel_rfl) (by kernel_rfl) hS (Or.inl ⟨by rfl, ?_⟩) ?_
  · intro w' hw'
    obtain ⟨s0, s1, s2⟩ := hw'
    go_simp
  refine wpAnyE_take (i := 15) (v := .int .i64 (k.cls : Int)) rfl (by kernel_rfl) (by kernel_rfl) (by kernel_rfl) (fun _ _ _ h => h) (by kernel_rfl) (by kernel_rfl) hS (Or.inl ⟨by rfl, ?_⟩) ?_
  · intro w' hw'
    obtain ⟨s0, s1, s2⟩ := hw'
    go_simp
  refine wpAnyE_take (i := 16) (v := .pointer (some ⟨d.R, k.cls, none⟩)) rfl (by kernel_rfl) (by kernel_rfl) (by kernel_rfl) (fun _ _ _ h => h) (by kernel_rfl) (by kernel_rfl) hS (Or.inl ⟨by rfl, ?_⟩) ?_
  · intro w' hw'
    obtain ⟨s0, s1, s2⟩ := hw'
    go_simp
  refine wpAnyE_take (i := 17) (v := .slice ra rn rc) rfl (by kernel_rfl) (by kernel_rfl) (by kernel_rfl) (fun _ _ _ h => h) (by kernel_rfl) (by kernel_rfl) hS (Or.inl ⟨by rfl, ?_⟩) ?_
  · intro w' hw'
    obtain ⟨s0, s1, s2⟩ := hw'
    go_simp
  refine wpAnyE_take (i := 18) (v := .func (.func 55) #[] #[.pointer (some ⟨w.heap.size, 0, none⟩)]) rfl (by kernel_rfl) (by kernel_rfl) (by kernel_rfl) (fun _ _ _ h => h) (by kernel_rfl) (by kernel_rfl) hS (Or.inl ⟨by rfl, ?_⟩) ?_
  · intro w' hw'
    obtain ⟨s0, s1, s2⟩ := hw'
    go_simp
  --END
  refine wpAnyE_one (i := 19) rfl (by kernel_rfl) (fun K hK => ?_)
  go_simp
  refine hdel.mono ?_
  rintro e w2 ⟨a', c', rfl, ho1, ho2, ho3⟩
  have e2 := (ho3.cell (p := ⟨d.P, 2, none⟩) lP nP).trans g2
  have ek := (ho3.cell (p := ⟨d.cb p, 0, none⟩) lK nK).trans gk
  have er := (ho3.cell (p := ⟨d.R, k.cls, none⟩) lR nR).trans gr
  have ef := (ho3.frozen (p := ⟨d.R, k.cls, none⟩) lR nR).trans gf
  clear hS
  have hS : CloS d.P d.R (d.cb p) k.cls s.sz.length (.slice ra rn rc) w2 := ⟨e2, ek, er⟩
  refine hK _ _ (fun _ => hS) ?_
  clear hK K
  --TAKES wpAnyE_take | 3 | 20=.pointer (some ⟨d.R, k.cls, none⟩)
  refine wpAnyE_take (i := 20) (v := .pointer (some ⟨d.R, k.cls, none⟩)) rfl (by kernel_rfl) (by kernel_rfl) (by kernel_rfl) (fun _ _ _ h => h) (by kernel_rfl) (by kernel_rfl) hS (Or.inl ⟨by rfl, ?_⟩) ?_
  · intro w' hw'
    obtain ⟨s0, s1, s2⟩ := hw'
    go_simp
  --END
  refine wpAnyE_one (i := 21) rfl (by kernel_rfl) (fun K hK => ?_)
  go_simp
  refine hK _ _ (fun h => (by cases (show true = false from h))) (wpAnyE_done (by kernel_rfl) ?_ _)
  clear hK K
  go_wp2_with fail
  go_ret
  refine ⟨rfl, ?_⟩
  rw [HL.out]
  exact HE.out w2 a' c' ho1 (by rw [HRV.out]; exact ho2) (by rw [HRV.out]; exact ho3)
end Go.Proofs.Ytldfpacdlephcaa

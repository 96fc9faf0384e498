/-
  The document's own answer for layer 7 (ambryref07) at this program: Alloc, of any slab and any number. No conditions.
-/
import Derived.Test.YtldfpacdlephcaaSlabRefStep
import Derived.Test.YtldfpacdlephcaaSlabApartMath
import Derived.Deep.DeepCutAuto
namespace Go.Proofs.Ytldfpacdlephcaa
open Go Go.RowKit Go.Lib

theorem grant_some {s : St} {c p : Nat} (hc : c < 63) (hf : fi s.ow (-1) 0 = (p : Int)) : s.grant (c : Int) = ((p : Int), 0, s.setOw p (c : Int)) := by
  unfold St.grant
  have h1 : ownB (c : Int) = true := by unfold ownB; rw [decide_eq_true_iff]; omega
  rw [h1, if_pos rfl, hf, if_neg (by omega), Int.toNat_natCast]
theorem grant_full {s : St} {c : Nat} (hc : c < 63) (hf : fi s.ow (-1) 0 = -1) : s.grant (c : Int) = (-1, 5, s) := by
  unfold St.grant
  have h1 : ownB (c : Int) = true := by unfold ownB; rw [decide_eq_true_iff]; omega
  rw [h1, if_pos rfl, hf, if_pos rfl]
theorem Ag.cutUp {s : Sl} {tk cl : List Nat} (h : Ag s tk cl) (ok : s.Ok) {p c : Nat} (hp : s.a.ow[p]? = some (-1)) : Ag (s.cutUp p c) tk cl := by
  have hn := Sl.free_cut ok hp
  refine h.same (fun x => ?_) (fun q => ?_)
  · by_cases e : x / 4096 = p
    · have hc : (s.cutUp p c).cut (x / 4096) = some (newCut s.U c) := by rw [e]; exact upd_same _ _ _
      have hy : s.cut (x / 4096) = none := by rw [e]; exact hn
      unfold Sl.usedN
      rw [hc, hy]
      show (List.replicate s.U false).getD (x % 4096) false = false
      rw [List.getD, List.getElem?_replicate]
      split <;> rfl
    · have hc : (s.cutUp p c).cut (x / 4096) = s.cut (x / 4096) := upd_ne _ _ e
      unfold Sl.usedN
      rw [hc]
  · show (∃ k, upd s.cut p (some (newCut s.U c)) q = some k ∧ k.closed = true) ↔ _
    by_cases e : q = p
    · subst e
      rw [upd_same, hn]
      constructor
      · rintro ⟨k, h1, h2⟩
        cases h1
        cases h2
      · rintro ⟨k, h1, _⟩
        cases h1
    · rw [upd_ne _ _ e]

/-- What the region behind the loop reads. -/
def TkS (P : Nat) (v : Value) (w : World) : Prop := w.cell? ⟨P, 3, none⟩ = some v ∧ w.frozen? ⟨P, 3, none⟩ = false
theorem TkS.below {P : Nat} {v : Value} {w w' : World} (h : TkS P v w) (hb : Below w.heap.size w w') : TkS P v w' := by
  have hl := cell_lt h.1
  exact ⟨(hb.cell (p := ⟨P, 3, none⟩) hl).trans h.1, (hb.frozen (p := ⟨P, 3, none⟩) hl).trans h.2⟩
theorem alloc_drew (w : World) (o : Obj) : Below w.heap.size w (w.alloc o).drew := by
  have h : Below w.heap.size w (w.alloc o) := Below.alloc (Below.refl _ _) (Nat.le_refl _) _
  exact ⟨h.os, h.tape, h.output, h.size, h.block⟩
theorem alloc2_drew (w : World) (o o2 : Obj) : Below w.heap.size w ((w.alloc o).alloc o2).drew := by
  have h1 : Below w.heap.size w (w.alloc o) := Below.alloc (Below.refl _ _) (Nat.le_refl _) _
  have h := h1.alloc h1.size o2
  exact ⟨h.os, h.tape, h.output, h.size, h.block⟩
theorem below_app {w0 W w1 : World} {v : Value} (hb : Below w0.heap.size w0 W) (hg : W.grownBy w1 v.ownBlock) (hv : ∀ b, v.ownBlock = some b → w0.heap.size ≤ b) : Below w0.heap.size w0 w1 :=
  ⟨hg.os.trans hb.os, hg.tape.trans hb.tape, hg.output.trans hb.output, Nat.le_trans hb.size hg.size, fun k hk => (hg.block k (Nat.lt_of_lt_of_le hk hb.size) (fun e => by have := hv k e.symm; omega)).trans (hb.block k hk)⟩
theorem own_none2 (w : World) (o : Obj) (e : TypeId) : ((w.alloc o).alloc (.cells #[] e)).ownsRow w.heap.size e 1 (.slice (some ⟨w.heap.size + 1, 0, none⟩) 0 0) 0 [] := by
  have h := own_none (w.alloc o) w.heap.size e (by rw [World.size_alloc]; omega)
  rw [World.size_alloc] at h
  exact h
theorem one_cell2 (w : World) (o : Obj) (x : Value) (t : TypeId) : ∀ j u, [x][j]? = some u → ((w.alloc o).alloc (.cells #[x] t)).cell? ((⟨w.heap.size + 1, 0, none⟩ : Addr).add j) = some u := fun j u hj => by
  have h := one_cell (w.alloc o) x t j u hj
  rw [World.size_alloc] at h
  exact h
/-- The chunk on top is taken. -/
theorem take_ag {s : Sl} {tk cl : List Nat} (ag : Ag s tk cl) (ok : s.Ok) {c x : Nat} {l : List Nat} (hc : c < s.sz.length) (hl : s.rows c = l ++ [x]) {k : Nat} (h1 : ∀ y ∈ tk.take k, y < x) (h2 : ∀ y ∈ tk.drop k, x < y) :
    Ag ((s.setRow c l).mark x true) (([] ++ tk.take k) ++ [x] ++ tk.drop k) cl := by
  obtain ⟨_, hT, _⟩ := take_trn ok hc hl
  exact ag.ins h1 h2 hT.us (fun p => (mark_shut (s := s.setRow c l) x true p))

set_option maxHeartbeats 8000000 in
set_option maxRecDepth 100000 in
theorem ref_alloc_some {d : Dr} {s s1 : Sl} {tk cl l : List Nat} {c x : Nat} {w : World} (h : RM d (rf s tk cl) w) (ok : s.Ok) (ag : Ag s tk cl) (hc : c < s.sz.length) (ok1 : s1.Ok) (ag1 : Ag s1 tk cl) (hsz : s1.sz = s.sz) (hl : s1.rows c = l ++ [x])
    (hway : (s.rows c ≠ [] ∧ s1 = s) ∨ (s.rows c = [] ∧ ∃ p, fi s.a.ow (-1) 0 = ((p : Nat) : Int) ∧ s.a.ow[p]? = some (-1) ∧ s1 = s.grown p c)) :
    Calls Try.prog 35 #[.pointer (some ⟨d.P, 0, none⟩), .int .i64 c] w fun e w' => e = .returned (.tuple #[.int .i64 (x : Int), .int .i64 0]) ∧ ∃ d' tk', RStp d (rf s tk cl) w d' (rf ((s1.setRow c l).mark x true) tk' cl) w' ∧ Ag ((s1.setRow c l).mark x true) tk' cl := by
  obtain ⟨i0, hi0, hz0, hz1, hz2⟩ := info_parts infoInt
  have c1 := h.h1
  have c2 := h.h2
  have c0 := h.h0
  obtain ⟨cr, fr⟩ := h.hr (c := c) hc
  have hown := h.row c (by show c < s.sz.length + 2; omega)
  rw [rf_row hc] at hown
  obtain ⟨a, cp, hv⟩ := row_form hown
  rw [hv] at cr
  have es : (rf s tk cl).sz.length = s.sz.length := rfl
  rw [es] at c1 c2
  have q1 : (c : Int) < (s.sz.length : Int) := by omega
  have hn63 := ok.n2
  have hll := ok.row_len hc
  have HH := hid h
  have OK := hid ok
  have AG := hid ag
  have OK1 := hid ok1
  have AG1 := hid ag1
  have HL := hid hl
  have HSZ := hid hsz
  have hxu : s1.usedN x = false := (take_trn ok1 (by rw [hsz]; exact hc) hl).1
  have hx4 : x < 4194304 := by
    obtain ⟨k, hk, _⟩ := ok1.rw c x (by rw [hsz]; exact hc) (by rw [hl]; simp)
    have := ok1.cut_1024 hk
    omega
  have HXU := hid hxu
  have htl := ag.tlen ok
  clear h ok ag ok1 ag1 hl hsz hown hv fr es hxu
  go_enter Try.func35, Try.ntmps35
  go_upto_if 30 with fail
  go_cut [6, 7] from 11 to 45 (fun _ _ wx => ∃ d1, Hid (RStp d (rf s tk cl) w d1 (rf s1 tk cl) wx))
  case first =>
    rcases hway with ⟨hne, rfl⟩ | ⟨he, p, hf, hp, rfl⟩
    · have hpos : 0 < (s1.rows c).length := List.length_pos_iff.2 hne
      have hz : ((((s1.rows c).length : Nat) : Int) == 0) = false := beq_eq_false_iff_ne.2 (by omega)
      have HR := hid (RStp.refl HH.out)
      clear HH OK AG OK1 AG1 HL HSZ HXU hne
      generalize (s1.rows c).length = m at *
      go_wp2_with fail
      go_meet
      exact ⟨d, HR⟩
    · have hln : (s.rows c).length = 0 := by rw [he]; rfl
      rw [hln]
      have hg := ref_grant HH.out.ar (c : Int)
      have ea : (rf s tk cl).a = s.a := rfl
      rw [ea, grant_some (by omega) hf] at hg
      have HP := hid hp
      have hp4 : p < 1024 := by
        have := (List.getElem?_eq_some_iff.1 hp).1
        have := OK.out.ao.n2
        omega
      clear he hf hp hln cr OK1 AG1 HL HSZ HXU c2 c1 ea
      go_wp2_with fail
      refine hg.mono ?_
      rintro e w1 ⟨rfl, ha, hO⟩
      have hS := RStp.arena HH.out ha (fun i b hb => .inl hb) (hO.mono (fun b hb => .inl hb))
      have e1 : ({ rf s tk cl with a := s.a.setOw p (c : Int) } : Rf) = rf (s.cutUp p c) tk cl := rfl
      rw [e1] at hS
      have hlay := ref_lay hS.m (Sl.cutUp_ok OK.out hc HP.out) (AG.out.cutUp OK.out HP.out) (Sl.cutUp_cut s p c)
      have HS := hid hS
      clear hg ha hO hS c0 e1
      go_wp2_with fail
      refine hlay.mono ?_
      rintro e w2 ⟨⟨v, rfl⟩, d2, hS2⟩
      have HS2 := hid (HS.out.trans hS2)
      clear hlay hS2
      go_wp2_with fail
      go_meet
      exact ⟨d2, HS2⟩
  case rest =>
  obtain ⟨d1, HS⟩ := hcut
  clear hway c0 c1 c2 cr HH OK AG a cp
  have c2 := HS.out.m.h2
  have es : (rf s1 tk cl).sz.length = s.sz.length := congrArg List.length HSZ.out
  rw [es] at c2
  have hc1 : c < s1.sz.length := by rw [HSZ.out]; exact hc
  obtain ⟨cr, fr⟩ := HS.out.m.hr (c := c) hc1
  have hown := HS.out.m.row c (by show c < s1.sz.length + 2; omega)
  rw [rf_row hc1, HL.out] at hown
  obtain ⟨g, cp, hv, hcp, hcx, -⟩ := own_cell hown (i := l.length) (x := x) (by simp)
  rw [hv] at cr hown
  have hlen : (l ++ [x]).length = l.length + 1 := by simp
  rw [hlen] at hcp cr
  have hrow := own_pop hown
  have hll1 := OK1.out.row_len hc1
  rw [HL.out, hlen] at hll1
  have hS1 := RStp.row HS.out.m (c := c) (by show c < s1.sz.length + 2; omega) (.slice (some ⟨g, 0, none⟩) l.length cp) l (Only.refl _ _) hrow (fun b hb => .inl (by rw [hv]; exact hb))
  have e1 : rowAt d1 (rf s1 tk cl).sz.length c = ⟨d1.R, c, none⟩ := rowAt_row hc1
  rw [rf_setRow hc1, e1] at hS1
  obtain ⟨d2, hd2⟩ : ∃ d2 : Dr, d2 = { d1 with rv := upd d1.rv c (.slice (some ⟨g, 0, none⟩) l.length cp) } := ⟨_, rfl⟩
  rw [← hd2] at hS1
  have hP1 : d1.P = d.P := HS.out.p
  have hP2 : d2.P = d.P := by rw [hd2]; exact hP1
  rw [hP1] at c2
  have HS2 := hid (HS.out.trans hS1.drew)
  have hm2 := HS2.out.m
  have t3 := hm2.h3
  rw [hP2] at t3
  have et : (rf (s1.setRow c l) tk cl).rows (rf (s1.setRow c l) tk cl).sz.length = tk := rf_tk (s1.setRow c l) tk cl
  have htr := hm2.row (rf (s1.setRow c l) tk cl).sz.length (by omega)
  rw [et] at htr
  obtain ⟨ta, tc, hvt⟩ := row_form htr
  have HVT := hid hvt
  rw [hvt] at t3 htr
  have HTR := hid htr
  obtain ⟨t3, tf3⟩ := t3
  have hTl : tk.length ≤ 4194304 := htl
  have gg1 : (l.length : Int) ≤ (cp : Int) := by omega
  have HP2 := hid hP2
  have lP := hm2.head.lt
  rw [hP2] at lP
  obtain ⟨W2, hW2⟩ : ∃ W2, W2 = (wc.setCell ⟨d1.R, c, none⟩ (.slice (some ⟨g, 0, none⟩) l.length cp)).drew := ⟨_, rfl⟩
  rw [← hW2] at t3 tf3 htr HTR HS2 lP
  have HTK : Hid (∀ (j t : Nat), tk[j]? = some t → ∃ g, ta = some ⟨g, 0, none⟩ ∧ W2.cell? ⟨g, j, none⟩ = some (.int .i64 (t : Int))) := hid (fun j t hj => by
    obtain ⟨g, c2, e, _, h1, _⟩ := own_cell htr hj
    cases e
    exact ⟨g, rfl, h1⟩)
  have hT2 : W2.heap.size = W2.heap.size := rfl
  clear HS hown hrow hv hS1 hd2 hP1 hP2 hm2 et htr hvt e1 es hlen hc1 hT2
  have HW2 := hid hW2
  clear hW2
  generalize hLL : l.length = L at *
  go_wp2_with fail
  go_region
  rw [← HW2.out]
  clear cr fr hcx c2 gg1 hcp hll1 HW2
  obtain ⟨T, hT⟩ : ∃ T, T = tk.length := ⟨_, rfl⟩
  rw [← hT] at t3 HTR hTl HVT
  have HT := hid hT
  clear hT
  go_wp2_with fail
  go_loop [10] (fun i => ∃ k : Nat, k ≤ T ∧ i = .int .i64 k ∧ Hid (∀ y ∈ tk.take k, y < x)) (fun i => T - (intOf i).toNat)
  case atStart => exact ⟨0, Nat.zero_le _, rfl, hid (fun y hy => by simp at hy)⟩
  case round =>
    obtain ⟨k, hk, rfl, HK⟩ := hrel
    by_cases hlt : ∃ t, tk[k]? = some t ∧ t < x
    · obtain ⟨t, ht, htx⟩ := hlt
      have hkT : k < T := by rw [HT.out]; exact (List.getElem?_eq_some_iff.1 ht).1
      have ik : (k : Int) < (T : Int) := by omega
      obtain ⟨g2, rfl, hct⟩ := HTK.out k t ht
      have itx : (t : Int) < (x : Int) := by omega
      have HK' : Hid (∀ y ∈ tk.take (k + 1), y < x) := hid (fun y hy => by
        rw [List.take_add_one, ht] at hy
        rcases List.mem_append.1 hy with hy | hy
        · exact HK.out y hy
        · simp at hy; subst hy; exact htx)
      clear ht HK HTK HTR HVT HS2 HL
      go_wp2_with fail
      go_round
      case rel => exact ⟨k + 1, by omega, by go_num, HK'⟩
      case measure => simp [intOf] <;> omega
    · have hcase : (¬ (k : Int) < (T : Int)) ∨ ∃ t, tk[k]? = some t ∧ x < t := by
        by_cases hkT : k < T
        · obtain ⟨t, ht⟩ : ∃ t, tk[k]? = some t := ⟨_, List.getElem?_eq_getElem (by rw [← HT.out]; exact hkT)⟩
          refine .inr ⟨t, ht, ?_⟩
          have h1 : ¬ t < x := fun h => hlt ⟨t, ht, h⟩
          have h2 : t ≠ x := fun e => by
            have := (AG1.out.mem x).1 (by rw [← e]; exact List.mem_of_getElem? ht)
            rw [HXU.out] at this; cases this
          omega
        · exact .inl (by omega)
      have H2 : Hid (∀ y ∈ tk.drop k, x < y) := hid (by
        rcases hcase with h | ⟨t, ht, hxt⟩
        · intro y hy
          rw [List.drop_eq_nil_of_le (by rw [← HT.out]; omega)] at hy; cases hy
        · exact srt_drop AG1.out.srt ht hxt)
      go_upto_region 12 with fail
      go_cut [97] from 80 to 99 (fun b wx => wx = W2 ∧ b = .bool false)
      case first =>
        rcases hcase with h | ⟨t, ht, hxt⟩
        · clear HTK HTR HVT HS2 HL HK H2 hlt
          go_wp2_with fail
          go_meet
          exact ⟨rfl, rfl⟩
        · have hkT : k < T := by rw [HT.out]; exact (List.getElem?_eq_some_iff.1 ht).1
          have ik : (k : Int) < (T : Int) := by omega
          obtain ⟨g2, rfl, hct⟩ := HTK.out k t ht
          have itx : ¬ (t : Int) < (x : Int) := by omega
          clear HTK HTR HVT HS2 HL HK H2 hlt ht
          go_wp2_with fail
          go_meet
          exact ⟨rfl, rfl⟩
      case rest =>
      obtain ⟨rfl, rfl⟩ := hcut
      clear hcase hlt HTK
      obtain ⟨x117, hx117⟩ : ∃ x117 : Value, (ta = none → x117 = .slice none 0 0) ∧ (∀ tg, ta = some ⟨tg, 0, none⟩ → x117 = .slice (if tc = k then some ⟨tg, 0, none⟩ else some ⟨tg, k, none⟩) (T - k) (tc - k)) := by
        cases ta with
        | none => exact ⟨_, fun _ => rfl, fun tg e => by cases e⟩
        | some ad => exact ⟨.slice (if tc = k then some ⟨ad.block, 0, none⟩ else some ⟨ad.block, k, none⟩) (T - k) (tc - k), fun e => (by cases e), fun tg e => by cases e; rfl⟩
      have hta : (ta = none ∧ T = 0 ∧ tc = 0) ∨ ∃ tg, ta = some ⟨tg, 0, none⟩ ∧ T ≤ tc := by
        rcases HTR.out.2 with ⟨e, h0⟩ | ⟨g', cap, cur, e, _, _, hle, _⟩
        · cases e
          exact .inl ⟨rfl, rfl, rfl⟩
        · cases e
          exact .inr ⟨g', rfl, hle⟩
      have hS : TkS d.P (.slice ta T tc) wc.drew := ⟨t3, tf3⟩
      go_wp2_with fail
      have hkc : (k : Int) ≤ (tc : Int) := by
        rcases hta with ⟨_, h1, h2⟩ | ⟨_, _, h1⟩ <;> omega
      have hkT : (k : Int) ≤ (T : Int) := by omega
      have hTc : (T : Int) ≤ (tc : Int) := by
        rcases hta with ⟨_, h1, h2⟩ | ⟨_, _, h1⟩ <;> omega
      refine wp_region_E (TkS d.P (.slice ta T tc)) 21 (by kernel_rfl) ?_
      --TAKES wpAnyE_take | 2 | 0=.pointer (some ⟨d.P, 0, none⟩) ; 2=.pointer (some ⟨d.P, 0, none⟩) ; 3=.pointer (some ⟨d.P, 0, none⟩) ; 4=.pointer (some ⟨d.P, 3, none⟩) ; 5=.slice ta T tc ; 6=.int .i64 (k : Int)
      refine wpAnyE_take (i := 0) (v := .pointer (some ⟨d.P, 0, none⟩)) rfl (by kernel_rfl) (by kernel_rfl) (by kernel_rfl) (fun _ _ _ h => h) (by kernel_rfl) (by kernel_rfl) hS (Or.inl ⟨by rfl, ?_⟩) ?_
      · intro w' hw'
        obtain ⟨s0, s1⟩ := hw'
        go_simp
      refine wpAnyE_take (i := 2) (v := .pointer (some ⟨d.P, 0, none⟩)) rfl (by kernel_rfl) (by kernel_rfl) (by kernel_rfl) (fun _ _ _ h => h) (by kernel_rfl) (by kernel_rfl) hS (Or.inl ⟨by rfl, ?_⟩) ?_
      · intro w' hw'
        obtain ⟨s0, s1⟩ := hw'
        go_simp
      refine wpAnyE_take (i := 3) (v := .pointer (some ⟨d.P, 0, none⟩)) rfl (by kernel_rfl) (by kernel_rfl) (by kernel_rfl) (fun _ _ _ h => h) (by kernel_rfl) (by kernel_rfl) hS (Or.inl ⟨by rfl, ?_⟩) ?_
      · intro w' hw'
        obtain ⟨s0, s1⟩ := hw'
        go_simp
      refine wpAnyE_take (i := 4) (v := .pointer (some ⟨d.P, 3, none⟩)) rfl (by kernel_rfl) (by kernel_rfl) (by kernel_rfl) (fun _ _ _ h => h) (by kernel_rfl) (by kernel_rfl) hS (Or.inl ⟨by rfl, ?_⟩) ?_
      · intro w' hw'
        obtain ⟨s0, s1⟩ := hw'
        go_simp
      refine wpAnyE_take (i := 5) (v := .slice ta T tc) rfl (by kernel_rfl) (by kernel_rfl) (by kernel_rfl) (fun _ _ _ h => h) (by kernel_rfl) (by kernel_rfl) hS (Or.inl ⟨by rfl, ?_⟩) ?_
      · intro w' hw'
        obtain ⟨s0, s1⟩ := hw'
        go_simp
      refine wpAnyE_take (i := 6) (v := .int .i64 (k : Int)) rfl (by kernel_rfl) (by kernel_rfl) (by kernel_rfl) (fun _ _ _ h => h) (by kernel_rfl) (by kernel_rfl) hS (Or.inl ⟨by rfl, ?_⟩) ?_
      · intro w' hw'
        obtain ⟨s0, s1⟩ := hw'
        go_simp
      --END
      refine wpAnyE_take (i := 7) (v := .slice ta k tc) rfl (by kernel_rfl) (by kernel_rfl) (by kernel_rfl) (fun _ _ _ h => h) (by kernel_rfl) (by kernel_rfl) hS (Or.inl ⟨by rfl, ?_⟩) ?_
      · intro w' hw'
        rcases hta with ⟨rfl, rfl, rfl⟩ | ⟨tg, rfl, hle⟩
        · obtain rfl : k = 0 := by omega
          go_simp
        · go_simp
      --TAKES wpAnyE_take | 2 | 9=.int .i64 (x : Int) ; 12=.pointer (some ⟨d.P, 0, none⟩) ; 13=.pointer (some ⟨d.P, 0, none⟩) ; 14=.pointer (some ⟨d.P, 3, none⟩) ; 15=.slice ta T tc ; 16=.int .i64 (k : Int)
      refine wpAnyE_take (i := 9) (v := .int .i64 (x : Int)) rfl (by kernel_rfl) (by kernel_rfl) (by kernel_rfl) (fun _ _ _ h => h) (by kernel_rfl) (by kernel_rfl) hS (Or.inl ⟨by rfl, ?_⟩) ?_
      · intro w' hw'
        obtain ⟨s0, s1⟩ := hw'
        go_simp
      refine wpAnyE_take (i := 12) (v := .pointer (some ⟨d.P, 0, none⟩)) rfl (by kernel_rfl) (by kernel_rfl) (by kernel_rfl) (fun _ _ _ h => h) (by kernel_rfl) (by kernel_rfl) hS (Or.inl ⟨by rfl, ?_⟩) ?_
      · intro w' hw'
        obtain ⟨s0, s1⟩ := hw'
        go_simp
      refine wpAnyE_take (i := 13) (v := .pointer (some ⟨d.P, 0, none⟩)) rfl (by kernel_rfl) (by kernel_rfl) (by kernel_rfl) (fun _ _ _ h => h) (by kernel_rfl) (by kernel_rfl) hS (Or.inl ⟨by rfl, ?_⟩) ?_
      · intro w' hw'
        obtain ⟨s0, s1⟩ := hw'
        go_simp
      refine wpAnyE_take (i := 14) (v := .pointer (some ⟨d.P, 3, none⟩)) rfl (by kernel_rfl) (by kernel_rfl) (by kernel_rfl) (fun _ _ _ h => h) (by kernel_rfl) (by kernel_rfl) hS (Or.inl ⟨by rfl, ?_⟩) ?_
      · intro w' hw'
        obtain ⟨s0, s1⟩ := hw'
        go_simp
      refine wpAnyE_take (i := 15) (v := .slice ta T tc) rfl (by kernel_rfl) (by kernel_rfl) (by kernel_rfl) (fun _ _ _ h => h) (by kernel_rfl) (by kernel_rfl) hS (Or.inl ⟨by rfl, ?_⟩) ?_
      · intro w' hw'
        obtain ⟨s0, s1⟩ := hw'
        go_simp
      refine wpAnyE_take (i := 16) (v := .int .i64 (k : Int)) rfl (by kernel_rfl) (by kernel_rfl) (by kernel_rfl) (fun _ _ _ h => h) (by kernel_rfl) (by kernel_rfl) hS (Or.inl ⟨by rfl, ?_⟩) ?_
      · intro w' hw'
        obtain ⟨s0, s1⟩ := hw'
        go_simp
      --END
      refine wpAnyE_take (i := 17) (v := x117) rfl (by kernel_rfl) (by kernel_rfl) (by kernel_rfl) (fun _ _ _ h => h) (by kernel_rfl) (by kernel_rfl) hS (Or.inl ⟨by rfl, ?_⟩) ?_
      · intro w' hw'
        rcases hta with ⟨rfl, rfl, rfl⟩ | ⟨tg, rfl, hle⟩
        · obtain rfl : k = 0 := by omega
          obtain rfl := hx117.1 rfl
          go_simp
        · obtain rfl := hx117.2 tg rfl
          go_simp
      have hsX : Srcs wc x117 (T - k) (nc ((tk.drop k).take (T - k))) := by
        have h1 := HTR.out
        rw [HT.out] at h1
        refine srcs_part (a := ta) h1 ?_ rfl (by rw [← HT.out]; omega)
        rcases hta with ⟨h2, h3, h4⟩ | ⟨tg, h2, h3⟩
        · exact .inr ⟨h2, hx117.1 h2⟩
        · refine .inl ⟨tg, tc - k, h2, ?_⟩
          rw [hx117.2 tg h2]
          by_cases e : tc = k
          · rw [if_pos e]
            have e2 : T - k = 0 := by omega
            rw [e2]
            exact .inr ⟨rfl, _, rfl⟩
          · rw [if_neg e]
            exact .inl rfl
      have hsK : Srcs wc (.slice ta k tc) k (nc ((tk.drop 0).take k)) := by
        have h1 := HTR.out
        rw [HT.out] at h1
        refine srcs_part (a := ta) h1 ?_ rfl (by rw [← HT.out]; omega)
        rcases hta with ⟨h2, h3, h4⟩ | ⟨tg, h2, h3⟩
        · refine .inr ⟨h2, ?_⟩
          obtain rfl : k = 0 := by omega
          rw [h2, h4]
        · exact .inl ⟨tg, tc, h2, .inl (by rw [h2])⟩
      rw [List.drop_zero] at hsK
      have HFIN : Hid (∀ v3 w7, w7.ownsRow wc.heap.size 3 1 v3 (k + 1 + (T - k)) ((([] ++ nc (tk.take k)) ++ [.int .i64 (x : Int)]) ++ nc ((tk.drop k).take (T - k))) → Below wc.heap.size wc w7 → ∃ d' tk', RStp d (rf s tk cl) w d' (rf ((s1.setRow c l).mark x true) tk' cl) (w7.setCell ⟨d.P, 3, none⟩ v3) ∧ Ag ((s1.setRow c l).mark x true) tk' cl) := hid (fun v3 w7 hown b7 => by
        have hag := take_ag AG1.out OK1.out (c := c) (by rw [HSZ.out]; exact hc) HL.out HK.out H2.out
        have e1 : (([] ++ nc (tk.take k)) ++ [Value.int .i64 (x : Int)]) ++ nc ((tk.drop k).take (T - k)) = nc (([] ++ tk.take k) ++ [x] ++ tk.drop k) := by
          rw [List.take_of_length_le (l := tk.drop k) (by rw [List.length_drop, ← HT.out]; exact Nat.le_refl _)]
          simp [nc]
        have e2 : k + 1 + (T - k) = (([] ++ tk.take k) ++ [x] ++ tk.drop k).length := by
          rw [ins_len tk x (by rw [← HT.out]; exact hk), ← HT.out]; omega
        rw [e1, e2] at hown
        have hS := RStp.row HS2.out.m (c := (rf (s1.setRow c l) tk cl).sz.length) (by omega) v3 _ (Below.only b7) (own_base hown (Nat.zero_le _)) (fun b hb => .inr (own_ge hown b hb))
        have e3 : rowAt d2 (rf (s1.setRow c l) tk cl).sz.length (rf (s1.setRow c l) tk cl).sz.length = ⟨d2.P, 3, none⟩ := rowAt_taken _ _
        rw [e3, HP2.out] at hS
        have e4 : ({ rf (s1.setRow c l) tk cl with rows := upd (rf (s1.setRow c l) tk cl).rows (rf (s1.setRow c l) tk cl).sz.length (([] ++ tk.take k) ++ [x] ++ tk.drop k) } : Rf) = rf (s1.setRow c l) (([] ++ tk.take k) ++ [x] ++ tk.drop k) cl := rf_setTk
        rw [e4] at hS
        have key := HS2.out.trans hS
        rw [← rf_mark (s1.setRow c l) x true (([] ++ tk.take k) ++ [x] ++ tk.drop k) cl] at key
        exact ⟨_, _, key, hag⟩)
      have HSX := hid hsX
      have HSK := hid hsK
      have HX117 := hid hx117
      have HTA := hid hta
      clear hsX hsK hx117 hta HS2 HVT HTR HX117 HTA HL HSZ OK1 AG1 HXU HK H2
      have bA : Below wc.heap.size wc (wc.alloc (.cells #[] 3)).drew := alloc_drew wc _
      have bX : Below wc.heap.size wc (wc.alloc (.cells #[.int .i64 (x : Int)] 3)).drew := alloc_drew wc _
      have hTS : TkS d.P (.slice ta T tc) wc := hS
      refine wpAnyE_two (i := 1) (j := 10) rfl rfl (by kernel_rfl) (fun K hK => ?_) (fun K hK => ?_)
      · go_simp
        refine hK _ _ (fun _ => hTS.below bA) ?_
        clear hK K
        refine wpAnyE_two (i := 8) (j := 10) rfl rfl (by kernel_rfl) (fun K hK => ?_) (fun K hK => ?_)
        · refine step_append_src _ (by rfl) _ _ _ (by rfl) wc.heap.size 3 i0 _ 8 Try.underlying22 hi0 hz0 hz1 hz2 rfl (.slice (some ⟨wc.heap.size, 0, none⟩) 0 0) 0 [] (by rfl) ((own_none wc wc.heap.size 3 (Nat.le_refl _)).drew) _ k _ (by rfl) (HSK.out.below bA) (nc_one _) (by unfold maxLen; omega) (by omega) (by simp) k (Nat.zero_add k) ?_
          intro v1 w3 hown3 hg3 hat3
          have b3 := below_app bA hg3 (own_ge ((own_none wc wc.heap.size 3 (Nat.le_refl _)).drew))
          refine hK _ _ (fun _ => hTS.below b3) ?_
          clear hK K
          refine wpAnyE_one (i := 10) rfl (by kernel_rfl) (fun K hK => ?_)
          go_simp
          have b5 := b3.alloc b3.size (.cells #[.int .i64 (x : Int)] 3)
          have hA5 := hown3.alloc (.cells #[.int .i64 (x : Int)] 3)
          have sX5 : Srcs (w3.alloc (.cells #[.int .i64 (x : Int)] 3)) (.slice (some ⟨w3.heap.size, 0, none⟩) 1 1) 1 [.int .i64 (x : Int)] := .inl ⟨_, 1, rfl, rfl, one_cell w3 _ _⟩
          refine hK _ _ (fun _ => hTS.below b5) ?_
          clear hK K hg3 hat3 b3 hown3
          generalize (w3.alloc (.cells #[.int .i64 (x : Int)] 3)) = w5 at *
          refine wpAnyE_one (i := 11) rfl (by kernel_rfl) (fun K hK => ?_)
          refine step_append_src _ (by rfl) _ _ _ (by rfl) wc.heap.size 3 i0 _ 8 Try.underlying22 hi0 hz0 hz1 hz2 rfl v1 k _ (by rfl) hA5 _ 1 _ (by rfl) sX5 (one_ok _) (by unfold maxLen; omega) (by omega) b5.size (k + 1) rfl ?_
          intro v2 w6 hown6 hg6 hat6
          have b6 := below_app b5 hg6 (own_ge hA5)
          refine hK _ _ (fun _ => hTS.below b6) ?_
          clear hK K hg6 hat6 sX5 hA5
          refine wpAnyE_one (i := 18) rfl (by kernel_rfl) (fun K hK => ?_)
          refine step_append_src _ (by rfl) _ _ _ (by rfl) wc.heap.size 3 i0 _ 8 Try.underlying22 hi0 hz0 hz1 hz2 rfl v2 (k + 1) _ (by rfl) hown6 x117 (T - k) _ (by rfl) (HSX.out.below b6) (nc_one _) (by unfold maxLen; omega) (by omega) b6.size (k + 1 + (T - k)) rfl ?_
          intro v3 w7 hown7 hg7 hat7
          obtain ⟨a7, c7, rfl⟩ := row_form hown7
          have b7 := below_app b6 hg7 (own_ge hown6)
          have hS7 := hTS.below b7
          refine hK _ _ (fun _ => hS7) ?_
          clear hK K hg7 hat7 hown6 b5 b6
          refine wpAnyE_one (i := 19) rfl (by kernel_rfl) (fun K hK => ?_)
          go_simp
          refine hK _ _ (fun _ => hS7) ?_
          clear hK K
          refine wpAnyE_one (i := 20) rfl (by kernel_rfl) (fun K hK => ?_)
          go_simp
          refine hK _ _ (fun _ => hS7) ?_
          clear hK K
          refine wpAnyE_one (i := 21) rfl (by kernel_rfl) (fun K hK => ?_)
          obtain ⟨s0, s1'⟩ := hS7
          go_simp
          refine hK _ _ (fun h => (by cases (show true = false from h))) (wpAnyE_done (by kernel_rfl) ?_ _)
          clear hK K s0 s1' hS hTS bA bX
          have hfin := HFIN.out _ w7 hown7 b7
          clear hown7 b7 HFIN
          go_wp2_with fail
          go_ret2
          exact ⟨rfl, hfin⟩
        · go_simp
          have bAX : Below wc.heap.size wc ((wc.alloc (.cells #[] 3)).alloc (.cells #[.int .i64 (x : Int)] 3)).drew := alloc2_drew wc _ _
          refine hK _ _ (fun _ => hTS.below bAX) ?_
          clear hK K
          refine wpAnyE_one (i := 8) rfl (by kernel_rfl) (fun K hK => ?_)
          refine step_append_src _ (by rfl) _ _ _ (by rfl) wc.heap.size 3 i0 _ 8 Try.underlying22 hi0 hz0 hz1 hz2 rfl (.slice (some ⟨wc.heap.size, 0, none⟩) 0 0) 0 [] (by rfl) (((own_none wc wc.heap.size 3 (Nat.le_refl _)).alloc _).drew) _ k _ (by rfl) (HSK.out.below bAX) (nc_one _) (by unfold maxLen; omega) (by omega) bAX.size k (Nat.zero_add k) ?_
          intro v1 w5 hA5 hg5 hat5
          have b5 := below_app bAX hg5 (own_ge ((own_none wc wc.heap.size 3 (Nat.le_refl _)).drew))
          have sX5 : Srcs w5 (.slice (some ⟨wc.heap.size + 1, 0, none⟩) 1 1) 1 [.int .i64 (x : Int)] := .inl ⟨_, 1, rfl, rfl, fun j u hj => by
            have h1 := one_cell2 wc (.cells #[] 3) (.int .i64 (x : Int)) 3 j u hj
            have h2 := cell_lt h1
            refine (hg5.cell_far _ h2 ?_).trans h1
            rw [addr_plain]
            simp [Value.ownBlock]⟩
          refine hK _ _ (fun _ => hTS.below b5) ?_
          clear hK K hg5 hat5 bAX
          refine wpAnyE_one (i := 11) rfl (by kernel_rfl) (fun K hK => ?_)
          refine step_append_src _ (by rfl) _ _ _ (by rfl) wc.heap.size 3 i0 _ 8 Try.underlying22 hi0 hz0 hz1 hz2 rfl v1 k _ (by rfl) hA5 _ 1 _ (by rfl) sX5 (one_ok _) (by unfold maxLen; omega) (by omega) b5.size (k + 1) rfl ?_
          intro v2 w6 hown6 hg6 hat6
          have b6 := below_app b5 hg6 (own_ge hA5)
          refine hK _ _ (fun _ => hTS.below b6) ?_
          clear hK K hg6 hat6 sX5 hA5
          refine wpAnyE_one (i := 18) rfl (by kernel_rfl) (fun K hK => ?_)
          refine step_append_src _ (by rfl) _ _ _ (by rfl) wc.heap.size 3 i0 _ 8 Try.underlying22 hi0 hz0 hz1 hz2 rfl v2 (k + 1) _ (by rfl) hown6 x117 (T - k) _ (by rfl) (HSX.out.below b6) (nc_one _) (by unfold maxLen; omega) (by omega) b6.size (k + 1 + (T - k)) rfl ?_
          intro v3 w7 hown7 hg7 hat7
          obtain ⟨a7, c7, rfl⟩ := row_form hown7
          have b7 := below_app b6 hg7 (own_ge hown6)
          have hS7 := hTS.below b7
          refine hK _ _ (fun _ => hS7) ?_
          clear hK K hg7 hat7 hown6 b5 b6
          refine wpAnyE_one (i := 19) rfl (by kernel_rfl) (fun K hK => ?_)
          go_simp
          refine hK _ _ (fun _ => hS7) ?_
          clear hK K
          refine wpAnyE_one (i := 20) rfl (by kernel_rfl) (fun K hK => ?_)
          go_simp
          refine hK _ _ (fun _ => hS7) ?_
          clear hK K
          refine wpAnyE_one (i := 21) rfl (by kernel_rfl) (fun K hK => ?_)
          obtain ⟨s0, s1'⟩ := hS7
          go_simp
          refine hK _ _ (fun h => (by cases (show true = false from h))) (wpAnyE_done (by kernel_rfl) ?_ _)
          clear hK K s0 s1' hS hTS bA bX
          have hfin := HFIN.out _ w7 hown7 b7
          clear hown7 b7 HFIN
          go_wp2_with fail
          go_ret2
          exact ⟨rfl, hfin⟩
      · go_simp
        refine hK _ _ (fun _ => hTS.below bX) ?_
        clear hK K
        refine wpAnyE_one (i := 1) rfl (by kernel_rfl) (fun K hK => ?_)
        go_simp
        have bXA : Below wc.heap.size wc ((wc.alloc (.cells #[.int .i64 (x : Int)] 3)).alloc (.cells #[] 3)).drew := alloc2_drew wc _ _
        refine hK _ _ (fun _ => hTS.below bXA) ?_
        clear hK K
        refine wpAnyE_one (i := 8) rfl (by kernel_rfl) (fun K hK => ?_)
        refine step_append_src _ (by rfl) _ _ _ (by rfl) wc.heap.size 3 i0 _ 8 Try.underlying22 hi0 hz0 hz1 hz2 rfl (.slice (some ⟨wc.heap.size + 1, 0, none⟩) 0 0) 0 [] (by rfl) ((own_none2 wc _ 3).drew) _ k _ (by rfl) (HSK.out.below bXA) (nc_one _) (by unfold maxLen; omega) (by omega) bXA.size k (Nat.zero_add k) ?_
        intro v1 w5 hA5 hg5 hat5
        have b5 := below_app bXA hg5 (own_ge (own_none2 wc (.cells #[.int .i64 (x : Int)] 3) 3))
        have sX5 : Srcs w5 (.slice (some ⟨wc.heap.size, 0, none⟩) 1 1) 1 [.int .i64 (x : Int)] := .inl ⟨_, 1, rfl, rfl, fun j u hj => by
          have h1 := cell_alloc (one_cell wc (.int .i64 (x : Int)) 3 j u hj) (.cells #[] 3)
          have h2 := cell_lt h1
          refine (hg5.cell_far _ h2 ?_).trans h1
          rw [addr_plain]
          simp [Value.ownBlock]⟩
        refine hK _ _ (fun _ => hTS.below b5) ?_
        clear hK K hg5 hat5 bXA
        refine wpAnyE_one (i := 11) rfl (by kernel_rfl) (fun K hK => ?_)
        refine step_append_src _ (by rfl) _ _ _ (by rfl) wc.heap.size 3 i0 _ 8 Try.underlying22 hi0 hz0 hz1 hz2 rfl v1 k _ (by rfl) hA5 _ 1 _ (by rfl) sX5 (one_ok _) (by unfold maxLen; omega) (by omega) b5.size (k + 1) rfl ?_
        intro v2 w6 hown6 hg6 hat6
        have b6 := below_app b5 hg6 (own_ge hA5)
        refine hK _ _ (fun _ => hTS.below b6) ?_
        clear hK K hg6 hat6 sX5 hA5
        refine wpAnyE_one (i := 18) rfl (by kernel_rfl) (fun K hK => ?_)
        refine step_append_src _ (by rfl) _ _ _ (by rfl) wc.heap.size 3 i0 _ 8 Try.underlying22 hi0 hz0 hz1 hz2 rfl v2 (k + 1) _ (by rfl) hown6 x117 (T - k) _ (by rfl) (HSX.out.below b6) (nc_one _) (by unfold maxLen; omega) (by omega) b6.size (k + 1 + (T - k)) rfl ?_
        intro v3 w7 hown7 hg7 hat7
        obtain ⟨a7, c7, rfl⟩ := row_form hown7
        have b7 := below_app b6 hg7 (own_ge hown6)
        have hS7 := hTS.below b7
        refine hK _ _ (fun _ => hS7) ?_
        clear hK K hg7 hat7 hown6 b5 b6
        refine wpAnyE_one (i := 19) rfl (by kernel_rfl) (fun K hK => ?_)
        go_simp
        refine hK _ _ (fun _ => hS7) ?_
        clear hK K
        refine wpAnyE_one (i := 20) rfl (by kernel_rfl) (fun K hK => ?_)
        go_simp
        refine hK _ _ (fun _ => hS7) ?_
        clear hK K
        refine wpAnyE_one (i := 21) rfl (by kernel_rfl) (fun K hK => ?_)
        obtain ⟨s0, s1'⟩ := hS7
        go_simp
        refine hK _ _ (fun h => (by cases (show true = false from h))) (wpAnyE_done (by kernel_rfl) ?_ _)
        clear hK K s0 s1' hS hTS bA bX
        have hfin := HFIN.out _ w7 hown7 b7
        clear hown7 b7 HFIN
        go_wp2_with fail
        go_ret2
        exact ⟨rfl, hfin⟩
/-- What a call of the answer's leaves, and that it is what the slab is now. -/
def RGo (d : Dr) (s : Sl) (tk cl : List Nat) (w : World) (s' : Sl) (w' : World) : Prop := ∃ d' tk' cl', RStp d (rf s tk cl) w d' (rf s' tk' cl') w' ∧ Ag s' tk' cl'
theorem RGo.refl {d : Dr} {s : Sl} {tk cl : List Nat} {w : World} (h : RM d (rf s tk cl) w) (ag : Ag s tk cl) : RGo d s tk cl w s w := ⟨d, tk, cl, RStp.refl h, ag⟩
theorem RGo.more {d : Dr} {s s' : Sl} {tk cl : List Nat} {w w1 w2 : World} (h : RGo d s tk cl w s' w1) (hb : Below w1.heap.size w1 w2) : RGo d s tk cl w s' w2 := by
  obtain ⟨d', tk', cl', h1, h2⟩ := h
  exact ⟨d', tk', cl', h1.more hb, h2⟩

set_option maxHeartbeats 2000000 in
set_option maxRecDepth 100000 in
theorem ref_alloc {d : Dr} {s : Sl} {tk cl : List Nat} {w : World} (h : RM d (rf s tk cl) w) (ok : s.Ok) (ag : Ag s tk cl) (z : Int) :
    Calls Try.prog 35 #[.pointer (some ⟨d.P, 0, none⟩), .int .i64 z] w fun e w' => e = .returned (.tuple #[.int .i64 (s.alloc z).1, .int .i64 (s.alloc z).2.1]) ∧ RGo d s tk cl w (s.alloc z).2.2 w' := by
  have hgo := hid (RGo.refl h ag)
  have c1 := h.h1
  have c2 := h.h2
  have c0 := h.h0
  have es : (rf s tk cl).sz.length = s.sz.length := rfl
  rw [es] at c1 c2
  rcases s.class_cases z with ⟨hb, hcase⟩ | ⟨c, rfl, hc, hb⟩
  · rw [Sl.alloc_bad hb]
    clear h ok ag hb c0 c2 es
    generalize s.sz.length = n at *
    generalize hP : d.P = P at *
    generalize d.Z = Z at *
    generalize d.cZ = cz at *
    clear hP
    rcases hcase with g1 | ⟨g1, g2⟩
    · go_enter Try.func35, Try.ntmps35
      go_wp2_with fail
      go_ret2
      exact ⟨rfl, hgo.out⟩
    · have g3 : ¬ z < 0 := by omega
      go_enter Try.func35, Try.ntmps35
      go_wp2_with fail
      go_ret2
      exact ⟨rfl, hgo.out⟩
  · by_cases hl : s.rows c = []
    · rcases fi_cases s.a.ow with hf | ⟨p, hf, hp⟩
      · rw [Sl.alloc_full hb hl hf]
        obtain ⟨cr, fr⟩ := h.hr (c := c) hc
        have hown := h.row c (by show c < s.sz.length + 2; omega)
        rw [rf_row hc] at hown
        obtain ⟨a, cp, hv⟩ := row_form hown
        have hln : (s.rows c).length = 0 := by rw [hl]; rfl
        rw [hv, hln] at cr
        have q1 : (c : Int) < (s.sz.length : Int) := by omega
        have hn63 := ok.n2
        have hg := ref_grant h.ar (c : Int)
        have ea : (rf s tk cl).a = s.a := rfl
        rw [ea, grant_full (by omega) hf] at hg
        have HH := hid h
        have AG := hid ag
        clear h ok ag hb hl hf hown hv hln fr ea es
        go_enter Try.func35, Try.ntmps35
        go_wp2_with fail
        refine hg.mono ?_
        rintro e w1 ⟨rfl, ha, hO⟩
        have hS := RStp.arena HH.out ha (fun i b hb => .inl hb) (hO.mono (fun b hb => .inl hb))
        have HR : Hid (RGo d s tk cl w s w1) := hid ⟨_, tk, cl, hS, AG.out⟩
        clear hg ha hO hS c0 hgo
        go_wp2_with fail
        go_ret2
        exact ⟨rfl, HR.out⟩
      · obtain ⟨l, x, hgr⟩ := row_split (Sl.grown_some (p := p) ok hc)
        rw [Sl.alloc_grow hb hl hf hgr]
        have h1 := ref_alloc_some (s1 := s.grown p c) h ok ag hc (Sl.grown_ok ok hc hp) ((ag.cutUp ok hp).same (fun _ => rfl) (fun _ => Iff.rfl)) rfl hgr (.inr ⟨hl, p, hf, hp, rfl⟩)
        exact h1.mono fun e w' ⟨he, d', tk', h2, h3⟩ => ⟨he, d', tk', cl, h2, h3⟩
    · obtain ⟨l, x, hgr⟩ := row_split hl
      rw [Sl.alloc_row hb hgr]
      have h1 := ref_alloc_some (s1 := s) h ok ag hc ok ag rfl hgr (.inl ⟨hl, rfl⟩)
      exact h1.mono fun e w' ⟨he, d', tk', h2, h3⟩ => ⟨he, d', tk', cl, h2, h3⟩
end Go.Proofs.Ytldfpacdlephcaa

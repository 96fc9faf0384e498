/-
  The document's own answer for layer 7 (ambryref07) at this program: lay, of any slab. No conditions.
-/
import Derived.Test.YtldfpacdlephcaaSlabRefHas
import Derived.Deep.RegionLaw
import Derived.BigRegion
import Derived.Deep.AppendLies
namespace Go.Proofs.Ytldfpacdlephcaa
open Go Go.RowKit Go.Lib

theorem int_srcZ (w : World) (z : Int) (t : TypeId) : ∀ j u, [Value.int .i64 z][j]? = some u → ((w.alloc (.cells #[.int .i64 z] t)).drew).cell? ((⟨w.heap.size, 0, none⟩ : Addr).add j) = some u := fun j u hj => one_cell w _ t j u hj

theorem rpush_end {d : Dr} {s : Sl} {tk cl : List Nat} {w w1 : World} (h : RM d (rf s tk cl) w) {c : Nat} (hc : c < s.sz.length) {n : Nat} (hn : n = (s.rows c).length) (x g cap : Nat) {tmp : Obj} (hg : ((w.alloc tmp).drew).grownBy w1 (d.rv c).ownBlock) (hat : (d.rv c).ownBlock = some g ∨ g = w.heap.size + 1)
    (hown : w1.ownsRow 0 3 1 (.slice (some ⟨g, 0, none⟩) (n + 1) cap) (n + 1) (nc (s.rows c) ++ [.int .i64 (x : Int)])) :
    RStp d (rf s tk cl) w { d with rv := upd d.rv c (.slice (some ⟨g, 0, none⟩) (n + 1) cap) } (rf (s.push c x) tk cl) (w1.setCell ⟨d.R, c, none⟩ (.slice (some ⟨g, 0, none⟩) (n + 1) cap)) ∧ ∀ b, (Value.slice (some ⟨g, 0, none⟩) (n + 1) cap).ownBlock = some b → (d.rv c).ownBlock = some b ∨ w.heap.size ≤ b := by
  have hb : ∀ b, (Value.slice (some ⟨g, 0, none⟩) (n + 1) cap).ownBlock = some b → (d.rv c).ownBlock = some b ∨ w.heap.size ≤ b := fun b hb => by
    have e : g = b := by simpa [Value.ownBlock] using hb
    subst e
    rcases hat with e | e
    · exact .inl e
    · exact .inr (by omega)
  have hS := RStp.row h (c := c) (by show c < s.sz.length + 2; omega) (.slice (some ⟨g, 0, none⟩) (n + 1) cap) (s.rows c ++ [x]) (app_only hg) (by rw [← nc_app, List.length_append, ← hn]; exact hown) hb
  rw [rf_setRow hc] at hS
  have e : rowAt d (rf s tk cl).sz.length c = ⟨d.R, c, none⟩ := rowAt_row hc
  rw [e] at hS
  exact ⟨hS, hb⟩

/-- The slab, while its page is laid. -/
def RLay (d : Dr) (s : Sl) (tk cl : List Nat) (p : Nat) (k : Ct) (w : World) (pre : List (Nat × Bool)) (W : World) : Prop :=
  ∃ v, RStp d (rf s tk cl) w { d with rv := upd d.rv k.cls v } (rf (s.setRow k.cls (s.rows k.cls ++ layOf p pre)) tk cl) W ∧ (∀ b, v.ownBlock = some b → (d.rv k.cls).ownBlock = some b ∨ w.heap.size ≤ b)
theorem RLay.start {d : Dr} {s : Sl} {tk cl : List Nat} {w : World} (h : RM d (rf s tk cl) w) (p : Nat) (k : Ct) : RLay d s tk cl p k w [] w := by
  have e1 : upd d.rv k.cls (d.rv k.cls) = d.rv := funext fun i => by unfold upd; split <;> simp [*]
  have e2 : upd s.rows k.cls (s.rows k.cls) = s.rows := funext fun i => by unfold upd; split <;> simp [*]
  refine ⟨d.rv k.cls, ?_, fun b hb => .inl hb⟩
  have e3 : s.setRow k.cls (s.rows k.cls ++ layOf p []) = s := by
    show s.setRow k.cls (s.rows k.cls ++ []) = s
    rw [List.append_nil]; unfold Sl.setRow; rw [e2]
  rw [e3, e1]
  exact RStp.refl h
theorem RLay.skip {d : Dr} {s : Sl} {tk cl : List Nat} {w W : World} {p i : Nat} {k : Ct} {pre : List (Nat × Bool)} (h : RLay d s tk cl p k w pre W) : RLay d s tk cl p k w (pre ++ [(i, true)]) W := by
  unfold RLay; rw [layOf_skip]; exact h
theorem RLay.drew {d : Dr} {s : Sl} {tk cl : List Nat} {w W : World} {p : Nat} {k : Ct} {pre : List (Nat × Bool)} (h : RLay d s tk cl p k w pre W) (n : Nat) : RLay d s tk cl p k w pre (W.drewN n) := by
  obtain ⟨v, h1, h2⟩ := h
  exact ⟨v, h1.more (drewN_below W n), h2⟩

/-- One more chunk is laid. -/
theorem RLay.push {d : Dr} {s : Sl} {tk cl : List Nat} {w W w1 : World} {p i : Nat} {k : Ct} {pre : List (Nat × Bool)} (hc : k.cls < s.sz.length) {v : Value}
    (hS : RStp d (rf s tk cl) w { d with rv := upd d.rv k.cls v } (rf (s.setRow k.cls (s.rows k.cls ++ layOf p pre)) tk cl) W) (hv : ∀ b, v.ownBlock = some b → (d.rv k.cls).ownBlock = some b ∨ w.heap.size ≤ b)
    {n g cap : Nat} (hn : n = (s.rows k.cls ++ layOf p pre).length) {tmp : Obj} (hg : ((W.alloc tmp).drew).grownBy w1 v.ownBlock) (hat : v.ownBlock = some g ∨ g = W.heap.size + 1)
    (hown : w1.ownsRow 0 3 1 (.slice (some ⟨g, 0, none⟩) (n + 1) cap) (n + 1) (nc (s.rows k.cls ++ layOf p pre) ++ [.int .i64 ((4096 * p + i : Nat) : Int)])) :
    RLay d s tk cl p k w (pre ++ [(i, false)]) (w1.setCell ⟨d.R, k.cls, none⟩ (.slice (some ⟨g, 0, none⟩) (n + 1) cap)) := by
  have e0 : (s.setRow k.cls (s.rows k.cls ++ layOf p pre)).rows k.cls = s.rows k.cls ++ layOf p pre := upd_same _ _ _
  have e1 : ({ d with rv := upd d.rv k.cls v } : Dr).rv k.cls = v := upd_same _ _ _
  obtain ⟨h1, h2⟩ := rpush_end hS.m (c := k.cls) hc (n := n) (by rw [e0]; exact hn) (4096 * p + i) g cap (by rw [e1]; exact hg) (by rw [e1]; exact hat) (by rw [e0]; exact hown)
  rw [e1] at h2
  refine ⟨_, ?_, fun b hb => (h2 b hb).elim (hv b) (fun e => .inr (Nat.le_trans hS.only.size e))⟩
  have h3 := hS.trans h1
  have e2 : (s.setRow k.cls (s.rows k.cls ++ layOf p pre)).push k.cls (4096 * p + i) = s.setRow k.cls (s.rows k.cls ++ layOf p (pre ++ [(i, false)])) := by
    unfold Sl.push
    rw [e0, layOf_more, List.append_assoc]
    unfold Sl.setRow
    dsimp only
    congr 1
    exact funext fun j => by unfold upd; split <;> rfl
  have e3 : ({ ({ d with rv := upd d.rv k.cls v } : Dr) with rv := upd (upd d.rv k.cls v) k.cls (.slice (some ⟨g, 0, none⟩) (n + 1) cap) } : Dr) = { d with rv := upd d.rv k.cls (.slice (some ⟨g, 0, none⟩) (n + 1) cap) } := by rw [upd_upd]
  rw [e2] at h3
  rw [← e3]
  exact h3

set_option maxHeartbeats 4000000 in
set_option maxRecDepth 100000 in
theorem ref_lay {d : Dr} {s : Sl} {tk cl : List Nat} {w : World} (h : RM d (rf s tk cl) w) (ok : s.Ok) (ag : Ag s tk cl) {p : Nat} {k : Ct} (hk : s.cut p = some k) :
    Calls Try.prog 62 #[.pointer (some ⟨d.P, 0, none⟩), .int .i64 p] w fun e w' => (∃ v, e = .returned v) ∧ ∃ d', RStp d (rf s tk cl) w d' (rf (s.laid p k) tk cl) w' := by
  obtain ⟨i0, hi0, hz0, hz1, hz2⟩ := info_parts infoInt
  obtain ⟨k1, hkc, hul, k4⟩ := ok.ct _ k hk
  have hp := ok.cut_1024 hk
  have hU := ok.U_le
  obtain ⟨g1, g2⟩ := ok.per_le hkc
  have ho := ref_owner h.ar (p : Int)
  have eo : ownerOf (rf s tk cl).a.ow (p : Int) = (k.cls : Int) := ownerOf_at k1
  rw [eo] at ho
  have cP := perN h ok hkc
  have h0 := h.h0
  have h1 := h.h1
  have ha := h.ha
  have ea : (rf s tk cl).a = s.a := rfl
  have es : (rf s tk cl).sz = s.sz := rfl
  rw [ea] at ha
  rw [es] at h1
  have HS0 := hid (RLay.start h p k)
  have hrl := ok.row_len hkc
  have HU : Hid (∀ m, m < s.per k.cls → s.usedB (4096 * (p : Int) + (m : Int)) = k.used.getD m false) := hid (fun m hm => by
    have e : 4096 * (p : Int) + (m : Int) = ((4096 * p + m : Nat) : Int) := by omega
    have e1 : (4096 * p + m) / 4096 = p := by omega
    have e2 : (4096 * p + m) % 4096 = m := by omega
    have hu : k.used[m]? = some (k.used.getD m false) := by rw [List.getD, List.getElem?_eq_getElem (by omega)]; rfl
    rw [e, s.usedB_nat]
    exact Sl.usedN_of (k := k) (by rw [e1]; exact hk) (by rw [e2]; exact hu))
  have HOK := hid ok
  have HAG := hid ag
  have HKC := hid hkc
  obtain ⟨N, hN⟩ : ∃ N, N = s.per k.cls := ⟨_, rfl⟩
  have HLD : Hid (s.laid p k = s.setRow k.cls (s.rows k.cls ++ layOf p (back k.used N N))) := hid (by rw [hN]; rfl)
  rw [← hN] at cP HU g1 g2
  have hN1 : N ≤ 1024 := by omega
  have c1 : (k.cls : Int) < (s.sz.length : Int) := by omega
  have hcu : k.cls < 63 := by have := ok.n2; omega
  obtain ⟨z, hz⟩ : ∃ z, z = s.a.size := ⟨_, rfl⟩
  rw [← hz] at cP ha
  have hw0 : w.heap.size ≤ w.heap.size := Nat.le_refl _
  clear h ok ag hk k1 eo ea es hul k4 hU hN hz g2 hkc
  go_enter Try.func62, Try.ntmps62
  go_wp2_with fail
  refine ho.mono ?_
  rintro e w' ⟨rfl, rfl⟩
  clear ho
  go_wp2_with fail
  go_quiet (exact cP _)
  clear cP ha h1 h0
  have HS1 := hid (fun n => HS0.out.drew n)
  clear HS0
  obtain ⟨M, hM⟩ : ∃ M, N = M + 1 := ⟨N - 1, by omega⟩
  have HNM : Hid ((N : Int) - 1 = (M : Int)) := hid (by omega)
  have HM := hid hM
  clear hM
  go_wp2_with fail
  go_loopw [5] (fun i wr => ((∃ m : Nat, m < N ∧ i = .int .i64 m ∧ Hid (RLay d s tk cl p k w (back k.used N (M - m)) wr)) ∨ (i = .int .i64 (-1) ∧ Hid (RLay d s tk cl p k w (back k.used N N) wr)))) (fun i _ => (intOf i + 1).toNat)
  case atStart => exact .inl ⟨M, by have := HM.out; omega, by rw [HNM.out], hid (by rw [Nat.sub_self]; exact HS1.out _)⟩
  case round =>
    clear HS1
    rcases hrel with ⟨m, hm, rfl, HL⟩ | ⟨rfl, HL⟩
    · obtain ⟨v, hS, hv⟩ := HL.out
      have hu := ref_usedT hS.m (by
        show ((rf _ tk cl).rows s.sz.length).length ≤ _
        have e : (rf (s.setRow k.cls (s.rows k.cls ++ layOf p (back k.used N (M - m)))) tk cl).rows s.sz.length = tk := rf_tk (s.setRow k.cls (s.rows k.cls ++ layOf p (back k.used N (M - m)))) tk cl
        rw [e]; exact Nat.le_trans (HAG.out.tlen HOK.out) (by decide)) (4096 * (p : Int) + (m : Int))
      have e : (rf (s.setRow k.cls (s.rows k.cls ++ layOf p (back k.used N (M - m)))) tk cl).rows (rf (s.setRow k.cls (s.rows k.cls ++ layOf p (back k.used N (M - m)))) tk cl).sz.length = tk := rf_tk (s.setRow k.cls (s.rows k.cls ++ layOf p (back k.used N (M - m)))) tk cl
      rw [e, HAG.out.used, HU.out m hm] at hu
      have eb : back k.used N (M - m + 1) = back k.used N (M - m) ++ [(m, k.used.getD m false)] := by
        rw [back_succ]
        have e : N - 1 - (M - m) = m := by have := HM.out; omega
        rw [e]
      have hfin : ∀ W, RLay d s tk cl p k w (back k.used N (M - m + 1)) W → (∃ m' : Nat, m' < N ∧ Value.int .i64 ((m : Int) - 1) = .int .i64 m' ∧ Hid (RLay d s tk cl p k w (back k.used N (M - m')) W)) ∨ (Value.int .i64 ((m : Int) - 1) = .int .i64 (-1) ∧ Hid (RLay d s tk cl p k w (back k.used N N) W)) := fun W hW => by
        cases m with
        | zero => exact .inr ⟨by go_num, hid (by rw [Nat.sub_zero, ← HM.out] at hW; exact hW)⟩
        | succ m =>
          refine .inl ⟨m, by omega, by go_num, hid ?_⟩
          have e : M - m = M - (m + 1) + 1 := by have := HM.out; omega
          rw [e]; exact hW
      have HFIN := hid hfin
      rw [eb] at HFIN
      have q2 : (m : Int) ≤ 1024 := by omega
      have q3 : (p : Int) ≤ 1024 := by omega
      have q4 : IntKind.i64.wrap (4096 * (p : Int)) = 4096 * (p : Int) := IntWalk.i64_in _ (by omega)
      have q5 : IntKind.i64.wrap (4096 * (p : Int) + (m : Int)) = 4096 * (p : Int) + (m : Int) := IntWalk.i64_in _ (by omega)
      cases hb : k.used.getD m false with
      | true =>
        rw [hb] at hu HFIN
        have HL2 := hid (HL.out.skip (i := m))
        clear hS hv e eb hfin hb HL HU HAG HOK
        go_wp2_with fail
        refine hu.mono ?_
        rintro e w' ⟨rfl, rfl⟩
        clear hu
        go_wp2_with fail
        go_roundw
        case rel => first | exact HFIN.out _ HL2.out | ((repeat apply Exists.intro); exact ⟨HFIN.out _ HL2.out, rfl⟩)
        case measure => simp [intOf] <;> omega
      | false =>
        rw [hb] at hu HFIN
        have c2 := hS.m.h2
        have es : (rf (s.setRow k.cls (s.rows k.cls ++ layOf p (back k.used N (M - m)))) tk cl).sz.length = s.sz.length := rfl
        rw [es] at c2
        obtain ⟨cr, fr⟩ := hS.m.hr (c := k.cls) HKC.out
        have hown := hS.m.row k.cls (by show k.cls < s.sz.length + 2; have := HKC.out; omega)
        have lP := hS.m.head.lt
        have lR := hS.m.rws.lt
        have er : (rf (s.setRow k.cls (s.rows k.cls ++ layOf p (back k.used N (M - m)))) tk cl).rows k.cls = s.rows k.cls ++ layOf p (back k.used N (M - m)) := by
          rw [rf_row (s := s.setRow k.cls (s.rows k.cls ++ layOf p (back k.used N (M - m)))) HKC.out]
          exact upd_same _ _ _
        have ev : ({ d with rv := upd d.rv k.cls v } : Dr).rv k.cls = v := upd_same _ _ _
        rw [er, ev] at hown
        rw [ev] at cr
        have nP : v.ownBlock ≠ some d.P := fun e => by
          obtain ⟨cs, hB⟩ := own_blk hown e
          exact hB.ne hS.m.head (by decide) rfl
        have nR : v.ownBlock ≠ some d.R := fun e => by
          obtain ⟨cs, hB⟩ := own_blk hown e
          exact hB.ne hS.m.rws (by decide) rfl
        have hll : (s.rows k.cls ++ layOf p (back k.used N (M - m))).length ≤ 4200000 := by
          have h1 := layOf_len p (back k.used N (M - m))
          rw [back_len] at h1
          rw [List.length_append]; have := HM.out; omega
        have HPU : Hid (∀ (w1 : World) g cap n tmp, n = (s.rows k.cls ++ layOf p (back k.used N (M - m))).length → ((wr.alloc tmp).drew).grownBy w1 v.ownBlock → (v.ownBlock = some g ∨ g = wr.heap.size + 1) →
            w1.ownsRow 0 3 1 (.slice (some ⟨g, 0, none⟩) (n + 1) cap) (n + 1) (nc (s.rows k.cls ++ layOf p (back k.used N (M - m))) ++ [.int .i64 (4096 * (p : Int) + (m : Int))]) → RLay d s tk cl p k w (back k.used N (M - m) ++ [(m, false)]) (w1.setCell ⟨d.R, k.cls, none⟩ (.slice (some ⟨g, 0, none⟩) (n + 1) cap))) := hid (fun w1 g cap n tmp hn hg hat ho => by
          have e : 4096 * (p : Int) + (m : Int) = ((4096 * p + m : Nat) : Int) := by omega
          rw [e] at ho
          exact RLay.push HKC.out hS hv hn hg hat ho)
        obtain ⟨a, cp, hvf⟩ := row_form hown
        have HVF := hid hvf
        rw [hvf] at cr hown nP nR
        clear hS hv e eb hfin hb HL HU HAG HOK es er ev hvf
        generalize hnn : (s.rows k.cls ++ layOf p (back k.used N (M - m))).length = n at *
        clear hnn
        go_wp2_with fail
        refine hu.mono ?_
        rintro e w' ⟨rfl, rfl⟩
        clear hu
        go_wp2_with fail
        go_region_law ((refine step_append_lies _ (by rfl) _ _ _ (by rfl) 0 3 i0 _ 1 8 Try.underlying22 hi0 hz0 hz1 hz2 rfl (by omega) (.slice a n cp) n (nc (s.rows k.cls ++ layOf p (back k.used N (M - m)))) (by rfl) ((hown.alloc _).drew) ⟨wr.heap.size, 0, none⟩ 1 1 [.int .i64 (4096 * (p : Int) + (m : Int))] (by rfl) (by rfl) (int_srcZ _ _ _) (one_ok _) (by omega) (by unfold maxLen; omega) (by omega) (by simp) (wr.heap.size + 1) (by simp) ?_; intro g cap w1 hown1 hgrow hat hlt; have e2 := (hgrow.cell_far ⟨d.P, 2, none⟩ (by simp; omega) (Ne.symm nP)).trans (cell_alloc c2 _); have er := (hgrow.cell_far ⟨d.R, k.cls, none⟩ (by simp; omega) (Ne.symm nR)).trans (cell_alloc cr _); have ef := (hgrow.frozen_far ⟨d.R, k.cls, none⟩ (by simp; omega) (Ne.symm nR)).trans ((World.frozen?_alloc_past _ d.R k.cls lR).trans fr)))
        all_goals
          have HL3 := hid (HPU.out w1 g cap n _ rfl (by rw [HVF.out]; exact hgrow) (by rw [HVF.out]; exact hat) hown1)
          clear hown1 hgrow hat hown HPU
          go_wp2_with fail
          go_roundw
          case rel => first | exact HFIN.out _ HL3.out | ((repeat apply Exists.intro); exact ⟨HFIN.out _ HL3.out, rfl⟩)
          case measure => simp [intOf] <;> omega
    · obtain ⟨v, hS, hv⟩ := HL.out
      rw [← HLD.out] at hS
      have HS := hid hS
      clear hS hv HL HU HAG HOK HLD
      go_wp2_with fail
      go_end0
      exact ⟨⟨_, rfl⟩, _, HS.out⟩
end Go.Proofs.Ytldfpacdlephcaa

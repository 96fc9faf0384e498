/-
  Package slab at this program: push and take, of any slab. No conditions but the row's length.
-/
import Derived.Test.YtldfpacdlephcaaSlabSmall
import Derived.Deep.RegionLaw
import Derived.BigRegion
import Derived.Deep.AppendLies
namespace Go.Proofs.Ytldfpacdlephcaa
open Go Go.RowKit Go.Lib

theorem grow_only {X w1 : World} {v : Value} (h : X.grownBy w1 v.ownBlock) : Only (fun b => v.ownBlock = some b) X w1 := ⟨h.os, h.tape, h.output, h.size, fun k hk hne => h.block k hk (fun e => hne e.symm)⟩
/-- What an append leaves. -/
theorem app_only {w w1 : World} {tmp : Obj} {v : Value} (h : ((w.alloc tmp).drew).grownBy w1 v.ownBlock) : Only (fun b => v.ownBlock = some b) w w1 :=
  (((Only.refl (fun _ => False) w).alloc tmp).drew).mono (E := fun b => v.ownBlock = some b) (fun _ hx => hx.elim) |>.trans (grow_only h) (fun _ hx => .inl hx)

theorem push_only {d : Di} {w w1 : World} {c : Nat} {v : Value} (ho : Only (fun b => (d.rv c).ownBlock = some b) w w1) : Only (fun b => b = d.R ∨ (d.rv c).ownBlock = some b) w (w1.setCell ⟨d.R, c, none⟩ v) :=
  (ho.mono (fun _ hx => .inr hx)).setCell (p := ⟨d.R, c, none⟩) (.inl (.inl rfl)) v
theorem int_src (w : World) (x : Nat) (t : TypeId) : ∀ j u, [Value.int .i64 (x : Int)][j]? = some u → ((w.alloc (.cells #[.int .i64 (x : Int)] t)).drew).cell? ((⟨w.heap.size, 0, none⟩ : Addr).add j) = some u := fun j u hj => one_cell w _ t j u hj

theorem push_end {d : Di} {s : Sl} {w w1 : World} (h : MIs d s w) {c : Nat} (hc : c < s.sz.length) {n : Nat} (hn : n = (s.rows c).length) (x g cap : Nat) {tmp : Obj} (hg : ((w.alloc tmp).drew).grownBy w1 (d.rv c).ownBlock) (hat : (d.rv c).ownBlock = some g ∨ g = w.heap.size + 1)
    (hown : w1.ownsRow 0 3 1 (.slice (some ⟨g, 0, none⟩) (n + 1) cap) (n + 1) (nc (s.rows c) ++ [.int .i64 (x : Int)])) :
    Stp d s w { d with rv := upd d.rv c (.slice (some ⟨g, 0, none⟩) (n + 1) cap) } (s.push c x) (w1.setCell ⟨d.R, c, none⟩ (.slice (some ⟨g, 0, none⟩) (n + 1) cap)) ∧ Only (fun b => b = d.R ∨ (d.rv c).ownBlock = some b) w (w1.setCell ⟨d.R, c, none⟩ (.slice (some ⟨g, 0, none⟩) (n + 1) cap)) ∧
    ∀ b, (Value.slice (some ⟨g, 0, none⟩) (n + 1) cap).ownBlock = some b → (d.rv c).ownBlock = some b ∨ w.heap.size ≤ b := by
  have hb : ∀ b, (Value.slice (some ⟨g, 0, none⟩) (n + 1) cap).ownBlock = some b → (d.rv c).ownBlock = some b ∨ w.heap.size ≤ b := fun b hb => by
    have e : g = b := by simpa [Value.ownBlock] using hb
    subst e
    rcases hat with e | e
    · exact .inl e
    · exact .inr (by omega)
  refine ⟨Stp.row h hc _ (s.rows c ++ [x]) (app_only hg) ?_ hb, push_only (app_only hg), hb⟩
  rw [← nc_app, List.length_append, ← hn]; exact hown

set_option maxHeartbeats 2000000 in
set_option maxRecDepth 100000 in
theorem push_any {d : Di} {s : Sl} {w : World} (h : MIs d s w) {c : Nat} (hc : c < s.sz.length) (hl : (s.rows c).length ≤ 4200000) (x : Nat) :
    Calls Try.prog 47 #[.pointer (some ⟨d.P, 0, none⟩), .int .i64 c, .int .i64 x] w fun e w' => (∃ v, e = .returned v) ∧ ∃ v, Stp d s w { d with rv := upd d.rv c v } (s.push c x) w' ∧ Only (fun b => b = d.R ∨ (d.rv c).ownBlock = some b) w w' ∧ ∀ b, v.ownBlock = some b → (d.rv c).ownBlock = some b ∨ w.heap.size ≤ b := by
  obtain ⟨i0, hi0, hz0, hz1, hz2⟩ := info_parts infoInt
  have c2 := h.h2
  obtain ⟨cr, fr⟩ := h.hr hc
  have lP := h.lt (foot_P d s)
  have lR := h.lt (foot_R d s)
  have hown := h.row c hc
  have nP : (d.rv c).ownBlock ≠ some d.P := fun e => by
    obtain ⟨cs, hB⟩ := own_blk hown e
    exact hB.ne h.head (by decide) rfl
  have nR : (d.rv c).ownBlock ≠ some d.R := fun e => by
    obtain ⟨cs, hB⟩ := own_blk hown e
    exact hB.ne h.rws (by decide) rfl
  have HE := hid (fun (n : Nat) hn g cap (w1 : World) tmp => push_end (w1 := w1) h hc (n := n) hn x g cap (tmp := tmp))
  have hc1 : (c : Int) < (s.sz.length : Int) := by omega
  have hc0 : (0 : Int) ≤ (c : Int) := by omega
  obtain ⟨a, cp, hv⟩ := row_form hown
  have HRV := hid hv
  rw [hv] at cr hown nP nR
  clear h hv
  generalize hn : (s.rows c).length = n at *
  clear hn
  go_enter Try.func47, Try.ntmps47
  go_wp2_with fail
  go_region_law ((refine step_append_lies _ (by rfl) _ _ _ (by rfl) 0 3 i0 _ 1 8 Try.underlying22 hi0 hz0 hz1 hz2 rfl (by omega) (.slice a n cp) n (nc (s.rows c)) (by rfl) ((hown.alloc _).drew) ⟨w.heap.size, 0, none⟩ 1 1 [.int .i64 (x : Int)] (by rfl) (by rfl) (int_src _ _ _) (one_ok _) (by omega) (by unfold maxLen; omega) (by omega) (by simp) (w.heap.size + 1) (by simp) ?_; intro g cap w1 hown1 hgrow hat hlt; have e2 := (hgrow.cell_far ⟨d.P, 2, none⟩ (by simp; omega) (Ne.symm nP)).trans (cell_alloc c2 _); have er := (hgrow.cell_far ⟨d.R, c, none⟩ (by simp; omega) (Ne.symm nR)).trans (cell_alloc cr _); have ef := (hgrow.frozen_far ⟨d.R, c, none⟩ (by simp; omega) (Ne.symm nR)).trans ((World.frozen?_alloc_past _ d.R c lR).trans fr)))
  all_goals
    go_wp2_with fail
    go_end0
    exact ⟨⟨_, rfl⟩, _, HE.out n rfl g cap w1 _ (by rw [HRV.out]; exact hgrow) (by rw [HRV.out]; exact hat) hown1⟩

theorem take_end {d : Di} {s : Sl} {w : World} (h : MIs d s w) {c x : Nat} (hc : c < s.sz.length) {l : List Nat} (hl : s.rows c = l ++ [x]) {k : Ct} (hk : s.cut (x / 4096) = some k) (hu : k.used[x % 4096]? = some false) {g cp : Nat} (hv : d.rv c = .slice (some ⟨g, 0, none⟩) (l ++ [x]).length cp) :
    ∃ d1 : Di, Stp d s w d1 (s.setRow c l) (w.setCell ⟨d.R, c, none⟩ (.slice (some ⟨g, 0, none⟩) l.length cp)).drew ∧ d1.P = d.P ∧ d1.C = d.C ∧ d1.cb = d.cb ∧ d1.ub = d.ub ∧
      ∀ W, W = (w.setCell ⟨d.R, c, none⟩ (.slice (some ⟨g, 0, none⟩) l.length cp)).drew → Stp d s w d1 ((s.setRow c l).mark x true) ((W.setCell ⟨d.ub (x / 4096), x % 4096, none⟩ (.bool true)).setCell ⟨d.cb (x / 4096), 2, none⟩ (.int .i64 ((tru k.used + 1 : Nat) : Int))) := by
  have hrow := h.row c hc
  rw [hv, hl] at hrow
  have h1 := Stp.row h hc (.slice (some ⟨g, 0, none⟩) l.length cp) l (Only.refl _ w) (own_pop hrow) (fun b hb => .inl (by rw [hv]; exact hb)) |>.drew
  refine ⟨_, h1, rfl, rfl, rfl, rfl, fun W hW => ?_⟩
  have hk' : (s.setRow c l).cut (x / 4096) = some k := hk
  rw [Sl.mark_at true hk']
  subst hW
  refine h1.trans ?_
  obtain ⟨b1, b2⟩ := h1.m.cut _ k hk'
  have hne : d.cb (x / 4096) ≠ d.ub (x / 4096) := b1.ne b2 (by decide)
  refine Stp.cut h1.m hk' (k.mark (x % 4096) true) (((Only.refl (fun b => b = d.cb (x / 4096) ∨ b = d.ub (x / 4096)) _).setCell (p := ⟨d.ub (x / 4096), x % 4096, none⟩) (.inl (.inr rfl)) _).setCell (p := ⟨d.cb (x / 4096), 2, none⟩) (.inl (.inl rfl)) _) ?_ ?_
  · have h2 := (b1.setOther (p := ⟨d.ub (x / 4096), x % 4096, none⟩) hne (.bool true)).set 2 (.int .i64 ((tru k.used + 1 : Nat) : Int))
    have e : ctCells (d.ub (x / 4096)) (s.setRow c l).U (k.mark (x % 4096) true) = (ctCells (d.ub (x / 4096)) (s.setRow c l).U k).set 2 (.int .i64 ((tru k.used + 1 : Nat) : Int)) := by
      unfold ctCells Ct.mark
      rw [tru_on hu]; rfl
    rw [e]; exact h2
  · have h2 := (b2.set (x % 4096) (.bool true)).setOther (p := ⟨d.cb (x / 4096), 2, none⟩) hne.symm (.int .i64 ((tru k.used + 1 : Nat) : Int))
    show Blk _ _ _ (bb (k.used.set (x % 4096) true))
    rw [bb_set]; exact h2

set_option maxHeartbeats 2000000 in
set_option maxRecDepth 100000 in
theorem take_any {d : Di} {s : Sl} {w : World} (h : MIs d s w) (ok : s.Ok) {c x : Nat} (hc : c < s.sz.length) {l : List Nat} (hl : s.rows c = l ++ [x]) :
    Calls Try.prog 50 #[.pointer (some ⟨d.P, 0, none⟩), .int .i64 c] w fun e w' => e = .returned (.int .i64 x) ∧ ∃ d', Stp d s w d' ((s.setRow c l).mark x true) w' := by
  obtain ⟨k, hk, hkc, hkl, hu, hp⟩ := ok.rw c x hc (by rw [hl]; simp)
  have hrow := h.row c hc
  rw [hl] at hrow
  obtain ⟨g, cp, hv, hcp, hx, -⟩ := own_cell hrow (i := l.length) (x := x) (by simp)
  obtain ⟨d1, S1, e1, e2, e3, e4, HS⟩ := take_end h hc hl hk hu hv
  have c2 := h.h2
  obtain ⟨cr, fr⟩ := h.hr hc
  rw [hv] at cr
  have hxp := ok.cut_1024 hk
  have hll := ok.row_len hc
  have hU := (ok.ct _ k hk).2.2.1
  have hi := (List.getElem?_eq_some_iff.1 hu).1
  rw [hl] at hll
  rw [List.length_append, List.length_singleton] at hll hcp cr
  obtain ⟨W, hW⟩ : ∃ W, W = (w.setCell ⟨d.R, c, none⟩ (.slice (some ⟨g, 0, none⟩) l.length cp)).drew := ⟨_, rfl⟩
  have S2 := HS W hW
  rw [← hW] at S1
  have f3 := S1.m.h3
  obtain ⟨f4, -⟩ := S1.m.hc hxp
  rw [cutV_some (show (s.setRow c l).cut (x / 4096) = some k from hk)] at f4
  have f5 := S1.m.k1 (show (s.setRow c l).cut (x / 4096) = some k from hk)
  have f6 := S1.m.k2 (show (s.setRow c l).cut (x / 4096) = some k from hk)
  have f7 := S1.m.ku (show (s.setRow c l).cut (x / 4096) = some k from hk) hu
  have f8 := (S1.m.cut _ k (show (s.setRow c l).cut (x / 4096) = some k from hk)).2.frozen (x % 4096)
  have f9 := (S1.m.cut _ k (show (s.setRow c l).cut (x / 4096) = some k from hk)).1.frozen 2
  have hne : d.cb (x / 4096) ≠ d.ub (x / 4096) := (h.cut _ k hk).1.ne (h.cut _ k hk).2 (by decide)
  have hUU : (s.setRow c l).U = s.U := rfl
  rw [e1, e2] at f3
  rw [e2, e3] at f4
  rw [e3, e4, hUU] at f5
  rw [e3] at f6
  rw [e4] at f7 f8
  rw [e3] at f9
  have htl := tru_le k.used
  have hUl := ok.U_le
  rw [hU] at htl hi
  have HS2 := hid S2
  have HW := hid hW
  have q1 : (c : Int) < (s.sz.length : Int) := by omega
  have q2 : ((x / 4096 : Nat) : Int) < 1024 := by omega
  have q3 : ((x % 4096 : Nat) : Int) < (s.U : Int) := by omega
  have q4 : (x : Int) / 4096 = ((x / 4096 : Nat) : Int) := by omega
  have q5 : (x : Int) % 4096 = ((x % 4096 : Nat) : Int) := by omega
  have q6 : (x : Int) ≤ 9223372036854775807 := by omega
  clear h ok hl hk hkc hkl hu hp hrow hv S1 HS S2 e1 e2 e3 e4 hxp hU hUU hW
  generalize tru k.used = t at *
  generalize d.cb (x / 4096) = B at *
  generalize d.ub (x / 4096) = V at *
  generalize x / 4096 = p at *
  generalize x % 4096 = i at *
  generalize s.U = U at *
  generalize s.sz.length = n at *
  generalize d.P = P at *
  generalize d.R = R at *
  generalize d.C = C at *
  generalize hll' : l.length = m at *
  clear hll'
  go_enter Try.func50, Try.ntmps50
  go_wp2_with fail
  go_region
  rw [← HW.out]
  clear HW
  go_wp2_with fail
  go_ret
  refine ⟨rfl, d1, ?_⟩
  have h := HS2.out
  rw [Int.natCast_add] at h
  exact h
end Go.Proofs.Ytldfpacdlephcaa

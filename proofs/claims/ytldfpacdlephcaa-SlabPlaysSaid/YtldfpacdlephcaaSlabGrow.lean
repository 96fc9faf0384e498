/-
  Package slab at this program: grow and Alloc, of any slab and any class. No conditions.
-/
import Derived.Test.YtldfpacdlephcaaSlabLay
namespace Go.Proofs.Ytldfpacdlephcaa
open Go Go.RowKit Go.Lib

def newCut (U c : Nat) : Ct := ⟨c, List.replicate U false, false⟩
/-- A page is granted to a class, and cut. -/
def Sl.cutUp (s : Sl) (p c : Nat) : Sl := ({ s with a := s.a.setOw p (c : Int) } : Sl).setCut p (newCut s.U c)
def Sl.grown (s : Sl) (p c : Nat) : Sl := (s.cutUp p c).laid p (newCut s.U c)

theorem setOw_size (a : St) (p : Nat) (z : Int) : (a.setOw p z).size = a.size := rfl
theorem Sl.cutUp_U (s : Sl) (p c : Nat) : (s.cutUp p c).U = s.U := rfl
theorem Sl.cutUp_per (s : Sl) (p c c' : Nat) : (s.cutUp p c).per c' = s.per c' := rfl
theorem Sl.free_cut {s : Sl} (h : s.Ok) {p : Nat} (hp : s.a.ow[p]? = some (-1)) : s.cut p = none := by
  cases hk : s.cut p with
  | none => rfl
  | some k =>
    have := (h.ct p k hk).1
    rw [hp] at this
    have := Option.some.inj this
    omega
theorem Sl.cutUp_ok {s : Sl} (h : s.Ok) {p c : Nat} (hc : c < s.sz.length) (hp : s.a.ow[p]? = some (-1)) : (s.cutUp p c).Ok := by
  have hpl : p < s.a.ow.length := (List.getElem?_eq_some_iff.1 hp).1
  have hn := Sl.free_cut h hp
  have hn2 := h.n2
  refine ⟨St.setOw_ok h.ao p (by omega), h.n1, h.n2, h.sz, fun q k hk => ?_, fun q hq hql => ?_, fun c' x hc' hx => ?_, h.nd⟩
  · have hk' : upd s.cut p (some (newCut s.U c)) q = some k := hk
    show (s.a.ow.set p (c : Int))[q]? = _ ∧ _
    by_cases e : q = p
    · subst e
      rw [upd_same] at hk'
      cases hk'
      refine ⟨by rw [List.getElem?_set_self hpl]; rfl, hc, List.length_replicate, fun i hi => ?_⟩
      have hi' : (List.replicate s.U false)[i]? = some true := hi
      rw [List.getElem?_replicate] at hi'
      split at hi' <;> cases hi'
    · rw [upd_ne _ _ e] at hk'
      obtain ⟨h1, h2, h3, h4⟩ := h.ct q k hk'
      exact ⟨by rw [List.getElem?_set_ne (fun e' => e e'.symm)]; exact h1, h2, h3, h4⟩
  · have hq' : upd s.cut p (some (newCut s.U c)) q = none := hq
    show (s.a.ow.set p (c : Int))[q]? = _
    by_cases e : q = p
    · subst e
      rw [upd_same] at hq'; cases hq'
    · rw [upd_ne _ _ e] at hq'
      rw [List.getElem?_set_ne (fun e' => e e'.symm)]
      have hql' : q < (s.a.ow.set p (c : Int)).length := hql
      rw [List.length_set] at hql'
      exact h.no q hq' hql'
  · obtain ⟨k, hk, a1, a2, a3, a4⟩ := h.rw c' x hc' hx
    refine ⟨k, ?_, a1, a2, a3, a4⟩
    show upd s.cut p _ (x / 4096) = _
    rw [upd_ne _ _ (fun e => by rw [e, hn] at hk; cases hk)]
    exact hk
theorem Sl.cutUp_cut (s : Sl) (p c : Nat) : (s.cutUp p c).cut p = some (newCut s.U c) := upd_same _ _ _
theorem Sl.cutUp_row {s : Sl} (h : s.Ok) {p c : Nat} (hc : c < s.sz.length) (hp : s.a.ow[p]? = some (-1)) : ∀ x ∈ (s.cutUp p c).rows c, x / 4096 ≠ p := fun x hx e => by
  obtain ⟨k, hk, _⟩ := h.rw c x hc hx
  rw [e, Sl.free_cut h hp] at hk
  cases hk
theorem Sl.laid_ok {s : Sl} (h : s.Ok) {p : Nat} {k : Ct} (hk : s.cut p = some k) (hcl : k.closed = false) (hno : ∀ x ∈ s.rows k.cls, x / 4096 ≠ p) : (s.laid p k).Ok := h.lay_part hk hcl hno _ (Nat.le_refl _)
theorem Sl.grown_ok {s : Sl} (h : s.Ok) {p c : Nat} (hc : c < s.sz.length) (hp : s.a.ow[p]? = some (-1)) : (s.grown p c).Ok :=
  Sl.laid_ok (s.cutUp_ok h hc hp) (s.cutUp_cut p c) rfl (s.cutUp_row h hc hp)

theorem infoBool : (Try.prog.info? 4).map (fun i => (i.zero, i.size, i.bytes)) = some (some (.bool false), 1, 1) := by kernel_rfl
theorem made_bools (n : Nat) : (madeCells (Value.bool false).cells (n * 1)).toList = bb (List.replicate n false) := by
  rw [made_cells _ _ rfl]; simp [bb]
theorem tru_none (n : Nat) : tru (List.replicate n false) = 0 := by
  unfold tru
  rw [List.count_eq_zero]
  intro h
  exact absurd (List.eq_of_mem_replicate h) (by decide)

set_option maxHeartbeats 2000000 in
set_option maxRecDepth 100000 in
theorem grow_full {d : Di} {s : Sl} {w : World} (h : MIs d s w) (ok : s.Ok) {c : Nat} (hc : c < s.sz.length) (hf : fi s.a.ow (-1) 0 = -1) :
    Calls Try.prog 49 #[.pointer (some ⟨d.P, 0, none⟩), .int .i64 c] w fun e w' => e = .returned (.int .i64 5) ∧ Stp d s w d s w' := by
  have hB : ownB (c : Int) = true := by have := ok.n2; unfold ownB; rw [decide_eq_true_iff]; omega
  have hg := grant_any h.ar (c : Int)
  rw [grant_none hB hf] at hg
  have c0 := h.h0
  have H := hid h
  clear h ok hf hB
  generalize d.P = P at *
  go_enter Try.func49, Try.ntmps49
  go_wp2_with fail
  refine hg.mono ?_
  rintro e w' ⟨rfl, ha, ho⟩
  have hS := Stp.arena H.out s.a rfl (ho.mono (fun _ h => .inl h)) ha
  clear hg ha ho
  go_wp2_with fail
  go_ret
  exact ⟨rfl, hS⟩

theorem grow_end {d : Di} {s : Sl} {w W : World} {p c : Nat} {Z : Array Value} (hS : Stp d s w d { s with a := s.a.setOw p (c : Int) } W) (hp : s.cut p = none) (hp1 : p < 1024) (hZ : Z = (bb (List.replicate s.U false)).toArray) :
    Stp d s w { d with cb := upd d.cb p (W.heap.size + 1), ub := upd d.ub p W.heap.size } (s.cutUp p c) (((W.setCell ⟨d.C, p, none⟩ (.pointer (some ⟨W.heap.size + 1, 0, none⟩))).alloc (.cells Z 4)).alloc (.cells #[.int .i64 (c : Int), .slice (some ⟨W.heap.size, 0, none⟩) s.U s.U, .int .i64 0, .bool false] 82)).drew := by
  subst hZ
  have m := hS.m
  have hsz : (W.setCell ⟨d.C, p, none⟩ (.pointer (some ⟨W.heap.size + 1, 0, none⟩))).heap.size = W.heap.size := by simp [World.setCell]
  have hn1 := Blk.new (W.setCell ⟨d.C, p, none⟩ (.pointer (some ⟨W.heap.size + 1, 0, none⟩))) (bb (List.replicate s.U false)).toArray 4
  rw [hsz] at hn1
  have hn2 := Blk.new ((W.setCell ⟨d.C, p, none⟩ (.pointer (some ⟨W.heap.size + 1, 0, none⟩))).alloc (.cells (bb (List.replicate s.U false)).toArray 4)) #[.int .i64 (c : Int), .slice (some ⟨W.heap.size, 0, none⟩) s.U s.U, .int .i64 0, .bool false] 82
  rw [World.size_alloc, hsz] at hn2
  refine hS.trans ?_
  refine Stp.grow m hp1 hp (newCut s.U c) W.heap.size (W.heap.size + 1) (Nat.le_refl _) (by omega) ((((Only.refl (fun b => b = d.C) W).setCell (p := ⟨d.C, p, none⟩) (.inl rfl) _).alloc _).alloc _).drew ?_ ?_ ?_
  · have h2 := ((m.cts.set p (.pointer (some ⟨W.heap.size + 1, 0, none⟩))).alloc (.cells (bb (List.replicate s.U false)).toArray 4)).alloc (.cells #[.int .i64 (c : Int), .slice (some ⟨W.heap.size, 0, none⟩) s.U s.U, .int .i64 0, .bool false] 82)
    rw [tab_set] at h2
    exact h2.drew
  · have e : ctCells W.heap.size ({ s with a := s.a.setOw p (c : Int) } : Sl).U (newCut s.U c) = [.int .i64 (c : Int), .slice (some ⟨W.heap.size, 0, none⟩) s.U s.U, .int .i64 0, .bool false] := by
      unfold ctCells newCut
      rw [tru_none]; rfl
    rw [e]
    exact hn2.drew
  · exact (hn1.alloc _).drew

set_option maxHeartbeats 4000000 in
set_option maxRecDepth 100000 in
theorem grow_any {d : Di} {s : Sl} {w : World} (h : MIs d s w) (ok : s.Ok) {c : Nat} (hc : c < s.sz.length) {p : Nat} (hf : fi s.a.ow (-1) 0 = (p : Int)) :
    Calls Try.prog 49 #[.pointer (some ⟨d.P, 0, none⟩), .int .i64 c] w fun e w' => e = .returned (.int .i64 0) ∧ ∃ d', Stp d s w d' (s.grown p c) w' := by
  have hB : ownB (c : Int) = true := by have := ok.n2; unfold ownB; rw [decide_eq_true_iff]; omega
  have hp : s.a.ow[p]? = some (-1) := by
    rcases fi_facts s.a.ow (-1) 0 with ⟨h1, _⟩ | ⟨j, h1, h2, _⟩
    · rw [hf] at h1; omega
    · rw [hf, Nat.zero_add] at h1
      have : p = j := by omega
      rw [this]; exact h2
  have hg := grant_any h.ar (c : Int)
  rw [grant_at hB hf] at hg
  have hpl : p < s.a.ow.length := (List.getElem?_eq_some_iff.1 hp).1
  have hp1 : p < 1024 := Nat.lt_of_lt_of_le hpl ok.ao.n2
  have c0 := h.h0
  have lP := h.lt (foot_P d s)
  have HX := hid (And.intro h (And.intro ok hp))
  have hU := ok.U_le
  have eU : (s.a.size : Int) / 64 = (s.U : Int) := by unfold Sl.U; omega
  have q1 : (p : Int) < 1024 := by omega
  have q0 : (0 : Int) ≤ (p : Int) := by omega
  have hs2 := ok.ao.s2
  clear h ok hf hB hp hpl
  go_enter Try.func49, Try.ntmps49
  go_wp2_with fail
  refine hg.mono ?_
  rintro e W ⟨rfl, ha, ho⟩
  obtain ⟨h, ok, hp⟩ := HX.out
  have hS := Stp.arena h (s.a.setOw p (c : Int)) rfl (ho.mono (fun _ h => .inl h)) ha
  have c1 := hS.m.h0
  have c3 := hS.m.h3
  have fC := (hS.m.hc hp1).2
  have f4 := (hS.m.hc hp1).1
  rw [cutV_none (show ({ s with a := s.a.setOw p (c : Int) } : Sl).cut p = none from Sl.free_cut ok hp)] at f4
  have hCP : ¬ d.C = d.P := fun e => h.head.ne h.cts (by decide) e.symm
  have hPC : ¬ d.P = d.C := fun e => hCP e.symm
  have lP' := hS.m.lt (foot_P _ _)
  have lC := hS.m.lt (foot_C _ _)
  have hpg : Calls Try.prog 32 #[.pointer (some ⟨d.A, 0, none⟩)] W.drew fun e w' => e = .returned (.int .i64 (s.a.size : Int)) ∧ W.drew = w' := by
    have h1 := page_size hS.m.drew.ar
    exact h1
  have eW : IntKind.i64.wrap (s.U : Int) = (s.U : Int) := by rw [IntKind.wrap_i64]; omega
  have hmk : ∀ W : World, (Instr.makeSlice 56 (.int .i64 (s.U : Int)) (.int .i64 (s.U : Int))).run Try.prog W = .ok (.slice (some ⟨W.heap.size, 0, none⟩) s.U s.U) (W.alloc (.cells (bb (List.replicate s.U false)).toArray 4)) := fun W => by
    obtain ⟨i0, hi, hz0, hz1, hz2⟩ := info_parts infoBool
    have := run_make (P := Try.prog) W 56 4 i0 (.bool false) Try.underlying56 hi hz0 .i64 .i64 (s.U : Int) (s.U : Int) (by omega) (by omega) (by rw [hz2]; omega) (by omega)
    rw [hz1, Int.toNat_natCast] at this
    rw [this, ← made_bools]
  have HS := hid (And.intro hS (And.intro ok hp))
  clear hg ha ho hS h ok hp
  obtain ⟨Z, hZ⟩ : ∃ Z, (bb (List.replicate s.U false)).toArray = Z := ⟨_, rfl⟩
  have HZ := hid hZ
  rw [hZ] at hmk
  clear hZ
  have n1 := World.new_ne W _ c1
  have n3 := World.new_ne W _ c3
  go_wp2_with fail
  have HM := hid (And.intro hmk hpg)
  go_region_held3 (fun w' => w'.cell? ⟨d.P, 0, none⟩ = some (.pointer (some ⟨d.A, 0, none⟩)) ∧ w'.cell? ⟨d.P, 3, none⟩ = some (.slice (some ⟨d.C, 0, none⟩) 1024 1024)) (first | exact ⟨cell_alloc (cell_alloc ((World.cell?_setCell_far _ _ _ _ hCP).trans c1) _) _, cell_alloc (cell_alloc ((World.cell?_setCell_far _ _ _ _ hCP).trans c3) _) _⟩ | go_keep) (first | (go_at_call 32; refine hpg.mono ?_; rintro e w' ⟨rfl, rfl⟩))
  obtain ⟨hS, ok, hp⟩ := HS.out
  have hE := grow_end hS (Sl.free_cut ok hp) hp1 HZ.out.symm
  have hl := lay_any hE.m (s.cutUp_ok ok hc hp) (s.cutUp_cut p c) rfl (s.cutUp_row ok hc hp)
  have HE := hid hE
  clear hE hS ok hp hmk hpg HS HM HX c0 c1 c3 f4 fC n1 n3
  go_wp2_with fail
  refine hl.mono ?_
  rintro e w2 ⟨⟨u, rfl⟩, d2, h2⟩
  have H2 := hid h2
  clear hl h2
  go_wp2_with fail
  go_ret
  exact ⟨rfl, d2, HE.out.trans H2.out⟩

/-- What stands on top of a class's row; the row without it. -/
def Sl.top (s : Sl) (c : Nat) : Nat := ((s.rows c).getLast?).getD 0
def Sl.take (s : Sl) (c : Nat) : Sl := (s.setRow c (s.rows c).dropLast).mark (s.top c) true
theorem Sl.top_is {s : Sl} {c x : Nat} {l : List Nat} (h : s.rows c = l ++ [x]) : s.top c = x := by unfold Sl.top; rw [h, List.getLast?_append]; rfl
theorem Sl.take_is {s : Sl} {c x : Nat} {l : List Nat} (h : s.rows c = l ++ [x]) : s.take c = (s.setRow c l).mark x true := by
  unfold Sl.take
  rw [Sl.top_is h, h, List.dropLast_concat]
theorem row_split {l : List Nat} (h : l ≠ []) : ∃ r x, l = r ++ [x] := ⟨l.dropLast, l.getLast h, (List.dropLast_concat_getLast h).symm⟩
/-- What Alloc answers and leaves. -/
def Sl.alloc (s : Sl) (z : Int) : Int × Int × Sl :=
  if s.classB z = true then
    (if s.rows z.toNat = [] then (if fi s.a.ow (-1) 0 = -1 then (-1, 5, s) else (((s.grown (fi s.a.ow (-1) 0).toNat z.toNat).top z.toNat : Nat), 0, (s.grown (fi s.a.ow (-1) 0).toNat z.toNat).take z.toNat))
    else ((s.top z.toNat : Nat), 0, s.take z.toNat))
  else (-1, 1, s)
theorem Sl.alloc_bad {s : Sl} {z : Int} (h : s.classB z = false) : s.alloc z = (-1, 1, s) := by unfold Sl.alloc; rw [h, if_neg (by decide)]
theorem Sl.alloc_row {s : Sl} {c x : Nat} {l : List Nat} (h : s.classB (c : Int) = true) (hl : s.rows c = l ++ [x]) : s.alloc (c : Int) = ((x : Int), 0, (s.setRow c l).mark x true) := by
  unfold Sl.alloc
  rw [h, if_pos rfl, Int.toNat_natCast, if_neg (by rw [hl]; simp), Sl.top_is hl, Sl.take_is hl]
theorem Sl.alloc_full {s : Sl} {c : Nat} (h : s.classB (c : Int) = true) (hl : s.rows c = []) (hf : fi s.a.ow (-1) 0 = -1) : s.alloc (c : Int) = (-1, 5, s) := by
  unfold Sl.alloc
  rw [h, if_pos rfl, Int.toNat_natCast, if_pos hl, if_pos hf]
theorem Sl.alloc_grow {s : Sl} {c p x : Nat} {l : List Nat} (h : s.classB (c : Int) = true) (hl : s.rows c = []) (hf : fi s.a.ow (-1) 0 = (p : Int)) (hg : (s.grown p c).rows c = l ++ [x]) : s.alloc (c : Int) = ((x : Int), 0, ((s.grown p c).setRow c l).mark x true) := by
  unfold Sl.alloc
  rw [h, if_pos rfl, Int.toNat_natCast, if_pos hl, hf, if_neg (by omega), Int.toNat_natCast, Sl.top_is hg, Sl.take_is hg]

/-- All chunks of a new page are laid. -/
theorem lay_new (U p n : Nat) : ∀ k, layOf p (back (List.replicate U false) n k) = (List.range k).map fun j => 4096 * p + (n - 1 - j)
  | 0 => rfl
  | k + 1 => by
    have e : (List.replicate U false).getD (n - 1 - k) false = false := by
      rw [List.getD, List.getElem?_replicate]
      split <;> rfl
    rw [back_succ, e, layOf_more, lay_new U p n k, List.range_succ, List.map_append]; rfl
theorem Sl.grown_rows (s : Sl) (p c : Nat) : (s.grown p c).rows c = s.rows c ++ (List.range (s.per c)).map fun j => 4096 * p + (s.per c - 1 - j) := by
  have e : (s.grown p c).rows c = s.rows c ++ layRow p (List.replicate s.U false) (s.per c) := upd_same _ _ _
  rw [e]
  unfold layRow
  rw [lay_new]
theorem Sl.grown_some {s : Sl} (h : s.Ok) {p c : Nat} (hc : c < s.sz.length) : (s.grown p c).rows c ≠ [] := by
  rw [s.grown_rows]
  obtain ⟨h1, _⟩ := h.per_le hc
  intro e
  have := congrArg List.length e
  simp at this
  omega
theorem fi_cases (l : List Int) : fi l (-1) 0 = -1 ∨ ∃ p : Nat, fi l (-1) 0 = (p : Int) ∧ l[p]? = some (-1) := by
  rcases fi_facts l (-1) 0 with ⟨h1, _⟩ | ⟨j, h1, h2, _⟩
  · exact .inl h1
  · exact .inr ⟨j, by rw [h1, Nat.zero_add], h2⟩
theorem Sl.Ok.allocOk {s : Sl} (h : s.Ok) (z : Int) : (s.alloc z).2.2.Ok := by
  rcases s.class_cases z with ⟨hb, _⟩ | ⟨c, rfl, hc, hb⟩
  · rw [Sl.alloc_bad hb]; exact h
  · by_cases hl : s.rows c = []
    · rcases fi_cases s.a.ow with hf | ⟨p, hf, hp⟩
      · rw [Sl.alloc_full hb hl hf]; exact h
      · obtain ⟨l, x, hg⟩ := row_split (Sl.grown_some (p := p) h hc)
        rw [Sl.alloc_grow hb hl hf hg]
        exact Sl.take_ok (Sl.grown_ok h hc hp) (s := s.grown p c) hc hg
    · obtain ⟨l, x, hg⟩ := row_split hl
      rw [Sl.alloc_row hb hg]
      exact Sl.take_ok h hc hg

set_option maxHeartbeats 2000000 in
set_option maxRecDepth 100000 in
theorem alloc_any {d : Di} {s : Sl} {w : World} (h : MIs d s w) (ok : s.Ok) (z : Int) :
    Calls Try.prog 17 #[.pointer (some ⟨d.P, 0, none⟩), .int .i64 z] w fun e w' => e = .returned (.tuple #[.int .i64 (s.alloc z).1, .int .i64 (s.alloc z).2.1]) ∧ ∃ d', Stp d s w d' (s.alloc z).2.2 w' := by
  have hcl := isClass_any h z
  rcases s.class_cases z with ⟨hb, _⟩ | ⟨c, rfl, hc, hb⟩
  · rw [Sl.alloc_bad hb]
    rw [hb] at hcl
    have H := hid h
    clear h ok hb
    generalize d.P = P at *
    go_enter Try.func17, Try.ntmps17
    go_wp2_with fail
    refine hcl.mono ?_
    rintro e w' ⟨rfl, rfl⟩
    clear hcl
    go_wp2_with fail
    go_ret2
    exact ⟨rfl, d, Stp.refl H.out⟩
  · rw [hb] at hcl
    have c2 := h.h2
    have cr := (h.hr hc).1
    have hown := h.row c hc
    obtain ⟨a, cp, hv⟩ := row_form hown
    rw [hv] at cr
    have q1 : (c : Int) < (s.sz.length : Int) := by omega
    by_cases hl : s.rows c = []
    · have hln : (s.rows c).length = 0 := by rw [hl]; rfl
      rw [hln] at cr
      rcases fi_cases s.a.ow with hf | ⟨p, hf, hp⟩
      · rw [Sl.alloc_full hb hl hf]
        have hg := grow_full h ok hc hf
        clear h ok hb hl hf hown hv hln
        generalize d.P = P at *
        generalize d.R = R at *
        go_enter Try.func17, Try.ntmps17
        go_wp2_with fail
        refine hcl.mono ?_
        rintro e w' ⟨rfl, rfl⟩
        clear hcl
        go_wp2_with fail
        refine hg.mono ?_
        rintro e w' ⟨rfl, hS⟩
        clear hg
        go_wp2_with fail
        go_ret2
        exact ⟨rfl, d, hS⟩
      · obtain ⟨l, x, hgr⟩ := row_split (Sl.grown_some (p := p) ok hc)
        rw [Sl.alloc_grow hb hl hf hgr]
        have hg := grow_any h ok hc hf
        have HT := hid (fun (d' : Di) (w' : World) (hm : MIs d' (s.grown p c) w') => take_any hm (Sl.grown_ok ok hc hp) (s := s.grown p c) hc hgr)
        clear h ok hb hl hf hown hv hln hgr hp
        go_enter Try.func17, Try.ntmps17
        go_wp2_with fail
        refine hcl.mono ?_
        rintro e w' ⟨rfl, rfl⟩
        clear hcl
        go_wp2_with fail
        refine hg.mono ?_
        rintro e w1 ⟨rfl, d1, hS⟩
        have ht := HT.out d1 w1 hS.m
        rw [hS.p] at ht
        have H1 := hid hS
        clear hg hS HT
        go_wp2_with fail
        refine ht.mono ?_
        rintro e w2 ⟨rfl, d2, hS⟩
        have H2 := hid hS
        clear ht hS
        go_wp2_with fail
        go_ret2
        exact ⟨rfl, d2, H1.out.trans H2.out⟩
    · obtain ⟨l, x, hgr⟩ := row_split hl
      rw [Sl.alloc_row hb hgr]
      have ht := take_any h ok hc hgr
      have hll := ok.row_len hc
      have hpos : 0 < (s.rows c).length := List.length_pos_iff.2 hl
      have hne : ((((s.rows c).length : Nat) : Int) == 0) = false := beq_eq_false_iff_ne.2 (by omega)
      clear h ok hb hl hown hv hgr
      generalize (s.rows c).length = m at *
      generalize d.P = P at *
      generalize d.R = R at *
      go_enter Try.func17, Try.ntmps17
      go_wp2_with fail
      refine hcl.mono ?_
      rintro e w' ⟨rfl, rfl⟩
      clear hcl
      go_wp2_with fail
      refine ht.mono ?_
      rintro e w2 ⟨rfl, d2, hS⟩
      have H2 := hid hS
      clear ht hS
      go_wp2_with fail
      go_ret2
      exact ⟨rfl, d2, H2.out⟩
end Go.Proofs.Ytldfpacdlephcaa

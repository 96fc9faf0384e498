/-
  The contract of Take. Conditions: the rows lie in memory.
-/
import Derived.Test.YtkhmgigllcgpnaaRowsSee
namespace Go.Proofs.Ytkhmgigllcgpnaa
open Go Go.RowKit Go.Lib

theorem RM.own {P O M : Nat} {N : List (List Nd)} {w : World} (h : RM P O M N w) {i : Nat} {l : List Nd} (hi : N[i]? = some l) {e : Pt} (he : e = edge O i ∨ ∃ x ∈ l, e = x.pt) : e.b ≠ P ∧ e.b ≠ M ∧ Ft P O M N e.b ∧ ∀ k, w.frozen? (e.at_ k) = false := by
  rcases he with rfl | ⟨x, hx, rfl⟩
  · exact ⟨fun e => h.PO e.symm, h.OM, .inr (.inl rfl), fun k => h.fO.frozen (i * 5 + k)⟩
  · have hf := mem_flat hi hx
    obtain ⟨x1, x2, x3⟩ := h.xs x hf
    exact ⟨x1, x3, .inr (.inr (.inr ⟨x, hf, rfl⟩)), fun k => (h.fx x hf).frozen (0 + k)⟩

theorem RM.off {P O M : Nat} {N : List (List Nd)} {w : World} (h : RM P O M N w) {i : Nat} {l : List Nd} (hi : N[i]? = some l) {e f : Pt} (he : e = edge O i ∨ ∃ x ∈ l, e = x.pt) (hf : f = edge O i ∨ ∃ x ∈ l, f = x.pt) (hb : e.b = f.b) : e.o = f.o := by
  rcases he with rfl | ⟨x, hx, rfl⟩
  · rcases hf with rfl | ⟨y, hy, rfl⟩
    · rfl
    · exact absurd hb.symm (h.xs y (mem_flat hi hy)).2.1
  · rcases hf with rfl | ⟨y, hy, rfl⟩
    · exact absurd hb (h.xs x (mem_flat hi hx)).2.1
    · rfl
theorem setc_same {w : World} {a : Addr} {v u : Value} (h : w.cell? a = some u) : (w.setCell a v).cell? a = some v := World.cell?_setCell_same _ _ _ h
theorem setc_other {w : World} {a b : Addr} {v u : Value} (hb : w.cell? b = some u) (h : a ≠ b) : (w.setCell a v).cell? b = some u := (World.cell?_setCell_other _ _ _ _ h).trans hb
theorem pt_ne {p q : Pt} {k j : Nat} (h : p.b = q.b → p.o + k ≠ q.o + j) : p.at_ k ≠ q.at_ j := fun e => h (congrArg Addr.block e) (congrArg Addr.off e)
/-- What Take finds, and what it leaves, store by store. -/
structure TakeW (P O M : Nat) (N : List (List Nd)) (w : World) (i : Nat) (a b : List Nd) (x : Nd) (u v : Pt) : Prop where
  x2 : w.cell? ⟨x.b, 2, none⟩ = some (.pointer (some ⟨u.b, u.o, none⟩))
  x3 : w.cell? ⟨x.b, 3, none⟩ = some (.pointer (some ⟨v.b, v.o, none⟩))
  u3 : w.cell? ⟨u.b, u.o + 3, none⟩ = some (.pointer (some ⟨x.b, 0, none⟩))
  v2 : (w.setCell ⟨u.b, u.o + 3, none⟩ (.pointer (some ⟨v.b, v.o, none⟩))).cell? ⟨v.b, v.o + 2, none⟩ = some (.pointer (some ⟨x.b, 0, none⟩))
  fu : w.frozen? ⟨u.b, u.o + 3, none⟩ = false
  fv : w.frozen? ⟨v.b, v.o + 2, none⟩ = false
  xu : x.b ≠ u.b
  xv : x.b ≠ v.b
  ub : u.b < w.heap.size
  vb : v.b < w.heap.size
  two : ∀ w2, ((w.setCell ⟨u.b, u.o + 3, none⟩ (.pointer (some ⟨v.b, v.o, none⟩))).setCell ⟨v.b, v.o + 2, none⟩ (.pointer (some ⟨u.b, u.o, none⟩))).drew = w2 →
    w2.cell? ⟨P, 0, none⟩ = some (.slice (some ⟨O, 0, none⟩) N.length N.length) ∧ w2.cell? ⟨P, 1, none⟩ = some (.map (some M)) ∧ w2.cell? ⟨x.b, 1, none⟩ = some (.int .i64 i) ∧ w2.cell? ⟨O, i * 5 + 4, none⟩ = some (.int .i64 ((a ++ b).length + 1 : Nat)) ∧ w2.frozen? ⟨O, i * 5 + 4, none⟩ = false ∧
    (∀ w3, (w2.setCell ⟨O, i * 5 + 4, none⟩ (.int .i64 ((a ++ b).length : Nat))).drew = w3 → w3.cell? ⟨P, 1, none⟩ = some (.map (some M)) ∧ Hid (PM w3 M ((N.set i (a ++ b)).flatten.length + 1) (look N)) ∧
      (∀ w4, PM w4 M (N.set i (a ++ b)).flatten.length (updF (look N) x.id none) → w3.mapTurned w4 M → RM P O M (N.set i (a ++ b)) w4 ∧ Only (Ft P O M N) w w4))
theorem take_world {P O M : Nat} {N : List (List Nd)} {w : World} (h : RM P O M N w) {i : Nat} {a b : List Nd} {x : Nd} (hi : N[i]? = some (a ++ x :: b)) :
    TakeW P O M N w i a b x (lst (edge O i) (pts a)) (fst (edge O i) (pts b)) := by
  have hr := h.row i _ hi
  have hxf := mem_flat hi (x := x) (by simp)
  have hseq := hr.seq
  rw [pts_app, pts_cons] at hseq
  obtain ⟨x2, x3⟩ := ring_mid hseq
  have x1 := (hr.node x (by simp)).2
  have u3 := (ring_at (b := x.pt :: pts b) hseq).1
  have v2 := (ring_at (a := pts a ++ [x.pt]) (b := pts b) (by rw [List.append_assoc]; exact hseq)).2
  rw [fst_cons] at u3
  rw [lst_snoc] at v2
  have hu : lst (edge O i) (pts a) = edge O i ∨ ∃ y ∈ a ++ x :: b, lst (edge O i) (pts a) = y.pt := (lst_is (edge O i) a).imp id (fun ⟨y, hy, e⟩ => ⟨y, by simp [hy], e⟩)
  have hv : fst (edge O i) (pts b) = edge O i ∨ ∃ y ∈ a ++ x :: b, fst (edge O i) (pts b) = y.pt := (fst_is (edge O i) b).imp id (fun ⟨y, hy, e⟩ => ⟨y, by simp [hy], e⟩)
  obtain ⟨u1, u2, u4, u5⟩ := h.own hi hu
  obtain ⟨v1, v3, v4, v5⟩ := h.own hi hv
  have he : edge O i = edge O i ∨ ∃ y ∈ a ++ x :: b, edge O i = y.pt := .inl rfl
  have hnd : ((a ++ x :: b).map Nd.b).Nodup := by
    have hnd : ((N.map (fun m => m.map Nd.b)).flatten).Nodup := by
      have := h.nd; rwa [List.map_flatten] at this
    exact (flat_nodup hnd).1 _ (List.mem_map.2 ⟨_, List.mem_of_getElem? hi, rfl⟩)
  rw [List.map_append, List.map_cons, List.nodup_append, List.nodup_cons] at hnd
  obtain ⟨_, ⟨nb, _⟩, nab⟩ := hnd
  obtain ⟨q1, q2, q3⟩ := h.xs x hxf
  have xu : x.b ≠ (lst (edge O i) (pts a)).b := by
    rcases lst_is (edge O i) a with e | ⟨y, hy, e⟩
    · rw [e]; exact q2
    · rw [e]; exact fun e1 => nab y.b (List.mem_map.2 ⟨y, hy, rfl⟩) x.b (List.mem_cons_self ..) e1.symm
  have xv : x.b ≠ (fst (edge O i) (pts b)).b := by
    rcases fst_is (edge O i) b with e | ⟨y, hy, e⟩
    · rw [e]; exact q2
    · rw [e]; exact fun e1 => nb (List.mem_map.2 ⟨y, hy, e1.symm⟩)
  have ouv := h.off hi hu hv
  have oue := h.off hi hu he
  have ove := h.off hi hv he
  have hct := hr.ct
  have hlen : (a ++ x :: b).length = (a ++ b).length + 1 := by simp; omega
  rw [hlen] at hct
  have hfl : N.flatten.length = (N.set i (a ++ b)).flatten.length + 1 := (flat_del hi).length_eq
  have hmap := h.map
  rw [hfl] at hmap
  have hsame0 : ∀ A B v v', A = (lst (edge O i) (pts a)).at_ 3 → B = (fst (edge O i) (pts b)).at_ 2 → Same (Cut M (edge O i) (lst (edge O i) (pts a)) (fst (edge O i) (pts b))) w ((w.setCell A v).setCell B v').drew :=
    fun A B v v' hA hB => ((Same.set (S := Cut M (edge O i) (lst (edge O i) (pts a)) (fst (edge O i) (pts b))) w A v (Or.inl hA)).trans (Same.set _ B v' (Or.inr (Or.inl hB)))).drew
  have hout := fun w' => h.out (w' := w') hi
  generalize lst (edge O i) (pts a) = u at *
  generalize fst (edge O i) (pts b) = v at *
  have huv : u.at_ 3 ≠ v.at_ 2 := pt_ne (fun e => by have := ouv e; omega)
  have hP0 : ∀ p : Pt, p.b ≠ P → ∀ k j, p.at_ k ≠ (⟨P, j, none⟩ : Addr) := fun p hp k j e => hp (congrArg Addr.block e)
  refine ⟨x2, x3, u3, setc_other v2 huv, u5 3, v5 2, xu, xv, h.lt _ u4, h.lt _ v4, ?_⟩
  rintro w2 rfl
  have hs2 := hsame0 _ _ v.v u.v rfl rfl
  have k3 : ((w.setCell (u.at_ 3) v.v).setCell (v.at_ 2) u.v).cell? (u.at_ 3) = some v.v := setc_other (setc_same u3) huv.symm
  have k2 : ((w.setCell (u.at_ 3) v.v).setCell (v.at_ 2) u.v).cell? (v.at_ 2) = some u.v := setc_same (setc_other v2 huv)
  have kP : ∀ j V, w.cell? ⟨P, j, none⟩ = some V → ((w.setCell (u.at_ 3) v.v).setCell (v.at_ 2) u.v).cell? ⟨P, j, none⟩ = some V := fun j V hV => setc_other (setc_other hV (hP0 u u1 _ _)) (hP0 v v1 _ _)
  have kx : ((w.setCell (u.at_ 3) v.v).setCell (v.at_ 2) u.v).cell? (x.pt.at_ 1) = some (.int .i64 i) := setc_other (setc_other x1 (at_ne (fun e => xu e.symm) _ _)) (at_ne (fun e => xv e.symm) _ _)
  have kc : ((w.setCell (u.at_ 3) v.v).setCell (v.at_ 2) u.v).cell? ((edge O i).at_ 4) = some (.int .i64 ((a ++ b).length + 1 : Nat)) := setc_other (setc_other hct (pt_ne (fun e => by have := oue e; omega))) (pt_ne (fun e => by have := ove e; omega))
  have hO := h.lt O (.inr (.inl rfl))
  refine ⟨kP 0 _ h.p0, kP 1 _ h.p1, kx, kc, (hs2.plain O hO h.fO).frozen _, ?_⟩
  rintro w3 rfl
  have hs3 : Same (Cut M (edge O i) u v) w ((((w.setCell (u.at_ 3) v.v).setCell (v.at_ 2) u.v).drew.setCell ((edge O i).at_ 4) (.int .i64 ((a ++ b).length : Nat))).drew) := (hs2.trans (Same.set (S := Cut M (edge O i) u v) _ ((edge O i).at_ 4) _ (Or.inr (Or.inr (Or.inl rfl))))).drew
  have ho3 : Only (Ft P O M N) w ((((w.setCell (u.at_ 3) v.v).setCell (v.at_ 2) u.v).drew.setCell ((edge O i).at_ 4) (.int .i64 ((a ++ b).length : Nat))).drew) :=
    ((((Only.refl _ w).setCell (p := u.at_ 3) (.inl u4) _).setCell (p := v.at_ 2) (.inl v4) _).drew.setCell (p := (edge O i).at_ 4) (.inl (.inr (.inl rfl))) _).drew
  have m3 := setc_other (v := .int .i64 ((a ++ b).length : Nat)) k3 (a := (edge O i).at_ 4) (pt_ne (fun e => by have := oue e.symm; omega))
  have m2 := setc_other (v := .int .i64 ((a ++ b).length : Nat)) k2 (a := (edge O i).at_ 4) (pt_ne (fun e => by have := ove e.symm; omega))
  have mc := setc_same (v := .int .i64 ((a ++ b).length : Nat)) kc
  have mP := setc_other (v := .int .i64 ((a ++ b).length : Nat)) (kP 1 _ h.p1) (a := (edge O i).at_ 4) (hP0 (edge O i) (fun e => h.PO e.symm) _ _)
  refine ⟨mP, hid (hmap.keep ?_), ?_⟩
  · have g1 := Below.heap_setCell w (u.at_ 3) v.v M (fun e => u2 e.symm)
    have g2 := Below.heap_setCell (w.setCell (u.at_ 3) v.v) (v.at_ 2) u.v M (fun e => v3 e.symm)
    have g3 := Below.heap_setCell ((w.setCell (u.at_ 3) v.v).setCell (v.at_ 2) u.v) ((edge O i).at_ 4) (.int .i64 ((a ++ b).length : Nat)) M (fun e => h.OM e.symm)
    exact g3.trans (g2.trans g1)
  · intro w4 hM4 ht
    have hs4 := hs3.trans (Same.map ht (fun A hA => .inr (.inr (.inr hA))))
    have hc4 : ∀ {A : Addr} {V : Value}, A.block ≠ M → World.cell? ((((w.setCell (u.at_ 3) v.v).setCell (v.at_ 2) u.v).drew.setCell ((edge O i).at_ 4) (.int .i64 ((a ++ b).length : Nat))).drew) A = some V → w4.cell? A = some V := fun {A V} hA hV =>
      (World.cell?_of_block (ht.grown.block A.block (cell_lt hV) (fun e => hA (Option.some.inj e)))).trans hV
    exact ⟨hout w4 hs4 (hc4 u2 m3) (hc4 v3 m2) (hc4 h.OM mc) hM4, ho3.trans (Only.map (D := fun b => b = M) ht rfl) (fun y hy => .inl (.inr (.inr (.inl hy))))⟩

set_option maxRecDepth 100000 in
set_option maxHeartbeats 1000000 in
theorem take_yes {P O M : Nat} {N : List (List Nd)} {w : World} (h : RM P O M N w) {i : Nat} {a b : List Nd} {x : Nd} (hi : N[i]? = some (a ++ x :: b)) (hl : look N x.id = some x.b) :
   Calls Try.prog 48 #[.pointer (some ⟨P, 0, none⟩), .int .i64 x.id] w fun e w' => e = .returned (.bool true) ∧ RM P O M (N.set i (a ++ b)) w' ∧ Only (Ft P O M N) w w' := by
  have hxf := mem_flat hi (x := x) (by simp)
  have hz : i64ok x.id := by have := h.rng hxf; unfold i64ok; omega
  have hL := h.map.look hz
  rw [hl] at hL
  replace hL : (Instr.lookup 74 (.map (some M)) (.int .i64 x.id) false).run Try.prog w = .ok (.pointer (some ⟨x.b, 0, none⟩)) w := hL
  have hkey := hid (And.intro hz (show look N x.id ≠ none by rw [hl]; simp))
  have c1 := h.p1
  have hil := (List.getElem?_eq_some_iff.1 hi).1
  have hn8 := h.n8
  have hlen := h.len hi
  rw [List.length_append, List.length_cons] at hlen
  obtain ⟨x2, x3, u3, v2, fu, fv, xu, xv, lu, lv, htwo⟩ := take_world h hi
  generalize lst (edge O i) (pts a) = u at *
  generalize fst (edge O i) (pts b) = v at *
  obtain ⟨ub, uo⟩ := u
  obtain ⟨vb, vo⟩ := v
  dsimp only at *
  have hK : (a ++ b).length ≤ 4194304 := by rw [List.length_append]; omega
  have HT := hid htwo
  clear htwo h hi hl hz hxf hlen
  generalize (a ++ b).length = K at *
  generalize N.length = n at *
  generalize look N = f at *
  generalize (N.set i (a ++ b)).flatten.length = c at *
  generalize x.b = X at *
  generalize x.id = z at *
  go_enter Try.func48, Try.ntmps48
  go_wp2_with fail
  go_region
  generalize hw2 : ((w.setCell ⟨ub, uo + 3, none⟩ (.pointer (some ⟨vb, vo, none⟩))).setCell ⟨vb, vo + 2, none⟩ (.pointer (some ⟨ub, uo, none⟩))).drew = w2
  obtain ⟨d0, d1, d2, d3, d4, HT2⟩ := HT.out w2 hw2
  have HT2 := hid HT2
  clear HT hw2 u3 v2 x2 x3 fu fv c1 hL
  have hK2 : IntKind.i64.wrap (((K + 1 : Nat) : Int) - 1) = (K : Int) := by rw [IntKind.wrap_i64]; omega
  go_wp2_with fail
  go_region
  generalize hw3 : (w2.setCell ⟨O, i * 5 + 4, none⟩ (.int .i64 (K : Int))).drew = w3
  obtain ⟨e1, e2, HT3⟩ := HT2.out w3 hw3
  have HT4 := hid HT3
  clear HT2 HT3 hw3 d0 d1 d2 d3 d4
  go_wp2_with (at_delete; refine wpList_pm_del rfl _ _ rfl rfl e2 rfl hkey ?_; intro w4 h4 t4)
  go_ret
  exact ⟨rfl, HT4.out w4 h4.out t4.out⟩
theorem take_no_any {P O M : Nat} {N : List (List Nd)} {w : World} (h : RM P O M N w) {z : Int} (hz : i64ok z) (hl : look N z = none) :
   Calls Try.prog 48 #[.pointer (some ⟨P, 0, none⟩), .int .i64 z] w fun e w' => e = .returned (.bool false) ∧ w = w' := by
  have hL := h.map.look hz
  rw [hl] at hL
  replace hL : (Instr.lookup 74 (.map (some M)) (.int .i64 z) false).run Try.prog w = .ok (.pointer none) w := hL
  have c1 := h.p1
  clear h hl
  go_enter Try.func48, Try.ntmps48
  go_wp2_with fail
  go_ret
  exact ⟨rfl, rfl⟩
/-- What a call leaves. -/
structure Go10 (P O M : Nat) (N : List (List Nd)) (w : World) (N' : List (List Nd)) (w' : World) : Prop where
  rm : RM P O M N' w'
  only : Only (Ft P O M N) w w'
  foot : ∀ b, Ft P O M N' b → Ft P O M N b ∨ w.heap.size ≤ b
theorem idl_split (a b : List Nd) (x : Nd) : idl (a ++ x :: b) = idl a ++ x.id :: idl b := by simp [idl]
/-- Take. -/
theorem take_any {P O M : Nat} {N : List (List Nd)} {w : World} (h : RM P O M N w) (z : Int) (hz : i64ok z) :
   Calls Try.prog 48 #[.pointer (some ⟨P, 0, none⟩), .int .i64 z] w fun e w' => e = .returned (.bool (rowOf (ids N) z).isSome) ∧ ∃ N', Go10 P O M N w N' w' ∧ ids N' = takeL (ids N) z ∧ look N' z = none := by
  rcases h.stands z with ⟨h1, h2⟩ | ⟨i, a, b, x, rfl, h1, h2, h3, h4⟩
  · rw [h2]
    refine (take_no_any h hz h1).mono ?_
    rintro e w' ⟨rfl, rfl⟩
    exact ⟨rfl, N, ⟨h, Only.refl _ _, fun b hb => .inl hb⟩, (take_no (rowOf_none'.1 h2)).symm, h1⟩
  · rw [h2]
    refine (take_yes h h3 h1).mono ?_
    rintro e w' ⟨rfl, h5, h6⟩
    have hsp := ids_at h3
    rw [idl_split] at hsp
    have hids : ids (N.set i (a ++ b)) = takeL (ids N) x.id := by
      rw [ids_set, take_split h.good.nd hsp]; simp [idl]
    refine ⟨rfl, _, ⟨h5, h6, fun c hc => .inl ?_⟩, hids, ?_⟩
    · rcases hc with hc | hc | hc | ⟨y, hy, hc⟩
      · exact .inl hc
      · exact .inr (.inl hc)
      · exact .inr (.inr (.inl hc))
      · exact .inr (.inr (.inr ⟨y, (flat_del h3).mem_iff.2 (List.mem_cons_of_mem _ hy), hc⟩))
    · cases e : look (N.set i (a ++ b)) x.id with
      | none => rfl
      | some c =>
        obtain ⟨y, hy, e1, _⟩ := (look_iff h5.idn).1 e
        have : x.id ∈ (ids (N.set i (a ++ b))).flatten := by rw [ids_flat]; exact List.mem_map.2 ⟨y, hy, e1⟩
        rw [hids] at this
        exact absurd this not_take
end Go.Proofs.Ytkhmgigllcgpnaa

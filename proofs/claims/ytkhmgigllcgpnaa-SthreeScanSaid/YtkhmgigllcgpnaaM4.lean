/-
  The contracts of what only looks at a ghost: Has, Len. Conditions: the ghost lies in memory.
  The contract of Remove. Conditions: the ghost lies in memory.
-/
import Derived.Test.YtkhmgigllcgpnaaGhostObj
import Derived.Shelf.RegionOpen
import Derived.BigRegion
import Derived.BigQuiet
import Derived.WalkSpells
import Derived.Deep.DeepCutAuto
namespace Go.Proofs.Ytkhmgigllcgpnaa.Gh
open Go Go.RowKit Go.Lib

/-- A number that is there, and its mark. -/
theorem GM.stands {P M m : Nat} {N : List Nd} {w : World} (h : GM P M m N w) (z : Int) : (look N z = none ∧ z ∉ idl N) ∨ ∃ a b x, x.id = z ∧ look N z = some x.b ∧ z ∈ idl N ∧ N = a ++ x :: b := by
  cases e : look N z with
  | none => exact .inl ⟨rfl, (look_no h.nd).1 e⟩
  | some c =>
    obtain ⟨x, hx, rfl, rfl⟩ := (look_iff h.nd).1 e
    obtain ⟨a, b, rfl⟩ := List.append_of_mem hx
    exact .inr ⟨a, b, x, rfl, rfl, List.mem_map.2 ⟨x, hx, rfl⟩, rfl⟩
set_option maxRecDepth 100000 in
theorem len_any {P M m : Nat} {N : List Nd} {w : World} (h : GM P M m N w) :
   Calls Try.prog 63 #[.pointer (some ⟨P, 0, none⟩)] w fun e w' => e = .returned (.int .i64 N.length) ∧ w = w' := by
  have hM := hid h.map
  have c0 := h.p4
  generalize N.length = n at *
  clear h
  go_enter Try.func63, Try.ntmps63
  go_wp2_with (at_len; refine wpList_pm_len rfl _ rfl rfl hM ?_)
  go_ret
  exact ⟨rfl, rfl⟩
end Go.Proofs.Ytkhmgigllcgpnaa.Gh
namespace Go.Proofs.Ytkhmgigllcgpnaa.Gh
open Go Go.RowKit Go.Lib

theorem setc_same {w : World} {a : Addr} {v u : Value} (h : w.cell? a = some u) : (w.setCell a v).cell? a = some v := World.cell?_setCell_same _ _ _ h
theorem setc_other {w : World} {a b : Addr} {v u : Value} (hb : w.cell? b = some u) (h : a ≠ b) : (w.setCell a v).cell? b = some u := (World.cell?_setCell_other _ _ _ _ h).trans hb
theorem pt_ne {p q : Pt} {k j : Nat} (h : p.b = q.b → p.o + k ≠ q.o + j) : p.at_ k ≠ q.at_ j := fun e => h (congrArg Addr.block e) (congrArg Addr.off e)
/-- What Remove finds, and what it leaves, store by store. -/
structure TakeW (P M m : Nat) (w : World) (a b : List Nd) (x : Nd) (u v : Pt) : Prop where
  x1 : w.cell? ⟨x.b, 1, none⟩ = some (.pointer (some ⟨u.b, u.o, none⟩))
  x2 : w.cell? ⟨x.b, 2, none⟩ = some (.pointer (some ⟨v.b, v.o, none⟩))
  u2 : w.cell? ⟨u.b, u.o + 2, none⟩ = some (.pointer (some ⟨x.b, 0, none⟩))
  v1 : (w.setCell ⟨u.b, u.o + 2, none⟩ (.pointer (some ⟨v.b, v.o, none⟩))).cell? ⟨v.b, v.o + 1, none⟩ = some (.pointer (some ⟨x.b, 0, none⟩))
  fu : w.frozen? ⟨u.b, u.o + 2, none⟩ = false
  fv : w.frozen? ⟨v.b, v.o + 1, none⟩ = false
  xu : x.b ≠ u.b
  xv : x.b ≠ v.b
  ub : u.b < w.heap.size
  vb : v.b < w.heap.size
  two : ∀ w2, ((w.setCell ⟨u.b, u.o + 2, none⟩ (.pointer (some ⟨v.b, v.o, none⟩))).setCell ⟨v.b, v.o + 1, none⟩ (.pointer (some ⟨u.b, u.o, none⟩))).drew = w2 →
    w2.cell? ⟨P, 4, none⟩ = some (.map (some M)) ∧ Hid (PM w2 M ((a ++ b).length + 1) (look (a ++ x :: b))) ∧
      (∀ w4, PM w4 M (a ++ b).length (updF (look (a ++ x :: b)) x.id none) → w2.mapTurned w4 M → GM P M m (a ++ b) w4 ∧ Only (Ft P M (a ++ x :: b)) w w4)
theorem take_world {P M m : Nat} {w : World} {a b : List Nd} {x : Nd} (h : GM P M m (a ++ x :: b) w) :
    TakeW P M m w a b x (lst (edge P) (pts a)) (fst (edge P) (pts b)) := by
  have hseq := h.seq
  rw [pts_app, pts_cons] at hseq
  obtain ⟨x1, x2⟩ := ring_mid hseq
  have u2 := (ring_at (b := x.pt :: pts b) hseq).1
  have v1 := (ring_at (a := pts a ++ [x.pt]) (b := pts b) (by rw [List.append_assoc]; exact hseq)).2
  rw [fst_cons] at u2
  rw [lst_snoc] at v1
  have hu : Rp P (a ++ x :: b) (lst (edge P) (pts a)) := (lst_is P a).mono (fun y hy => List.mem_append_left _ hy)
  have hv : Rp P (a ++ x :: b) (fst (edge P) (pts b)) := (fst_is P b).mono (fun y hy => List.mem_append_right _ (List.mem_cons_of_mem _ hy))
  obtain ⟨u4, u5, u6⟩ := h.own hu
  obtain ⟨v4, v5, v6⟩ := h.own hv
  have hxm : x ∈ a ++ x :: b := mem_mid.2 (.inl rfl)
  have hnd := h.ndb
  rw [List.map_append, List.map_cons, List.nodup_append, List.nodup_cons] at hnd
  obtain ⟨_, ⟨nb, _⟩, nab⟩ := hnd
  obtain ⟨q1, q2⟩ := h.xs x hxm
  have xu : x.b ≠ (lst (edge P) (pts a)).b := by
    rcases lst_is P a with e | ⟨y, hy, e⟩
    · rw [e]; exact q1
    · rw [e]; exact fun e1 => nab y.b (List.mem_map.2 ⟨y, hy, rfl⟩) x.b (List.mem_cons_self ..) e1.symm
  have xv : x.b ≠ (fst (edge P) (pts b)).b := by
    rcases fst_is P b with e | ⟨y, hy, e⟩
    · rw [e]; exact q1
    · rw [e]; exact fun e1 => nb (List.mem_map.2 ⟨y, hy, e1.symm⟩)
  have ouv := h.off hu hv
  have oue := h.off hu (.inl rfl)
  have ove := h.off hv (.inl rfl)
  have hmap := h.map
  rw [len_mid] at hmap
  have ftu := h.ft hu
  have ftv := h.ft hv
  have hsame0 : ∀ A B V V', A = (lst (edge P) (pts a)).at_ 2 → B = (fst (edge P) (pts b)).at_ 1 → Same (Cut M (lst (edge P) (pts a)) (fst (edge P) (pts b))) w ((w.setCell A V).setCell B V').drew :=
    fun A B V V' hA hB => ((Same.set (S := Cut M (lst (edge P) (pts a)) (fst (edge P) (pts b))) w A V (Or.inl hA)).trans (Same.set _ B V' (Or.inr (Or.inl hB)))).drew
  have hout := fun w' => h.out (w' := w')
  generalize lst (edge P) (pts a) = u at *
  generalize fst (edge P) (pts b) = v at *
  have huv : u.at_ 2 ≠ v.at_ 1 := pt_ne (fun e => by have := ouv e; omega)
  refine ⟨x1, x2, u2, setc_other v1 huv, u6 2, v6 1, xu, xv, u5, v5, ?_⟩
  rintro w2 rfl
  have hs2 := hsame0 _ _ v.v u.v rfl rfl
  have k2 : ((w.setCell (u.at_ 2) v.v).setCell (v.at_ 1) u.v).cell? (u.at_ 2) = some v.v := setc_other (setc_same u2) huv.symm
  have k1 : ((w.setCell (u.at_ 2) v.v).setCell (v.at_ 1) u.v).cell? (v.at_ 1) = some u.v := setc_same (setc_other v1 huv)
  have kP : ((w.setCell (u.at_ 2) v.v).setCell (v.at_ 1) u.v).cell? ⟨P, 4, none⟩ = some (.map (some M)) := by
    refine setc_other (setc_other h.p4 (fun e => ?_)) (fun e => ?_)
    · have e1 : u.b = P := congrArg Addr.block e
      have e2 : u.o + 2 = 4 := congrArg Addr.off e
      have e3 : u.o = 1 := oue e1
      omega
    · have e1 : v.b = P := congrArg Addr.block e
      have e2 : v.o + 1 = 4 := congrArg Addr.off e
      have e3 : v.o = 1 := ove e1
      omega
  refine ⟨kP, hid (hmap.keep ?_), ?_⟩
  · have g1 := Below.heap_setCell w (u.at_ 2) v.v M (fun e => u4 e.symm)
    have g2 := Below.heap_setCell (w.setCell (u.at_ 2) v.v) (v.at_ 1) u.v M (fun e => v4 e.symm)
    exact g2.trans g1
  · intro w4 hM4 ht
    have hs4 := hs2.trans (Same.map ht (fun A hA => .inr (.inr hA)))
    have hc4 : ∀ {A : Addr} {V : Value}, A.block ≠ M → World.cell? (((w.setCell (u.at_ 2) v.v).setCell (v.at_ 1) u.v).drew) A = some V → w4.cell? A = some V := fun {A V} hA hV =>
      (World.cell?_of_block (ht.grown.block A.block (cell_lt hV) (fun e => hA (Option.some.inj e)))).trans hV
    have ho2 : Only (Ft P M (a ++ x :: b)) w (((w.setCell (u.at_ 2) v.v).setCell (v.at_ 1) u.v).drew) := (((Only.refl _ w).setCell (p := u.at_ 2) (.inl ftu) _).setCell (p := v.at_ 1) (.inl ftv) _).drew
    exact ⟨hout w4 hs4 (hc4 u4 k2) (hc4 v4 k1) hM4, ho2.trans (Only.map (D := fun b => b = M) ht rfl) (fun y hy => .inl (.inr (.inl hy)))⟩

set_option maxRecDepth 100000 in
set_option maxHeartbeats 1000000 in
theorem take_yes {P M m : Nat} {w : World} {a b : List Nd} {x : Nd} (h : GM P M m (a ++ x :: b) w) (hl : look (a ++ x :: b) x.id = some x.b) :
   Calls Try.prog 41 #[.pointer (some ⟨P, 0, none⟩), .int .u64 x.id] w fun e w' => e = .returned (.bool true) ∧ GM P M m (a ++ b) w' ∧ Only (Ft P M (a ++ x :: b)) w w' := by
  have hz : u64ok x.id := h.rng x (mem_mid.2 (.inl rfl))
  have hL := h.map.look hz
  rw [hl] at hL
  replace hL : (Instr.lookup 82 (.map (some M)) (.int .u64 x.id) false).run Try.prog w = .ok (.pointer (some ⟨x.b, 0, none⟩)) w := hL
  have hkey := hid (And.intro hz (show look (a ++ x :: b) x.id ≠ none by rw [hl]; simp))
  have c1 := h.p4
  obtain ⟨x1, x2, u2, v1, fu, fv, xu, xv, lu, lv, htwo⟩ := take_world h
  generalize lst (edge P) (pts a) = u at *
  generalize fst (edge P) (pts b) = v at *
  obtain ⟨ub, uo⟩ := u
  obtain ⟨vb, vo⟩ := v
  dsimp only at *
  have HT := hid htwo
  clear htwo h hl hz
  generalize look (a ++ x :: b) = f at *
  generalize (a ++ b).length = c at *
  generalize x.b = X at *
  generalize x.id = z at *
  go_enter Try.func41, Try.ntmps41
  go_wp2_with fail
  go_region
  generalize hw2 : ((w.setCell ⟨ub, uo + 2, none⟩ (.pointer (some ⟨vb, vo, none⟩))).setCell ⟨vb, vo + 1, none⟩ (.pointer (some ⟨ub, uo, none⟩))).drew = w2
  obtain ⟨d0, d1, HT2⟩ := HT.out w2 hw2
  have HT2 := hid HT2
  clear HT hw2 u2 v1 x1 x2 fu fv c1 hL
  go_wp2_with (at_delete; refine wpList_pm_del rfl _ _ rfl rfl d1 rfl hkey ?_; intro w4 h4 t4)
  go_ret
  exact ⟨rfl, HT2.out w4 h4.out t4.out⟩
theorem take_no_any {P M m : Nat} {N : List Nd} {w : World} (h : GM P M m N w) {z : Int} (hz : u64ok z) (hl : look N z = none) :
   Calls Try.prog 41 #[.pointer (some ⟨P, 0, none⟩), .int .u64 z] w fun e w' => e = .returned (.bool false) ∧ w = w' := by
  have hL := h.map.look hz
  rw [hl] at hL
  replace hL : (Instr.lookup 82 (.map (some M)) (.int .u64 z) false).run Try.prog w = .ok (.pointer none) w := hL
  have c1 := h.p4
  clear h hl
  go_enter Try.func41, Try.ntmps41
  go_wp2_with fail
  go_ret
  exact ⟨rfl, rfl⟩
/-- What a call leaves. -/
structure Go11 (P M : Nat) (N : List Nd) (w : World) (m : Nat) (N' : List Nd) (w' : World) : Prop where
  gm : GM P M m N' w'
  only : Only (Ft P M N) w w'
  foot : ∀ b, Ft P M N' b → Ft P M N b ∨ w.heap.size ≤ b
theorem Go11.refl {P M m : Nat} {N : List Nd} {w : World} (h : GM P M m N w) : Go11 P M N w m N w := ⟨h, Only.refl _ _, fun _ hb => .inl hb⟩
theorem Go11.trans {P M m m' : Nat} {N N1 N2 : List Nd} {w w1 w2 : World} (h : Go11 P M N w m N1 w1) (k : Go11 P M N1 w1 m' N2 w2) : Go11 P M N w m' N2 w2 :=
  ⟨k.gm, h.only.trans k.only h.foot, fun b hb => (k.foot b hb).elim (h.foot b) (fun e => .inr (Nat.le_trans h.only.size e))⟩
/-- Remove. -/
theorem take_any {P M m : Nat} {N : List Nd} {w : World} (h : GM P M m N w) (z : Int) (hz : u64ok z) :
   Calls Try.prog 41 #[.pointer (some ⟨P, 0, none⟩), .int .u64 z] w fun e w' => e = .returned (.bool (decide (z ∈ idl N))) ∧ ∃ N', Go11 P M N w m N' w' ∧ idl N' = rmL (idl N) z ∧ look N' z = none ∧ N'.length ≤ N.length := by
  rcases h.stands z with ⟨h1, h2⟩ | ⟨a, b, x, rfl, h1, h2, rfl⟩
  · rw [decide_eq_false h2]
    refine (take_no_any h hz h1).mono ?_
    rintro e w' ⟨rfl, rfl⟩
    exact ⟨rfl, N, Go11.refl h, (rm_no h2).symm, h1, Nat.le_refl _⟩
  · rw [decide_eq_true h2]
    refine (take_yes h h1).mono ?_
    rintro e w' ⟨rfl, h5, h6⟩
    have hnd := h.nd
    rw [idl_split] at hnd
    have hids : idl (a ++ b) = rmL (idl (a ++ x :: b)) x.id := by rw [idl_split, rm_split hnd, idl_app]
    refine ⟨rfl, _, ⟨h5, h6, fun c hc => .inl ?_⟩, hids, (look_no h5.nd).2 (by rw [hids]; exact rm_not _ _), by rw [len_mid]; omega⟩
    rcases hc with hc | hc | ⟨y, hy, hc⟩
    · exact .inl hc
    · exact .inr (.inl hc)
    · exact .inr (.inr ⟨y, mem_mid.2 (.inr hy), hc⟩)
end Go.Proofs.Ytkhmgigllcgpnaa.Gh

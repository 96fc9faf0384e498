/-
  The contracts of stand, Front and Back. Conditions: the rows lie in memory.
-/
import Derived.Test.YtkhmgigllcgpnaaRowsTake
namespace Go.Proofs.Ytkhmgigllcgpnaa
open Go Go.RowKit Go.Lib

/-- What stand finds, and what it leaves, store by store. -/
structure StandW (P O M : Nat) (N : List (List Nd)) (w : World) (i : Nat) (a b : List Nd) (z : Int) (u v : Pt) (w1 : World) : Prop where
  x2 : w1.cell? ⟨w.heap.size, 2, none⟩ = some (.pointer (some ⟨u.b, u.o, none⟩))
  x3 : w1.cell? ⟨w.heap.size, 3, none⟩ = some (.pointer (some ⟨v.b, v.o, none⟩))
  u3 : w1.cell? ⟨u.b, u.o + 3, none⟩ = some (.pointer (some ⟨v.b, v.o, none⟩))
  v2 : (w1.setCell ⟨u.b, u.o + 3, none⟩ (.pointer (some ⟨w.heap.size, 0, none⟩))).cell? ⟨v.b, v.o + 2, none⟩ = some (.pointer (some ⟨u.b, u.o, none⟩))
  fu : w1.frozen? ⟨u.b, u.o + 3, none⟩ = false
  fv : w1.frozen? ⟨v.b, v.o + 2, none⟩ = false
  xu : w.heap.size ≠ u.b
  xv : w.heap.size ≠ v.b
  two : ∀ w2, ((w1.setCell ⟨u.b, u.o + 3, none⟩ (.pointer (some ⟨w.heap.size, 0, none⟩))).setCell ⟨v.b, v.o + 2, none⟩ (.pointer (some ⟨w.heap.size, 0, none⟩))).drew = w2 →
    w2.cell? ⟨P, 1, none⟩ = some (.map (some M)) ∧ Hid (PM w2 M N.flatten.length (look N)) ∧
    (∀ w3, PM w3 M (N.flatten.length + 1) (updF (look N) z (some w.heap.size)) → w2.mapTurned w3 M → w3.cell? ⟨P, 0, none⟩ = some (.slice (some ⟨O, 0, none⟩) N.length N.length) ∧ w3.cell? ⟨O, i * 5 + 4, none⟩ = some (.int .i64 ((a ++ b).length : Nat)) ∧ w3.frozen? ⟨O, i * 5 + 4, none⟩ = false ∧
      Hid (RM P O M (N.set i (a ++ ⟨z, w.heap.size⟩ :: b)) (w3.setCell ⟨O, i * 5 + 4, none⟩ (.int .i64 (((a ++ b).length : Nat) + 1))) ∧ Only (Ft P O M N) w (w3.setCell ⟨O, i * 5 + 4, none⟩ (.int .i64 (((a ++ b).length : Nat) + 1)))))
theorem stand_world {P O M : Nat} {N : List (List Nd)} {w : World} (h : RM P O M N w) {i : Nat} {a b : List Nd} (hi : N[i]? = some (a ++ b)) {z : Int} (hz : look N z = none) (h0 : 0 ≤ z) (h1 : z ≤ 4194303) :
    StandW P O M N w i a b z (lst (edge O i) (pts a)) (fst (edge O i) (pts b)) (w.alloc (.cells #[.int .i64 z, .int .i64 i, (lst (edge O i) (pts a)).v, (fst (edge O i) (pts b)).v] 79)) := by
  have hr := h.row i _ hi
  have hseq := hr.seq
  rw [pts_app] at hseq
  obtain ⟨u3, v2⟩ := ring_at hseq
  have hu : lst (edge O i) (pts a) = edge O i ∨ ∃ y ∈ a ++ b, lst (edge O i) (pts a) = y.pt := (lst_is (edge O i) a).imp id (fun ⟨y, hy, e⟩ => ⟨y, by simp [hy], e⟩)
  have hv : fst (edge O i) (pts b) = edge O i ∨ ∃ y ∈ a ++ b, fst (edge O i) (pts b) = y.pt := (fst_is (edge O i) b).imp id (fun ⟨y, hy, e⟩ => ⟨y, by simp [hy], e⟩)
  obtain ⟨u1, u2, u4, u5⟩ := h.own hi hu
  obtain ⟨v1, v3, v4, v5⟩ := h.own hi hv
  have he : edge O i = edge O i ∨ ∃ y ∈ a ++ b, edge O i = y.pt := .inl rfl
  have ouv := h.off hi hu hv
  have oue := h.off hi hu he
  have ove := h.off hi hv he
  have hct := hr.ct
  have hout := fun w' => h.ins (w' := w') hi ⟨z, w.heap.size⟩ hz h0 h1 (Nat.le_refl _)
  have hlt := h.lt
  have hsame0 : ∀ A B V V' o, A = (lst (edge O i) (pts a)).at_ 3 → B = (fst (edge O i) (pts b)).at_ 2 → Same (Cut M (edge O i) (lst (edge O i) (pts a)) (fst (edge O i) (pts b))) w (((w.alloc o).setCell A V).setCell B V').drew :=
    fun A B V V' o hA hB => (((Same.below ((Below.refl _ _).alloc (Nat.le_refl _) o)).trans (Same.set (S := Cut M (edge O i) (lst (edge O i) (pts a)) (fst (edge O i) (pts b))) _ A V (Or.inl hA))).trans (Same.set _ B V' (Or.inr (Or.inl hB)))).drew
  generalize lst (edge O i) (pts a) = u at *
  generalize fst (edge O i) (pts b) = v at *
  have hX := Blk.new w #[.int .i64 z, .int .i64 i, u.v, v.v] 79
  have hs2 := hsame0 (u.at_ 3) (v.at_ 2) (.pointer (some ⟨w.heap.size, 0, none⟩)) (.pointer (some ⟨w.heap.size, 0, none⟩)) (.cells #[.int .i64 z, .int .i64 i, u.v, v.v] 79) rfl rfl
  have ho1 : Only (Ft P O M N) w (w.alloc (.cells #[.int .i64 z, .int .i64 i, u.v, v.v] 79)) := (Only.refl _ w).alloc _
  have hal : ∀ {A : Addr} {V : Value}, w.cell? A = some V → (w.alloc (.cells #[.int .i64 z, .int .i64 i, u.v, v.v] 79)).cell? A = some V := fun hA => cell_alloc hA _
  have hfal : ∀ {A : Addr}, A.block < w.heap.size → (w.alloc (.cells #[.int .i64 z, .int .i64 i, u.v, v.v] 79)).frozen? A = w.frozen? A := fun {A} hA => ((Below.refl w.heap.size w).alloc (Nat.le_refl _) _).frozen hA
  have hbal : (w.alloc (.cells #[.int .i64 z, .int .i64 i, u.v, v.v] 79)).heap[M]? = w.heap[M]? := Below.heap_alloc w _ M h.map.lt
  generalize hw1 : w.alloc (.cells #[.int .i64 z, .int .i64 i, u.v, v.v] 79) = w1 at *
  have huv : u.at_ 3 ≠ v.at_ 2 := pt_ne (fun e => by have := ouv e; omega)
  have hP0 : ∀ p : Pt, p.b ≠ P → ∀ k j, p.at_ k ≠ (⟨P, j, none⟩ : Addr) := fun p hp k j e => hp (congrArg Addr.block e)
  have xu : w.heap.size ≠ u.b := fun e => by have := hlt _ u4; omega
  have xv : w.heap.size ≠ v.b := fun e => by have := hlt _ v4; omega
  have hXp : ∀ p : Pt, w.heap.size ≠ p.b → ∀ k j, p.at_ k ≠ (⟨w.heap.size, j, none⟩ : Addr) := fun p hp k j e => hp (congrArg Addr.block e).symm
  refine ⟨hX.cell (i := 2) rfl, hX.cell (i := 3) rfl, hal u3, setc_other (hal v2) huv, (hfal (hlt _ u4)).trans (u5 3), (hfal (hlt _ v4)).trans (v5 2), xu, xv, ?_⟩
  rintro w2 rfl
  have k3 : ((w1.setCell (u.at_ 3) (.pointer (some ⟨w.heap.size, 0, none⟩))).setCell (v.at_ 2) (.pointer (some ⟨w.heap.size, 0, none⟩))).cell? (u.at_ 3) = some (.pointer (some ⟨w.heap.size, 0, none⟩)) := setc_other (setc_same (hal u3)) huv.symm
  have k2 : ((w1.setCell (u.at_ 3) (.pointer (some ⟨w.heap.size, 0, none⟩))).setCell (v.at_ 2) (.pointer (some ⟨w.heap.size, 0, none⟩))).cell? (v.at_ 2) = some (.pointer (some ⟨w.heap.size, 0, none⟩)) := setc_same (setc_other (hal v2) huv)
  have kP : ∀ j V, w.cell? ⟨P, j, none⟩ = some V → ((w1.setCell (u.at_ 3) (.pointer (some ⟨w.heap.size, 0, none⟩))).setCell (v.at_ 2) (.pointer (some ⟨w.heap.size, 0, none⟩))).cell? ⟨P, j, none⟩ = some V := fun j V hV => setc_other (setc_other (hal hV) (hP0 u u1 _ _)) (hP0 v v1 _ _)
  have kX : ∀ j V, w1.cell? ⟨w.heap.size, j, none⟩ = some V → ((w1.setCell (u.at_ 3) (.pointer (some ⟨w.heap.size, 0, none⟩))).setCell (v.at_ 2) (.pointer (some ⟨w.heap.size, 0, none⟩))).cell? ⟨w.heap.size, j, none⟩ = some V := fun j V hV => setc_other (setc_other hV (hXp u xu _ _)) (hXp v xv _ _)
  have kc : ((w1.setCell (u.at_ 3) (.pointer (some ⟨w.heap.size, 0, none⟩))).setCell (v.at_ 2) (.pointer (some ⟨w.heap.size, 0, none⟩))).cell? ((edge O i).at_ 4) = some (.int .i64 ((a ++ b).length : Nat)) := setc_other (setc_other (hal hct) (pt_ne (fun e => by have := oue e; omega))) (pt_ne (fun e => by have := ove e; omega))
  have hO := hlt O (.inr (.inl rfl))
  refine ⟨kP 1 _ h.p1, hid (h.map.keep ?_), ?_⟩
  · have g1 := Below.heap_setCell w1 (u.at_ 3) (.pointer (some ⟨w.heap.size, 0, none⟩)) M (fun e => u2 e.symm)
    have g2 := Below.heap_setCell (w1.setCell (u.at_ 3) (.pointer (some ⟨w.heap.size, 0, none⟩))) (v.at_ 2) (.pointer (some ⟨w.heap.size, 0, none⟩)) M (fun e => v3 e.symm)
    exact g2.trans (g1.trans hbal)
  · intro w3 hM3 ht
    have hs3 := hs2.trans (Same.map ht (fun A hA => .inr (.inr (.inr hA))))
    have hc3 : ∀ {A : Addr} {V : Value}, A.block ≠ M → World.cell? ((w1.setCell (u.at_ 3) (.pointer (some ⟨w.heap.size, 0, none⟩))).setCell (v.at_ 2) (.pointer (some ⟨w.heap.size, 0, none⟩))) A = some V → w3.cell? A = some V := fun {A V} hA hV =>
      (World.cell?_of_block (ht.grown.block A.block (cell_lt (w := World.drew _) hV) (fun e => hA (Option.some.inj e)))).trans hV
    have hXM : w.heap.size ≠ M := fun e => by have := hlt M (.inr (.inr (.inl rfl))); omega
    refine ⟨hc3 h.PX (kP 0 _ h.p0), hc3 h.OM kc, (hs3.plain O hO h.fO).frozen _, hid ?_⟩
    have hs4 := hs3.trans (Same.set (S := Cut M (edge O i) u v) w3 ((edge O i).at_ 4) (.int .i64 (((a ++ b).length : Nat) + 1)) (Or.inr (Or.inr (Or.inl rfl))))
    have m3 := setc_other (v := .int .i64 (((a ++ b).length : Nat) + 1)) (hc3 u2 k3) (a := (edge O i).at_ 4) (pt_ne (fun e => by have := oue e.symm; omega))
    have m2 := setc_other (v := .int .i64 (((a ++ b).length : Nat) + 1)) (hc3 v3 k2) (a := (edge O i).at_ 4) (pt_ne (fun e => by have := ove e.symm; omega))
    have mX : ∀ j V, w1.cell? ⟨w.heap.size, j, none⟩ = some V → (w3.setCell ((edge O i).at_ 4) (.int .i64 (((a ++ b).length : Nat) + 1))).cell? ⟨w.heap.size, j, none⟩ = some V := fun j V hV => setc_other (hc3 hXM (kX j V hV)) (hXp (edge O i) (fun e => by rw [e] at hO; exact Nat.lt_irrefl _ hO) _ _)
    have mc := setc_same (v := .int .i64 (((a ++ b).length : Nat) + 1)) (hc3 h.OM kc)
    refine ⟨hout _ hs4 m3 (mX 2 _ (hX.cell (i := 2) rfl)) (mX 3 _ (hX.cell (i := 3) rfl)) m2 (mX 0 _ (hX.cell (i := 0) rfl)) (mX 1 _ (hX.cell (i := 1) rfl)) (mc.trans (congrArg (fun x => some (Value.int .i64 x)) (show ((a ++ b).length : Int) + 1 = (((a ++ b).length + 1 : Nat) : Int) by omega))) (hM3.keep (Below.heap_setCell w3 _ _ M (fun e => h.OM e.symm))) ?_, ?_⟩
    · have hX1 : Plain w1 w.heap.size := ⟨_, _, hX⟩
      have hlt2 := cell_lt (kX 2 _ (hX.cell (i := 2) rfl))
      exact ((((hX1.set (u.at_ 3) _).set (v.at_ 2) _).keep (ht.grown.block w.heap.size hlt2 (fun e => hXM (Option.some.inj e)))).set ((edge O i).at_ 4) _)
    · refine (((((ho1.setCell (p := u.at_ 3) (.inl u4) _).setCell (p := v.at_ 2) (.inl v4) _).drew).trans (Only.map (D := fun b => b = M) ht rfl) (fun y hy => .inl (.inr (.inr (.inl hy))))).setCell (p := (edge O i).at_ 4) (.inl (.inr (.inl rfl))) _)

set_option maxRecDepth 100000 in
set_option maxHeartbeats 1000000 in
theorem stand_any {P O M : Nat} {N : List (List Nd)} {w : World} (h : RM P O M N w) {i : Nat} {a b : List Nd} (hi : N[i]? = some (a ++ b)) {z : Int} (hz : look N z = none) (h0 : 0 ≤ z) (h1 : z ≤ 4194303) {ub uo : Nat} (hu : lst (edge O i) (pts a) = ⟨ub, uo⟩) :
   Calls Try.prog 58 #[.pointer (some ⟨P, 0, none⟩), .int .i64 i, .int .i64 z, .pointer (some ⟨ub, uo, none⟩)] w fun e w' => e = .returned (.tuple #[]) ∧ RM P O M (N.set i (a ++ ⟨z, w.heap.size⟩ :: b)) w' ∧ Only (Ft P O M N) w w' := by
  have hkey := hid (And.intro (show i64ok z by unfold i64ok; omega) (And.intro hz h.cnt))
  have hil := (List.getElem?_eq_some_iff.1 hi).1
  have hn8 := h.n8
  have hK := h.len hi
  have hSW := stand_world h hi hz h0 h1
  have hseq := (h.row i _ hi).seq
  rw [pts_app] at hseq
  have u3 := (ring_at hseq).1
  rw [hu] at hSW u3
  replace u3 : w.cell? ⟨ub, uo + 3, none⟩ = some (.pointer (some ⟨(fst (edge O i) (pts b)).b, (fst (edge O i) (pts b)).o, none⟩)) := u3
  generalize fst (edge O i) (pts b) = v at *
  obtain ⟨vb, vo⟩ := v
  dsimp only at u3
  have HS := hid hSW
  clear hSW h hi hz hseq hu
  go_enter Try.func58, Try.ntmps58
  go_wp2_with fail
  generalize hw1 : w.alloc (.cells #[.int .i64 z, .int .i64 i, .pointer (some ⟨ub, uo, none⟩), .pointer (some ⟨vb, vo, none⟩)] 79) = w1
  obtain ⟨s1, s2, s3, s4, s5, s6, s7, s8, s9⟩ := hw1 ▸ HS.out
  dsimp only at s1 s2 s3 s4 s5 s6 s7 s8
  have HS9 := hid s9
  clear s9 HS hw1 u3
  go_region
  generalize hw2 : ((w1.setCell ⟨ub, uo + 3, none⟩ (.pointer (some ⟨w.heap.size, 0, none⟩))).setCell ⟨vb, vo + 2, none⟩ (.pointer (some ⟨w.heap.size, 0, none⟩))).drew = w2
  obtain ⟨d1, d2, d3⟩ := HS9.out w2 hw2
  have HD3 := hid d3
  clear HS9 d3 s1 s2 s3 s4 s5 s6 s7 s8 hw2
  generalize (a ++ b).length = K at *
  go_wp2_with (at_mapUpdate; refine wpList_pm_put rfl _ _ _ rfl rfl d2 rfl rfl hkey ?_; intro w3 h3 t3; obtain ⟨k1, k2, k3, k4⟩ := HD3.out w3 h3.out t3.out; clear HD3)
  go_end0
  exact ⟨rfl, k4.out⟩
end Go.Proofs.Ytkhmgigllcgpnaa

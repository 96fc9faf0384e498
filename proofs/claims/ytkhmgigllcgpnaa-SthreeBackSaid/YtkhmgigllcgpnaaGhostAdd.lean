/-
  The contract of Add. Conditions: the ghost lies in memory, and holds fewer than 4194304 numbers.
-/
import Derived.Test.YtkhmgigllcgpnaaGhostTrim
namespace Go.Proofs.Ytkhmgigllcgpnaa.Gh
open Go Go.RowKit Go.Lib

/-- What the new mark finds, and what it leaves, store by store. -/
structure AddW (P M m : Nat) (N : List Nd) (w : World) (z : Int) (u : Pt) (w1 : World) : Prop where
  x1 : w1.cell? ⟨w.heap.size, 1, none⟩ = some (.pointer (some ⟨u.b, u.o, none⟩))
  x2 : w1.cell? ⟨w.heap.size, 2, none⟩ = some (.pointer (some ⟨P, 1, none⟩))
  u2 : w1.cell? ⟨u.b, u.o + 2, none⟩ = some (.pointer (some ⟨P, 1, none⟩))
  v1 : (w1.setCell ⟨u.b, u.o + 2, none⟩ (.pointer (some ⟨w.heap.size, 0, none⟩))).cell? ⟨P, 2, none⟩ = some (.pointer (some ⟨u.b, u.o, none⟩))
  fu : w1.frozen? ⟨u.b, u.o + 2, none⟩ = false
  fv : w1.frozen? ⟨P, 2, none⟩ = false
  xu : w.heap.size ≠ u.b
  xv : w.heap.size ≠ P
  two : ∀ w2, ((w1.setCell ⟨u.b, u.o + 2, none⟩ (.pointer (some ⟨w.heap.size, 0, none⟩))).setCell ⟨P, 2, none⟩ (.pointer (some ⟨w.heap.size, 0, none⟩))).drew = w2 →
    w2.cell? ⟨P, 4, none⟩ = some (.map (some M)) ∧ Hid (PM w2 M N.length (look N)) ∧
    (∀ w3, PM w3 M (N.length + 1) (updF (look N) z (some w.heap.size)) → w2.mapTurned w3 M → GM P M m (N ++ [⟨z, w.heap.size⟩]) w3 ∧ Only (Ft P M N) w w3)
theorem add_world {P M m : Nat} {N : List Nd} {w : World} (h : GM P M m N w) {z : Int} (hz : look N z = none) (h0 : u64ok z) (hlen : N.length < 4194304) :
    AddW P M m N w z (lst (edge P) (pts N)) ((w.alloc (.cells #[.int .u64 z, (lst (edge P) (pts N)).v, .pointer (some ⟨P, 1, none⟩)] 85)).drew) := by
  have hseq := h.seq
  have hra := ring_at (a := pts N) (b := []) (by rw [List.append_nil]; exact hseq)
  obtain ⟨u2, v1⟩ := hra
  have hu : Rp P N (lst (edge P) (pts N)) := lst_is P N
  have hv : Rp P N (edge P) := .inl rfl
  obtain ⟨u4, u5, u6⟩ := h.own hu
  obtain ⟨v4, v5, v6⟩ := h.own hv
  have ouv := h.off hu hv
  have ftu := h.ft hu
  have ftv := h.ft hv
  have hins := fun w' => GM.ins (a := N) (b := []) (w := w) (w' := w') (P := P) (M := M) (m := m) (by rw [List.append_nil]; exact h) ⟨z, w.heap.size⟩ (by rw [List.append_nil]; exact hz) h0 (Nat.le_refl _) (by rw [List.append_nil]; exact hlen)
  simp only [List.append_nil] at hins
  have hout : ∀ w', Same (Cut M (lst (edge P) (pts N)) (edge P)) w w' → _ := hins
  have hlt := h.lt
  have hsame0 : ∀ A B V V' o, A = (lst (edge P) (pts N)).at_ 2 → B = (edge P).at_ 1 → Same (Cut M (lst (edge P) (pts N)) (edge P)) w ((((w.alloc o).drew).setCell A V).setCell B V').drew :=
    fun A B V V' o hA hB => ((((Same.below ((Below.refl _ _).alloc (Nat.le_refl _) o)).drew).trans (Same.set (S := Cut M (lst (edge P) (pts N)) (edge P)) _ A V (Or.inl hA))).trans (Same.set _ B V' (Or.inr (Or.inl hB)))).drew
  replace u2 : w.cell? ((lst (edge P) (pts N)).at_ 2) = some (edge P).v := u2
  replace v1 : w.cell? ((edge P).at_ 1) = some (lst (edge P) (pts N)).v := v1
  clear hins
  generalize lst (edge P) (pts N) = u at *
  have hX := Blk.new w #[.int .u64 z, u.v, .pointer (some ⟨P, 1, none⟩)] 85
  have hs2 := hsame0 (u.at_ 2) ((edge P).at_ 1) (.pointer (some ⟨w.heap.size, 0, none⟩)) (.pointer (some ⟨w.heap.size, 0, none⟩)) (.cells #[.int .u64 z, u.v, .pointer (some ⟨P, 1, none⟩)] 85) rfl rfl
  have ho1 : Only (Ft P M N) w ((w.alloc (.cells #[.int .u64 z, u.v, .pointer (some ⟨P, 1, none⟩)] 85)).drew) := ((Only.refl _ w).alloc _).drew
  have hal : ∀ {A : Addr} {V : Value}, w.cell? A = some V → ((w.alloc (.cells #[.int .u64 z, u.v, .pointer (some ⟨P, 1, none⟩)] 85)).drew).cell? A = some V := fun hA => cell_alloc hA _
  have hfal : ∀ {A : Addr}, A.block < w.heap.size → ((w.alloc (.cells #[.int .u64 z, u.v, .pointer (some ⟨P, 1, none⟩)] 85)).drew).frozen? A = w.frozen? A := fun {A} hA => ((Below.refl w.heap.size w).alloc (Nat.le_refl _) _).frozen hA
  have hbal : ((w.alloc (.cells #[.int .u64 z, u.v, .pointer (some ⟨P, 1, none⟩)] 85)).drew).heap[M]? = w.heap[M]? := Below.heap_alloc w _ M h.map.lt
  replace hX : Blk ((w.alloc (.cells #[.int .u64 z, u.v, .pointer (some ⟨P, 1, none⟩)] 85)).drew) w.heap.size 85 [.int .u64 z, u.v, .pointer (some ⟨P, 1, none⟩)] := hX
  generalize hw1 : (w.alloc (.cells #[.int .u64 z, u.v, .pointer (some ⟨P, 1, none⟩)] 85)).drew = w1 at *
  have huv : u.at_ 2 ≠ (edge P).at_ 1 := pt_ne (fun e => by have := ouv e; omega)
  have xu : w.heap.size ≠ u.b := fun e => by have := hlt _ ftu; omega
  have xv : w.heap.size ≠ P := fun e => by have q : P < w.heap.size := hlt _ ftv; omega
  have hXp : ∀ p : Pt, w.heap.size ≠ p.b → ∀ k j, p.at_ k ≠ (⟨w.heap.size, j, none⟩ : Addr) := fun p hp k j e => hp (congrArg Addr.block e).symm
  have hPp : ∀ p : Pt, Rp P N p → ∀ k, k < 3 → p.at_ k ≠ (⟨P, 4, none⟩ : Addr) := fun p hp k hk e => by
    have e1 : p.b = P := congrArg Addr.block e
    have e2 : p.o + k = 4 := congrArg Addr.off e
    have e3 : p.o = 1 := h.off hp hv e1
    omega
  refine ⟨hX.cell (i := 1) rfl, hX.cell (i := 2) rfl, hal u2, setc_other (hal v1) huv, (hfal (hlt _ ftu)).trans (u6 2), (hfal (hlt _ ftv)).trans (v6 1), xu, xv, ?_⟩
  rintro w2 rfl
  have k2 : ((w1.setCell (u.at_ 2) (.pointer (some ⟨w.heap.size, 0, none⟩))).setCell ((edge P).at_ 1) (.pointer (some ⟨w.heap.size, 0, none⟩))).cell? (u.at_ 2) = some (.pointer (some ⟨w.heap.size, 0, none⟩)) := setc_other (setc_same (hal u2)) huv.symm
  have k1 : ((w1.setCell (u.at_ 2) (.pointer (some ⟨w.heap.size, 0, none⟩))).setCell ((edge P).at_ 1) (.pointer (some ⟨w.heap.size, 0, none⟩))).cell? ((edge P).at_ 1) = some (.pointer (some ⟨w.heap.size, 0, none⟩)) := setc_same (setc_other (hal v1) huv)
  have kP : ((w1.setCell (u.at_ 2) (.pointer (some ⟨w.heap.size, 0, none⟩))).setCell ((edge P).at_ 1) (.pointer (some ⟨w.heap.size, 0, none⟩))).cell? ⟨P, 4, none⟩ = some (.map (some M)) := setc_other (setc_other (hal h.p4) (hPp u hu 2 (by omega))) (hPp (edge P) hv 1 (by omega))
  have kX : ∀ j V, w1.cell? ⟨w.heap.size, j, none⟩ = some V → ((w1.setCell (u.at_ 2) (.pointer (some ⟨w.heap.size, 0, none⟩))).setCell ((edge P).at_ 1) (.pointer (some ⟨w.heap.size, 0, none⟩))).cell? ⟨w.heap.size, j, none⟩ = some V := fun j V hV => setc_other (setc_other hV (hXp u xu _ _)) (hXp (edge P) xv _ _)
  refine ⟨kP, hid (h.map.keep ?_), ?_⟩
  · have g1 := Below.heap_setCell w1 (u.at_ 2) (.pointer (some ⟨w.heap.size, 0, none⟩)) M (fun e => u4 e.symm)
    have g2 := Below.heap_setCell (w1.setCell (u.at_ 2) (.pointer (some ⟨w.heap.size, 0, none⟩))) ((edge P).at_ 1) (.pointer (some ⟨w.heap.size, 0, none⟩)) M (fun e => v4 e.symm)
    exact g2.trans (g1.trans hbal)
  · intro w3 hM3 ht
    have hs3 := hs2.trans (Same.map ht (fun A hA => .inr (.inr hA)))
    have hc3 : ∀ {A : Addr} {V : Value}, A.block ≠ M → World.cell? ((w1.setCell (u.at_ 2) (.pointer (some ⟨w.heap.size, 0, none⟩))).setCell ((edge P).at_ 1) (.pointer (some ⟨w.heap.size, 0, none⟩))) A = some V → w3.cell? A = some V := fun {A V} hA hV =>
      (World.cell?_of_block (ht.grown.block A.block (cell_lt (w := World.drew _) hV) (fun e => hA (Option.some.inj e)))).trans hV
    have hXM : w.heap.size ≠ M := fun e => by have := hlt M (.inr (.inl rfl)); omega
    have mX : ∀ j V, w1.cell? ⟨w.heap.size, j, none⟩ = some V → w3.cell? ⟨w.heap.size, j, none⟩ = some V := fun j V hV => hc3 hXM (kX j V hV)
    refine ⟨hout w3 hs3 (hc3 u4 k2) (mX 1 _ (hX.cell (i := 1) rfl)) (mX 2 _ (hX.cell (i := 2) rfl)) (hc3 v4 k1) (mX 0 _ (hX.cell (i := 0) rfl)) hM3 ?_, ?_⟩
    · have hX1 : Plain w1 w.heap.size := ⟨_, _, hX⟩
      have hlt2 := cell_lt (kX 0 _ (hX.cell (i := 0) rfl))
      exact ((hX1.set (u.at_ 2) _).set ((edge P).at_ 1) _).keep (ht.grown.block w.heap.size hlt2 (fun e => hXM (Option.some.inj e)))
    · exact (((ho1.setCell (p := u.at_ 2) (.inl ftu) _).setCell (p := (edge P).at_ 1) (.inl ftv) _).drew).trans (Only.map (D := fun b => b = M) ht rfl) (fun y hy => .inl (.inr (.inl hy)))

set_option maxRecDepth 100000 in
set_option maxHeartbeats 1000000 in
theorem add_any {P M m : Nat} {N : List Nd} {w : World} (h : GM P M m N w) {z : Int} (hz : u64ok z) (hlen : N.length < 4194304) :
   Calls Try.prog 45 #[.pointer (some ⟨P, 0, none⟩), .int .u64 z] w fun e w' => e = .returned (.tuple #[]) ∧ ∃ N', Go11 P M N w m N' w' ∧ idl N' = addL m (idl N) z ∧ N'.length ≤ N.length + 1 := by
  have ht := take_any h z hz
  generalize decide (z ∈ idl N) = B at *
  clear h
  go_enter Try.func45, Try.ntmps45
  go_wp2_with fail
  refine ht.mono ?_
  rintro e w1 ⟨rfl, N1, g1, e1, n1, l1⟩
  have hAW := add_world g1.gm n1 hz (by omega)
  have hkey := hid (And.intro hz (And.intro n1 g1.gm.len))
  have hra := ring_at (a := pts N1) (b := []) (by rw [List.append_nil]; exact g1.gm.seq)
  have c2 := hra.2
  have G1 := hid g1
  have L1 := hid l1
  have E1 := hid e1
  clear ht g1 e1 l1 n1 hra
  replace c2 : w1.cell? ⟨P, 2, none⟩ = some (.pointer (some ⟨(lst (edge P) (pts N1)).b, (lst (edge P) (pts N1)).o, none⟩)) := c2
  generalize lst (edge P) (pts N1) = u at *
  obtain ⟨ub, uo⟩ := u
  dsimp only at c2
  have HA := hid hAW
  clear hAW
  go_wp2_with fail
  go_region
  generalize hw2 : (w1.alloc (.cells #[.int .u64 z, .pointer (some ⟨ub, uo, none⟩), .pointer (some ⟨P, 1, none⟩)] 85)).drew = w2
  obtain ⟨s1, s2, s3, s4, s5, s6, s7, s8, s9⟩ := hw2 ▸ HA.out
  dsimp only at s1 s2 s3 s4 s5 s6 s7 s8
  have HS9 := hid s9
  clear s9 HA hw2 c2
  go_wp2_with fail
  go_region
  generalize hw3 : ((w2.setCell ⟨ub, uo + 2, none⟩ (.pointer (some ⟨w1.heap.size, 0, none⟩))).setCell ⟨P, 2, none⟩ (.pointer (some ⟨w1.heap.size, 0, none⟩))).drew = w3
  obtain ⟨d1, d2, d3⟩ := HS9.out w3 hw3
  have HD3 := hid d3
  clear HS9 d3 s1 s2 s3 s4 s5 s6 s7 s8 hw3
  go_wp2_with (at_mapUpdate; refine wpList_pm_put rfl _ _ _ rfl rfl d2 rfl rfl hkey ?_; intro w4 h4 t4; have HK := hid (HD3.out w4 h4.out t4.out); clear HD3)
  have htr := trim_any HK.out.1
  have HR := hid (show Go11 P M N1 w1 m (N1 ++ [⟨z, w1.heap.size⟩]) w4 from ⟨HK.out.1, HK.out.2, fun b hb => by
    rcases hb with hb | hb | ⟨y, hy, hb⟩
    · exact .inl (.inl hb)
    · exact .inl (.inr (.inl hb))
    · rcases List.mem_append.1 hy with hy | hy
      · exact .inl (.inr (.inr ⟨y, hy, hb⟩))
      · rw [List.mem_singleton.1 hy] at hb; exact .inr (Nat.le_of_eq hb)⟩)
  clear HK h4 t4 d1 d2 hkey
  refine htr.mono ?_
  rintro e w5 ⟨rfl, N5, g5, e5, l5⟩
  have HF := hid (show Go11 P M N w m N5 w5 ∧ idl N5 = addL m (idl N) z ∧ N5.length ≤ N.length + 1 from ⟨(G1.out.trans HR.out).trans g5, by rw [e5, idl_app, E1.out]; rfl, by have := L1.out; rw [List.length_append, List.length_singleton] at l5; omega⟩)
  clear htr g5 e5 l5
  go_wp2_with fail
  go_end0
  exact ⟨rfl, N5, HF.out⟩
end Go.Proofs.Ytkhmgigllcgpnaa.Gh

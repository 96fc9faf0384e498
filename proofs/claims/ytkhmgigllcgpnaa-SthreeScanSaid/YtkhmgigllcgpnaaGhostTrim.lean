/-
  The contracts of trim and Limit. Conditions: the ghost lies in memory.
-/
import Derived.Test.YtkhmgigllcgpnaaM4
namespace Go.Proofs.Ytkhmgigllcgpnaa.Gh
open Go Go.RowKit Go.Lib

theorem drewn_below {B : Nat} {w w' : World} (h : Below B w w') (n : Nat) : Below B w (w'.drewN n) := ⟨h.os, h.tape, h.output, h.size, h.block⟩
/-- A map's length, read from the world. -/
def mlen (M : Nat) (w : World) : Nat := match w.heap[M]? with
  | some (.map es _) => es.size
  | _ => 0
theorem PM.mlen_eq {w : World} {b c : Nat} {f : Int → Option Nat} (h : PM w b c f) : mlen b w = c := by
  obtain ⟨D, ⟨es, clock, h1, F, h2, rfl⟩, hs, _⟩ := h
  rw [Maps.size_eq, length_sorted] at hs
  unfold mlen
  rw [h1]
  simpa using hs
theorem GM.first {P M m : Nat} {x : Nd} {t : List Nd} {w : World} (h : GM P M m (x :: t) w) : w.cell? ⟨P, 3, none⟩ = some (.pointer (some ⟨x.b, 0, none⟩)) ∧ w.cell? ⟨x.b, 0, none⟩ = some (.int .u64 x.id) :=
  ⟨(ring_at (a := []) (b := pts (x :: t)) h.seq).1, h.node x (List.mem_cons_self ..)⟩
theorem GM.drewn {P M m : Nat} {N : List Nd} {w : World} (h : GM P M m N w) (n : Nat) : GM P M m N (w.drewN n) := h.below (drewn_below (Below.refl _ _) n)
theorem Go11.drewn {P M m : Nat} {N N' : List Nd} {w w' : World} (h : Go11 P M N w m N' w') (n : Nat) : Go11 P M N w m N' (w'.drewN n) :=
  h.trans ⟨h.gm.drewn n, Below.only (drewn_below (Below.refl _ _) n), fun _ hb => .inl hb⟩

set_option maxRecDepth 100000 in
set_option maxHeartbeats 1000000 in
theorem trim_any {P M m : Nat} {N : List Nd} {w : World} (h : GM P M m N w) :
   Calls Try.prog 56 #[.pointer (some ⟨P, 0, none⟩)] w fun e w' => e = .returned (.tuple #[]) ∧ ∃ N', Go11 P M N w m N' w' ∧ idl N' = cutL m (idl N) ∧ N'.length ≤ N.length := by
  have HG := hid h
  clear h
  go_enter Try.func56, Try.ntmps56
  go_wp2_with fail
  go_loopw [] (fun wr => ∃ N', Hid (Go11 P M N w m N' wr) ∧ Hid (cutL m (idl N') = cutL m (idl N)) ∧ N'.length ≤ N.length) (fun wr => mlen M wr)
  case atStart => exact ⟨N, hid (Go11.refl HG.out), hid rfl, Nat.le_refl _⟩
  case round =>
    obtain ⟨N1, hG, hC, hN⟩ := hrel
    have hg := hG.out.gm
    obtain ⟨mo, c0, hmo⟩ := hg.p0
    have hl4 := hg.len
    have HM := hid hg.map.mlen_eq
    have cL : ∀ n, Calls Try.prog 63 #[.pointer (some ⟨P, 0, none⟩)] (wr.drewN n) fun e w' => e = .returned (.int .i64 N1.length) ∧ ∃ k, w' = wr.drewN k := fun n =>
      (len_any (hg.drewn n)).mono fun e w' ⟨h1, h2⟩ => ⟨h1, n, h2.symm⟩
    by_cases hlt : m < N1.length
    · obtain ⟨x, t, rfl⟩ : ∃ x t, N1 = x :: t := by
        cases N1 with
        | nil => simp at hlt
        | cons x t => exact ⟨x, t, rfl⟩
      have hT := hid (fun n => take_any (hg.drewn n) x.id (hg.rng x (List.mem_cons_self ..)))
      have hF := hid (fun n => (hg.drewn n).first)
      have hz : Hid (∀ n w2 N2, Go11 P M (x :: t) (wr.drewN n) m N2 w2 → idl N2 = rmL (idl (x :: t)) x.id → N2.length ≤ (x :: t).length →
          Hid (Go11 P M N w m N2 w2) ∧ Hid (cutL m (idl N2) = cutL m (idl N)) ∧ N2.length ≤ N.length ∧ mlen M w2 < mlen M wr) := hid (fun n w2 N2 g2 e2 l2 => by
        have e3 : rmL (idl (x :: t)) x.id = idl t := by
          have hn := hg.nd
          exact rm_split (a := []) (b := idl t) hn
        have hc : cutL m (idl (x :: t)) = cutL m (idl t) := cut_step (by show m < (idl (x :: t)).length; rw [idl_len]; exact hlt)
        refine ⟨hid ((hG.out.drewn n).trans g2), hid ?_, by omega, ?_⟩
        · rw [e2, e3, ← hc]; exact hC.out
        · rw [HM.out, g2.gm.map.mlen_eq]
          have : N2.length = t.length := by rw [← idl_len, e2, e3, idl_len]
          rw [this]; simp)
      clear hg HM hC hG
      generalize (x :: t).length = L at *
      rcases Int.lt_or_le mo 0 with hp | hp
      all_goals
        have i0 : 0 < (L : Int) := by omega
        have i1 : mo < (L : Int) := by omega
        go_wp2_with fail
        go_quiet (exact cL _)
        obtain ⟨d3, d0⟩ := hF.out nq
        have ht := hT.out nq
        have HZ := hid (hz.out nq)
        clear hF hT hz cL
        generalize x.b = X at *
        go_wp2_with fail
        refine ht.mono ?_
        rintro e w2 ⟨rfl, N2, g2, e2, -, l2⟩
        obtain ⟨z1, z2, z3, z4⟩ := HZ.out w2 N2 g2 e2 l2
        clear HZ ht g2 e2 l2 d3 d0
        go_wp2_with fail
        go_roundw
        case rel => exact ⟨N2, z1, z2, z3⟩
        case measure => exact z4
    · have hfin : Hid (∀ n, ∃ N', Go11 P M N w m N' (wr.drewN n) ∧ idl N' = cutL m (idl N) ∧ N'.length ≤ N.length) := hid (fun n => ⟨N1, hG.out.drewn n, by rw [← hC.out, cut_all]; rw [idl_len]; omega, hN⟩)
      clear hg HM hC hG
      generalize N1.length = L at *
      rcases Int.lt_or_le mo 0 with hp | hp
      all_goals
        first
          | (have i1 : (L : Int) ≤ 0 := by omega)
          | (have i1 : (L : Int) ≤ mo := by omega)
        go_wp2_with fail
        go_quiet (exact cL _)
        go_wp2_with fail
        go_end0
        exact ⟨rfl, hfin.out _⟩
set_option maxRecDepth 100000 in
theorem limit_any {P M m : Nat} {N : List Nd} {w : World} (h : GM P M m N w) (mo : Int) :
   Calls Try.prog 38 #[.pointer (some ⟨P, 0, none⟩), .int .i64 mo] w fun e w' => e = .returned (.tuple #[]) ∧ ∃ N', Go11 P M N w mo.toNat N' w' ∧ idl N' = cutL mo.toNat (idl N) ∧ N'.length ≤ N.length := by
  obtain ⟨old, c0, -⟩ := h.p0
  have f0 := h.fP.frozen 0
  have hs : Same (fun A => A = ⟨P, 0, none⟩) w (w.setCell ⟨P, 0, none⟩ (.int .i64 mo)) := Same.set w _ _ rfl
  have ho : Only (Ft P M N) w (w.setCell ⟨P, 0, none⟩ (.int .i64 mo)) := (Only.refl _ w).setCell (p := ⟨P, 0, none⟩) (.inl (.inl rfl)) _
  have hc : ∀ {A : Addr}, A.block < w.heap.size → (A.block = P → A.off ≠ 0) → (w.setCell ⟨P, 0, none⟩ (.int .i64 mo)).cell? A = w.cell? A := fun {A} h1 h2 => hs.cell A h1 (fun e => h2 (congrArg Addr.block e) (congrArg Addr.off e))
  have hpt : ∀ p, Rp P N p → ∀ k, (w.setCell ⟨P, 0, none⟩ (.int .i64 mo)).cell? (p.at_ k) = w.cell? (p.at_ k) := fun p hp k => by
    refine hc (h.own hp).2.1 (fun e => ?_)
    have := h.off hp (.inl rfl) e
    show p.o + k ≠ 0
    have e1 : p.o = 1 := this
    omega
  have hg : GM P M mo.toNat N (w.setCell ⟨P, 0, none⟩ (.int .i64 mo)) := by
    refine ⟨h.nd, h.rng, h.len, ⟨mo, setc_same c0, rfl⟩, (hc (A := ⟨P, 4, none⟩) (h.lt P (.inl rfl)) (fun _ => by simp)).trans h.p4, h.seq.frame (fun p hp => hpt p (rp_ring ((List.dropLast_sublist _).mem hp)) 2) (fun p hp => hpt p (rp_ring (List.mem_of_mem_tail hp)) 1), fun x hx => (hpt x.pt (.inr ⟨x, hx, rfl⟩) 0).trans (h.node x hx), h.map.keep (Below.heap_setCell _ _ _ _ (fun e => h.PX e.symm)), h.ndb, h.PX, h.xs, h.fP.set _ _, fun x hx => (h.fx x hx).set _ _⟩
  have hG : Go11 P M N w mo.toNat N (w.setCell ⟨P, 0, none⟩ (.int .i64 mo)) := ⟨hg, ho, fun _ hb => .inl hb⟩
  have ht := trim_any hg
  have HG := hid hG
  clear hs ho hc hpt hg hG h
  go_enter Try.func38, Try.ntmps38
  go_wp2_with fail
  refine ht.mono ?_
  rintro e w2 ⟨rfl, N2, g2, e2, l2⟩
  have HF := hid (And.intro (HG.out.trans g2) (And.intro e2 l2))
  clear ht g2 e2 l2
  go_wp2_with fail
  go_end0
  exact ⟨rfl, N2, HF.out.1, HF.out.2.1, HF.out.2.2⟩
end Go.Proofs.Ytkhmgigllcgpnaa.Gh

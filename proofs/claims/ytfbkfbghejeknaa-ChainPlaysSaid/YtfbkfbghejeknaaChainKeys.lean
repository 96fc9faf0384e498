/-
  The contract of chain.keys at this program: the keys of all entries of the rows, in a slice of its own. Conditions: the rows lie in memory; there are at most 2^30 entries.
-/
import Derived.Test.YtfbkfbghejeknaaChainHeld
namespace Go.Proofs.Ytfbkfbghejeknaa
open Go Go.Shelf Go.RowKit Go.Lib

attribute [local go_sem] Oper.semAt_some

theorem infoString : (Try.prog.info? 9).map (fun i => (i.zero, i.size, i.bytes)) = some (some (.string ByteArray.empty), 1, 16) := by kernel_rfl
/-- The cells of a row of keys. -/
def kc (xs : List ByteArray) : List Value := xs.map fun x => .string x
def ks (l : List (Addr × En)) : List ByteArray := l.map fun x => x.2.k
theorem ks_snoc (l : List (Addr × En)) (x : Addr × En) : kc (ks (l ++ [x])) = kc (ks l) ++ [.string x.2.k] := by simp [kc, ks]
theorem ks_len (l : List (Addr × En)) : (ks l).length = l.length := by simp [ks]

theorem own_keys {n₀ : Nat} {w : World} (B : Nat) : Own (fun (pre : List (Lk n₀ w)) W => ∃ v, Boxed W B 36 v ∧ W.ownsRow B 9 1 v (vals pre).length (kc (ks (vals pre)))) := by
  intro s X Y row h hg hrow
  obtain ⟨v, hv, hr⟩ := h
  obtain ⟨v, hv, hr, _⟩ := holdsRow_own B B 36 9 1 (fun pre : List (Lk n₀ w) => (vals pre).length) (fun pre => kc (ks (vals pre))) (fun _ _ => True) s X Y row ⟨v, hv, hr, trivial⟩ hg hrow
  exact ⟨v, hv, hr⟩

def KeyS (xa : Addr) (xe : En) (n : Nat) (v : Value) (W : World) : Prop :=
  W.cell? xa = some (.pointer (some ⟨xe.b, 0, none⟩)) ∧ W.cell? ⟨xe.b, 0, none⟩ = some (.string xe.k) ∧ W.cell? ⟨n, 0, none⟩ = some v

theorem KeyS.alloc {xa : Addr} {xe : En} {n : Nat} {v : Value} {W : World} (h : KeyS xa xe n v W) (o : Obj) : KeyS xa xe n v (W.alloc o) := ⟨cell_alloc h.1 o, cell_alloc h.2.1 o, cell_alloc h.2.2 o⟩

set_option maxRecDepth 100000 in
set_option maxHeartbeats 2000000 in
theorem keys_any {w : World} {R m : Nat} {rs : List Rw} (hR : RowsAt w.heap.size w R rs) (hN : (alls rs).length ≤ 1073741824) :
    Calls Try.prog 32 #[.slice (some ⟨R, 0, none⟩) rs.length m] w fun e W' => ∃ v, e = .returned v ∧ W'.ownsRow w.heap.size 9 1 v (alls rs).length (kc (ks (alls rs))) ∧ Below w.heap.size w W' := by
  refine (callsIn_wide (n := 5)).1 ?_
  obtain ⟨i0, hi, hz0, hz1, hz2⟩ := info_parts infoString
  refine callsIn_of_wp_marks Try.func32 rfl trivial ?_ rfl
  simp only [Try.ntmps32, List.size_toArray, List.length_cons, List.length_nil, Nat.reduceAdd, Nat.reduceSub, Array.replicate_succ, Array.replicate_zero, List.push_toArray, List.append_toArray, List.nil_append, List.cons_append]
  gi_wp2_with fail
  refine ⟨trivial, (links_in _ _ _ _ _).mono ?_⟩
  rintro e W2 ⟨rfl, hW2⟩
  have bO := (Boxed.new w 36 (.slice none 0 0)).alloc (.cells #[.slice (some ⟨R, 0, none⟩) rs.length m] 74)
  have bL := Boxed.new (w.alloc (.cells #[.slice none 0 0] 36)) 74 (.slice (some ⟨R, 0, none⟩) rs.length m)
  have hBw : Below w.heap.size w W2 := by rw [hW2]; exact ((Below.refl _ _).alloc (Nat.le_refl _) _).alloc (by simp) _
  have hz4 : W2.heap.size = w.heap.size + 2 := by rw [hW2]; simp
  rw [World.size_alloc] at bL
  rw [← hW2] at bO bL
  have hbk : (w.alloc (.cells #[.slice none 0 0] 36)).heap.size = w.heap.size + 1 := by simp
  clear hW2
  rw [hbk]
  have hR2 : RowsAt w.heap.size W2 R rs := ⟨hR.lt, fun j r hj => (hBw.cell (p := ⟨R, j, none⟩) hR.lt).trans (hR.cell j r hj), hR.addr, fun r hr i l hl => (hR.chn r hr i l hl).below hBw (Nat.le_refl _), hR.small⟩
  clear hbk hR
  dsimp only
  gi_wp2_with fail
  refine wpIn_rangeFunc_ownG rfl (by omega) (gf := 48) (lb := #[.pointer (some ⟨w.heap.size + 1, 0, none⟩)]) rfl trivial (enters_of Try.func48 (by kernel_rfl) rfl)
    (links_stops _ (w.heap.size + 1) w.heap.size R m rs W2 (by omega) (by omega) bL.cell hR2) belowK_t (belowK_b (by omega)) (Below.refl _ _) (fun _ => rfl)
    (fun pre W => (∃ v, Boxed W w.heap.size 36 v ∧ W.ownsRow w.heap.size 9 1 v (vals pre).length (kc (ks (vals pre)))) ∧ Below w.heap.size W2 W)
    (fun _ _ _ => False)
    (OwnFrom.and (Own.from (own_keys w.heap.size) _) (ownFrom_below (by omega) (by omega)))
    (fun _ _ _ _ _ hs _ _ => hs)
    ⟨⟨_, bO, World.ownsRow_nil _ _ _ _⟩, Below.refl _ _⟩
    (fun x => { tmps := #[.slice (some ⟨R, 0, none⟩) rs.length m, undef, .slice none 0 0, .pointer (some ⟨w.heap.size, 0, none⟩), .pointer (some x.1.1), .slice (some ⟨R, 0, none⟩) rs.length m, .func (.func 48) #[] #[.pointer (some ⟨w.heap.size + 1, 0, none⟩)], .pointer (some x.1.1), undef, undef, undef, undef, undef, undef, undef, undef, undef, undef], defers := [] }) ?assign ?body ?done ?stop
  case assign =>
    intro l x W K hK
    gi_wp2
    exact hK
  case body =>
    rintro l pre x W ⟨⟨v, hv, hrow⟩, hB⟩ hlt
    obtain ⟨⟨xa, xe⟩, hx⟩ := x
    have hlen : (vals pre).length + 1 ≤ 1073741824 := by rw [vals_len]; omega
    have g1 := (hB.cell hx.la).trans hx.ca
    have g2 := (hB.cell (p := ⟨xe.b, 0, none⟩) hx.le).trans hx.ce
    have hc := hv.cell
    have hf := hv.frozen
    dsimp only at g1 g2
    have hS : KeyS xa xe w.heap.size v W.drew := ⟨g1, g2, hc⟩
    gi_wp2
    refine wpIn_region_roundE (KeyS xa xe w.heap.size v) 9 (by kernel_rfl) (fun ⟨_, _, h⟩ => h) (by kernel_rfl) ?_
    --TAKES wpAnyE_take | 3 | 0=v ; 1=.pointer (some xa) ; 2=.pointer (some xa) ; 3=.pointer (some ⟨xe.b, 0, none⟩) ; 4=.pointer (some ⟨xe.b, 0, none⟩) ; 5=.pointer (some ⟨xe.b, 0, none⟩) ; 6=.string xe.k
    refine wpAnyE_take (i := 0) (v := v) rfl (by kernel_rfl) (by kernel_rfl) (by kernel_rfl) (fun _ _ _ h => h) (by kernel_rfl) (by kernel_rfl) hS (Or.inl ⟨by rfl, ?_⟩) ?_
    · intro w' hw'
      obtain ⟨s0, s1, s2⟩ := hw'
      go_simp
    refine wpAnyE_take (i := 1) (v := .pointer (some xa)) rfl (by kernel_rfl) (by kernel_rfl) (by kernel_rfl) (fun _ _ _ h => h) (by kernel_rfl) (by kernel_rfl) hS (Or.inl ⟨by rfl, ?_⟩) ?_
    · intro w' hw'
      obtain ⟨s0, s1, s2⟩ := hw'
      go_simp
    refine wpAnyE_take (i := 2) (v := .pointer (some xa)) rfl (by kernel_rfl) (by kernel_rfl) (by kernel_rfl) (fun _ _ _ h => h) (by kernel_rfl) (by kernel_rfl) hS (Or.inl ⟨by rfl, ?_⟩) ?_
    · intro w' hw'
      obtain ⟨s0, s1, s2⟩ := hw'
      go_simp
    refine wpAnyE_take (i := 3) (v := .pointer (some ⟨xe.b, 0, none⟩)) rfl (by kernel_rfl) (by kernel_rfl) (by kernel_rfl) (fun _ _ _ h => h) (by kernel_rfl) (by kernel_rfl) hS (Or.inl ⟨by rfl, ?_⟩) ?_
    · intro w' hw'
      obtain ⟨s0, s1, s2⟩ := hw'
      go_simp
    refine wpAnyE_take (i := 4) (v := .pointer (some ⟨xe.b, 0, none⟩)) rfl (by kernel_rfl) (by kernel_rfl) (by kernel_rfl) (fun _ _ _ h => h) (by kernel_rfl) (by kernel_rfl) hS (Or.inl ⟨by rfl, ?_⟩) ?_
    · intro w' hw'
      obtain ⟨s0, s1, s2⟩ := hw'
      go_simp
    refine wpAnyE_take (i := 5) (v := .pointer (some ⟨xe.b, 0, none⟩)) rfl (by kernel_rfl) (by kernel_rfl) (by kernel_rfl) (fun _ _ _ h => h) (by kernel_rfl) (by kernel_rfl) hS (Or.inl ⟨by rfl, ?_⟩) ?_
    · intro w' hw'
      obtain ⟨s0, s1, s2⟩ := hw'
      go_simp
    refine wpAnyE_take (i := 6) (v := .string xe.k) rfl (by kernel_rfl) (by kernel_rfl) (by kernel_rfl) (fun _ _ _ h => h) (by kernel_rfl) (by kernel_rfl) hS (Or.inl ⟨by rfl, ?_⟩) ?_
    · intro w' hw'
      obtain ⟨s0, s1, s2⟩ := hw'
      go_simp
    --END
    refine wpAnyE_one (i := 7) rfl (by kernel_rfl) (fun K hK => ?_)
    go_simp
    refine hK _ _ (fun _ => hS.alloc _) ?_
    clear hK K
    refine wpAnyE_one (i := 8) rfl (by kernel_rfl) (fun K hK => ?_)
    refine step_append_src _ (by rfl) _ _ _ (by rfl) w.heap.size 9 i0 _ 16 Try.underlying36 hi hz0 hz1 hz2 rfl v (vals pre).length _ (by rfl) (hrow.drew.alloc _) _ 1 [.string xe.k] (by rfl) (.inl ⟨_, 1, rfl, rfl, one_cell W.drew _ _⟩) (fun u hu => by rw [List.mem_singleton] at hu; rw [hu]; rfl) (by unfold maxLen; omega) (by omega) (by have := hB.size; simp; omega) ((vals pre).length + 1) rfl ?_
    intro v' w1 hown' hgrow _
    obtain ⟨g', cap', rfl⟩ := ownsRow_succ hown'
    obtain ⟨hv1, hv2, hr2, hk2, hb2⟩ := Boxed.appended (W := W.drew) hv (by decide) hrow.drew (by have := hB.size; simp; omega) (Nat.le_refl _) hown' hgrow
    have hc1 := hv1.cell
    have hf1 := hv1.frozen
    have hb1 := own_grown (W := W.drew) hrow.drew (by have := hB.size; simp; omega) hgrow
    refine hK _ _ (fun _ => ⟨(hb1.cell hx.la).trans g1, (hb1.cell (p := ⟨xe.b, 0, none⟩) hx.le).trans g2, hc1⟩) ?_
    clear hK K
    refine wpAnyE_one (i := 9) rfl (by kernel_rfl) (fun K hK => ?_)
    go_simp
    refine hK _ _ (fun h => (by cases (show true = false from h))) (wpAnyE_done (by kernel_rfl) ?_ _)
    clear hK K
    gi_wp2
    have hbW : Below w.heap.size W (w1.setCell ⟨w.heap.size, 0, none⟩ (.slice (some ⟨g', 0, none⟩) ((vals pre).length + 1) cap')) := (Below.refl w.heap.size W).drew.trans hb2
    refine ⟨((KeepsOthers.drew W).trans hk2).from _, hbW, ⟨_, hv2, ?_⟩, hB.trans hbW⟩
    rw [vals_snoc, List.length_append, ks_snoc]
    exact hr2
  case done =>
    rintro D ys W hD hys ⟨⟨v, hv, hrow⟩, hB⟩ hK
    have hc := hv.cell
    gi_wp2
    refine ⟨by simp, .inl ⟨_, _, rfl, run_takeDeferred hK, ?_⟩⟩
    refine ⟨_, results_tmp rfl _ _ _, v, rfl, ?_, (hBw.trans hB).trans (belowK_b (w := w) (Nat.le_refl _) W D _ _ (by omega) hK rfl rfl)⟩
    have := ownsRow_putObj hrow (.deferred none) hK rfl
    rw [hys] at this
    exact this
  case stop =>
    rintro D c pre W _ _ h _
    exact h.elim
end Go.Proofs.Ytfbkfbghejeknaa

/-
  The contracts of the document's own rows' Front and Back. Conditions: the rows lie in memory.
-/
import Derived.Test.YtkhmgigllcgpnaaRowsRefTake
namespace Go.Proofs.Ytkhmgigllcgpnaa
open Go Go.RowKit Go.Lib

section
variable {P : Program} {ops : Array Oper} {Q : Exit → Act → World → Prop} {md : Region.Mode} {S : World → Prop} {st : Nat}
/-- Several may come up. -/
theorem wpAnyE_ready {rs : List Nat} {fuel : Nat} {listed : Array Bool} {a : Act} {w : World} (hr : Region.ready md ops listed = rs) (hne : rs ≠ [])
    (hs : ∀ i ∈ rs, ∃ o, ops[i]? = some o ∧ ∀ K : Act → World → Prop, (∀ a' w', ((listed.setIfInBounds i true).getD st true = false → S w') → wpAnyE P md ops Q S st fuel (listed.setIfInBounds i true) a' w' → K a' w') → if Region.wanted o (yielded ops a.tmps) = true then Oper.wp P o a w K Q else K (a.put o.dst undef) w) :
    wpAnyE P md ops Q S st (fuel + 1) listed a w := by
  refine ⟨fun h => absurd (hr.symm.trans h) hne, fun j hj => ?_⟩
  rw [hr] at hj
  obtain ⟨o, ho, hs⟩ := hs j hj
  unfold wpOp
  rw [ho]
  dsimp only
  have h1 := hs (fun a' w' => ((listed.setIfInBounds j true).getD st true = false → S w') ∧ wpAnyE P md ops Q S st fuel (listed.setIfInBounds j true) a' w') (fun a' w' h1 h2 => ⟨h1, h2⟩)
  split
  · rename_i hw
    rw [if_pos hw] at h1
    exact .inl h1
  · rename_i hw
    rw [if_neg hw] at h1
    exact h1
end
theorem row_srcs {w : World} {base : Nat} {a : Option Addr} {n c : Nat} {xs : List Value} (h : w.ownsRow base 3 1 (.slice a n c) n xs) : Srcs w (.slice a n c) n xs := by
  have hl := h.1
  rcases h.2 with ⟨hv, hn⟩ | ⟨g, cap, cur, hv, hb, hg, hc, hm, hsz, ht⟩
  · subst hn
    refine .inr ⟨hv, rfl, List.eq_nil_of_length_eq_zero (by simpa using hl)⟩
  · cases hv
    refine .inl ⟨_, c, rfl, hl, fun j u hj => ?_⟩
    have hjl := (List.getElem?_eq_some_iff.1 hj).1
    rw [addr_plain, Nat.zero_add, h.cellAt j (by omega)]; exact hj
theorem goodFront {L : List (List Int)} (h : GoodL L) {i : Nat} (hi : i < L.length) {z : Int} (h0 : 0 ≤ z) (h1 : z ≤ 4194303) {l : List Int} (hl : (takeL L z)[i]? = some l) : GoodL ((takeL L z).set i (z :: l)) ∧ frontL L i z = (takeL L z).set i (z :: l) := by
  have e : frontL L i z = (takeL L z).set i (z :: l) := by unfold frontL; rw [hl]; rfl
  exact ⟨e ▸ h.front hi h0 h1, e⟩
theorem goodBack {L : List (List Int)} (h : GoodL L) {i : Nat} (hi : i < L.length) {z : Int} (h0 : 0 ≤ z) (h1 : z ≤ 4194303) {l : List Int} (hl : (takeL L z)[i]? = some l) : GoodL ((takeL L z).set i (l ++ [z])) ∧ backL L i z = (takeL L z).set i (l ++ [z]) := by
  have e : backL L i z = (takeL L z).set i (l ++ [z]) := by unfold backL; rw [hl]; rfl
  exact ⟨e ▸ h.back hi h0 h1, e⟩
theorem lit_one (W : World) (z : Int) : (W.alloc (.cells #[.int .i64 z] 3)).ownsRow W.heap.size 3 1 (.slice (some ⟨W.heap.size, 0, none⟩) 1 1) 1 [.int .i64 z] :=
  World.ownsRow_lit W #[.int .i64 z] 1 (Nat.le_refl _) (by unfold maxLen; omega) rfl
theorem own_down {w : World} {b b' : Nat} {e : TypeId} {v : Value} {n : Nat} {xs : List Value} (h : w.ownsRow b e 1 v n xs) (hb : b' ≤ b) : w.ownsRow b' e 1 v n xs :=
  ⟨h.1, h.2.imp id (fun ⟨g, cap, cur, hv, h0, r⟩ => ⟨g, cap, cur, hv, Nat.le_trans hb h0, r⟩)⟩
theorem own_keep {w w' : World} {base : Nat} {e : TypeId} {v : Value} {n : Nat} {xs : List Value} (h : w.ownsRow base e 1 v n xs) (hb : Below w.heap.size w w') : w'.ownsRow base e 1 v n xs := own_only h (Below.only (D := fun _ => False) hb) (fun _ _ => id)
theorem cell_alloc_new (W : World) (z : Int) : (W.alloc (.cells #[.int .i64 z] 3)).cell? ⟨W.heap.size, 0, none⟩ = some (.int .i64 z) := (Blk.new W #[.int .i64 z] 3).cell (i := 0) rfl
theorem one_srcs {W : World} {b : Nat} {z : Int} (h : W.cell? ⟨b, 0, none⟩ = some (.int .i64 z)) : Srcs W (.slice (some ⟨b, 0, none⟩) 1 1) 1 [.int .i64 z] :=
  .inl ⟨_, 1, rfl, rfl, fun j u hj => by
    match j, hj with
    | 0, hj => simp at hj; subst hj; exact h⟩
theorem grown_cell {w w' : World} {row : Option Nat} (h : w.grownBy w' row) {p : Addr} (hp : p.block < w.heap.size) (hn : some p.block ≠ row) : w'.cell? p = w.cell? p := World.cell?_of_block (w := w) (h.block p.block hp hn)
theorem hlit_lt {w : World} {base g n c : Nat} {xs : List Value} (h : w.ownsRow base 3 1 (.slice (some ⟨g, 0, none⟩) n c) n xs) : g < w.heap.size := (own_base_le h rfl).2

set_option maxRecDepth 100000 in
set_option maxHeartbeats 4000000 in
theorem qfront_any {Q R : Nat} {vs : List Value} {L : List (List Int)} {w : World} (h : QM Q R vs L w) (r z : Int) :
    Calls Try.prog 47 #[.pointer (some ⟨Q, 0, none⟩), .int .i64 r, .int .i64 z] w fun e w' => e = .returned (.bool (decide (May L.length r z))) ∧ ∃ vs', QGo Q R vs w vs' (opFront L r z) w' := by
  have hm := qmay_any h r z
  by_cases hy : May L.length r z
  · rw [decide_eq_true hy] at hm ⊢
    have ht := qtake_any h z
    have hop : Hid (opFront L r z = frontL L r.toNat z) := hid (if_pos hy)
    obtain ⟨y1, y2, y3, y4⟩ := hy
    obtain ⟨i, rfl⟩ : ∃ i : Nat, r = i := ⟨r.toNat, by omega⟩
    have hil : i < L.length := by omega
    obtain ⟨l, hl⟩ : ∃ l, (takeL L z)[i]? = some l := ⟨_, List.getElem?_eq_getElem (by rw [takeL_len]; exact hil)⟩
    obtain ⟨g1, g2⟩ := goodFront h.good hil y3 y4 hl
    have hlb := (h.good.take z).len hl
    have hn8 := h.good.n8
    obtain ⟨i0, hi0, hz0, hz1, hz2⟩ := info_parts infoInt
    obtain ⟨n, hn⟩ : ∃ n, n = L.length := ⟨_, rfl⟩
    obtain ⟨N, hN⟩ : ∃ N, N = l.length := ⟨_, rfl⟩
    have HAll : Hid (∀ w1 vs1, QGo Q R vs w vs1 (takeL L z) w1 → ∃ a c, w1.cell? ⟨Q, 0, none⟩ = some (.slice (some ⟨R, 0, none⟩) n n) ∧ w1.cell? ⟨R, i, none⟩ = some (.slice a N c) ∧ w1.frozen? ⟨R, i, none⟩ = false ∧ Hid (w1.ownsRow 0 3 1 (.slice a N c) N (ic l)) ∧
        Hid (∀ w2 v2, Below w1.heap.size w1 w2 → w2.ownsRow w1.heap.size 3 1 v2 (N + 1) (ic (z :: l)) → ∃ vs', QGo Q R vs w vs' (opFront L (i : Int) z) (w2.setCell ⟨R, i, none⟩ v2))) := hid (fun w1 vs1 g => by
      obtain ⟨v, hv, c1, ho⟩ := g.qm.val hl
      obtain ⟨a, c, rfl⟩ := row_form ho
      have c0 := g.qm.head.cell (i := 0) rfl
      rw [takeL_len, ← hn] at c0
      rw [← hN] at c1 ho
      refine ⟨a, c, c0, c1, g.qm.rows.frozen i, hid ho, hid (fun w2 v2 b2 o2 => ?_)⟩
      obtain ⟨k1, k2, k3⟩ := g.qm.store b2 (i := i) (by rw [takeL_len]; exact hil) (v := v2) (l := z :: l) (by
        rw [show (z :: l).length = N + 1 by simp [hN]]
        exact o2) g1
      have hfin : QGo Q R vs1 w1 (vs1.set i v2) (opFront L (i : Int) z) (w2.setCell ⟨R, i, none⟩ v2) := by
        rw [hop.out]
        show QGo Q R vs1 w1 _ (frontL L i z) _
        rw [g2]
        exact ⟨k1, k2, k3⟩
      exact ⟨_, g.trans hfin⟩)
    rw [← hN] at hlb
    rw [← hn] at hil hn8
    have i1 : (0 : Int) ≤ (i : Int) := by omega
    have i2 : (i : Int) < (n : Int) := by omega
    generalize (rowOf L z).isSome = B at *
    clear h g1 g2 hl hop hN hn y1 y2 y3 y4
    go_enter Try.func47, Try.ntmps47
    go_wp2_with fail
    refine hm.mono ?_
    rintro e w1 ⟨rfl, rfl⟩
    go_wp2_with fail
    refine ht.mono ?_
    rintro e w1 ⟨rfl, vs1, g1⟩
    obtain ⟨a, c, d0, d1, f1, HOw, HST⟩ := HAll.out w1 vs1 g1
    clear ht hm HAll g1
    go_wp2_with fail
    have hS : (fun w' : World => w'.cell? ⟨Q, 0, none⟩ = some (.slice (some ⟨R, 0, none⟩) n n) ∧ w'.cell? ⟨R, i, none⟩ = some (.slice a N c)) w1.drew := ⟨d0, d1⟩
    have hSb : ∀ w2, Below w1.heap.size w1 w2 → (fun w' : World => w'.cell? ⟨Q, 0, none⟩ = some (.slice (some ⟨R, 0, none⟩) n n) ∧ w'.cell? ⟨R, i, none⟩ = some (.slice a N c)) w2 := fun w2 b2 => ⟨(b2.cell (cell_lt d0)).trans d0, (b2.cell (cell_lt d1)).trans d1⟩
    have hfz : ∀ w2, Below w1.heap.size w1 w2 → w2.frozen? ⟨R, i, none⟩ = false := fun w2 b2 => (b2.frozen (cell_lt d1)).trans f1
    have HD1 := hid d1
    have hsrc := row_srcs HOw.out
    have HSb := hid hSb
    have HFZ := hid hfz
    clear hSb hfz
    refine wp_region_E (fun w' : World => w'.cell? ⟨Q, 0, none⟩ = some (.slice (some ⟨R, 0, none⟩) n n) ∧ w'.cell? ⟨R, i, none⟩ = some (.slice a N c)) 16 (by kernel_rfl) ?_
    --TAKES wpAnyE_take | 2 | 0=.pointer (some ⟨Q, 0, none⟩) ; 1=.pointer (some ⟨Q, 0, none⟩) ; 2=.pointer (some ⟨Q, 0, none⟩) ; 3=.slice (some ⟨R, 0, none⟩) n n ; 4=.int .i64 i ; 5=.int .i64 z ; 7=.pointer (some ⟨Q, 0, none⟩) ; 8=.pointer (some ⟨Q, 0, none⟩) ; 9=.pointer (some ⟨Q, 0, none⟩) ; 10=.slice (some ⟨R, 0, none⟩) n n ; 11=.int .i64 i ; 12=.pointer (some ⟨R, i, none⟩) ; 13=.slice a N c
    refine wpAnyE_take (i := 0) (v := .pointer (some ⟨Q, 0, none⟩)) rfl (by kernel_rfl) (by kernel_rfl) (by kernel_rfl) (fun _ _ _ h => h) (by kernel_rfl) (by kernel_rfl) hS (Or.inl ⟨by rfl, ?_⟩) ?_
    · intro w' hw'
      obtain ⟨s0, s1⟩ := hw'
      go_simp
    refine wpAnyE_take (i := 1) (v := .pointer (some ⟨Q, 0, none⟩)) rfl (by kernel_rfl) (by kernel_rfl) (by kernel_rfl) (fun _ _ _ h => h) (by kernel_rfl) (by kernel_rfl) hS (Or.inl ⟨by rfl, ?_⟩) ?_
    · intro w' hw'
      obtain ⟨s0, s1⟩ := hw'
      go_simp
    refine wpAnyE_take (i := 2) (v := .pointer (some ⟨Q, 0, none⟩)) rfl (by kernel_rfl) (by kernel_rfl) (by kernel_rfl) (fun _ _ _ h => h) (by kernel_rfl) (by kernel_rfl) hS (Or.inl ⟨by rfl, ?_⟩) ?_
    · intro w' hw'
      obtain ⟨s0, s1⟩ := hw'
      go_simp
    refine wpAnyE_take (i := 3) (v := .slice (some ⟨R, 0, none⟩) n n) rfl (by kernel_rfl) (by kernel_rfl) (by kernel_rfl) (fun _ _ _ h => h) (by kernel_rfl) (by kernel_rfl) hS (Or.inl ⟨by rfl, ?_⟩) ?_
    · intro w' hw'
      obtain ⟨s0, s1⟩ := hw'
      go_simp
    refine wpAnyE_take (i := 4) (v := .int .i64 i) rfl (by kernel_rfl) (by kernel_rfl) (by kernel_rfl) (fun _ _ _ h => h) (by kernel_rfl) (by kernel_rfl) hS (Or.inl ⟨by rfl, ?_⟩) ?_
    · intro w' hw'
      obtain ⟨s0, s1⟩ := hw'
      go_simp
    refine wpAnyE_take (i := 5) (v := .int .i64 z) rfl (by kernel_rfl) (by kernel_rfl) (by kernel_rfl) (fun _ _ _ h => h) (by kernel_rfl) (by kernel_rfl) hS (Or.inl ⟨by rfl, ?_⟩) ?_
    · intro w' hw'
      obtain ⟨s0, s1⟩ := hw'
      go_simp
    refine wpAnyE_take (i := 7) (v := .pointer (some ⟨Q, 0, none⟩)) rfl (by kernel_rfl) (by kernel_rfl) (by kernel_rfl) (fun _ _ _ h => h) (by kernel_rfl) (by kernel_rfl) hS (Or.inl ⟨by rfl, ?_⟩) ?_
    · intro w' hw'
      obtain ⟨s0, s1⟩ := hw'
      go_simp
    refine wpAnyE_take (i := 8) (v := .pointer (some ⟨Q, 0, none⟩)) rfl (by kernel_rfl) (by kernel_rfl) (by kernel_rfl) (fun _ _ _ h => h) (by kernel_rfl) (by kernel_rfl) hS (Or.inl ⟨by rfl, ?_⟩) ?_
    · intro w' hw'
      obtain ⟨s0, s1⟩ := hw'
      go_simp
    refine wpAnyE_take (i := 9) (v := .pointer (some ⟨Q, 0, none⟩)) rfl (by kernel_rfl) (by kernel_rfl) (by kernel_rfl) (fun _ _ _ h => h) (by kernel_rfl) (by kernel_rfl) hS (Or.inl ⟨by rfl, ?_⟩) ?_
    · intro w' hw'
      obtain ⟨s0, s1⟩ := hw'
      go_simp
    refine wpAnyE_take (i := 10) (v := .slice (some ⟨R, 0, none⟩) n n) rfl (by kernel_rfl) (by kernel_rfl) (by kernel_rfl) (fun _ _ _ h => h) (by kernel_rfl) (by kernel_rfl) hS (Or.inl ⟨by rfl, ?_⟩) ?_
    · intro w' hw'
      obtain ⟨s0, s1⟩ := hw'
      go_simp
    refine wpAnyE_take (i := 11) (v := .int .i64 i) rfl (by kernel_rfl) (by kernel_rfl) (by kernel_rfl) (fun _ _ _ h => h) (by kernel_rfl) (by kernel_rfl) hS (Or.inl ⟨by rfl, ?_⟩) ?_
    · intro w' hw'
      obtain ⟨s0, s1⟩ := hw'
      go_simp
    refine wpAnyE_take (i := 12) (v := .pointer (some ⟨R, i, none⟩)) rfl (by kernel_rfl) (by kernel_rfl) (by kernel_rfl) (fun _ _ _ h => h) (by kernel_rfl) (by kernel_rfl) hS (Or.inl ⟨by rfl, ?_⟩) ?_
    · intro w' hw'
      obtain ⟨s0, s1⟩ := hw'
      go_simp
    refine wpAnyE_take (i := 13) (v := .slice a N c) rfl (by kernel_rfl) (by kernel_rfl) (by kernel_rfl) (fun _ _ _ h => h) (by kernel_rfl) (by kernel_rfl) hS (Or.inl ⟨by rfl, ?_⟩) ?_
    · intro w' hw'
      obtain ⟨s0, s1⟩ := hw'
      go_simp
    --END
    have bA : Below w1.heap.size w1 (w1.drew.alloc (.cells #[.int .i64 z] 3)) := (Below.refl _ w1).drew.alloc (Nat.le_refl _) _
    have hlit := lit_one w1.drew z
    refine wpAnyE_one (i := 6) rfl (by kernel_rfl) (fun K hK => ?_)
    go_simp
    refine hK _ _ (fun _ => HSb.out _ bA) ?_
    clear hK K
    refine wpAnyE_one (i := 14) rfl (by kernel_rfl) (fun K hK => ?_)
    refine step_append_src _ (by rfl) _ _ _ (by rfl) w1.heap.size 3 i0 _ 8 Try.underlying43 hi0 hz0 hz1 hz2 rfl (.slice (some ⟨w1.heap.size, 0, none⟩) 1 1) 1 _ (by rfl) hlit (.slice a N c) N _ (by rfl) (hsrc.below bA) (ic_ok _) (by unfold maxLen; omega) (by omega) bA.size (N + 1) (by omega) ?_
    intro v3 w3 hown3 hg3 _
    have b3 := bA.grown hg3 bA.size (fun j ej => own_ge hlit j ej)
    clear hS hlit hsrc bA hg3 d0 d1 f1
    have hfz3 := HFZ.out w3 b3
    have hcl3 := (b3.cell (p := ⟨R, i, none⟩) (cell_lt HD1.out)).trans HD1.out
    have HV3 := hid (HST.out w3 v3 b3 hown3)
    obtain ⟨a3, c3', rfl⟩ := row_form hown3
    have hS3 := HSb.out w3 b3
    refine hK _ _ (fun _ => hS3) ?_
    clear hK K
    refine wpAnyE_one (i := 15) rfl (by kernel_rfl) (fun K hK => ?_)
    go_simp
    refine hK _ _ (fun _ => hS3) ?_
    clear hK K
    refine wpAnyE_one (i := 16) rfl (by kernel_rfl) (fun K hK => ?_)
    go_simp
    refine hK _ _ (fun h => (by cases (show true = false from h))) (wpAnyE_done (by kernel_rfl) ?_ _)
    clear hK K
    go_wp2_with fail
    go_ret
    exact ⟨rfl, HV3.out⟩
  · rw [decide_eq_false hy] at hm ⊢
    have hop : Hid (opFront L r z = L) := hid (if_neg hy)
    have H := hid h
    clear h hy
    go_enter Try.func47, Try.ntmps47
    go_wp2_with fail
    refine hm.mono ?_
    rintro e w1 ⟨rfl, rfl⟩
    go_wp2_with fail
    go_ret
    exact ⟨rfl, vs, by rw [hop.out]; exact ⟨H.out, Only.refl _ _, fun _ hb => .inl hb⟩⟩

end Go.Proofs.Ytkhmgigllcgpnaa

/-
  The contracts of the document's own ghost's cut, Add and Limit (its takes by ../tools/gen-takes.py). Conditions: the ghost lies in memory.
-/
import Derived.Test.YtkhmgigllcgpnaaGhostRef
namespace Go.Proofs.Ytkhmgigllcgpnaa.Gh
open Go Go.RowKit Go.Lib

set_option maxRecDepth 100000 in
set_option maxHeartbeats 4000000 in
theorem qcut_any {Q m : Nat} {v : Value} {l : List Int} {w : World} (h : QM Q m v l w) :
    Calls Try.prog 62 #[.pointer (some ⟨Q, 0, none⟩)] w fun e w' => e = .returned (.tuple #[]) ∧ ∃ v', QGo Q v w m v' (cutL m l) w' := by
  have c0 := h.head.cell (i := 0) rfl
  have c1 := h.head.cell (i := 1) rfl
  have hlb := h.len
  have f1 := h.head.frozen 1
  obtain ⟨i0, hi0, hz0, hz1, hz2⟩ := info_parts infoU64
  by_cases hmk : m < l.length
  · obtain ⟨g, c, rfl, hcap, -, -⟩ := row_pos h.row (by omega)
    obtain ⟨K, hK⟩ : ∃ K, K = l.length := ⟨_, rfl⟩
    have hst : Hid (∀ w1 v1, Below w.heap.size w w1 → w1.ownsRow w.heap.size 29 1 v1 m (uc (cutL m l)) → ∃ v', QGo Q (.slice (some ⟨g, 0, none⟩) K c) w m v' (cutL m l) (w1.setCell ⟨Q, 1, none⟩ v1)) := hid (fun w1 v1 b1 o1 => by
      have hl : (cutL m l).length = m := by rw [cut_len]; omega
      rw [hK]
      exact ⟨_, h.store (Below.only b1) (by rw [hl]; exact own_zero o1) (fun b hb => .inr (own_base_le o1 hb).1) (by rw [hl]; omega)⟩)
    have hcw : Hid (∀ j u, (uc (cutL m l))[j]? = some u → w.cell? ⟨g, K - m + j, none⟩ = some u) := hid (fun j u hj => by
      have hrow := h.row
      have e1 : (uc (cutL m l))[j]? = (uc l)[K - m + j]? := by
        unfold cutL uc
        rw [List.map_drop, List.getElem?_drop, hK]
      rw [e1] at hj
      have := (List.getElem?_eq_some_iff.1 hj).1
      rw [uc_len] at this
      rw [hrow.cellAt _ (by omega)]; exact hj)
    have hcl : Hid ((uc (cutL m l)).length = m) := hid (by rw [uc_len, cut_len]; omega)
    have hok := hid (uc_ok (cutL m l))
    rw [← hK] at c1 hlb hmk hcap ⊢
    obtain ⟨d, hd⟩ : ∃ d, d = K - m := ⟨_, rfl⟩
    rw [← hd] at hcw
    have hdd : (K : Int) - (m : Int) = (d : Int) := by omega
    have hKd : K - d = m := by omega
    have hdK : (d : Int) ≤ (K : Int) := by omega
    have hd0 : 0 ≤ (d : Int) := by omega
    have HD := hid (show d ≤ K ∧ d ≤ c ∧ m ≤ 4194304 by omega)
    have hw64 : IntKind.i64.wrap (d : Int) = (d : Int) := by rw [IntKind.wrap_i64]; omega
    have hcase : ¬ c = d ∨ c = d := by omega
    clear h hK hd
    generalize uc (cutL m l) = news at *
    go_enter Try.func62, Try.ntmps62
    go_wp2_with fail
    go_quiet (fail)
    have d0 : (w.drewN nq).cell? ⟨Q, 0, none⟩ = some (.int .i64 m) := c0
    have d1 : (w.drewN nq).cell? ⟨Q, 1, none⟩ = some (.slice (some ⟨g, 0, none⟩) K c) := c1
    have g1 : (w.drewN nq).frozen? ⟨Q, 1, none⟩ = false := f1
    have hbq : Below w.heap.size w (w.drewN nq) := drewn_below (Below.refl _ _) nq
    have hcq : Hid (∀ j u, news[j]? = some u → (w.drewN nq).cell? ⟨g, d + j, none⟩ = some u) := hid (fun j u hj => hcw.out j u hj)
    clear c0 c1 f1 hcw
    generalize hwq : w.drewN nq = wq at *
    have HSZ := hid (show wq.heap.size = w.heap.size by rw [← hwq]; rfl)
    clear hwq
    go_wp2_with fail
    have hS : (fun w' : World => w'.cell? ⟨Q, 0, none⟩ = some (.int .i64 m) ∧ w'.cell? ⟨Q, 1, none⟩ = some (.slice (some ⟨g, 0, none⟩) K c)) wq.drew := ⟨d0, d1⟩
    have hSb : ∀ w2, Below wq.heap.size wq w2 → (fun w' : World => w'.cell? ⟨Q, 0, none⟩ = some (.int .i64 m) ∧ w'.cell? ⟨Q, 1, none⟩ = some (.slice (some ⟨g, 0, none⟩) K c)) w2 := fun w2 b2 => ⟨(b2.cell (cell_lt d0)).trans d0, (b2.cell (cell_lt d1)).trans d1⟩
    have hfz : ∀ w2, Below wq.heap.size wq w2 → w2.frozen? ⟨Q, 1, none⟩ = false := fun w2 b2 => (b2.frozen (cell_lt d1)).trans g1
    have HD1 := hid d1
    have HSb := hid hSb
    have HFZ := hid hfz
    clear hSb hfz
    rcases hcase with hc | hc
    · refine wp_region_E (fun w' : World => w'.cell? ⟨Q, 0, none⟩ = some (.int .i64 m) ∧ w'.cell? ⟨Q, 1, none⟩ = some (.slice (some ⟨g, 0, none⟩) K c)) 20 (by kernel_rfl) ?_
      --TAKES wpAnyE_take | 2 | 0=.pointer (some ⟨Q, 0, none⟩) ; 2=.pointer (some ⟨Q, 0, none⟩) ; 3=.pointer (some ⟨Q, 0, none⟩) ; 4=.pointer (some ⟨Q, 1, none⟩) ; 5=.slice (some ⟨g, 0, none⟩) K c ; 6=.pointer (some ⟨Q, 0, none⟩) ; 7=.pointer (some ⟨Q, 0, none⟩) ; 8=.pointer (some ⟨Q, 1, none⟩) ; 9=.slice (some ⟨g, 0, none⟩) K c ; 10=.int .i64 K ; 11=.pointer (some ⟨Q, 0, none⟩) ; 12=.pointer (some ⟨Q, 0, none⟩) ; 13=.pointer (some ⟨Q, 0, none⟩) ; 14=.int .i64 m ; 15=.int .i64 d ; 16=.slice (some ⟨g, d, none⟩) m (c - d)
      refine wpAnyE_take (i := 0) (v := .pointer (some ⟨Q, 0, none⟩)) rfl (by kernel_rfl) (by kernel_rfl) (by kernel_rfl) (fun _ _ _ h => h) (by kernel_rfl) (by kernel_rfl) hS (Or.inl ⟨by rfl, ?_⟩) ?_
      · intro w' hw'
        obtain ⟨s0, s1⟩ := hw'
        go_simp
      refine wpAnyE_take (i := 2) (v := .pointer (some ⟨Q, 0, none⟩)) rfl (by kernel_rfl) (by kernel_rfl) (by kernel_rfl) (fun _ _ _ h => h) (by kernel_rfl) (by kernel_rfl) hS (Or.inl ⟨by rfl, ?_⟩) ?_
      · intro w' hw'
        obtain ⟨s0, s1⟩ := hw'
        go_simp
      refine wpAnyE_take (i := 3) (v := .pointer (some ⟨Q, 0, none⟩)) rfl (by kernel_rfl) (by kernel_rfl) (by kernel_rfl) (fun _ _ _ h => h) (by kernel_rfl) (by kernel_rfl) hS (Or.inl ⟨by rfl, ?_⟩) ?_
      · intro w' hw'
        obtain ⟨s0, s1⟩ := hw'
        go_simp
      refine wpAnyE_take (i := 4) (v := .pointer (some ⟨Q, 1, none⟩)) rfl (by kernel_rfl) (by kernel_rfl) (by kernel_rfl) (fun _ _ _ h => h) (by kernel_rfl) (by kernel_rfl) hS (Or.inl ⟨by rfl, ?_⟩) ?_
      · intro w' hw'
        obtain ⟨s0, s1⟩ := hw'
        go_simp
      refine wpAnyE_take (i := 5) (v := .slice (some ⟨g, 0, none⟩) K c) rfl (by kernel_rfl) (by kernel_rfl) (by kernel_rfl) (fun _ _ _ h => h) (by kernel_rfl) (by kernel_rfl) hS (Or.inl ⟨by rfl, ?_⟩) ?_
      · intro w' hw'
        obtain ⟨s0, s1⟩ := hw'
        go_simp
      refine wpAnyE_take (i := 6) (v := .pointer (some ⟨Q, 0, none⟩)) rfl (by kernel_rfl) (by kernel_rfl) (by kernel_rfl) (fun _ _ _ h => h) (by kernel_rfl) (by kernel_rfl) hS (Or.inl ⟨by rfl, ?_⟩) ?_
      · intro w' hw'
        obtain ⟨s0, s1⟩ := hw'
        go_simp
      refine wpAnyE_take (i := 7) (v := .pointer (some ⟨Q, 0, none⟩)) rfl (by kernel_rfl) (by kernel_rfl) (by kernel_rfl) (fun _ _ _ h => h) (by kernel_rfl) (by kernel_rfl) hS (Or.inl ⟨by rfl, ?_⟩) ?_
      · intro w' hw'
        obtain ⟨s0, s1⟩ := hw'
        go_simp
      refine wpAnyE_take (i := 8) (v := .pointer (some ⟨Q, 1, none⟩)) rfl (by kernel_rfl) (by kernel_rfl) (by kernel_rfl) (fun _ _ _ h => h) (by kernel_rfl) (by kernel_rfl) hS (Or.inl ⟨by rfl, ?_⟩) ?_
      · intro w' hw'
        obtain ⟨s0, s1⟩ := hw'
        go_simp
      refine wpAnyE_take (i := 9) (v := .slice (some ⟨g, 0, none⟩) K c) rfl (by kernel_rfl) (by kernel_rfl) (by kernel_rfl) (fun _ _ _ h => h) (by kernel_rfl) (by kernel_rfl) hS (Or.inl ⟨by rfl, ?_⟩) ?_
      · intro w' hw'
        obtain ⟨s0, s1⟩ := hw'
        go_simp
      refine wpAnyE_take (i := 10) (v := .int .i64 K) rfl (by kernel_rfl) (by kernel_rfl) (by kernel_rfl) (fun _ _ _ h => h) (by kernel_rfl) (by kernel_rfl) hS (Or.inl ⟨by rfl, ?_⟩) ?_
      · intro w' hw'
        obtain ⟨s0, s1⟩ := hw'
        go_simp
      refine wpAnyE_take (i := 11) (v := .pointer (some ⟨Q, 0, none⟩)) rfl (by kernel_rfl) (by kernel_rfl) (by kernel_rfl) (fun _ _ _ h => h) (by kernel_rfl) (by kernel_rfl) hS (Or.inl ⟨by rfl, ?_⟩) ?_
      · intro w' hw'
        obtain ⟨s0, s1⟩ := hw'
        go_simp
      refine wpAnyE_take (i := 12) (v := .pointer (some ⟨Q, 0, none⟩)) rfl (by kernel_rfl) (by kernel_rfl) (by kernel_rfl) (fun _ _ _ h => h) (by kernel_rfl) (by kernel_rfl) hS (Or.inl ⟨by rfl, ?_⟩) ?_
      · intro w' hw'
        obtain ⟨s0, s1⟩ := hw'
        go_simp
      refine wpAnyE_take (i := 13) (v := .pointer (some ⟨Q, 0, none⟩)) rfl (by kernel_rfl) (by kernel_rfl) (by kernel_rfl) (fun _ _ _ h => h) (by kernel_rfl) (by kernel_rfl) hS (Or.inl ⟨by rfl, ?_⟩) ?_
      · intro w' hw'
        obtain ⟨s0, s1⟩ := hw'
        go_simp
      refine wpAnyE_take (i := 14) (v := .int .i64 m) rfl (by kernel_rfl) (by kernel_rfl) (by kernel_rfl) (fun _ _ _ h => h) (by kernel_rfl) (by kernel_rfl) hS (Or.inl ⟨by rfl, ?_⟩) ?_
      · intro w' hw'
        obtain ⟨s0, s1⟩ := hw'
        go_simp
      refine wpAnyE_take (i := 15) (v := .int .i64 d) rfl (by kernel_rfl) (by kernel_rfl) (by kernel_rfl) (fun _ _ _ h => h) (by kernel_rfl) (by kernel_rfl) hS (Or.inl ⟨by rfl, ?_⟩) ?_
      · intro w' hw'
        obtain ⟨s0, s1⟩ := hw'
        go_simp
      refine wpAnyE_take (i := 16) (v := .slice (some ⟨g, d, none⟩) m (c - d)) rfl (by kernel_rfl) (by kernel_rfl) (by kernel_rfl) (fun _ _ _ h => h) (by kernel_rfl) (by kernel_rfl) hS (Or.inl ⟨by rfl, ?_⟩) ?_
      · intro w' hw'
        obtain ⟨s0, s1⟩ := hw'
        go_simp
      --END
      have hsrc : Srcs wq (.slice (some ⟨g, d, none⟩) m (c - d)) m news := Or.inl ⟨⟨g, d, none⟩, c - d, rfl, by rw [hcl.out, Nat.mul_one], fun j u hj => by rw [addr_plain]; exact hcq.out j u hj⟩
      have bA : Below wq.heap.size wq (wq.drew.alloc (.cells #[] 29)) := (Below.refl _ wq).drew.alloc (Nat.le_refl _) _
      have hlit : (wq.drew.alloc (.cells #[] 29)).ownsRow wq.heap.size 29 1 (.slice (some ⟨wq.heap.size, 0, none⟩) 0 0) 0 [] := own_none wq.drew wq.heap.size 29 (Nat.le_refl _)
      have hmb := HD.out.2.2
      refine wpAnyE_one (i := 1) rfl (by kernel_rfl) (fun K hK => ?_)
      go_simp
      refine hK _ _ (fun _ => HSb.out _ bA) ?_
      clear hK K
      refine wpAnyE_one (i := 17) rfl (by kernel_rfl) (fun K hK => ?_)
      refine step_append_src _ (by rfl) _ _ _ (by rfl) wq.heap.size 29 i0 _ 8 Try.underlying32 hi0 hz0 hz1 hz2 rfl (.slice (some ⟨wq.heap.size, 0, none⟩) 0 0) 0 [] (by rfl) hlit (.slice (some ⟨g, d, none⟩) m (c - d)) m _ (by rfl) (hsrc.below bA) hok.out (by unfold maxLen; omega) (by omega) bA.size m (Nat.zero_add m) ?_
      intro v3 w3 hown3 hg3 _
      rw [List.nil_append] at hown3
      have b3 := bA.grown hg3 bA.size (fun j ej => own_ge hlit j ej)
      clear hS hsrc hlit bA hg3 d0 d1 g1
      have hfz3 := HFZ.out w3 b3
      have hcl3 := (b3.cell (p := ⟨Q, 1, none⟩) (cell_lt HD1.out)).trans HD1.out
      rw [HSZ.out] at hown3
      have HV3 := hid (hst.out w3 v3 (Below.trans hbq (by rw [← HSZ.out]; exact b3)) hown3)
      obtain ⟨a3, c3', rfl⟩ := row_form hown3
      have hS3 := HSb.out w3 b3
      clear hown3
      refine hK _ _ (fun _ => hS3) ?_
      clear hK K
      refine wpAnyE_one (i := 18) rfl (by kernel_rfl) (fun K hK => ?_)
      go_simp
      refine hK _ _ (fun _ => hS3) ?_
      clear hK K
      refine wpAnyE_one (i := 19) rfl (by kernel_rfl) (fun K hK => ?_)
      go_simp
      refine hK _ _ (fun _ => hS3) ?_
      clear hK K
      refine wpAnyE_one (i := 20) rfl (by kernel_rfl) (fun K hK => ?_)
      go_simp
      refine hK _ _ (fun h => (by cases (show true = false from h))) (wpAnyE_done (by kernel_rfl) ?_ _)
      clear hK K
      go_wp2_with fail
      go_end0
      exact ⟨rfl, HV3.out⟩
    · refine wp_region_E (fun w' : World => w'.cell? ⟨Q, 0, none⟩ = some (.int .i64 m) ∧ w'.cell? ⟨Q, 1, none⟩ = some (.slice (some ⟨g, 0, none⟩) K c)) 20 (by kernel_rfl) ?_
      --TAKES wpAnyE_take | 2 | 0=.pointer (some ⟨Q, 0, none⟩) ; 2=.pointer (some ⟨Q, 0, none⟩) ; 3=.pointer (some ⟨Q, 0, none⟩) ; 4=.pointer (some ⟨Q, 1, none⟩) ; 5=.slice (some ⟨g, 0, none⟩) K c ; 6=.pointer (some ⟨Q, 0, none⟩) ; 7=.pointer (some ⟨Q, 0, none⟩) ; 8=.pointer (some ⟨Q, 1, none⟩) ; 9=.slice (some ⟨g, 0, none⟩) K c ; 10=.int .i64 K ; 11=.pointer (some ⟨Q, 0, none⟩) ; 12=.pointer (some ⟨Q, 0, none⟩) ; 13=.pointer (some ⟨Q, 0, none⟩) ; 14=.int .i64 m ; 15=.int .i64 d ; 16=.slice (some ⟨g, 0, none⟩) m (c - d)
      refine wpAnyE_take (i := 0) (v := .pointer (some ⟨Q, 0, none⟩)) rfl (by kernel_rfl) (by kernel_rfl) (by kernel_rfl) (fun _ _ _ h => h) (by kernel_rfl) (by kernel_rfl) hS (Or.inl ⟨by rfl, ?_⟩) ?_
      · intro w' hw'
        obtain ⟨s0, s1⟩ := hw'
        go_simp
      refine wpAnyE_take (i := 2) (v := .pointer (some ⟨Q, 0, none⟩)) rfl (by kernel_rfl) (by kernel_rfl) (by kernel_rfl) (fun _ _ _ h => h) (by kernel_rfl) (by kernel_rfl) hS (Or.inl ⟨by rfl, ?_⟩) ?_
      · intro w' hw'
        obtain ⟨s0, s1⟩ := hw'
        go_simp
      refine wpAnyE_take (i := 3) (v := .pointer (some ⟨Q, 0, none⟩)) rfl (by kernel_rfl) (by kernel_rfl) (by kernel_rfl) (fun _ _ _ h => h) (by kernel_rfl) (by kernel_rfl) hS (Or.inl ⟨by rfl, ?_⟩) ?_
      · intro w' hw'
        obtain ⟨s0, s1⟩ := hw'
        go_simp
      refine wpAnyE_take (i := 4) (v := .pointer (some ⟨Q, 1, none⟩)) rfl (by kernel_rfl) (by kernel_rfl) (by kernel_rfl) (fun _ _ _ h => h) (by kernel_rfl) (by kernel_rfl) hS (Or.inl ⟨by rfl, ?_⟩) ?_
      · intro w' hw'
        obtain ⟨s0, s1⟩ := hw'
        go_simp
      refine wpAnyE_take (i := 5) (v := .slice (some ⟨g, 0, none⟩) K c) rfl (by kernel_rfl) (by kernel_rfl) (by kernel_rfl) (fun _ _ _ h => h) (by kernel_rfl) (by kernel_rfl) hS (Or.inl ⟨by rfl, ?_⟩) ?_
      · intro w' hw'
        obtain ⟨s0, s1⟩ := hw'
        go_simp
      refine wpAnyE_take (i := 6) (v := .pointer (some ⟨Q, 0, none⟩)) rfl (by kernel_rfl) (by kernel_rfl) (by kernel_rfl) (fun _ _ _ h => h) (by kernel_rfl) (by kernel_rfl) hS (Or.inl ⟨by rfl, ?_⟩) ?_
      · intro w' hw'
        obtain ⟨s0, s1⟩ := hw'
        go_simp
      refine wpAnyE_take (i := 7) (v := .pointer (some ⟨Q, 0, none⟩)) rfl (by kernel_rfl) (by kernel_rfl) (by kernel_rfl) (fun _ _ _ h => h) (by kernel_rfl) (by kernel_rfl) hS (Or.inl ⟨by rfl, ?_⟩) ?_
      · intro w' hw'
        obtain ⟨s0, s1⟩ := hw'
        go_simp
      refine wpAnyE_take (i := 8) (v := .pointer (some ⟨Q, 1, none⟩)) rfl (by kernel_rfl) (by kernel_rfl) (by kernel_rfl) (fun _ _ _ h => h) (by kernel_rfl) (by kernel_rfl) hS (Or.inl ⟨by rfl, ?_⟩) ?_
      · intro w' hw'
        obtain ⟨s0, s1⟩ := hw'
        go_simp
      refine wpAnyE_take (i := 9) (v := .slice (some ⟨g, 0, none⟩) K c) rfl (by kernel_rfl) (by kernel_rfl) (by kernel_rfl) (fun _ _ _ h => h) (by kernel_rfl) (by kernel_rfl) hS (Or.inl ⟨by rfl, ?_⟩) ?_
      · intro w' hw'
        obtain ⟨s0, s1⟩ := hw'
        go_simp
      refine wpAnyE_take (i := 10) (v := .int .i64 K) rfl (by kernel_rfl) (by kernel_rfl) (by kernel_rfl) (fun _ _ _ h => h) (by kernel_rfl) (by kernel_rfl) hS (Or.inl ⟨by rfl, ?_⟩) ?_
      · intro w' hw'
        obtain ⟨s0, s1⟩ := hw'
        go_simp
      refine wpAnyE_take (i := 11) (v := .pointer (some ⟨Q, 0, none⟩)) rfl (by kernel_rfl) (by kernel_rfl) (by kernel_rfl) (fun _ _ _ h => h) (by kernel_rfl) (by kernel_rfl) hS (Or.inl ⟨by rfl, ?_⟩) ?_
      · intro w' hw'
        obtain ⟨s0, s1⟩ := hw'
        go_simp
      refine wpAnyE_take (i := 12) (v := .pointer (some ⟨Q, 0, none⟩)) rfl (by kernel_rfl) (by kernel_rfl) (by kernel_rfl) (fun _ _ _ h => h) (by kernel_rfl) (by kernel_rfl) hS (Or.inl ⟨by rfl, ?_⟩) ?_
      · intro w' hw'
        obtain ⟨s0, s1⟩ := hw'
        go_simp
      refine wpAnyE_take (i := 13) (v := .pointer (some ⟨Q, 0, none⟩)) rfl (by kernel_rfl) (by kernel_rfl) (by kernel_rfl) (fun _ _ _ h => h) (by kernel_rfl) (by kernel_rfl) hS (Or.inl ⟨by rfl, ?_⟩) ?_
      · intro w' hw'
        obtain ⟨s0, s1⟩ := hw'
        go_simp
      refine wpAnyE_take (i := 14) (v := .int .i64 m) rfl (by kernel_rfl) (by kernel_rfl) (by kernel_rfl) (fun _ _ _ h => h) (by kernel_rfl) (by kernel_rfl) hS (Or.inl ⟨by rfl, ?_⟩) ?_
      · intro w' hw'
        obtain ⟨s0, s1⟩ := hw'
        go_simp
      refine wpAnyE_take (i := 15) (v := .int .i64 d) rfl (by kernel_rfl) (by kernel_rfl) (by kernel_rfl) (fun _ _ _ h => h) (by kernel_rfl) (by kernel_rfl) hS (Or.inl ⟨by rfl, ?_⟩) ?_
      · intro w' hw'
        obtain ⟨s0, s1⟩ := hw'
        go_simp
      refine wpAnyE_take (i := 16) (v := .slice (some ⟨g, 0, none⟩) m (c - d)) rfl (by kernel_rfl) (by kernel_rfl) (by kernel_rfl) (fun _ _ _ h => h) (by kernel_rfl) (by kernel_rfl) hS (Or.inl ⟨by rfl, ?_⟩) ?_
      · intro w' hw'
        obtain ⟨s0, s1⟩ := hw'
        go_simp
      --END
      have hsrc : Srcs wq (.slice (some ⟨g, 0, none⟩) m 0) m news := Or.inl ⟨⟨g, 0, none⟩, 0, rfl, by rw [hcl.out, Nat.mul_one], fun j u hj => by have h1 := (List.getElem?_eq_some_iff.1 hj).1; have h2 := hcl.out; have h3 := HD.out; omega⟩
      have bA : Below wq.heap.size wq (wq.drew.alloc (.cells #[] 29)) := (Below.refl _ wq).drew.alloc (Nat.le_refl _) _
      have hlit : (wq.drew.alloc (.cells #[] 29)).ownsRow wq.heap.size 29 1 (.slice (some ⟨wq.heap.size, 0, none⟩) 0 0) 0 [] := own_none wq.drew wq.heap.size 29 (Nat.le_refl _)
      have hmb := HD.out.2.2
      refine wpAnyE_one (i := 1) rfl (by kernel_rfl) (fun K hK => ?_)
      go_simp
      refine hK _ _ (fun _ => HSb.out _ bA) ?_
      clear hK K
      refine wpAnyE_one (i := 17) rfl (by kernel_rfl) (fun K hK => ?_)
      refine step_append_src _ (by rfl) _ _ _ (by rfl) wq.heap.size 29 i0 _ 8 Try.underlying32 hi0 hz0 hz1 hz2 rfl (.slice (some ⟨wq.heap.size, 0, none⟩) 0 0) 0 [] (by rfl) hlit (.slice (some ⟨g, 0, none⟩) m 0) m _ (by rfl) (hsrc.below bA) hok.out (by unfold maxLen; omega) (by omega) bA.size m (Nat.zero_add m) ?_
      intro v3 w3 hown3 hg3 _
      rw [List.nil_append] at hown3
      have b3 := bA.grown hg3 bA.size (fun j ej => own_ge hlit j ej)
      clear hS hsrc hlit bA hg3 d0 d1 g1
      have hfz3 := HFZ.out w3 b3
      have hcl3 := (b3.cell (p := ⟨Q, 1, none⟩) (cell_lt HD1.out)).trans HD1.out
      rw [HSZ.out] at hown3
      have HV3 := hid (hst.out w3 v3 (Below.trans hbq (by rw [← HSZ.out]; exact b3)) hown3)
      obtain ⟨a3, c3', rfl⟩ := row_form hown3
      have hS3 := HSb.out w3 b3
      clear hown3
      refine hK _ _ (fun _ => hS3) ?_
      clear hK K
      refine wpAnyE_one (i := 18) rfl (by kernel_rfl) (fun K hK => ?_)
      go_simp
      refine hK _ _ (fun _ => hS3) ?_
      clear hK K
      refine wpAnyE_one (i := 19) rfl (by kernel_rfl) (fun K hK => ?_)
      go_simp
      refine hK _ _ (fun _ => hS3) ?_
      clear hK K
      refine wpAnyE_one (i := 20) rfl (by kernel_rfl) (fun K hK => ?_)
      go_simp
      refine hK _ _ (fun h => (by cases (show true = false from h))) (wpAnyE_done (by kernel_rfl) ?_ _)
      clear hK K
      go_wp2_with fail
      go_end0
      exact ⟨rfl, by have h9 := HV3.out; rw [hc] at h9; exact h9⟩
  · have hfin : Hid (∀ n, ∃ v', QGo Q v w m v' (cutL m l) (w.drewN n)) := hid (fun n => ⟨v, by
      rw [cut_all (by omega)]
      exact ⟨h.below (drewn_below (Below.refl _ _) n), Below.only (drewn_below (Below.refl _ _) n), fun _ hb => .inl hb⟩⟩)
    obtain ⟨a, c, rfl⟩ := row_form h.row
    have hmk2 : l.length ≤ m := by omega
    clear hmk h f1 hi0 hz0 hz1 hz2
    generalize l.length = K at *
    go_enter Try.func62, Try.ntmps62
    go_wp2_with fail
    go_quiet (fail)
    go_wp2_with fail
    go_end0
    exact ⟨rfl, hfin.out _⟩
end Go.Proofs.Ytkhmgigllcgpnaa.Gh

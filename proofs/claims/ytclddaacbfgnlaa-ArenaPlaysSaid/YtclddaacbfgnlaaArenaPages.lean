/-
  (*Arena).Pages at this program: a row of the call's own, of the owner's pages, rising. No conditions.
-/
import Derived.Test.YtclddaacbfgnlaaArenaNew
namespace Go.Proofs.Ytclddaacbfgnlaa
open Go Go.RowKit Go.Lib

/-- Those of the first k pages that are o's. -/
def pagesTo (ow : List Int) (o : Int) : Nat → List Int
  | 0 => []
  | k + 1 => if ow[k]? = some o then pagesTo ow o k ++ [(k : Int)] else pagesTo ow o k
theorem pagesTo_len (ow : List Int) (o : Int) : ∀ k, (pagesTo ow o k).length ≤ k
  | 0 => by simp [pagesTo]
  | k + 1 => by
    have := pagesTo_len ow o k
    unfold pagesTo
    split
    · rw [List.length_append]; simp; omega
    · omega
theorem pagesTo_hit {ow : List Int} {o z : Int} {k : Nat} (h : ow[k]? = some z) (e : z = o) : pagesTo ow o (k + 1) = pagesTo ow o k ++ [(k : Int)] := by
  rw [pagesTo, if_pos (by rw [h, e])]
theorem pagesTo_miss {ow : List Int} {o z : Int} {k : Nat} (h : ow[k]? = some z) (e : ¬ z = o) : pagesTo ow o (k + 1) = pagesTo ow o k := by
  rw [pagesTo, if_neg (by rw [h]; simpa using e)]
/-- The owner's pages. -/
def pagesOf (ow : List Int) (o : Int) : List Int := if 0 ≤ o then pagesTo ow o ow.length else []
theorem pagesTo_none {ow : List Int} {o : Int} (h : ∀ z ∈ ow, z ≠ o) : ∀ k, pagesTo ow o k = []
  | 0 => rfl
  | k + 1 => by
    rw [pagesTo, if_neg, pagesTo_none h k]
    intro e
    exact h o (List.mem_of_getElem? e) rfl
theorem pagesOf_bad {s : St} (h : s.Ok) {o : Int} (ho : ownB o = false) : pagesOf s.ow o = [] := by
  unfold ownB at ho
  rw [decide_eq_false_iff_not] at ho
  unfold pagesOf
  split
  · exact pagesTo_none (fun z hz => by have := (h.ow z hz).2; omega) _
  · rfl
theorem ic_one (ps : List Int) (k : Int) : ic ps ++ [Value.int .i64 k] = ic (ps ++ [k]) := by simp [ic]

set_option maxHeartbeats 1000000 in
set_option maxRecDepth 100000 in
theorem pages_any {P O R : Nat} {s : St} {w : World} (h : AIs P O R s w) (o : Int) :
    Calls Try.prog 16 #[.pointer (some ⟨P, 0, none⟩), .int .i64 o] w fun e w' => ∃ v, e = .returned v ∧ w'.ownsRow w.heap.size 3 1 v (pagesOf s.ow o).length (ic (pagesOf s.ow o)) ∧ Below w.heap.size w w' := by
  have hw := fun w => isOwner_any o w
  cases ho : ownB o with
  | false =>
    rw [pagesOf_bad h.ok ho]
    rw [ho] at hw
    clear h ho
    go_enter Try.func16, Try.ntmps16
    go_wp2_with fail
    refine (hw _).mono ?_
    rintro e w' ⟨rfl, rfl⟩
    clear hw
    go_wp2_with fail
    go_ret
    exact ⟨_, rfl, World.ownsRow_nil _ _ _ _, Below.refl _ _⟩
  | true =>
    rw [ho] at hw
    have h0 : 0 ≤ o := by unfold ownB at ho; rw [decide_eq_true_iff] at ho; exact ho.1
    have hP : w.cell? ⟨P, 1, none⟩ = some (.slice (some ⟨O, 0, none⟩) s.ow.length s.ow.length) := h.head.cell rfl
    have hn := h.ok.n2
    have hOlt := h.own.lt
    have HB := hid fun (k : Nat) z (hz : s.ow[k]? = some z) => h.own.cell (ic_at hz)
    obtain ⟨N, hN⟩ : ∃ N, N = s.ow.length := ⟨_, rfl⟩
    unfold pagesOf
    rw [if_pos h0]
    rw [← hN] at hn hP ⊢
    have HN := hid hN
    obtain ⟨i0, hi, hz0, hz1, hz2⟩ := info_parts infoInt
    clear hN h ho h0
    go_enter Try.func16, Try.ntmps16
    go_wp2_with fail
    refine (hw _).mono ?_
    rintro e w' ⟨rfl, rfl⟩
    clear hw
    go_wp2_with fail
    clear hP
    go_loopw [5, 6, 7, 16] (fun v _ _ i wr => ∃ k : Nat, k ≤ N ∧ i = .int .i64 k ∧ wr.ownsRow w.heap.size 3 1 v (pagesTo s.ow o k).length (ic (pagesTo s.ow o k)) ∧ Below w.heap.size w wr) (fun _ _ _ i _ => N - (intOf i).toNat)
    case atStart => exact ⟨0, Nat.zero_le _, rfl, World.ownsRow_nil _ _ _ _, Below.refl _ _⟩
    case round =>
      obtain ⟨k, hk, rfl, hown, hb⟩ := hrel
      have hsz := hb.size
      have hl := pagesTo_len s.ow o k
      by_cases hlt : k < N
      · obtain ⟨z, hz⟩ : ∃ z, s.ow[k]? = some z := ⟨_, List.getElem?_eq_getElem (by rw [← HN.out]; exact hlt)⟩
        have ilt : (k : Int) < (N : Int) := by omega
        have hc : wr.cell? ⟨O, k, none⟩ = some (.int .i64 z) := (hb.cell (p := ⟨O, k, none⟩) hOlt).trans (HB.out k z hz)
        by_cases hzo : z = o
        · subst hzo
          have HE := hid (pagesTo_hit hz rfl)
          have HI := hid (ic_one (pagesTo s.ow z k) k)
          obtain ⟨a, c, rfl⟩ := row_form hown
          clear hz HB HN
          go_wp2_with (at_builtin; refine wpList_append_own _ rfl _ _ 36 rfl w.heap.size 3 i0 (.int .i64 0) 1 8 Try.underlying36 hi hz0 hz1 hz2 rfl (by decide) _ _ _ rfl (hown.alloc _) ⟨wr.heap.size, 0, none⟩ 1 1 [.int .i64 k] rfl rfl (one_cell _ _ _) (one_ok _) (by unfold maxLen; omega) (by omega) (by simp; omega) ?_)
          intro v' w1 hown' hgrow _
          have hb2 := hb.trans (own_grown hown hsz hgrow)
          have ho : w1.ownsRow w.heap.size 3 1 v' (pagesTo s.ow z (k + 1)).length (ic (pagesTo s.ow z (k + 1))) := by
            rw [HE.out, ← HI.out, List.length_append]; exact hown'
          clear hown' hgrow hown hb
          go_wp2_with fail
          go_roundw
          case rel => exact ⟨k + 1, by omega, by go_num, ho, hb2⟩
          case measure => simp [intOf] <;> omega
        · have HE := hid (pagesTo_miss hz hzo)
          have hzo' : (z == o) = false := by simpa using hzo
          clear hz HB HN hzo
          go_wp2_with fail
          go_roundw
          case rel => exact ⟨k + 1, by omega, by go_num, by rw [HE.out]; exact hown, hb⟩
          case measure => simp [intOf] <;> omega
      · obtain rfl : k = N := by omega
        clear HB HN
        obtain ⟨a, c, rfl⟩ := row_form hown
        go_wp2_with fail
        go_ret
        exact ⟨_, rfl, hown, hb⟩
end Go.Proofs.Ytclddaacbfgnlaa

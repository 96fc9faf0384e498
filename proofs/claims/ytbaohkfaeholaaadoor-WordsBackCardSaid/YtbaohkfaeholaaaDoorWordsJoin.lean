/-
  Contracts of words.Join and of the document's own answer ambryref02.Join at this program: both answer the texts with a blank between each two. Condition: the joined text takes at most 2^47 bytes.
-/
import Derived.Test.YtbaohkfaeholaaaDoorWordsRef
namespace Go.Proofs.YtbaohkfaeholaaaDoor
open Go Go.Shelf Go.RowKit

theorem joinS_map (xs : List (List UInt8)) : joinS (xs.map S) = Lib.join xs [32] := by
  unfold joinS
  congr 1
  rw [List.map_map]
  conv => rhs; rw [← List.map_id xs]
  exact List.map_congr_left fun x _ => S_list x

theorem lib_join (v : Value) (xs : List (List UInt8)) (hn : xs.length ≤ 140737488355328) (hN : (Lib.join xs [32]).length ≤ 140737488355328) (w : World) (hv : Texts w v xs) :
    Calls Tryd.prog 24 #[v, .string ⟨#[32]⟩] w fun e w' => e = .returned (.string (S (Lib.join xs [32]))) ∧ Below w.heap.size w w' := by
  obtain ⟨a, c, rfl, hcap, hx⟩ := hv
  cases xs with
  | nil => exact (join_none a c w).mono fun e w' ⟨he, hw⟩ => ⟨he, hw ▸ Below.refl _ _⟩
  | cons x r =>
    obtain ⟨b, o, rfl, hlt, _⟩ := hx 0 x rfl
    have h := join_any b o c ((x :: r).map S) w (fun j y hj => by
      rw [List.getElem?_map] at hj
      obtain ⟨z, hz, rfl⟩ := Option.map_eq_some_iff.1 hj
      obtain ⟨b', o', e, _, hc⟩ := hx j z hz
      cases e
      exact hc) hlt (by rw [List.length_map]; exact hn) (by rw [List.length_map]; exact hcap) (by rw [joinS_map]; exact hN)
    rw [joinS_map, List.length_map] at h
    exact h

set_option maxRecDepth 100000 in
theorem join_texts (v : Value) (xs : List (List UInt8)) (hn : xs.length ≤ 140737488355328) (hN : (Lib.join xs [32]).length ≤ 140737488355328) (w : World) (hv : Texts w v xs) :
    Calls Tryd.prog 19 #[v] w fun e w' => e = .returned (.string (S (Lib.join xs [32]))) ∧ Below w.heap.size w w' := by
  have h := lib_join v xs hn hN w hv
  generalize S (Lib.join xs [32]) = r at h ⊢
  clear hn hN hv
  go_enter Tryd.func19, Tryd.ntmps19
  go_wp2_with fail
  refine h.mono ?_
  rintro e w1 ⟨rfl, b1⟩
  go_wp2_with fail
  go_ret
  exact ⟨rfl, b1⟩

theorem S_sum (a b : List UInt8) : S a ++ S b = S (a ++ b) := by
  apply ByteArray.ext
  show (S a ++ S b).data = _
  rw [ByteArray.data_append]; simp [S]

set_option maxHeartbeats 1000000 in
set_option maxRecDepth 100000 in
theorem ref_join (v : Value) (xs : List (List UInt8)) (hn : xs.length < 9223372036854775807) (hN : ∀ k, k ≤ xs.length → (Lib.join (xs.take k) [32]).length ≤ 140737488355328) (hX : ∀ x ∈ xs, x.length ≤ 140737488355328) (w : World) (hv : Texts w v xs) :
    Calls Tryd.prog 20 #[v] w fun e w' => e = .returned (.string (S (Lib.join xs [32]))) ∧ Below w.heap.size w w' := by
  obtain ⟨a, c, rfl, _, ha⟩ := hv
  have HA := hid ha
  have HN := hid hN
  have HX := hid hX
  clear ha hN hX
  go_enter Tryd.func20, Tryd.ntmps20
  go_wp2_with fail
  go_loopw [3, 4] (fun t i wr => ∃ k : Nat, k ≤ xs.length ∧ t = .string (S (Lib.join (xs.take k) [32])) ∧ i = .int .i64 k ∧ Below w.heap.size w wr) (fun _ i _ => xs.length - (intOf i).toNat)
  case atStart => exact ⟨0, by omega, rfl, rfl, Below.refl _ _⟩
  case round =>
    obtain ⟨k, hk, rfl, rfl, hbw⟩ := hrel
    by_cases hlt : k < xs.length
    · obtain ⟨x, hx⟩ : ∃ x, xs[k]? = some x := ⟨_, List.getElem?_eq_getElem hlt⟩
      obtain ⟨ba, oa, rfl, l1, h1⟩ := HA.out k x hx
      have g1 : wr.cell? ⟨ba, oa + k, none⟩ = some (.string (S x)) := (hbw.cell (p := ⟨ba, oa + k, none⟩) l1).trans h1
      have hT : Hid (S (Lib.join (xs.take (k + 1)) [32]) = (if k = 0 then S (Lib.join (xs.take k) [32]) else S (Lib.join (xs.take k) [32]) ++ ⟨#[32]⟩) ++ S x) := hid (by
        rw [join_take_succ hx, ← S_sum]
        by_cases h0 : k = 0
        · rw [if_pos h0, if_pos h0]
        · rw [if_neg h0, if_neg h0, ← S_sum]; rfl)
      have s1 : (S (Lib.join (xs.take k) [32])).size ≤ 140737488355328 := by rw [S_size]; exact HN.out k hk
      have s2 : (S x).size ≤ 140737488355328 := by rw [S_size]; exact HX.out x (List.mem_of_getElem? hx)
      clear HA HX HN hx h1 l1
      generalize S (Lib.join (xs.take k) [32]) = A at *
      generalize S x = X at *
      by_cases h0 : k = 0
      · subst h0
        have HE : Hid (S (Lib.join (xs.take (0 + 1)) [32]) = A ++ X) := hid (by rw [hT.out, if_pos rfl])
        clear hT
        have g2 : wr.cell? ⟨ba, oa, none⟩ = some (.string X) := g1
        go_wp2_with fail
        go_roundw
        case rel => exact ⟨0 + 1, by omega, by rw [HE.out], by go_num, hbw⟩
        case measure => simp [intOf] <;> omega
      · have HE : Hid (S (Lib.join (xs.take (k + 1)) [32]) = A ++ ⟨#[32]⟩ ++ X) := hid (by rw [hT.out, if_neg h0])
        clear hT
        have i0 : (0 : Int) < (k : Int) := by omega
        go_wp2_with fail
        go_roundw
        case rel => exact ⟨k + 1, by omega, by rw [HE.out], by go_num, hbw⟩
        case measure => simp [intOf] <;> omega
    · obtain rfl : k = xs.length := by omega
      rw [List.take_length]
      clear HA HX HN
      go_wp2_with fail
      go_ret
      exact ⟨rfl, hbw⟩
end Go.Proofs.YtbaohkfaeholaaaDoor

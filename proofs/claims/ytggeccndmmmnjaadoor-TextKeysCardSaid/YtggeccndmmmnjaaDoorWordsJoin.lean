/-
  Contracts of words.Join and of the document's own answer ambryref02.Join at this program: both answer the texts with a blank between each two. Condition: the joined text takes at most 2^47 bytes.
-/
import Derived.Test.YtggeccndmmmnjaaDoorWordsRef
namespace Go.Proofs.YtggeccndmmmnjaaDoor
open Go Go.Shelf Go.RowKit

theorem joinS_map (xs : List (List UInt8)) : joinS (xs.map S) = Lib.join xs [32] := by
  unfold joinS
  congr 1
  rw [List.map_map]
  conv => rhs; rw [← List.map_id xs]
  exact List.map_congr_left fun x _ => S_list x

theorem lib_join (v : Value) (xs : List (List UInt8)) (hn : xs.length ≤ 140737488355328) (hN : (Lib.join xs [32]).length ≤ 140737488355328) (w : World) (hv : Texts w v xs) :
    Calls Tryd.prog 50 #[v, .string ⟨#[32]⟩] w fun e w' => e = .returned (.string (S (Lib.join xs [32]))) ∧ Below w.heap.size w w' := by
  obtain ⟨a, c, rfl, hcap, hx⟩ := hv
  cases xs with
  | nil => exact (join_none a c w).mono fun e w' ⟨he, hw⟩ => ⟨he, hw ▸ Below.refl _ _⟩
  | cons x r =>
    obtain ⟨b, o, rfl, hlt, _⟩ := hx 0 x rfl
    have h := join_any b o c ((x :: r).map S) w (fun j y hj => by
      rw [List.getElem?_map] at hj
      obtain ⟨z, hz, rfl⟩ := Option.map_eq_some_iff.1 hj
      obtain ⟨b', o', e, _, hc⟩ := hx j z hz
      cases e
      exact hc) hlt (by rw [List.length_map]; exact hn) (by rw [List.length_map]; exact hcap) (by rw [joinS_map]; exact hN)
    rw [joinS_map, List.length_map] at h
    exact h

set_option maxRecDepth 100000 in
theorem join_texts (v : Value) (xs : List (List UInt8)) (hn : xs.length ≤ 140737488355328) (hN : (Lib.join xs [32]).length ≤ 140737488355328) (w : World) (hv : Texts w v xs) :
    Calls Tryd.prog 34 #[v] w fun e w' => e = .returned (.string (S (Lib.join xs [32]))) ∧ Below w.heap.size w w' := by
  have h := lib_join v xs hn hN w hv
  generalize S (Lib.join xs [32]) = r at h ⊢
  clear hn hN hv
  go_enter Tryd.func34, Tryd.ntmps34
  go_wp2_with fail
  refine h.mono ?_
  rintro e w1 ⟨rfl, b1⟩
  go_wp2_with fail
  go_ret
  exact ⟨rfl, b1⟩

theorem S_sum (a b : List UInt8) : S a ++ S b = S (a ++ b) := by
  apply ByteArray.ext
  show (S a ++ S b).data = _
  rw [ByteArray.data_append]; simp [S]

end Go.Proofs.YtggeccndmmmnjaaDoor

/-
  '==' on two items at this program: whether they are the same. No conditions.
-/
import Derived.Test.YtdbaldkinjdeaaaItemShown
namespace Go.Proofs.Ytdbaldkinjdeaaa
open Go Go.RowKit Go.Lib

def sameB (x y : It) : Bool := x.key.toList == y.key.toList && ((x.flags : Int) == (y.flags : Int) && (x.val.toList == y.val.toList && (x.exp == y.exp && ((x.cas : Int) == (y.cas : Int) && (x.last == y.last && (x.stale == y.stale && x.won == y.won))))))
theorem toList_inj {a b : ByteArray} : a.toList = b.toList ↔ a = b := by
  rw [Lib.toList_data, Lib.toList_data]
  exact ⟨fun h => by rw [← S_of a, h, S_of], fun h => by rw [h]⟩
theorem sameB_iff {x y : It} : sameB x y = true ↔ x = y := by
  unfold sameB
  simp only [Bool.and_eq_true, beq_iff_eq, toList_inj]
  constructor
  · rintro ⟨h1, h2, h3, h4, h5, h6, h7, h8⟩
    exact It.eq_of h1 (by omega) h3 h4 (by omega) h6 h7 h8
  · rintro rfl
    exact ⟨rfl, rfl, rfl, rfl, rfl, rfl, rfl, rfl⟩

theorem item_equalIn (x y : It) (W : World) : (Op.equalIn 10000 25 x.v y.v).run Try.prog W = .ok (sameB x y) W := by
  obtain ⟨k, f, v, x, c, l, s, o⟩ := x
  obtain ⟨k', f', v', x', c', l', s', o'⟩ := y
  simp only [It.v, It.cells]
  rw [run_equalIn_agg W 9999 25 _ _ (by kernel_rfl) (by kernel_rfl)]
  simp only [Program.fieldsOf, Try.underlying25]
  unfold sameB
  simp [go_sem, Try.underlying9, Try.underlying22, Try.underlying23, Try.underlying2, Try.underlying4]
  by_cases h1 : k.toList = k'.toList
  · by_cases h2 : (f : Int) = (f' : Int)
    · by_cases h3 : v.toList = v'.toList
      · by_cases h4 : x = x'
        · by_cases h5 : (c : Int) = (c' : Int)
          · by_cases h6 : l = l'
            · by_cases h7 : s = s'
              · by_cases h8 : o = o'
                · simp [h1, h2, h3, h4, h5, h6, h7, h8]
                · simp [h1, h2, h3, h4, h5, h6, h7, h8]
              · simp [h1, h2, h3, h4, h5, h6, h7]
            · simp [h1, h2, h3, h4, h5, h6]
          · simp [h1, h2, h3, h4, h5]
        · simp [h1, h2, h3, h4]
      · simp [h1, h2, h3]
    · simp [h1, h2]
  · simp [h1]
theorem item_eql (x y : It) (W : World) : (binOp .eql 25 x.v y.v).run Try.prog W = .ok (.bool (sameB x y)) W := by
  have h := item_equalIn x y W
  unfold It.v at h ⊢
  rw [run_eql_struct, h]; rfl
theorem item_neq (x y : It) (W : World) : (binOp .neq 25 x.v y.v).run Try.prog W = .ok (.bool (!sameB x y)) W := by
  have h := item_equalIn x y W
  unfold It.v at h ⊢
  rw [run_neq_struct, h]; rfl
end Go.Proofs.Ytdbaldkinjdeaaa

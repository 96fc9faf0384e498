/-
  Plain mathematics of the sizes of classes, no program in it: the row of sizes of a page and a factor, the class of a number, how many chunks go into a page. No conditions.
  The contracts of package sizes and of the document's own answers at this program: isPage, next, New, Class and Per, of any numbers and any slice. No conditions.
-/
import Derived.Lib.Strings
import Derived.Test.YtldfpacdlephcaaRows
import Derived.WalkKit
import Derived.ProofKit
import Derived.OpenShut
import Derived.BigGuard
import Derived.IntWalk
import Derived.OwnWalk
import Derived.Laws.OwnMore
import Derived.Deep.AppendLies
import Derived.Lib.Hide
namespace Go.Proofs.Ytldfpacdlephcaa.Sz
open Go

/-- The next multiple of 8. -/
def up8 (g : Nat) : Nat := (g + 7) / 8 * 8
def grow (s f : Nat) : Nat := max (up8 (s * f / 100)) (s + 8)
def rowFrom (page f : Nat) : Nat → Nat → List Nat
  | 0, _ => []
  | k + 1, s => if s ≤ page / 2 then s :: rowFrom page f k (grow s f) else []
def row (page f : Nat) : List Nat := rowFrom page f 62 64 ++ [page]

theorem up8_facts (g : Nat) : up8 g % 8 = 0 ∧ g ≤ up8 g ∧ up8 g ≤ g + 7 := by unfold up8; omega
theorem mul_bound {s f : Nat} (hs : s ≤ 40000) (hf : f ≤ 400) : s * f ≤ 16000000 := Nat.mul_le_mul hs hf
theorem grow_facts (s f : Nat) (h8 : s % 8 = 0) : grow s f % 8 = 0 ∧ s + 8 ≤ grow s f ∧ s * f / 100 ≤ grow s f ∧ grow s f ≤ max (s * f / 100 + 7) (s + 8) := by
  obtain ⟨a, b, c⟩ := up8_facts (s * f / 100)
  unfold grow
  generalize s * f / 100 = g at *
  omega
theorem grow_le {s f : Nat} (hs : s ≤ 40000) (hf : f ≤ 400) : grow s f ≤ 160007 := by
  have h := mul_bound hs hf
  unfold grow up8
  generalize s * f = P at *
  omega

theorem rowFrom_go {page f k s : Nat} (h : s ≤ page / 2) : rowFrom page f (k + 1) s = s :: rowFrom page f k (grow s f) := by
  rw [rowFrom, if_pos h]
theorem rowFrom_end {page f k s : Nat} (h : ¬ s ≤ page / 2) : rowFrom page f k s = [] := by
  cases k with
  | zero => rfl
  | succ k => rw [rowFrom, if_neg h]
theorem rowFrom_len (page f : Nat) : ∀ k s, (rowFrom page f k s).length ≤ k
  | 0, _ => Nat.le_refl _
  | k + 1, s => by
    rw [rowFrom]
    split
    · have := rowFrom_len page f k (grow s f); simp only [List.length_cons]; omega
    · simp
theorem row_len (page f : Nat) : (row page f).length ≤ 63 := by
  have := rowFrom_len page f 62 64
  unfold row; rw [List.length_append]; simp only [List.length_singleton]; omega

/-- What stands in the row from s on. -/
theorem rowFrom_at (page f : Nat) : ∀ (k s i x : Nat), s % 8 = 0 → 64 ≤ s → (rowFrom page f k s)[i]? = some x → x % 8 = 0 ∧ 64 ≤ x ∧ x ≤ page / 2
  | 0, s, i, x, _, _, h => by simp [rowFrom] at h
  | k + 1, s, i, x, h8, h64, h => by
    by_cases hs : s ≤ page / 2
    · rw [rowFrom_go hs] at h
      cases i with
      | zero => simp at h; subst h; exact ⟨h8, h64, hs⟩
      | succ i =>
        obtain ⟨g1, g2, _⟩ := grow_facts s f h8
        exact rowFrom_at page f k (grow s f) i x g1 (by omega) (by simpa using h)
    · rw [rowFrom_end hs] at h; simp at h
theorem rowFrom_step (page f : Nat) : ∀ (k s i x y : Nat), (rowFrom page f k s)[i]? = some x → (rowFrom page f k s)[i + 1]? = some y → y = grow x f
  | 0, s, i, x, y, h, _ => by simp [rowFrom] at h
  | k + 1, s, i, x, y, h, h' => by
    by_cases hs : s ≤ page / 2
    · rw [rowFrom_go hs] at h h'
      simp only [List.getElem?_cons_succ] at h'
      cases i with
      | zero =>
        simp at h; subst h
        cases k with
        | zero => simp [rowFrom] at h'
        | succ k =>
          by_cases hg : grow s f ≤ page / 2
          · rw [rowFrom_go hg] at h'; simp at h'; exact h'.symm
          · rw [rowFrom_end hg] at h'; simp at h'
      | succ i => exact rowFrom_step page f k (grow s f) i x y (by simpa using h) h'
    · rw [rowFrom_end hs] at h; simp at h

/-- Of a page that may be: the row's parts. -/
theorem row_first {page f : Nat} (hp : 512 ≤ page) : (row page f)[0]? = some 64 ∧ 2 ≤ (row page f).length := by
  unfold row
  rw [show (62 : Nat) = 61 + 1 from rfl, rowFrom_go (by omega)]
  simp
theorem row_last (page f : Nat) : (row page f)[(row page f).length - 1]? = some page := by
  unfold row; simp
theorem row_before {page f i x : Nat} (h : (row page f)[i]? = some x) (hi : i < (row page f).length - 1) : (rowFrom page f 62 64)[i]? = some x := by
  unfold row at h hi
  rw [List.length_append, List.length_singleton] at hi
  rwa [List.getElem?_append_left (by omega)] at h
theorem row_at {page f i x : Nat} (hp : 512 ≤ page) (hp8 : page % 8 = 0) (h : (row page f)[i]? = some x) : x % 8 = 0 ∧ 64 ≤ x ∧ x ≤ page ∧ (i < (row page f).length - 1 → x ≤ page / 2) := by
  by_cases hi : i < (row page f).length - 1
  · obtain ⟨a, b, c⟩ := rowFrom_at page f 62 64 i x (by decide) (by decide) (row_before h hi)
    exact ⟨a, b, by omega, fun _ => c⟩
  · have hl : i < (row page f).length := (List.getElem?_eq_some_iff.1 h).1
    have : i = (row page f).length - 1 := by omega
    subst this
    rw [row_last] at h
    cases h
    exact ⟨hp8, by omega, Nat.le_refl _, fun h => absurd h hi⟩
theorem row_step {page f i x y : Nat} (h : (row page f)[i]? = some x) (h' : (row page f)[i + 1]? = some y) (hi : i + 1 < (row page f).length - 1) : y = grow x f :=
  rowFrom_step page f 62 64 i x y (row_before h (by omega)) (row_before h' hi)
theorem row_rise {page f i x y : Nat} (hp : 512 ≤ page) (hp8 : page % 8 = 0) (h : (row page f)[i]? = some x) (h' : (row page f)[i + 1]? = some y) : x < y := by
  have hl : i + 1 < (row page f).length := (List.getElem?_eq_some_iff.1 h').1
  obtain ⟨a, b, c, d⟩ := row_at hp hp8 h
  by_cases hi : i + 1 < (row page f).length - 1
  · rw [row_step h h' hi]
    have := (grow_facts x f a).2.1
    omega
  · have e : i + 1 = (row page f).length - 1 := by omega
    rw [e, row_last] at h'
    cases h'
    have := d (by omega)
    omega

/-- The first place, from i on, at which a number is at least n. -/
def cls : List Int → Int → Nat → Int
  | [], _, _ => -1
  | z :: r, n, i => if n ≤ z then (i : Int) else cls r n (i + 1)
theorem cls_hit {zs : List Int} {n z : Int} {k : Nat} (h : zs[k]? = some z) (hz : n ≤ z) : cls (zs.drop k) n k = (k : Int) := by
  obtain ⟨hk, rfl⟩ := List.getElem?_eq_some_iff.1 h
  rw [List.drop_eq_getElem_cons hk, cls, if_pos hz]
theorem cls_miss {zs : List Int} {n z : Int} {k : Nat} (h : zs[k]? = some z) (hz : ¬ n ≤ z) : cls (zs.drop k) n k = cls (zs.drop (k + 1)) n (k + 1) := by
  obtain ⟨hk, rfl⟩ := List.getElem?_eq_some_iff.1 h
  rw [List.drop_eq_getElem_cons hk, cls, if_neg hz]
theorem cls_end {zs : List Int} {n : Int} {k : Nat} (h : zs.length ≤ k) : cls (zs.drop k) n k = -1 := by
  rw [List.drop_eq_nil_of_le h, cls]
theorem cls_said (n : Int) : ∀ (l : List Int) (i : Nat), (cls l n i = -1 ∧ ∀ z ∈ l, z < n) ∨ ∃ (k : Nat) (z : Int), cls l n i = ((i + k : Nat) : Int) ∧ l[k]? = some z ∧ n ≤ z ∧ ∀ j y, j < k → l[j]? = some y → y < n
  | [], i => .inl ⟨rfl, fun z hz => by simp at hz⟩
  | z :: r, i => by
    by_cases h : n ≤ z
    · exact .inr ⟨0, z, by rw [cls, if_pos h]; rfl, rfl, h, fun j y hj => absurd hj (Nat.not_lt_zero _)⟩
    · rw [cls, if_neg h]
      rcases cls_said n r (i + 1) with ⟨e, ha⟩ | ⟨k, y, e, hy, hn, ha⟩
      · refine .inl ⟨e, fun y hy => ?_⟩
        rcases List.mem_cons.1 hy with rfl | hy
        · omega
        · exact ha y hy
      · refine .inr ⟨k + 1, y, by rw [e]; congr 1; omega, by simpa using hy, hn, fun j u hj hu => ?_⟩
        cases j with
        | zero => simp at hu; subst hu; omega
        | succ j => exact ha j u (by omega) (by simpa using hu)

/-- How many chunks of the class a page holds. -/
def per (zs : List Int) (c page : Int) : Int :=
  if c < 0 ∨ (zs.length : Int) ≤ c ∨ page < 1 then 0
  else match zs[c.toNat]? with
    | some z => if z < 1 then 0 else page / z
    | none => 0
end Go.Proofs.Ytldfpacdlephcaa.Sz
namespace Go.Proofs.Ytldfpacdlephcaa.Sz
open Go Go.RowKit Go.Lib

theorem ret_i64 {a b : Int} (h : a = b) : Ending.returned (.int .i64 a) = .returned (.int .i64 b) := by rw [h]
theorem ret_bool {a b : Bool} (h : a = b) : Ending.returned (.bool a) = .returned (.bool b) := by rw [h]
theorem int_i64 {a b : Int} (h : a = b) : Value.int .i64 a = .int .i64 b := by rw [h]
theorem addr_plain (b o j : Nat) : (⟨b, o, none⟩ : Addr).add j = ⟨b, o + j, none⟩ := by simp [Addr.add]
theorem Below.then {w w1 w2 : World} (a : Below w.heap.size w w1) (b : Below w1.heap.size w1 w2) : Below w.heap.size w w2 := a.trans (b.mono a.size)
theorem grown_of_below {A B : World} (h : Below A.heap.size A B) : A.grownBy B none := ⟨h.os, h.tape, h.output, h.size, fun k hk _ => h.block k hk⟩
theorem own_grown {W w1 : World} {n₀ : Nat} {e : TypeId} {size : Nat} {v : Value} {k : Nat} {xs : List Value} {tmp : Obj} (hrow : W.ownsRow n₀ e size v k xs) (hn₀ : n₀ ≤ W.heap.size)
    (hgrow : (W.alloc tmp).grownBy w1 v.ownBlock) : Below n₀ W w1 := by
  refine ((Below.refl n₀ W).alloc hn₀ tmp).grown hgrow (by simp; omega) fun j ej => ?_
  rcases hrow.2 with ⟨rfl, _⟩ | ⟨g, cap, cur, rfl, hb, _, _⟩
  · simp [Value.ownBlock] at ej
  · obtain rfl : g = j := by simpa [Value.ownBlock] using ej
    exact hb

theorem infoInt : (Try.prog.info? 3).map (fun i => (i.zero, i.size, i.bytes)) = some (some (.int .i64 0), 1, 8) := by kernel_rfl
/-- The cells of a row of numbers. -/
def cellsOf (xs : List Nat) : List Value := xs.map fun (x : Nat) => Value.int .i64 (x : Int)

theorem row_form {w : World} {base : Nat} {e : TypeId} {size : Nat} {v : Value} {n : Nat} {xs : List Value} (h : w.ownsRow base e size v n xs) : ∃ a c, v = .slice a n c := by
  rcases h.2 with ⟨rfl, rfl⟩ | ⟨g, c, cur, rfl, _⟩
  · exact ⟨none, 0, rfl⟩
  · exact ⟨_, _, rfl⟩

theorem one_cell (W : World) (x : Value) : ∀ j u, [x][j]? = some u → (W.alloc (.cells #[x] 3)).cell? ((⟨W.heap.size, 0, none⟩ : Addr).add j) = some u := by
  intro j u hj
  match j, hj with
  | 0, hj => simp at hj; subst hj; simp [Addr.add]

theorem one_ok (x : Int) : ∀ u ∈ [Value.int .i64 x], u.oneCell' = true := by
  intro u hu; simp at hu; subst hu; rfl

/-- May a page have so many bytes? -/
def pageB (n : Int) : Bool := decide (512 ≤ n ∧ n ≤ 65536 ∧ n % 8 = 0)

/-- What New answers. -/
def okB (page f : Int) : Bool := pageB page && decide (105 ≤ f ∧ f ≤ 400)
end Go.Proofs.Ytldfpacdlephcaa.Sz

/-
  The contracts of package sizes and of the document's own answers at this program: isPage, next, New, Class and Per, of any numbers and any slice. No conditions.
-/
import Derived.Test.YtoiifccmnmhnkaaRows
import Derived.Test.YtoiifccmnmhnkaaSizesMath
import Derived.WalkKit
import Derived.ProofKit
import Derived.OpenShut
import Derived.BigGuard
import Derived.IntWalk
import Derived.OwnWalk
import Derived.Laws.OwnMore
import Derived.Deep.AppendLies
import Derived.Lib.Hide
namespace Go.Proofs.Ytoiifccmnmhnkaa
open Go Go.RowKit Go.Lib

theorem ret_i64 {a b : Int} (h : a = b) : Ending.returned (.int .i64 a) = .returned (.int .i64 b) := by rw [h]
theorem ret_bool {a b : Bool} (h : a = b) : Ending.returned (.bool a) = .returned (.bool b) := by rw [h]
theorem int_i64 {a b : Int} (h : a = b) : Value.int .i64 a = .int .i64 b := by rw [h]
theorem addr_plain (b o j : Nat) : (⟨b, o, none⟩ : Addr).add j = ⟨b, o + j, none⟩ := by simp [Addr.add]
theorem Below.then {w w1 w2 : World} (a : Below w.heap.size w w1) (b : Below w1.heap.size w1 w2) : Below w.heap.size w w2 := a.trans (b.mono a.size)
theorem grown_of_below {A B : World} (h : Below A.heap.size A B) : A.grownBy B none := ⟨h.os, h.tape, h.output, h.size, fun k hk _ => h.block k hk⟩
theorem own_grown {W w1 : World} {n₀ : Nat} {e : TypeId} {size : Nat} {v : Value} {k : Nat} {xs : List Value} {tmp : Obj} (hrow : W.ownsRow n₀ e size v k xs) (hn₀ : n₀ ≤ W.heap.size)
    (hgrow : (W.alloc tmp).grownBy w1 v.ownBlock) : Below n₀ W w1 := by
  refine ((Below.refl n₀ W).alloc hn₀ tmp).grown hgrow (by simp; omega) fun j ej => ?_
  rcases hrow.2 with ⟨rfl, _⟩ | ⟨g, cap, cur, rfl, hb, _, _⟩
  · simp [Value.ownBlock] at ej
  · obtain rfl : g = j := by simpa [Value.ownBlock] using ej
    exact hb

theorem infoInt : (Try.prog.info? 3).map (fun i => (i.zero, i.size, i.bytes)) = some (some (.int .i64 0), 1, 8) := by kernel_rfl
/-- The cells of a row of numbers. -/
def cellsOf (xs : List Nat) : List Value := xs.map fun (x : Nat) => Value.int .i64 (x : Int)

theorem row_form {w : World} {base : Nat} {e : TypeId} {size : Nat} {v : Value} {n : Nat} {xs : List Value} (h : w.ownsRow base e size v n xs) : ∃ a c, v = .slice a n c := by
  rcases h.2 with ⟨rfl, rfl⟩ | ⟨g, c, cur, rfl, _⟩
  · exact ⟨none, 0, rfl⟩
  · exact ⟨_, _, rfl⟩

theorem one_cell (W : World) (x : Value) : ∀ j u, [x][j]? = some u → (W.alloc (.cells #[x] 3)).cell? ((⟨W.heap.size, 0, none⟩ : Addr).add j) = some u := by
  intro j u hj
  match j, hj with
  | 0, hj => simp at hj; subst hj; simp [Addr.add]

theorem one_ok (x : Int) : ∀ u ∈ [Value.int .i64 x], u.oneCell' = true := by
  intro u hu; simp at hu; subst hu; rfl

/-- May a page have so many bytes? -/
def pageB (n : Int) : Bool := decide (512 ≤ n ∧ n ≤ 65536 ∧ n % 8 = 0)

set_option maxRecDepth 100000 in
theorem page_any (n : Int) (w : World) : Calls Try.prog 16 #[.int .i64 n] w fun e w' => e = .returned (.bool (pageB n)) ∧ w = w' := by
  obtain ⟨b, hb⟩ : ∃ b, b = pageB n := ⟨_, rfl⟩
  rw [← hb]
  unfold pageB at hb
  by_cases h1 : 512 ≤ n
  · by_cases h2 : n ≤ 65536
    · by_cases h3 : n % 8 = 0
      · obtain rfl : b = true := by rw [hb]; simp [h1, h2, h3]
        clear hb
        go_enter Try.func16, Try.ntmps16
        go_wp2
        go_ret
        exact ⟨rfl, rfl⟩
      · have h4 : (n % 8 == 0) = false := by simpa using h3
        obtain rfl : b = false := by rw [hb]; simp [h3]
        clear hb
        go_enter Try.func16, Try.ntmps16
        go_wp2
        go_ret
        exact ⟨rfl, rfl⟩
    · obtain rfl : b = false := by rw [hb]; simp [h2]
      clear hb
      go_enter Try.func16, Try.ntmps16
      go_wp2
      go_ret
      exact ⟨rfl, rfl⟩
  · obtain rfl : b = false := by rw [hb]; simp [h1]
    clear hb
    go_enter Try.func16, Try.ntmps16
    go_wp2
    go_ret
    exact ⟨rfl, rfl⟩

set_option maxRecDepth 100000 in
theorem next_any (s f : Nat) (hs : s ≤ 40000) (hf : f ≤ 400) (w : World) : Calls Try.prog 17 #[.int .i64 s, .int .i64 f] w fun e w' => e = .returned (.int .i64 (grow s f : Nat)) ∧ w = w' := by
  obtain ⟨P, hP⟩ : ∃ P, P = s * f := ⟨_, rfl⟩
  have hPb := mul_bound hs hf
  obtain ⟨r, hr⟩ : ∃ r, r = grow s f := ⟨_, rfl⟩
  rw [← hr]
  have HR := hid hr
  have e1 : (s : Int) * (f : Int) = (P : Int) := by rw [hP, Int.natCast_mul]
  rw [← hP] at hPb
  have HP := hid hP
  clear hr hP
  go_enter Try.func17, Try.ntmps17
  go_wp2_with fail
  all_goals
    go_ret
    refine ⟨ret_i64 ?_, rfl⟩
    rw [HR.out]
    unfold grow up8
    rw [← HP.out]
    omega

/-- What New answers. -/
def okB (page f : Int) : Bool := pageB page && decide (105 ≤ f ∧ f ≤ 400)
def newRow (page f : Int) : List Nat := if okB page f = true then row page.toNat f.toNat else []
def newErr (page f : Int) : Int := if okB page f = true then 0 else 1

set_option maxHeartbeats 1000000 in
set_option maxRecDepth 100000 in
theorem new_ok (page f : Nat) (p1 : 512 ≤ page) (p2 : page ≤ 65536) (p8 : pageB (page : Int) = true) (f1 : 105 ≤ f) (f2 : f ≤ 400) (w : World) :
    Calls Try.prog 9 #[.int .i64 page, .int .i64 f] w fun e w' => ∃ v, e = .returned (.tuple #[v, .int .i64 0]) ∧ w'.ownsRow w.heap.size 3 1 v (row page f).length (cellsOf (row page f)) ∧ Below w.heap.size w w' := by
  obtain ⟨i0, hi, hz0, hz1, hz2⟩ := info_parts infoInt
  have g1 : (105 : Int) ≤ (f : Int) := by omega
  have g2 : (f : Int) ≤ 400 := by omega
  have hpg := fun w => page_any (page : Int) w
  rw [p8] at hpg
  clear p8
  go_enter Try.func9, Try.ntmps9
  go_wp2_with fail
  refine (hpg _).mono ?_
  rintro e w' ⟨rfl, rfl⟩
  clear hpg
  go_wp2_with fail
  go_loopw [6, 7] (fun v z wr => ∃ (pre : List Nat) (s : Nat), z = .int .i64 s ∧ pre.length ≤ 62 ∧ s ≤ 170000 ∧ Hid (s % 8 = 0 ∧ rowFrom page f 62 64 = pre ++ rowFrom page f (62 - pre.length) s) ∧ wr.ownsRow w.heap.size 3 1 v pre.length (cellsOf pre) ∧ Below w.heap.size w wr)
    (fun _ z _ => 200000 - (intOf z).toNat)
  case atStart => exact ⟨[], 64, rfl, by simp, by omega, hid ⟨rfl, rfl⟩, World.ownsRow_nil _ _ _ _, Below.refl _ _⟩
  case round =>
    obtain ⟨pre, s, rfl, hpl, hs, HT, hown, hb⟩ := hrel
    have hsz := hb.size
    by_cases hgo : s ≤ page / 2 ∧ pre.length < 62
    · obtain ⟨h1, h2⟩ := hgo
      have i1 : (s : Int) ≤ (page : Int) / 2 := by omega
      have i2 : (pre.length : Int) < 62 := by omega
      have HT' : Hid (grow s f % 8 = 0 ∧ rowFrom page f 62 64 = (pre ++ [s]) ++ rowFrom page f (62 - (pre ++ [s]).length) (grow s f)) := hid ⟨(grow_facts s f HT.out.1).1, by
        rw [HT.out.2, show 62 - pre.length = 62 - (pre ++ [s]).length + 1 from by simp; omega, rowFrom_go h1]; simp⟩
      have hg1 := (grow_facts s f HT.out.1).2.1
      have hg2 := grow_le (s := s) (f := f) (by omega) f2
      have hnx := fun w => next_any s f (by omega) f2 w
      generalize grow s f = G at *
      obtain ⟨a, c, rfl⟩ := row_form hown
      clear HT
      go_wp2_with (at_builtin; refine wpList_append_own _ rfl _ _ 23 rfl w.heap.size 3 i0 (.int .i64 0) 1 8 Try.underlying23 hi hz0 hz1 hz2 rfl (by decide) _ _ _ rfl (hown.alloc _) ⟨wr.heap.size, 0, none⟩ 1 1 [.int .i64 s] rfl rfl (one_cell _ _) (one_ok _) (by unfold maxLen; omega) (by omega) (by simp; omega) ?_)
      · intro v' w1 hown' hgrow _
        have hb2 := hb.trans (own_grown hown hsz hgrow)
        have ho : w1.ownsRow w.heap.size 3 1 v' (pre ++ [s]).length (cellsOf (pre ++ [s])) := by simpa [cellsOf] using hown'
        clear hown' hgrow hown hb
        go_wp2_with fail
        refine (hnx _).mono ?_
        rintro e w' ⟨rfl, rfl⟩
        clear hnx
        go_wp2_with fail
        go_roundw
        case rel => exact ⟨pre ++ [s], G, rfl, by simp; omega, by omega, HT', ho, hb2⟩
        case measure => simp [intOf] <;> omega
    · have HE : Hid (row page f = pre ++ [page]) := hid (by
        unfold row
        rw [HT.out.2]
        by_cases h1 : s ≤ page / 2
        · rw [show 62 - pre.length = 0 by omega]; simp [rowFrom]
        · rw [rowFrom_end h1]; simp)
      obtain ⟨a, c, rfl⟩ := row_form hown
      have hcase : (¬ (s : Int) ≤ (page : Int) / 2) ∨ ((s : Int) ≤ (page : Int) / 2 ∧ ¬ (pre.length : Int) < 62) := by omega
      clear HT hgo
      rcases hcase with h1 | ⟨h1, h2⟩
      all_goals
        go_wp2_with (at_builtin; refine wpList_append_own _ rfl _ _ 23 rfl w.heap.size 3 i0 (.int .i64 0) 1 8 Try.underlying23 hi hz0 hz1 hz2 rfl (by decide) _ _ _ rfl (hown.alloc _) ⟨wr.heap.size, 0, none⟩ 1 1 [.int .i64 page] rfl rfl (one_cell _ _) (one_ok _) (by unfold maxLen; omega) (by omega) (by simp; omega) ?_)
        · intro v' w1 hown' hgrow _
          have hb2 := hb.trans (own_grown hown hsz hgrow)
          have ho : w1.ownsRow w.heap.size 3 1 v' (row page f).length (cellsOf (row page f)) := by rw [HE.out]; simpa [cellsOf] using hown'
          clear hown' hgrow hown hb
          go_wp2_with fail
          go_ret2
          exact ⟨v', rfl, ho, hb2⟩

set_option maxHeartbeats 1000000 in
set_option maxRecDepth 100000 in
theorem new_bad (page f : Int) (h : okB page f = false) (w : World) :
    Calls Try.prog 9 #[.int .i64 page, .int .i64 f] w fun e w' => e = .returned (.tuple #[.slice none 0 0, .int .i64 1]) ∧ w = w' := by
  have hpg := fun w => page_any page w
  have hcase : pageB page = false ∨ (pageB page = true ∧ f < 105) ∨ (pageB page = true ∧ ¬ f < 105 ∧ 400 < f) := by
    unfold okB at h
    cases hp : pageB page with
    | false => exact .inl rfl
    | true =>
      rw [hp, Bool.true_and, decide_eq_false_iff_not] at h
      by_cases h1 : f < 105
      · exact .inr (.inl ⟨rfl, h1⟩)
      · exact .inr (.inr ⟨rfl, h1, by omega⟩)
  clear h
  rcases hcase with h1 | ⟨h1, h2⟩ | ⟨h1, h2, h3⟩
  all_goals
    rw [h1] at hpg
    clear h1
    go_enter Try.func9, Try.ntmps9
    go_wp2_with fail
    refine (hpg _).mono ?_
    rintro e w' ⟨rfl, rfl⟩
    clear hpg
    go_wp2_with fail
    go_ret2
    exact ⟨rfl, rfl⟩
end Go.Proofs.Ytoiifccmnmhnkaa

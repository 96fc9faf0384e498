/-
  The law SlabApart at this program, what its walk leans on. No conditions.
-/
import Derived.Test.YtldfpacdlephcaaSlabApartMath
import Derived.Test.YtldfpacdlephcaaSlabGet
import Derived.Test.YtldfpacdlephcaaSzRef
import Derived.Test.YtldfpacdlephcaaArenaFull
namespace Go.Proofs.Ytldfpacdlephcaa
open Go Go.RowKit Go.Lib

theorem rises_row {Pg F : Nat} (h1 : 512 ≤ Pg) (h8 : Pg % 8 = 0) : ∀ (m k : Nat) (b : Int), m + k = (Sz.row Pg F).length → (∀ x, (Sz.row Pg F)[k]? = some x → b < (x : Int)) → rises (Pg : Int) b ((Sz.ints (Sz.row Pg F)).drop k) = true
  | 0, k, b, hk, _ => rises_end (by rw [Sz.ints_len]; omega)
  | m + 1, k, b, hk, hb => by
    obtain ⟨x, hx⟩ : ∃ x, (Sz.row Pg F)[k]? = some x := ⟨_, List.getElem?_eq_getElem (by omega)⟩
    have hz : (Sz.ints (Sz.row Pg F))[k]? = some (x : Int) := by unfold Sz.ints; rw [List.getElem?_map, hx]; rfl
    have ha := Sz.row_at h1 h8 hx
    rw [rises_go hz (hb x hx) (by omega)]
    exact rises_row h1 h8 m (k + 1) (x : Int) (by omega) (fun y hy => by have := Sz.row_rise h1 h8 hx hy; omega)
theorem sizes_row {Pg F : Nat} (h1 : 512 ≤ Pg) (h8 : Pg % 8 = 0) : sizesB (Sz.ints (Sz.row Pg F)) (Pg : Int) = true := by
  have hl := Sz.row_len Pg F
  have hf := Sz.row_first (f := F) h1
  unfold sizesB
  rw [Bool.and_eq_true, decide_eq_true_iff, Sz.ints_len]
  refine ⟨by omega, ?_⟩
  have := rises_row (F := F) h1 h8 (Sz.row Pg F).length 0 63 (by omega) (fun x hx => by have := Sz.row_at h1 h8 hx; omega)
  rw [List.drop_zero] at this
  exact this
theorem row_back (Pg F : Nat) : (Sz.ints (Sz.row Pg F)).map Int.toNat = Sz.row Pg F := by
  unfold Sz.ints
  rw [List.map_map]
  conv => rhs; rw [← List.map_id (Sz.row Pg F)]
  exact List.map_congr_left (fun z _ => Int.toNat_natCast z)
/-- A new slab apart from all that is older. -/
theorem made_x {A O B P : Nat} {a : St} {sz : List Nat} {W w3 w4 : World} (h : Made A O B a sz w3 P w4) (b1 : Below W.heap.size W w3) (hA : W.heap.size ≤ A) (hO : W.heap.size ≤ O) (hB : W.heap.size ≤ B) : HasX W P (newSl a sz) (fun _ => False) w4 := by
  obtain ⟨ok, ⟨d, hd, hm, hf⟩, hb2⟩ := h
  refine ⟨ok, Below.then b1 hb2, d, hd, hm, fun b hb => ⟨?_, id⟩⟩
  have hsz := b1.size
  rcases hf b hb with e | e | e | e
  · omega
  · omega
  · omega
  · omega
theorem new3 (size : Nat) (s1 : 512 ≤ size) (s2 : size ≤ 65536) (hpB : pageB (size : Int) = true) (w : World) :
    Calls Try.prog 9 #[.int .i64 3, .int .i64 size] w fun e w' => ∃ P O R, e = .returned (.tuple #[.pointer (some ⟨P, 0, none⟩), .int .i64 0]) ∧ AIs P O R (newSt 3 size) w' ∧ Below w.heap.size w w' ∧ w.heap.size ≤ P ∧ w.heap.size ≤ O ∧ w.heap.size ≤ R :=
  new_ok 3 size (by omega) (by omega) s1 s2 hpB w
theorem HasX.with {w0 : World} {P : Nat} {s : Sl} {G G' : Nat → Prop} {w : World} (h : HasX w0 P s G w) (hG : ∀ b, G' b → G b ∨ w.heap.size ≤ b) : HasX w0 P s G' w :=
  h.turn (D := fun _ => False) (Only.refl _ w) (fun _ h => h.elim) hG (fun _ h => h.elim)
theorem hasX_put {w0 : World} {P : Nat} {s : Sl} {G : Nat → Prop} {w : World} (h : HasX w0 P s G w) (hG : ∀ b, G b → b < w.heap.size) (x : Int) (hx : x ≤ 9223372036854775807) (v : Value) (l : List UInt8) (hl : l.length ≤ 9223372036854775807) (hv : Byts w v l) :
    Calls Try.prog 19 #[.pointer (some ⟨P, 0, none⟩), .int .i64 x, v] w fun e w' => e = .returned (.int .i64 (s.put x l).1) ∧ HasX w0 P (s.put x l).2 G w' ∧ Only (fun b => ¬ G b) w w' :=
  h.call hG (R := fun e => e = .returned (.int .i64 (s.put x l).1)) (h.1.putOk x l) (fun d hd hm => by subst hd; exact put_any hm h.1 x hx v l hl hv)
theorem HasX.get {w0 : World} {P : Nat} {s : Sl} {G : Nat → Prop} {w : World} (h : HasX w0 P s G w) (x n : Int) (hx : x ≤ 9223372036854775807) :
    Calls Try.prog 20 #[.pointer (some ⟨P, 0, none⟩), .int .i64 x, .int .i64 n] w fun e w' => ∃ v, e = .returned (.tuple #[v, .int .i64 (s.get x n).1]) ∧ w'.ownsRow w.heap.size 5 1 v (s.get x n).2.length (bc (s.get x n).2) ∧ Below w.heap.size w w' := by
  obtain ⟨ho, hb, d, rfl, hm, hf⟩ := h
  exact get_any hm ho x n hx
end Go.Proofs.Ytldfpacdlephcaa

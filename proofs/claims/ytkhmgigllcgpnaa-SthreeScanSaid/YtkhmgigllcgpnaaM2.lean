/-
  Small plain facts for the statements of this layer: masks, ends of rows behind a call, slices of ints that came in. No conditions.
  The others stay in order: the statement, walked. No conditions.
  What goes in at the front comes out at the end in order: the statement, walked. No conditions.
-/
import Derived.Test.YtkhmgigllcgpnaaRowsHas
import Derived.Maps.AppendAt
namespace Go.Proofs.Ytkhmgigllcgpnaa
open Go Go.RowKit Go.Lib

/-- A slice of ints that came in. -/
def Nums (w : World) (a : Option Addr) (n : Nat) (zs : List Int) : Prop := zs.length = n ∧ ∀ j z, zs[j]? = some z → ∃ b o, a = some ⟨b, o, none⟩ ∧ b < w.heap.size ∧ w.cell? ⟨b, o + j, none⟩ = some (.int .i64 z)
theorem i64_and1 (n : Int) : bits .and .i64 n 1 = n % 2 := by
  have hm : (BitVec.ofInt 64 1).toNat = 2 ^ 1 - 1 := by decide
  have key : (BitVec.ofInt 64 n &&& BitVec.ofInt 64 1).toNat = (n % ((2 ^ 64 : Nat) : Int)).toNat % 2 ^ 1 := by
    rw [BitVec.toNat_and, BitVec.toNat_ofInt, hm, Nat.and_two_pow_sub_one_eq_mod]
  show IntKind.i64.wrap ((BitVec.ofInt 64 n &&& BitVec.ofInt 64 1).toNat : Nat) = n % 2
  rw [key, IntKind.wrap_i64]
  omega
theorem i64_and7 (n : Int) : bits .and .i64 n 7 = n % 8 := by
  have hm : (BitVec.ofInt 64 7).toNat = 2 ^ 3 - 1 := by decide
  have key : (BitVec.ofInt 64 n &&& BitVec.ofInt 64 7).toNat = (n % ((2 ^ 64 : Nat) : Int)).toNat % 2 ^ 3 := by
    rw [BitVec.toNat_and, BitVec.toNat_ofInt, hm, Nat.and_two_pow_sub_one_eq_mod]
  show IntKind.i64.wrap ((BitVec.ofInt 64 n &&& BitVec.ofInt 64 7).toNat : Nat) = n % 8
  rw [key, IntKind.wrap_i64]
  omega
theorem i64_and31 (n : Int) : bits .and .i64 n 31 = n % 32 := by
  have hm : (BitVec.ofInt 64 31).toNat = 2 ^ 5 - 1 := by decide
  have key : (BitVec.ofInt 64 n &&& BitVec.ofInt 64 31).toNat = (n % ((2 ^ 64 : Nat) : Int)).toNat % 2 ^ 5 := by
    rw [BitVec.toNat_and, BitVec.toNat_ofInt, hm, Nat.and_two_pow_sub_one_eq_mod]
  show IntKind.i64.wrap ((BitVec.ofInt 64 n &&& BitVec.ofInt 64 31).toNat : Nat) = n % 32
  rw [key, IntKind.wrap_i64]
  omega
theorem i64_and1023 (n : Int) : bits .and .i64 n 1023 = n % 1024 := by
  have hm : (BitVec.ofInt 64 1023).toNat = 2 ^ 10 - 1 := by decide
  have key : (BitVec.ofInt 64 n &&& BitVec.ofInt 64 1023).toNat = (n % ((2 ^ 64 : Nat) : Int)).toNat % 2 ^ 10 := by
    rw [BitVec.toNat_and, BitVec.toNat_ofInt, hm, Nat.and_two_pow_sub_one_eq_mod]
  show IntKind.i64.wrap ((BitVec.ofInt 64 n &&& BitVec.ofInt 64 1023).toNat : Nat) = n % 1024
  rw [key, IntKind.wrap_i64]
  omega
theorem i64_and65535 (n : Int) : bits .and .i64 n 65535 = n % 65536 := by
  have hm : (BitVec.ofInt 64 65535).toNat = 2 ^ 16 - 1 := by decide
  have key : (BitVec.ofInt 64 n &&& BitVec.ofInt 64 65535).toNat = (n % ((2 ^ 64 : Nat) : Int)).toNat % 2 ^ 16 := by
    rw [BitVec.toNat_and, BitVec.toNat_ofInt, hm, Nat.and_two_pow_sub_one_eq_mod]
  show IntKind.i64.wrap ((BitVec.ofInt 64 n &&& BitVec.ofInt 64 65535).toNat : Nat) = n % 65536
  rw [key, IntKind.wrap_i64]
  omega
theorem frontL_len (L : List (List Int)) (i : Nat) (z : Int) : (frontL L i z).length = L.length := by unfold frontL; rw [List.length_set, takeL_len]
theorem backL_len (L : List (List Int)) (i : Nat) (z : Int) : (backL L i z).length = L.length := by unfold backL; rw [List.length_set, takeL_len]
theorem opFront_len (L : List (List Int)) (r z : Int) : (opFront L r z).length = L.length := by
  unfold opFront
  split
  · exact frontL_len ..
  · rfl
theorem opBack_len (L : List (List Int)) (r z : Int) : (opBack L r z).length = L.length := by
  unfold opBack
  split
  · exact backL_len ..
  · rfl
theorem opFront_no {L : List (List Int)} {r z : Int} (h : ¬ May L.length r z) : opFront L r z = L := if_neg h
theorem opBack_no {L : List (List Int)} {r z : Int} (h : ¬ May L.length r z) : opBack L r z = L := if_neg h
theorem opFront_yes {L : List (List Int)} {r z : Int} (h : May L.length r z) : opFront L r z = frontL L r.toNat z := if_pos h
theorem opBack_yes {L : List (List Int)} {r z : Int} (h : May L.length r z) : opBack L r z = backL L r.toNat z := if_pos h
theorem frontL_row {L : List (List Int)} {i : Nat} (hi : i < L.length) (z : Int) : (frontL L i z)[i]? = some (z :: (takeL L z)[i]?.getD []) := by
  unfold frontL; rw [List.getElem?_set_self (by rw [takeL_len]; exact hi)]
theorem backL_row {L : List (List Int)} {i : Nat} (hi : i < L.length) (z : Int) : (backL L i z)[i]? = some ((takeL L z)[i]?.getD [] ++ [z]) := by
  unfold backL; rw [List.getElem?_set_self (by rw [takeL_len]; exact hi)]
theorem rowAt_of {L : List (List Int)} {r : Int} (h : 0 ≤ r) {l : List Int} (hl : L[r.toNat]? = some l) : rowAt L r = l := by unfold rowAt; rw [if_pos h, hl]; rfl
theorem first_front {L : List (List Int)} {r z : Int} (h : May L.length r z) : firstOf (rowAt (opFront L r z) r) = z := by
  have h1 := h.1
  have h2 := h.2.1
  rw [opFront_yes h, rowAt_of h1 (frontL_row (by omega) z)]; rfl
theorem last_back {L : List (List Int)} {r z : Int} (h : May L.length r z) : lastOf (rowAt (opBack L r z) r) = z := by
  have h1 := h.1
  have h2 := h.2.1
  rw [opBack_yes h, rowAt_of h1 (backL_row (by omega) z)]; unfold lastOf; simp
/-- A number that is folded to one that is not below 0. -/
theorem fold_neg (n : Int) : ∃ j : Nat, (n < 0 ∧ n = -(j : Int) - 1) ∨ (¬ n < 0 ∧ n = j) := by
  by_cases h : n < 0
  · exact ⟨(-(n + 1)).toNat, .inl ⟨h, by omega⟩⟩
  · exact ⟨n.toNat, .inr ⟨h, by omega⟩⟩
theorem nodup_at {l : List Int} (h : l.Nodup) {i j : Nat} {z : Int} (hi : l[i]? = some z) (hj : l[j]? = some z) : i = j := by
  obtain ⟨h2, h3⟩ := List.getElem?_eq_some_iff.1 hi
  obtain ⟨h4, h5⟩ := List.getElem?_eq_some_iff.1 hj
  have hp := List.pairwise_iff_getElem.1 h
  rcases Nat.lt_trichotomy i j with e | e | e
  · exact absurd (h3.trans h5.symm) (hp i j h2 h4 e)
  · exact e
  · exact absurd (h5.trans h3.symm) (hp j i h4 h2 e)
theorem drewn_below {B : Nat} {w w' : World} (h : Below B w w') (n : Nat) : Below B w (w'.drewN n) := ⟨h.os, h.tape, h.output, h.size, h.block⟩
end Go.Proofs.Ytkhmgigllcgpnaa
namespace Go.Proofs.Ytkhmgigllcgpnaa
open Go Go.RowKit Go.Lib

/-- A row of ints of the call's own, read. -/
def Cel (w : World) (g : Nat) (zs : List Int) : Prop := ∀ j z, zs[j]? = some z → w.cell? ⟨g, j, none⟩ = some (.int .i64 z)
theorem cel_of {w : World} {base g n c : Nat} {zs : List Int} (h : w.ownsRow base 3 1 (.slice (some ⟨g, 0, none⟩) n c) n (ic zs)) : Cel w g zs := by
  intro j z hj
  have hl : zs.length = n := by have := h.1; rw [ic_len] at this; omega
  have h1 := h.cellAt j (by have := (List.getElem?_eq_some_iff.1 hj).1; omega)
  rw [h1, ic_at hj]
theorem Cel.only {w w' : World} {D : Nat → Prop} {g : Nat} {zs : List Int} (h : Cel w g zs) (ho : Only D w w') (hd : ¬ D g) : Cel w' g zs := fun j z hj => (ho.cell (p := ⟨g, j, none⟩) (cell_lt (h j z hj)) hd).trans (h j z hj)
theorem Cel.below {w w' : World} {g : Nat} {zs : List Int} (h : Cel w g zs) (hb : Below w.heap.size w w') : Cel w' g zs := fun j z hj => (hb.cell (p := ⟨g, j, none⟩) (cell_lt (h j z hj))).trans (h j z hj)
theorem one_len {L : List (List Int)} (h : L.length = 1) : L = [rowAt L 0] := by
  match L, h with
  | [l], _ => rfl
/-- One of a row goes to its front. -/
theorem moved {L : List (List Int)} (hg : GoodL L) (h1 : L.length = 1) {p : Nat} {z : Int} (hp : (rowAt L 0)[p]? = some z) :
    May L.length 0 z ∧ (rowAt (opFront L 0 z) 0).length = (rowAt L 0).length ∧ (rowAt (opFront L 0 z) 0)[0]? = some z ∧
    (∀ i, i < p → (rowAt (opFront L 0 z) 0)[i + 1]? = (rowAt L 0)[i]?) ∧ (∀ i, p < i → (rowAt (opFront L 0 z) 0)[i]? = (rowAt L 0)[i]?) ∧ (∀ i y, (rowAt L 0)[i]? = some y → (y = z ↔ i = p)) := by
  have hL := one_len h1
  have hin : (rowAt L 0) ∈ L := by
    have h2 : rowAt L 0 ∈ [rowAt L 0] := List.mem_singleton.2 rfl
    rwa [← hL] at h2
  have hnd := (flat_nodup hg.nd).1 _ hin
  have hz := hg.rng z (List.mem_flatten.2 ⟨_, hin, List.mem_of_getElem? hp⟩)
  have hm : May L.length 0 z := ⟨by omega, by omega, hz.1, hz.2⟩
  have hs : rowAt L 0 = (rowAt L 0).take p ++ z :: (rowAt L 0).drop (p + 1) := by rw [← drop_cons hp, List.take_append_drop]
  have hpl := (List.getElem?_eq_some_iff.1 hp).1
  have hL0 : L[0]? = some ((rowAt L 0).take p ++ z :: (rowAt L 0).drop (p + 1)) := by
    have h0 : ∀ l : List Int, L = [l] → L[0]? = some l := fun l e => by rw [e]; rfl
    exact (h0 _ hL).trans (congrArg some hs)
  have hr : rowAt (opFront L 0 z) 0 = z :: ((rowAt L 0).take p ++ (rowAt L 0).drop (p + 1)) := by
    rw [opFront_yes hm, rowAt_of (by omega) (frontL_row (i := 0) (by omega) z), take_split hg.nd hL0, List.getElem?_set_self (by omega)]; rfl
  have htl : ((rowAt L 0).take p).length = p := by rw [List.length_take]; omega
  refine ⟨hm, ?_, ?_, fun i hi => ?_, fun i hi => ?_, fun i y hy => ⟨fun e => ?_, fun e => ?_⟩⟩
  · rw [hr, List.length_cons, List.length_append, htl, List.length_drop]; omega
  · rw [hr]; rfl
  · rw [hr, List.getElem?_cons_succ, List.getElem?_append_left (by omega), List.getElem?_take_of_lt hi]
  · obtain ⟨k, rfl⟩ : ∃ k, i = k + 1 := ⟨i - 1, by omega⟩
    rw [hr, List.getElem?_cons_succ, List.getElem?_append_right (by omega), htl, List.getElem?_drop]
    congr 1; omega
  · subst e
    exact nodup_at hnd hy hp
  · subst e; rw [hp] at hy; exact (Option.some.inj hy).symm

end Go.Proofs.Ytkhmgigllcgpnaa
namespace Go.Proofs.Ytkhmgigllcgpnaa
open Go Go.RowKit Go.Lib

/-- The three rows behind these were put. -/
def TL (bk : Bool) (ins : List Int) : List (List Int) := [[], if bk then ins else ins.reverse, []]
theorem TL_flat (bk : Bool) (ins : List Int) : (TL bk ins).flatten = if bk then ins else ins.reverse := by cases bk <;> simp [TL]
theorem TL_mem {bk : Bool} {ins : List Int} {z : Int} : z ∈ (TL bk ins).flatten ↔ z ∈ ins := by rw [TL_flat]; cases bk <;> simp
theorem TL_row (bk : Bool) {ins : List Int} (z : Int) (hg : GoodL (TL bk ins)) : rv (rowOf (TL bk ins) z) = if z ∈ ins then 1 else -1 := by
  by_cases h : z ∈ ins
  · rw [if_pos h, rowOf_at (i := 1) (l := if bk then ins else ins.reverse) hg.nd rfl (by cases bk <;> simpa using h)]; rfl
  · rw [if_neg h, rowOf_none'.2 (fun e => h (TL_mem.1 e))]; rfl
theorem TL_may {bk : Bool} {ins : List Int} {z : Int} (h0 : 0 ≤ z) (h1 : z ≤ 4194303) : May (TL bk ins).length 1 z := ⟨by omega, (by show (1 : Int) < ((3 : Nat) : Int); decide), h0, h1⟩
theorem TL_back {ins : List Int} {z : Int} (h0 : 0 ≤ z) (h1 : z ≤ 4194303) (hz : z ∉ ins) : opBack (TL true ins) 1 z = TL true (ins ++ [z]) := by
  rw [opBack_yes (TL_may h0 h1)]
  unfold backL
  rw [take_no (fun e => hz (TL_mem.1 e))]; rfl
theorem TL_front {ins : List Int} {z : Int} (h0 : 0 ≤ z) (h1 : z ≤ 4194303) (hz : z ∉ ins) : opFront (TL false ins) 1 z = TL false (ins ++ [z]) := by
  rw [opFront_yes (TL_may h0 h1)]
  unfold frontL
  rw [take_no (fun e => hz (TL_mem.1 e))]
  show [[], z :: ins.reverse, []] = [[], (ins ++ [z]).reverse, []]
  rw [List.reverse_append]; rfl
theorem TL_take {bk : Bool} {z : Int} {r : List Int} (hg : GoodL (TL bk (z :: r))) : takeL (TL bk (z :: r)) z = TL bk r ∧ (rowOf (TL bk (z :: r)) z).isSome = true := by
  constructor
  · cases bk with
    | true => rw [take_split (i := 1) (a := []) (b := r) hg.nd rfl]; rfl
    | false => rw [take_split (i := 1) (a := r.reverse) (b := []) hg.nd (by show some (z :: r).reverse = _; rw [List.reverse_cons])]; simp [TL]
  · rw [rowOf_at (i := 1) (l := if bk then z :: r else (z :: r).reverse) hg.nd rfl (by cases bk <;> simp)]; rfl
theorem TL_ends (bk : Bool) (z : Int) (r : List Int) : (if bk then firstOf (rowAt (TL bk (z :: r)) 1) else lastOf (rowAt (TL bk (z :: r)) 1)) = z := by
  cases bk
  · show lastOf (z :: r).reverse = z
    unfold lastOf; rw [List.getLast?_reverse]; rfl
  · rfl
theorem TL_len (bk : Bool) (ins : List Int) : (rowAt (TL bk ins) 1).length = ins.length := by
  cases bk
  · show ins.reverse.length = _; rw [List.length_reverse]
  · rfl
theorem TL_len0 (bk : Bool) (ins : List Int) : (rowAt (TL bk ins) 0).length = 0 := rfl
theorem TL_nil (bk : Bool) : firstOf (rowAt (TL bk []) 1) = -1 ∧ lastOf (rowAt (TL bk []) 1) = -1 := by cases bk <;> exact ⟨rfl, rfl⟩
theorem own_only {D : Nat → Prop} {w w' : World} {base : Nat} {e : TypeId} {v : Value} {n : Nat} {xs : List Value} (h : w.ownsRow base e 1 v n xs) (ho : Only D w w') (hd : ∀ b, v.ownBlock = some b → ¬ D b) : w'.ownsRow base e 1 v n xs := by
  refine ⟨h.1, ?_⟩
  rcases h.2 with hn | ⟨g, cap, cur, hv, hb, hg, rest⟩
  · exact .inl hn
  · refine .inr ⟨g, cap, cur, hv, hb, ?_, rest⟩
    rw [ho.block g (Array.getElem?_eq_some_iff.1 hg).1 (hd g (by rw [hv]; rfl))]
    exact hg
theorem own_base_le {w : World} {base : Nat} {e : TypeId} {v : Value} {n : Nat} {xs : List Value} (h : w.ownsRow base e 1 v n xs) {b : Nat} (hb : v.ownBlock = some b) : base ≤ b ∧ b < w.heap.size := by
  rcases h.2 with ⟨rfl, _⟩ | ⟨g, cap, cur, rfl, h1, hg, _⟩
  · simp [Value.ownBlock] at hb
  · obtain rfl : g = b := by simpa [Value.ownBlock] using hb
    exact ⟨h1, (Array.getElem?_eq_some_iff.1 hg).1⟩
/-- What the append leaves of rows and slice. -/
theorem has_append {w1 w w' : World} {P : Nat} {L : List (List Int)} {v v' : Value} {n m : Nat} {xs ys : List Value} {o : Obj} (h : HasR w1 P L (fun x => v.ownBlock = some x) w) (hv : w.ownsRow w1.heap.size 3 1 v n xs)
    (hg : (w.alloc o).grownBy w' v.ownBlock) (hv' : w'.ownsRow w1.heap.size 3 1 v' m ys) (hl : v'.ownBlock = v.ownBlock ∨ v'.ownBlock = some (w.alloc o).heap.size) : HasR w1 P L (fun x => v'.ownBlock = some x) w' := by
  have h1 : HasR w1 P L (fun x => v.ownBlock = some x) (w.alloc o) := h.after ((Below.refl _ _).alloc (Nat.le_refl _) o)
  refine h1.turn ⟨hg.os, hg.tape, hg.output, hg.size, fun k hk hn => hg.block k hk (fun e => hn e.symm)⟩ (fun x hx => (own_base_le hv hx).1) (fun x hx => ⟨?_, (own_base_le hv' hx).2⟩)
  rcases hl with e | e
  · exact .inl (e.symm.trans hx)
  · rw [e] at hx; exact .inr (by rw [Option.some.inj hx]; exact Nat.le_refl _)

end Go.Proofs.Ytkhmgigllcgpnaa

/-
  Plain mathematics of the law ChainMeans: what the row of the numbers that were set last says of the table; bits of a number. Conditions: none.
-/
import Derived.Test.YtfbkfbghejeknaaChainGrows
namespace Go.Proofs.Ytfbkfbghejeknaa
open Go Go.Shelf Go.RowKit Go.Lib

theorem i64_and255 (n : Int) : bits .and .i64 n 255 = n % 256 := by
  have h127 : (BitVec.ofInt 64 255).toNat = 2 ^ 8 - 1 := by decide
  have key : (BitVec.ofInt 64 n &&& BitVec.ofInt 64 255).toNat = (n % ((2 ^ 64 : Nat) : Int)).toNat % 2 ^ 8 := by
    rw [BitVec.toNat_and, BitVec.toNat_ofInt, h127, Nat.and_two_pow_sub_one_eq_mod]
  show IntKind.i64.wrap ((BitVec.ofInt 64 n &&& BitVec.ofInt 64 255).toNat : Nat) = n % 256
  rw [key, IntKind.wrap_i64]
  omega
theorem i64_and3 (n : Int) : bits .and .i64 n 3 = n % 4 := by
  have h127 : (BitVec.ofInt 64 3).toNat = 2 ^ 2 - 1 := by decide
  have key : (BitVec.ofInt 64 n &&& BitVec.ofInt 64 3).toNat = (n % ((2 ^ 64 : Nat) : Int)).toNat % 2 ^ 2 := by
    rw [BitVec.toNat_and, BitVec.toNat_ofInt, h127, Nat.and_two_pow_sub_one_eq_mod]
  show IntKind.i64.wrap ((BitVec.ofInt 64 n &&& BitVec.ofInt 64 3).toNat : Nat) = n % 4
  rw [key, IntKind.wrap_i64]
  omega

/-- The key number k of ChainMeans. -/
def mkey (k : Nat) : ByteArray := key2 (97 + k / 16) (97 + k % 16)
theorem mkey_size (k : Nat) : (mkey k).size = 3 := key2_size _ _
theorem mkey_inj {i j : Nat} (hi : i < 256) (hj : j < 256) (h : mkey i = mkey j) : i = j := by
  obtain ⟨h1, h2⟩ := key2_inj (by omega) (by omega) (by omega) (by omega) h
  omega

/-- What the row says: the number and 1, or 0. -/
def said (h : Nat) : Option Int := if h = 0 then none else some ((h : Int) - 1)
structure Me (s : Tb) (hs : List Nat) : Prop where
  len : hs.length = 256
  say : ∀ k h, hs[k]? = some h → s.get (mkey k) = said h
  keys : ∀ x, s.get x ≠ none → ∃ k, k < 256 ∧ x = mkey k
  le : ∀ h ∈ hs, h ≤ 600
theorem me_first (c : Nat) : Me (Tb.first c) (List.replicate 256 0) := by
  refine ⟨List.length_replicate, fun k h hk => ?_, fun x hx => (hx (get_first c x)).elim, fun h hh => ?_⟩
  · have : h ∈ List.replicate 256 0 := List.mem_of_getElem? hk
    rw [(List.mem_replicate.1 this).2, get_first]; rfl
  · rw [(List.mem_replicate.1 hh).2]; omega
theorem Me.set {s : Tb} {hs : List Nat} (m : Me s hs) (o : Ok s) (b c : Nat) {k i : Nat} (hk : k < 256) (hi : i < 600) : Me (s.set b c (mkey k) (i : Int)) (hs.set k (i + 1)) := by
  refine ⟨by rw [List.length_set]; exact m.len, fun j h hj => ?_, fun x hx => ?_, fun h hh => ?_⟩
  · rw [o.get_set]
    have hj256 : j < 256 := by
      have := (List.getElem?_eq_some_iff.1 hj).1
      rw [List.length_set, m.len] at this; exact this
    rw [List.getElem?_set] at hj
    split at hj
    · rename_i e
      rw [if_pos (by rw [m.len]; exact hk)] at hj
      cases hj
      rw [if_pos (by rw [e])]
      show some (i : Int) = some (((i + 1 : Nat) : Int) - 1)
      rw [show ((i + 1 : Nat) : Int) - 1 = (i : Int) by omega]
    · rename_i e
      rw [if_neg (fun e1 => e (mkey_inj hj256 hk e1).symm)]
      exact m.say j h hj
  · rw [o.get_set] at hx
    split at hx
    · rename_i e; exact ⟨k, hk, e⟩
    · exact m.keys x hx
  · rcases List.mem_or_eq_of_mem_set hh with h1 | h1
    · exact m.le h h1
    · rw [h1]; omega
theorem Me.del {s : Tb} {hs : List Nat} (m : Me s hs) (o : Ok s) {k : Nat} (hk : k < 256) : Me (s.del (mkey k)) (hs.set k 0) := by
  refine ⟨by rw [List.length_set]; exact m.len, fun j h hj => ?_, fun x hx => ?_, fun h hh => ?_⟩
  · rw [o.get_del]
    have hj256 : j < 256 := by
      have := (List.getElem?_eq_some_iff.1 hj).1
      rw [List.length_set, m.len] at this; exact this
    rw [List.getElem?_set] at hj
    split at hj
    · rename_i e
      rw [if_pos (by rw [m.len]; exact hk)] at hj
      cases hj
      rw [if_pos (by rw [e])]; rfl
    · rename_i e
      rw [if_neg (fun e1 => e (mkey_inj hj256 hk e1).symm)]
      exact m.say j h hj
  · rw [o.get_del] at hx
    split at hx
    · exact (hx rfl).elim
    · exact m.keys x hx
  · rcases List.mem_or_eq_of_mem_set hh with h1 | h1
    · exact m.le h h1
    · rw [h1]; omega
theorem Me.step {s : Tb} {hs : List Nat} (m : Me s hs) (o : Ok s) : Me s.step hs :=
  ⟨m.len, fun k h hk => by rw [o.get_step]; exact m.say k h hk, fun x hx => m.keys x (by rw [o.get_step] at hx; exact hx), m.le⟩
theorem Me.at {s : Tb} {hs : List Nat} (m : Me s hs) {k : Nat} (hk : k < 256) : ∃ h, hs[k]? = some h ∧ h ≤ 600 ∧ s.get (mkey k) = said h := by
  have hl : k < hs.length := by rw [m.len]; exact hk
  have h1 : hs[k]? = some hs[k] := List.getElem?_eq_getElem hl
  exact ⟨_, h1, m.le _ (List.getElem_mem hl), m.say k _ h1⟩
theorem Ok.cnt_pos {s : Tb} (o : Ok s) {x : ByteArray} (h : s.get x ≠ none) : 1 ≤ s.cnt := by
  rw [o.cnt]
  apply Classical.byContradiction
  intro hn
  have h0 : s.ents = [] := len0.1 (by omega)
  exact h ((get_nil o).2 (fun e he => by rw [h0] at he; cases he))
/-- How often a key stands among the first i. -/
def cn (x : ByteArray) (xs : List ByteArray) (i : Nat) : Nat := (xs.take i).countP (fun y => decide (y = x))
theorem cn_zero (x : ByteArray) (xs : List ByteArray) : cn x xs 0 = 0 := rfl
theorem cn_succ {x : ByteArray} {xs : List ByteArray} {i : Nat} {y : ByteArray} (h : xs[i]? = some y) : cn x xs (i + 1) = if y = x then cn x xs i + 1 else cn x xs i := by
  unfold cn
  rw [List.take_add_one, h]
  show (xs.take i ++ [y]).countP _ = _
  rw [List.countP_append, List.countP_singleton]
  by_cases e : y = x
  · rw [if_pos (decide_eq_true e), if_pos e]
  · rw [if_neg (by rw [decide_eq_false e]; decide), if_neg e]; rfl
theorem cn_le (x : ByteArray) (xs : List ByteArray) (i : Nat) : cn x xs i ≤ i := Nat.le_trans List.countP_le_length (by rw [List.length_take]; exact Nat.min_le_left _ _)
open Classical in
theorem count_once {x : ByteArray} : ∀ {l : List ByteArray}, l.Nodup → l.countP (fun y => decide (y = x)) = if x ∈ l then 1 else 0
  | [], _ => by rw [if_neg (List.not_mem_nil)]; rfl
  | y :: l, h => by
    rw [List.nodup_cons] at h
    rw [List.countP_cons, count_once h.2]
    by_cases e : y = x
    · rw [if_neg (c := x ∈ l) (by rw [← e]; exact h.1), if_pos (decide_eq_true e), if_pos (by rw [e]; exact List.mem_cons_self ..)]
    · rw [if_neg (c := decide (y = x) = true) (by rw [decide_eq_false e]; decide)]
      by_cases hm : x ∈ l
      · rw [if_pos hm, if_pos (List.mem_cons_of_mem _ hm)]
      · rw [if_neg hm, if_neg (fun h1 => (List.mem_cons.1 h1).elim (fun e1 => e e1.symm) hm)]
theorem Ok.times {s : Tb} (o : Ok s) (x : ByteArray) : cn x (s.ents.map En.k) (s.ents.map En.k).length = if s.get x = none then 0 else 1 := by
  unfold cn
  rw [List.take_length, count_once o.mid.once]
  by_cases h : s.get x = none
  · rw [if_pos h, if_neg]
    intro hm
    obtain ⟨e, he, hk⟩ := List.mem_map.1 hm
    exact (get_nil o).1 h e he hk
  · rw [if_neg h, if_pos]
    apply Classical.byContradiction
    intro hm
    exact h ((get_nil o).2 (fun e he hk => hm (List.mem_map.2 ⟨e, he, hk⟩)))
end Go.Proofs.Ytfbkfbghejeknaa

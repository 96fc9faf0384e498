/-
  Plain mathematics of a table of keys that grows step by step, no program in it: where a key stands, and what Set, Get, Delete and a move do to what the table tells. No conditions.
-/
import Derived.Test.YtfbkfbghejeknaaHashMath
namespace Go.Proofs.Ytfbkfbghejeknaa
open Go

/-- An entry: the block that it lies in, its key, its number. -/
structure En where
  b : Nat
  k : ByteArray
  n : Int

/-- A table: how many entries, the power, the new and the old buckets, how many are moved; the blocks of the two rows of buckets. -/
structure Tb where
  cnt : Nat
  pow : Nat
  new : List (List En)
  old : List (List En)
  moved : Nat
  N : Nat
  O : Nat

def hb (k : ByteArray) (p : Nat) : Nat := fnv k.data.toList % 2 ^ p
theorem hb_lt (k : ByteArray) (p : Nat) : hb k p < 2 ^ p := Nat.mod_lt _ (Nat.two_pow_pos p)

/-- All buckets: the old ones ahead of the new ones. -/
def Tb.rows (s : Tb) : List (List En) := s.old ++ s.new
def Tb.ents (s : Tb) : List En := s.rows.flatten
/-- Does the key stand in an old bucket? -/
def Tb.inOld (s : Tb) (k : ByteArray) : Bool := decide (s.old ≠ [] ∧ s.moved ≤ hb k (s.pow - 1))
/-- Which of all buckets is the key's. -/
def Tb.hi (s : Tb) (k : ByteArray) : Nat := if s.inOld k then hb k (s.pow - 1) else s.old.length + hb k s.pow
def Tb.row (s : Tb) (k : ByteArray) : List En := if s.inOld k then s.old[hb k (s.pow - 1)]?.getD [] else s.new[hb k s.pow]?.getD []
def Tb.upd (s : Tb) (k : ByteArray) (l : List En) : Tb := if s.inOld k then { s with old := s.old.set (hb k (s.pow - 1)) l } else { s with new := s.new.set (hb k s.pow) l }
def Tb.put (s : Tb) (e : En) : Tb := s.upd e.k (e :: s.row e.k)
def fnd (k : ByteArray) : List En → Option En
  | [] => none
  | e :: l => if e.k = k then some e else fnd k l
def setN (k : ByteArray) (n : Int) : List En → List En
  | [] => []
  | e :: l => if e.k = k then { e with n := n } :: l else e :: setN k n l
def cut (k : ByteArray) : List En → List En
  | [] => []
  | e :: l => if e.k = k then l else e :: cut k l
def Tb.get (s : Tb) (k : ByteArray) : Option Int := (fnd k (s.row k)).map En.n
def Tb.full (s : Tb) : Bool := decide (3 * s.new.length < 2 * s.cnt ∧ s.pow < 20)
def Tb.grow (s : Tb) (c : Nat) : Tb := { s with pow := s.pow + 1, old := s.new, O := s.N, moved := 0, new := List.replicate (2 ^ (s.pow + 1)) [], N := c }
def Tb.add (s : Tb) (e : En) : Tb := { s.put e with cnt := s.cnt + 1 }
/-- Set: b is the new entry's block, c the new row's. -/
def Tb.set (s : Tb) (b c : Nat) (k : ByteArray) (n : Int) : Tb :=
  if fnd k (s.row k) = none then
    if s.old = [] ∧ (s.add ⟨b, k, n⟩).full = true then (s.add ⟨b, k, n⟩).grow c else s.add ⟨b, k, n⟩
  else s.upd k (setN k n (s.row k))
def Tb.del (s : Tb) (k : ByteArray) : Tb :=
  if fnd k (s.row k) = none then s else { s.upd k (cut k (s.row k)) with cnt := s.cnt - 1 }
/-- The first half of a move: the bucket is lifted out. -/
def Tb.lift (s : Tb) : Tb := { s with old := s.old.set s.moved [], moved := s.moved + 1 }
def Tb.puts (s : Tb) (l : List En) : Tb := l.foldl Tb.put s
/-- The last: was it the last bucket? -/
def Tb.done (s : Tb) : Tb := if s.moved = s.old.length then { s with old := [] } else s
def Tb.step (s : Tb) : Tb := if s.old = [] then s else (s.lift.puts (s.old[s.moved]?.getD [])).done
def Tb.first (c : Nat) : Tb := ⟨0, 2, List.replicate 4 [], [], 0, c, 0⟩

/-- What holds of a table, also in the middle of a move. -/
structure Mid (s : Tb) : Prop where
  p2 : 2 ≤ s.pow
  p20 : s.pow ≤ 20
  lenN : s.new.length = 2 ^ s.pow
  lenO : s.old ≠ [] → s.old.length = 2 ^ (s.pow - 1)
  p3 : s.old ≠ [] → 3 ≤ s.pow
  mv : s.moved ≤ 2 ^ (s.pow - 1)
  home : ∀ i l, s.rows[i]? = some l → ∀ e ∈ l, s.hi e.k = i
  once : (s.ents.map En.k).Nodup

structure Ok (s : Tb) : Prop where
  mid : Mid s
  mvlt : s.old ≠ [] → s.moved < s.old.length
  cnt : s.cnt = s.ents.length

/-! Lists -/
theorem flatten_set {α : Type} (L : List (List α)) (i : Nat) (l' : List α) (h : i < L.length) : ((L.set i l').flatten ++ L[i]).Perm (L.flatten ++ l') := by
  induction L generalizing i with
  | nil => simp at h
  | cons a L ih =>
    cases i with
    | zero =>
      simp only [List.set_cons_zero, List.flatten_cons, List.getElem_cons_zero]
      refine List.Perm.trans (List.perm_append_comm) ?_
      rw [← List.append_assoc]
      refine List.Perm.trans ?_ (List.perm_append_comm)
      rw [← List.append_assoc]
      exact (List.Perm.append_right _ List.perm_append_comm)
    | succ i =>
      simp only [List.set_cons_succ, List.flatten_cons, List.getElem_cons_succ, List.append_assoc]
      exact (ih i (by simpa using h)).append_left a

theorem fnd_key {k : ByteArray} {l : List En} {e : En} (h : fnd k l = some e) : e.k = k ∧ e ∈ l := by
  induction l with
  | nil => cases h
  | cons a l ih =>
    unfold fnd at h
    split at h
    · rename_i hk; cases h; exact ⟨hk, List.mem_cons_self ..⟩
    · exact ⟨(ih h).1, List.mem_cons_of_mem _ (ih h).2⟩
theorem fnd_none {k : ByteArray} {l : List En} : fnd k l = none ↔ ∀ e ∈ l, e.k ≠ k := by
  induction l with
  | nil => simp [fnd]
  | cons a l ih =>
    unfold fnd
    split
    · rename_i hk; simp [hk]
    · rename_i hk; simp [hk, ih]
theorem fnd_mem {k : ByteArray} {l : List En} {e : En} (hn : (l.map En.k).Nodup) (he : e ∈ l) (hk : e.k = k) : fnd k l = some e := by
  induction l with
  | nil => cases he
  | cons a l ih =>
    rw [List.map_cons, List.nodup_cons] at hn
    unfold fnd
    rcases List.mem_cons.1 he with rfl | he
    · rw [if_pos hk]
    · have : a.k ≠ k := fun e1 => hn.1 (by rw [e1, ← hk]; exact List.mem_map.2 ⟨e, he, rfl⟩)
      rw [if_neg this]; exact ih hn.2 he
theorem cut_perm {k : ByteArray} {l : List En} {e : En} (h : fnd k l = some e) : l.Perm (e :: cut k l) := by
  induction l with
  | nil => cases h
  | cons a l ih =>
    unfold fnd at h
    unfold cut
    split at h
    · rename_i hk; cases h; rw [if_pos hk]
    · rename_i hk; rw [if_neg hk]; exact ((ih h).cons a).trans (List.Perm.swap ..)
theorem setN_perm {k : ByteArray} {n : Int} {l : List En} {e : En} (h : fnd k l = some e) : (setN k n l).Perm ({ e with n := n } :: cut k l) := by
  induction l with
  | nil => cases h
  | cons a l ih =>
    unfold fnd at h
    unfold cut setN
    split at h
    · rename_i hk; cases h; rw [if_pos hk, if_pos hk]
    · rename_i hk; rw [if_neg hk, if_neg hk]; exact ((ih h).cons a).trans (List.Perm.swap ..)
theorem setN_keys (k : ByteArray) (n : Int) (l : List En) : (setN k n l).map En.k = l.map En.k := by
  induction l with
  | nil => rfl
  | cons a l ih => unfold setN; split <;> simp [ih]
theorem setN_blocks (k : ByteArray) (n : Int) (l : List En) : (setN k n l).map En.b = l.map En.b := by
  induction l with
  | nil => rfl
  | cons a l ih => unfold setN; split <;> simp [ih]
theorem cut_sub (k : ByteArray) (l : List En) : (cut k l).Sublist l := by
  induction l with
  | nil => exact List.Sublist.refl _
  | cons a l ih => unfold cut; split <;> simp [ih]

/-! Where a key stands -/
theorem inOld_iff {s : Tb} {k : ByteArray} : s.inOld k = true ↔ s.old ≠ [] ∧ s.moved ≤ hb k (s.pow - 1) := by unfold Tb.inOld; exact decide_eq_true_iff
theorem inOld_false {s : Tb} {k : ByteArray} (h : s.old = []) : s.inOld k = false := by unfold Tb.inOld; exact decide_eq_false (fun e => e.1 h)
theorem Mid.hi_lt {s : Tb} (h : Mid s) (k : ByteArray) : s.hi k < s.rows.length := by
  unfold Tb.hi Tb.rows
  rw [List.length_append]
  by_cases hi : s.inOld k = true
  · rw [if_pos hi, h.lenO (inOld_iff.1 hi).1]
    have := hb_lt k (s.pow - 1); omega
  · rw [if_neg hi, h.lenN]
    have := hb_lt k s.pow; omega
theorem Mid.row_eq {s : Tb} (h : Mid s) (k : ByteArray) : s.rows[s.hi k]? = some (s.row k) := by
  unfold Tb.row Tb.hi Tb.rows
  by_cases hi : s.inOld k = true
  · rw [if_pos hi, if_pos hi]
    have h1 := hb_lt k (s.pow - 1); rw [← h.lenO (inOld_iff.1 hi).1] at h1
    rw [List.getElem?_append_left h1, List.getElem?_eq_getElem h1]; rfl
  · rw [if_neg hi, if_neg hi]
    have h1 := hb_lt k s.pow; rw [← h.lenN] at h1
    rw [List.getElem?_append_right (by omega), Nat.add_sub_cancel_left, List.getElem?_eq_getElem h1]; rfl
theorem Mid.row_get {s : Tb} (h : Mid s) (k : ByteArray) : s.rows[s.hi k]'(h.hi_lt k) = s.row k := by
  have := h.row_eq k
  rw [List.getElem?_eq_getElem (h.hi_lt k)] at this
  exact Option.some.inj this
theorem Mid.upd_rows {s : Tb} (h : Mid s) (k : ByteArray) (l : List En) : (s.upd k l).rows = s.rows.set (s.hi k) l := by
  unfold Tb.upd Tb.hi Tb.rows
  by_cases hi : s.inOld k = true
  · rw [if_pos hi, if_pos hi]
    have h1 := hb_lt k (s.pow - 1); rw [← h.lenO (inOld_iff.1 hi).1] at h1
    rw [List.set_append_left _ _ h1]
  · rw [if_neg hi, if_neg hi]
    rw [List.set_append_right _ _ (by omega), Nat.add_sub_cancel_left]
theorem set_ne_nil {α : Type} {L : List α} {i : Nat} {x : α} : L.set i x = [] ↔ L = [] := by
  rw [← List.length_eq_zero_iff, ← List.length_eq_zero_iff, List.length_set]
theorem upd_pow (s : Tb) (k : ByteArray) (l : List En) : (s.upd k l).pow = s.pow ∧ (s.upd k l).moved = s.moved ∧ (s.upd k l).cnt = s.cnt ∧ (s.upd k l).N = s.N ∧ (s.upd k l).O = s.O ∧ (s.upd k l).new.length = s.new.length ∧ (s.upd k l).old.length = s.old.length := by
  unfold Tb.upd; split <;> simp
theorem len_nil {α : Type} {a b : List α} (h : a.length = b.length) : a = [] ↔ b = [] := by
  rw [← List.length_eq_zero_iff, ← List.length_eq_zero_iff, h]
theorem upd_inOld (s : Tb) (k : ByteArray) (l : List En) (k' : ByteArray) : (s.upd k l).inOld k' = s.inOld k' := by
  obtain ⟨h1, h2, _, _, _, _, h7⟩ := upd_pow s k l
  unfold Tb.inOld
  rw [h1, h2]
  exact decide_eq_decide.2 (and_congr (not_congr (len_nil h7)) Iff.rfl)
theorem upd_hi (s : Tb) (k : ByteArray) (l : List En) (k' : ByteArray) : (s.upd k l).hi k' = s.hi k' := by
  obtain ⟨h1, h2, _, _, _, _, h7⟩ := upd_pow s k l
  unfold Tb.hi
  rw [upd_inOld, h1, h7]
theorem Mid.upd_perm {s : Tb} (h : Mid s) (k : ByteArray) (l : List En) : ((s.upd k l).ents ++ s.row k).Perm (s.ents ++ l) := by
  unfold Tb.ents
  rw [h.upd_rows, ← h.row_get k]
  exact flatten_set _ _ _ (h.hi_lt k)
theorem Mid.upd {s : Tb} (h : Mid s) (k : ByteArray) (l : List En) (hl : ∀ e ∈ l, s.hi e.k = s.hi k) (hn : ((s.upd k l).ents.map En.k).Nodup) : Mid (s.upd k l) := by
  obtain ⟨h1, h2, _, _, _, h6, h7⟩ := upd_pow s k l
  refine ⟨h1 ▸ h.p2, h1 ▸ h.p20, by rw [h6, h1, h.lenN], fun hne => ?_, fun hne => ?_, by rw [h1, h2]; exact h.mv, fun i l' hi e he => ?_, hn⟩
  · rw [h7, h1, h.lenO (fun e => hne ((len_nil h7).2 e))]
  · rw [h1]; exact h.p3 (fun e => hne ((len_nil h7).2 e))
  · rw [upd_hi]
    rw [h.upd_rows, List.getElem?_set] at hi
    split at hi
    · rename_i hi'
      rw [if_pos (hi' ▸ h.hi_lt k)] at hi
      cases hi; rw [← hi']; exact hl e he
    · exact h.home i l' hi e he
theorem Mid.mem_row {s : Tb} (h : Mid s) {e : En} (he : e ∈ s.ents) : e ∈ s.row e.k := by
  unfold Tb.ents at he
  obtain ⟨l, hl, hm⟩ := List.mem_flatten.1 he
  obtain ⟨i, hi⟩ := List.mem_iff_getElem?.1 hl
  have h1 := h.home i l hi e hm
  have h2 := h.row_eq e.k
  rw [h1, hi] at h2
  cases h2; exact hm
theorem Mid.row_mem {s : Tb} (h : Mid s) {k : ByteArray} {e : En} (he : e ∈ s.row k) : e ∈ s.ents := by
  unfold Tb.ents
  exact List.mem_flatten.2 ⟨_, List.mem_of_getElem? (h.row_eq k), he⟩
theorem Mid.row_home {s : Tb} (h : Mid s) {k : ByteArray} {e : En} (he : e ∈ s.row k) : s.hi e.k = s.hi k := h.home _ _ (h.row_eq k) e he
theorem nodup_sub {l m : List En} (h : l.Sublist m) (hn : (m.map En.k).Nodup) : (l.map En.k).Nodup := (h.map En.k).nodup hn
theorem Mid.row_nodup {s : Tb} (h : Mid s) (k : ByteArray) : ((s.row k).map En.k).Nodup :=
  nodup_sub (List.sublist_flatten_of_mem (List.mem_of_getElem? (h.row_eq k))) h.once
theorem Mid.fnd_ents {s : Tb} (h : Mid s) {k : ByteArray} {e : En} : fnd k (s.row k) = some e ↔ e ∈ s.ents ∧ e.k = k :=
  ⟨fun hf => ⟨h.row_mem (fnd_key hf).2, (fnd_key hf).1⟩, fun ⟨he, hk⟩ => fnd_mem (h.row_nodup k) (by have := h.mem_row he; rwa [hk] at this) hk⟩
theorem Mid.fnd_nil {s : Tb} (h : Mid s) {k : ByteArray} : fnd k (s.row k) = none ↔ ∀ e ∈ s.ents, e.k ≠ k := by
  rw [fnd_none]
  exact ⟨fun hf e he hk => hf e (by have := h.mem_row he; rwa [hk] at this) hk, fun hf e he => hf e (h.row_mem he)⟩

/-! put -/
theorem Mid.put_perm {s : Tb} (h : Mid s) (e : En) : (s.put e).ents.Perm (e :: s.ents) := by
  have h1 := h.upd_perm e.k (e :: s.row e.k)
  have h2 : (s.ents ++ e :: s.row e.k).Perm (e :: s.ents ++ s.row e.k) := List.perm_middle
  exact (List.perm_append_right_iff _).1 (h1.trans h2)
theorem Mid.put {s : Tb} (h : Mid s) {e : En} (hk : ∀ x ∈ s.ents, x.k ≠ e.k) : Mid (s.put e) := by
  refine h.upd _ _ (fun x hx => ?_) ?_
  · rcases List.mem_cons.1 hx with rfl | hx
    · rfl
    · exact h.row_home hx
  · show ((s.put e).ents.map En.k).Nodup
    rw [((h.put_perm e).map En.k).nodup_iff, List.map_cons, List.nodup_cons]
    exact ⟨fun hm => by obtain ⟨x, hx, hxk⟩ := List.mem_map.1 hm; exact hk x hx hxk, h.once⟩
theorem Mid.puts {s : Tb} (h : Mid s) (l : List En) (hn : ((l ++ s.ents).map En.k).Nodup) : Mid (s.puts l) ∧ (s.puts l).ents.Perm (l ++ s.ents) := by
  induction l generalizing s with
  | nil => exact ⟨h, List.Perm.refl _⟩
  | cons e l ih =>
    have hn' := hn
    rw [List.cons_append, List.map_cons, List.nodup_cons] at hn'
    have hp := h.put (e := e) (fun x hx hk => hn'.1 (List.mem_map.2 ⟨x, List.mem_append_right _ hx, hk⟩))
    have hq : (l ++ (s.put e).ents).Perm (e :: l ++ s.ents) := ((h.put_perm e).append_left l).trans List.perm_middle
    obtain ⟨i1, i2⟩ := ih hp (((hq.map En.k).nodup_iff).2 hn)
    exact ⟨i1, i2.trans hq⟩
theorem put_same (s : Tb) (e : En) : (s.put e).pow = s.pow ∧ (s.put e).moved = s.moved ∧ (s.put e).cnt = s.cnt ∧ (s.put e).N = s.N ∧ (s.put e).O = s.O ∧ (s.put e).new.length = s.new.length ∧ (s.put e).old.length = s.old.length := upd_pow _ _ _
theorem puts_same (s : Tb) (l : List En) : (s.puts l).pow = s.pow ∧ (s.puts l).moved = s.moved ∧ (s.puts l).cnt = s.cnt ∧ (s.puts l).N = s.N ∧ (s.puts l).O = s.O ∧ (s.puts l).new.length = s.new.length ∧ (s.puts l).old.length = s.old.length := by
  induction l generalizing s with
  | nil => exact ⟨rfl, rfl, rfl, rfl, rfl, rfl, rfl⟩
  | cons e l ih =>
    obtain ⟨a1, a2, a3, a4, a5, a6, a7⟩ := ih (s.put e)
    obtain ⟨b1, b2, b3, b4, b5, b6, b7⟩ := put_same s e
    exact ⟨a1.trans b1, a2.trans b2, a3.trans b3, a4.trans b4, a5.trans b5, a6.trans b6, a7.trans b7⟩

/-! A move -/
theorem Ok.lift_row {s : Tb} (h : Ok s) (hne : s.old ≠ []) : s.rows[s.moved]? = some (s.old[s.moved]?.getD []) := by
  have h1 := h.mvlt hne
  unfold Tb.rows
  rw [List.getElem?_append_left h1, List.getElem?_eq_getElem h1]; rfl
theorem lift_rows {s : Tb} (h : s.moved < s.old.length) : s.lift.rows = s.rows.set s.moved [] := by
  unfold Tb.lift Tb.rows
  rw [List.set_append_left _ _ h]
theorem Ok.lift_perm {s : Tb} (h : Ok s) (hne : s.old ≠ []) : (s.old[s.moved]?.getD [] ++ s.lift.ents).Perm s.ents := by
  have h1 := h.mvlt hne
  have hl : s.moved < s.rows.length := by unfold Tb.rows; rw [List.length_append]; omega
  have h2 := flatten_set s.rows s.moved [] hl
  have h3 := h.lift_row hne
  rw [List.getElem?_eq_getElem hl] at h3
  rw [Option.some.inj h3, List.append_nil, ← lift_rows h1] at h2
  exact List.perm_append_comm.trans h2
theorem Ok.lift {s : Tb} (h : Ok s) (hne : s.old ≠ []) : Mid s.lift := by
  have h1 := h.mvlt hne
  have m := h.mid
  have hold : s.lift.old ≠ [] := fun e => hne (set_ne_nil.1 e)
  have hlen : s.lift.old.length = s.old.length := by unfold Tb.lift; simp
  refine ⟨m.p2, m.p20, m.lenN, fun _ => by rw [hlen]; exact m.lenO hne, fun _ => m.p3 hne, ?_, fun i l hi e he => ?_, ?_⟩
  · show s.moved + 1 ≤ 2 ^ (s.pow - 1)
    rw [← m.lenO hne]; exact h1
  · rw [lift_rows h1, List.getElem?_set] at hi
    split at hi
    · rename_i hi'
      split at hi
      · cases hi; cases he
      · cases hi
    · rename_i hi'
      have hh := m.home i l hi e he
      unfold Tb.hi at hh ⊢
      rw [hlen]
      by_cases ho : s.inOld e.k = true
      · rw [if_pos ho] at hh
        have ho' := inOld_iff.1 ho
        have : s.lift.inOld e.k = true := inOld_iff.2 ⟨hold, by show s.moved + 1 ≤ hb e.k (s.pow - 1); have := ho'.2; omega⟩
        rw [if_pos this]; exact hh
      · rw [if_neg ho] at hh
        have : ¬ s.lift.inOld e.k = true := fun e1 => ho (inOld_iff.2 ⟨hne, by have h9 : s.moved + 1 ≤ hb e.k (s.pow - 1) := (inOld_iff.1 e1).2; omega⟩)
        rw [if_neg this]; exact hh
  · exact nodup_sub (List.Sublist.refl _) (((h.lift_perm hne).map En.k).nodup_iff.2 m.once |> fun x => (List.nodup_append.1 (by simpa using x)).2.1)
/-- Behind the last bucket the old ones hold nothing. -/
theorem Mid.old_empty {s : Tb} (h : Mid s) (hm : s.moved = s.old.length) : s.old.flatten = [] := by
  by_cases hne : s.old = []
  · rw [hne]; rfl
  · refine List.eq_nil_iff_forall_not_mem.2 fun e he => ?_
    obtain ⟨l, hl, hm'⟩ := List.mem_flatten.1 he
    obtain ⟨i, hi⟩ := List.mem_iff_getElem?.1 hl
    have hlt : i < s.old.length := (List.getElem?_eq_some_iff.1 hi).1
    have h1 := h.home i l (by unfold Tb.rows; rw [List.getElem?_append_left hlt]; exact hi) e hm'
    unfold Tb.hi at h1
    have h2 := hb_lt e.k (s.pow - 1); rw [← h.lenO hne] at h2
    split at h1
    · rename_i ho; have := (inOld_iff.1 ho).2; omega
    · omega
theorem Mid.done_ents {s : Tb} (h : Mid s) : s.done.ents = s.ents := by
  unfold Tb.done
  split
  · rename_i hm
    show ([] ++ s.new).flatten = (s.old ++ s.new).flatten
    rw [List.flatten_append, List.flatten_append, h.old_empty hm]; rfl
  · rfl
theorem done_same (s : Tb) : s.done.pow = s.pow ∧ s.done.moved = s.moved ∧ s.done.cnt = s.cnt ∧ s.done.N = s.N ∧ s.done.O = s.O ∧ s.done.new = s.new := by unfold Tb.done; split <;> exact ⟨rfl, rfl, rfl, rfl, rfl, rfl⟩
theorem Mid.done {s : Tb} (h : Mid s) : Mid s.done := by
  have he := h.done_ents
  unfold Tb.done at he ⊢
  split at he
  · rename_i hm
    rw [if_pos hm]
    refine ⟨h.p2, h.p20, h.lenN, fun e => (e rfl).elim, fun e => (e rfl).elim, h.mv, fun i l hi e hm' => ?_, by rw [he]; exact h.once⟩
    show (if _ then _ else _) = i
    rw [if_neg (by rw [inOld_false rfl]; decide)]
    have hi' : s.new[i]? = some l := hi
    have h1 := h.home (s.old.length + i) l (by unfold Tb.rows; rw [List.getElem?_append_right (by omega), Nat.add_sub_cancel_left]; exact hi') e hm'
    unfold Tb.hi at h1
    show 0 + hb e.k s.pow = i
    split at h1
    · rename_i ho
      have h2 := hb_lt e.k (s.pow - 1); rw [← h.lenO (inOld_iff.1 ho).1] at h2
      omega
    · omega
  · rename_i hm
    rw [if_neg hm]; exact h
theorem Ok.step_perm {s : Tb} (h : Ok s) : s.step.ents.Perm s.ents ∧ Mid s.step := by
  unfold Tb.step
  by_cases hne : s.old = []
  · rw [if_pos hne]; exact ⟨List.Perm.refl _, h.mid⟩
  · rw [if_neg hne]
    have hp := h.lift_perm hne
    obtain ⟨m1, p1⟩ := (h.lift hne).puts (s.old[s.moved]?.getD []) ((hp.map En.k).nodup_iff.2 h.mid.once)
    exact ⟨by rw [m1.done_ents]; exact p1.trans hp, m1.done⟩
/-- What a move leaves, in numbers. -/
theorem step_nums {s : Tb} (hne : s.old ≠ []) : s.step.pow = s.pow ∧ s.step.cnt = s.cnt ∧ s.step.moved = s.moved + 1 ∧ s.step.new.length = s.new.length ∧ s.step.old.length = (if s.moved + 1 = s.old.length then 0 else s.old.length) := by
  obtain ⟨a1, a2, a3, a4, a5, a6, a7⟩ := puts_same s.lift (s.old[s.moved]?.getD [])
  obtain ⟨b1, b2, b3, b4, b5, b6⟩ := done_same (s.lift.puts (s.old[s.moved]?.getD []))
  have hl : s.lift.old.length = s.old.length := by unfold Tb.lift; simp
  unfold Tb.step
  rw [if_neg hne]
  refine ⟨b1.trans a1, b3.trans a3, b2.trans a2, by rw [b6, a6]; rfl, ?_⟩
  unfold Tb.done
  rw [a2, a7, hl]
  show List.length (Tb.old (if s.moved + 1 = _ then _ else _)) = _
  split
  · rfl
  · rw [a7, hl]
theorem Ok.step {s : Tb} (h : Ok s) : Ok s.step := by
  by_cases hne : s.old = []
  · have : s.step = s := by unfold Tb.step; rw [if_pos hne]
    rw [this]; exact h
  · obtain ⟨p, m⟩ := h.step_perm
    obtain ⟨n1, n2, n3, n4, n5⟩ := step_nums hne
    have h1 := h.mvlt hne
    refine ⟨m, fun hne' => ?_, by rw [n2, h.cnt, p.length_eq]⟩
    rw [n5, n3]
    split
    · rename_i he
      rw [if_pos he] at n5
      exact (hne' (List.length_eq_zero_iff.1 n5)).elim
    · omega

/-! Set and Delete -/
theorem nodup_perm {l m : List En} (h : l.Perm m) : (l.map En.k).Nodup ↔ (m.map En.k).Nodup := (h.map En.k).nodup_iff
theorem Ok.setN_perm {s : Tb} (h : Ok s) {k : ByteArray} {n : Int} {e : En} (hf : fnd k (s.row k) = some e) : ∃ r, s.ents.Perm (e :: r) ∧ (s.upd k (setN k n (s.row k))).ents.Perm ({ e with n := n } :: r) := by
  have m := h.mid
  have p := m.upd_perm k (setN k n (s.row k))
  have he := (m.fnd_ents.1 hf).1
  obtain ⟨r, hr⟩ : ∃ r, s.ents.Perm (e :: r) := by
    obtain ⟨a, b, hab⟩ := List.append_of_mem he
    exact ⟨a ++ b, by rw [hab]; exact List.perm_middle⟩
  refine ⟨r, hr, ?_⟩
  have c := cut_perm hf
  have c' := Go.Proofs.Ytfbkfbghejeknaa.setN_perm (n := n) hf
  have q1 : ((s.upd k (setN k n (s.row k))).ents ++ e :: cut k (s.row k)).Perm (e :: r ++ { e with n := n } :: cut k (s.row k)) :=
    (c.symm.append_left _).trans (p.trans (hr.append c'))
  have q2 : ((s.upd k (setN k n (s.row k))).ents ++ e :: cut k (s.row k)).Perm (e :: ((s.upd k (setN k n (s.row k))).ents ++ cut k (s.row k))) := List.perm_middle
  have q3 : (e :: r ++ { e with n := n } :: cut k (s.row k)).Perm (e :: ({ e with n := n } :: r ++ cut k (s.row k))) := (List.perm_middle (l₁ := r)).cons e
  exact (List.perm_append_right_iff _).1 ((List.perm_cons _).1 (q2.symm.trans (q1.trans q3)))
theorem Ok.cut_perm {s : Tb} (h : Ok s) {k : ByteArray} {e : En} (hf : fnd k (s.row k) = some e) : s.ents.Perm (e :: (s.upd k (cut k (s.row k))).ents) := by
  have m := h.mid
  have p := m.upd_perm k (cut k (s.row k))
  have c := Go.Proofs.Ytfbkfbghejeknaa.cut_perm hf
  have q1 : ((s.upd k (cut k (s.row k))).ents ++ e :: cut k (s.row k)).Perm (s.ents ++ cut k (s.row k)) := (c.symm.append_left _).trans p
  have q2 := (List.perm_middle (a := e) (l₁ := (s.upd k (cut k (s.row k))).ents) (l₂ := cut k (s.row k))).symm.trans q1
  exact ((List.perm_append_right_iff (cut k (s.row k))).1 q2).symm
theorem grow_ents {s : Tb} (c : Nat) (ho : s.old = []) : (s.grow c).ents = s.ents := by
  unfold Tb.ents Tb.rows Tb.grow
  rw [ho]; simp
theorem Mid.grow {s : Tb} (h : Mid s) (c : Nat) (ho : s.old = []) (hp : s.pow < 20) : Mid (s.grow c) := by
  have hl := h.lenN
  refine ⟨by show 2 ≤ s.pow + 1; have := h.p2; omega, hp, List.length_replicate, fun _ => hl, fun _ => by show 3 ≤ s.pow + 1; have := h.p2; omega, Nat.zero_le _, fun i l hi e he => ?_, by rw [grow_ents c ho]; exact h.once⟩
  have hi' : (s.new ++ List.replicate (2 ^ (s.pow + 1)) [])[i]? = some l := hi
  by_cases hlt : i < s.new.length
  · rw [List.getElem?_append_left hlt] at hi'
    have h1 := h.home i l (by unfold Tb.rows; rw [ho]; exact hi') e he
    have hne : s.new ≠ [] := fun e1 => by rw [e1] at hlt; cases hlt
    unfold Tb.hi at h1 ⊢
    rw [inOld_false ho, ho] at h1
    rw [inOld_iff.2 ⟨hne, Nat.zero_le _⟩]
    have h2 : (if false = true then hb e.k (s.pow - 1) else ([] : List (List En)).length + hb e.k s.pow) = hb e.k s.pow := by simp
    rw [h2] at h1
    show hb e.k (s.pow + 1 - 1) = i
    exact h1
  · rw [List.getElem?_append_right (by omega)] at hi'
    have := List.mem_of_getElem? hi'
    rw [List.mem_replicate] at this
    rw [this.2] at he; cases he
theorem Ok.add {s : Tb} (h : Ok s) {e : En} (hk : fnd e.k (s.row e.k) = none) : Ok (s.add e) ∧ (s.add e).ents.Perm (e :: s.ents) := by
  have m := h.mid
  have p : (s.add e).ents.Perm (e :: s.ents) := m.put_perm e
  have mp := m.put (e := e) (m.fnd_nil.1 hk)
  obtain ⟨h1, h2, h3, h4, h5, h6, h7⟩ := put_same s e
  refine ⟨⟨⟨mp.p2, mp.p20, mp.lenN, mp.lenO, mp.p3, mp.mv, mp.home, mp.once⟩, fun hne => ?_, ?_⟩, p⟩
  · show (s.put e).moved < (s.put e).old.length
    rw [h2, h7]; exact h.mvlt (fun e1 => hne ((len_nil h7).2 e1))
  · show s.cnt + 1 = _
    rw [p.length_eq, List.length_cons, h.cnt]
theorem add_same (s : Tb) (e : En) : (s.add e).pow = s.pow ∧ (s.add e).moved = s.moved ∧ (s.add e).cnt = s.cnt + 1 ∧ (s.add e).N = s.N ∧ (s.add e).O = s.O ∧ (s.add e).new.length = s.new.length ∧ (s.add e).old.length = s.old.length := by
  obtain ⟨h1, h2, h3, h4, h5, h6, h7⟩ := put_same s e
  exact ⟨h1, h2, rfl, h4, h5, h6, h7⟩
theorem Ok.grow {s : Tb} (h : Ok s) (c : Nat) (ho : s.old = []) (hf : s.full = true) : Ok (s.grow c) := by
  have hf' := (of_decide_eq_true hf).2
  have hn : s.new ≠ [] := fun e1 => by
    have := h.mid.lenN; rw [e1] at this
    have := Nat.two_pow_pos s.pow
    simp at *; omega
  exact ⟨h.mid.grow c ho hf', fun _ => List.length_pos_iff.2 hn, by rw [grow_ents c ho]; exact h.cnt⟩
/-- A new key. -/
theorem Ok.set_new {s : Tb} (h : Ok s) (b c : Nat) (k : ByteArray) (n : Int) (hk : fnd k (s.row k) = none) : Ok (s.set b c k n) ∧ (s.set b c k n).ents.Perm (⟨b, k, n⟩ :: s.ents) := by
  obtain ⟨o, p⟩ := h.add (e := ⟨b, k, n⟩) hk
  unfold Tb.set
  rw [if_pos hk]
  split
  · rename_i hg
    have ho : (s.add ⟨b, k, n⟩).old = [] := (len_nil (add_same s _).2.2.2.2.2.2).2 hg.1
    exact ⟨o.grow c ho hg.2, by rw [grow_ents c ho]; exact p⟩
  · exact ⟨o, p⟩
/-- A key that is there. -/
theorem Ok.set_old {s : Tb} (h : Ok s) (b c : Nat) {k : ByteArray} (n : Int) {e : En} (hk : fnd k (s.row k) = some e) : Ok (s.set b c k n) ∧ ∃ r, s.ents.Perm (e :: r) ∧ (s.set b c k n).ents.Perm ({ e with n := n } :: r) := by
  obtain ⟨r, r1, r2⟩ := h.setN_perm (n := n) hk
  obtain ⟨h1, h2, h3, h4, h5, h6, h7⟩ := upd_pow s k (setN k n (s.row k))
  unfold Tb.set
  rw [if_neg (by rw [hk]; simp)]
  have hn : ((s.upd k (setN k n (s.row k))).ents.map En.k).Nodup := by
    rw [nodup_perm r2]; have := (nodup_perm r1).1 h.mid.once
    simpa using this
  have m := h.mid.upd k (setN k n (s.row k)) (fun x hx => by
    obtain ⟨y, hy, hyk⟩ := List.mem_map.1 ((setN_keys k n (s.row k)) ▸ List.mem_map.2 ⟨x, hx, rfl⟩ : x.k ∈ (s.row k).map En.k)
    rw [← hyk]; exact h.mid.row_home hy) hn
  refine ⟨⟨m, fun hne => ?_, ?_⟩, r, r1, r2⟩
  · rw [h2, h7]; exact h.mvlt (fun e1 => hne ((len_nil h7).2 e1))
  · rw [h3, h.cnt, r1.length_eq, r2.length_eq]; rfl
theorem Ok.del_no {s : Tb} {k : ByteArray} (hk : fnd k (s.row k) = none) : s.del k = s := by unfold Tb.del; rw [if_pos hk]
theorem Ok.del_yes {s : Tb} (h : Ok s) {k : ByteArray} {e : En} (hk : fnd k (s.row k) = some e) : Ok (s.del k) ∧ s.ents.Perm (e :: (s.del k).ents) := by
  have p := h.cut_perm hk
  obtain ⟨h1, h2, h3, h4, h5, h6, h7⟩ := upd_pow s k (cut k (s.row k))
  unfold Tb.del
  rw [if_neg (by rw [hk]; simp)]
  have hn : ((s.upd k (cut k (s.row k))).ents.map En.k).Nodup := by
    have := (nodup_perm p).1 h.mid.once
    rw [List.map_cons, List.nodup_cons] at this; exact this.2
  have m := h.mid.upd k (cut k (s.row k)) (fun x hx => h.mid.row_home ((cut_sub k _).subset hx)) hn
  refine ⟨⟨⟨m.p2, m.p20, m.lenN, m.lenO, m.p3, m.mv, m.home, m.once⟩, fun hne => ?_, ?_⟩, p⟩
  · show (s.upd k (cut k (s.row k))).moved < (s.upd k (cut k (s.row k))).old.length
    rw [h2, h7]; exact h.mvlt (fun e1 => hne ((len_nil h7).2 e1))
  · have := p.length_eq
    show s.cnt - 1 = (s.upd k (cut k (s.row k))).ents.length
    rw [h.cnt, this]; rfl
theorem first_ok (c : Nat) : Ok (Tb.first c) :=
  ⟨⟨Nat.le_refl _, by show 2 ≤ 20; omega, rfl, fun h => (h rfl).elim, fun h => (h rfl).elim, Nat.zero_le _, fun i l hi e he => by
      have : l ∈ List.replicate 4 ([] : List En) := List.mem_of_getElem? hi
      rw [(List.mem_replicate.1 this).2] at he; (cases he), List.nodup_nil⟩, fun h => (h rfl).elim, rfl⟩

/-! What a table tells -/
def Tb.has (s : Tb) (k : ByteArray) (n : Int) : Prop := ∃ e ∈ s.ents, e.k = k ∧ e.n = n
theorem Ok.get_iff {s : Tb} (h : Ok s) {k : ByteArray} {n : Int} : s.get k = some n ↔ s.has k n := by
  unfold Tb.get Tb.has
  rw [Option.map_eq_some_iff]
  constructor
  · rintro ⟨e, he, hn⟩
    obtain ⟨h1, h2⟩ := h.mid.fnd_ents.1 he
    exact ⟨e, h1, h2, hn⟩
  · rintro ⟨e, h1, h2, hn⟩
    exact ⟨e, h.mid.fnd_ents.2 ⟨h1, h2⟩, hn⟩
theorem Tb.get_none {s : Tb} {k : ByteArray} : s.get k = none ↔ fnd k (s.row k) = none := by unfold Tb.get; exact Option.map_eq_none_iff
theorem get_perm {s t : Tb} (h : Ok s) (k : Ok t) (p : t.ents.Perm s.ents) (x : ByteArray) : t.get x = s.get x := by
  apply Option.ext
  intro n
  rw [k.get_iff, h.get_iff]
  unfold Tb.has
  exact ⟨fun ⟨e, he, r⟩ => ⟨e, p.mem_iff.1 he, r⟩, fun ⟨e, he, r⟩ => ⟨e, p.mem_iff.2 he, r⟩⟩
theorem get_nil {s : Tb} (h : Ok s) {x : ByteArray} : s.get x = none ↔ ∀ e ∈ s.ents, e.k ≠ x := by rw [Tb.get_none]; exact h.mid.fnd_nil
theorem Ok.set {s : Tb} (h : Ok s) (b c : Nat) (k : ByteArray) (n : Int) : Ok (s.set b c k n) := by
  cases hk : fnd k (s.row k) with
  | none => exact (h.set_new b c k n hk).1
  | some e => exact (h.set_old b c n hk).1
theorem Ok.del {s : Tb} (h : Ok s) (k : ByteArray) : Ok (s.del k) := by
  cases hk : fnd k (s.row k) with
  | none => rw [Ok.del_no hk]; exact h
  | some e => exact (h.del_yes hk).1
theorem Ok.get_set {s : Tb} (h : Ok s) (b c : Nat) (k : ByteArray) (n : Int) (x : ByteArray) : (s.set b c k n).get x = if x = k then some n else s.get x := by
  cases hk : fnd k (s.row k) with
  | none =>
    obtain ⟨o, p⟩ := h.set_new b c k n hk
    by_cases hx : x = k
    · rw [if_pos hx, o.get_iff]; exact ⟨_, p.mem_iff.2 (List.mem_cons_self ..), hx.symm, rfl⟩
    · rw [if_neg hx]
      apply Option.ext; intro m
      rw [o.get_iff, h.get_iff]
      constructor
      · rintro ⟨e, he, h1, h2⟩
        rcases List.mem_cons.1 (p.mem_iff.1 he) with rfl | he
        · exact (hx h1.symm).elim
        · exact ⟨e, he, h1, h2⟩
      · rintro ⟨e, he, h1, h2⟩
        exact ⟨e, p.mem_iff.2 (List.mem_cons_of_mem _ he), h1, h2⟩
  | some e =>
    obtain ⟨o, r, p, q⟩ := h.set_old b c n hk
    have hek := (fnd_key hk).1
    by_cases hx : x = k
    · rw [if_pos hx, o.get_iff]; exact ⟨_, q.mem_iff.2 (List.mem_cons_self ..), hek.trans hx.symm, rfl⟩
    · rw [if_neg hx]
      apply Option.ext; intro m
      rw [o.get_iff, h.get_iff]
      constructor
      · rintro ⟨f, he, h1, h2⟩
        rcases List.mem_cons.1 (q.mem_iff.1 he) with rfl | he
        · exact (hx (h1.symm.trans hek)).elim
        · exact ⟨f, p.mem_iff.2 (List.mem_cons_of_mem _ he), h1, h2⟩
      · rintro ⟨f, he, h1, h2⟩
        rcases List.mem_cons.1 (p.mem_iff.1 he) with rfl | he
        · exact (hx (h1.symm.trans hek)).elim
        · exact ⟨f, q.mem_iff.2 (List.mem_cons_of_mem _ he), h1, h2⟩
theorem Ok.get_del {s : Tb} (h : Ok s) (k x : ByteArray) : (s.del k).get x = if x = k then none else s.get x := by
  cases hk : fnd k (s.row k) with
  | none =>
    rw [Ok.del_no hk]
    by_cases hx : x = k
    · rw [if_pos hx, hx]; exact Tb.get_none.2 hk
    · rw [if_neg hx]
  | some e =>
    obtain ⟨o, p⟩ := h.del_yes hk
    have hek := (fnd_key hk).1
    by_cases hx : x = k
    · rw [if_pos hx, get_nil o]
      intro f hf hfx
      have hn := (nodup_perm p).1 h.mid.once
      rw [List.map_cons, List.nodup_cons] at hn
      exact hn.1 (List.mem_map.2 ⟨f, hf, hfx.trans (hx.trans hek.symm)⟩)
    · rw [if_neg hx]
      apply Option.ext; intro m
      rw [o.get_iff, h.get_iff]
      constructor
      · rintro ⟨f, he, h1, h2⟩
        exact ⟨f, p.mem_iff.2 (List.mem_cons_of_mem _ he), h1, h2⟩
      · rintro ⟨f, he, h1, h2⟩
        rcases List.mem_cons.1 (p.mem_iff.1 he) with rfl | he
        · exact (hx (h1.symm.trans hek)).elim
        · exact ⟨f, he, h1, h2⟩
theorem Ok.cnt_set {s : Tb} (h : Ok s) (b c : Nat) (k : ByteArray) (n : Int) : (s.set b c k n).cnt = if s.get k = none then s.cnt + 1 else s.cnt := by
  cases hk : fnd k (s.row k) with
  | none =>
    obtain ⟨o, p⟩ := h.set_new b c k n hk
    rw [if_pos (Tb.get_none.2 hk), o.cnt, p.length_eq, h.cnt]; rfl
  | some e =>
    obtain ⟨o, r, p, q⟩ := h.set_old b c n hk
    rw [if_neg (fun e1 => by rw [Tb.get_none.1 e1] at hk; cases hk), o.cnt, q.length_eq, h.cnt, p.length_eq]; rfl
theorem Ok.cnt_del {s : Tb} (h : Ok s) (k : ByteArray) : (s.del k).cnt = if s.get k = none then s.cnt else s.cnt - 1 := by
  cases hk : fnd k (s.row k) with
  | none => rw [if_pos (Tb.get_none.2 hk), Ok.del_no hk]
  | some e =>
    obtain ⟨o, p⟩ := h.del_yes hk
    rw [if_neg (fun e1 => by rw [Tb.get_none.1 e1] at hk; cases hk), o.cnt, h.cnt, p.length_eq]; rfl
theorem Ok.cnt_step {s : Tb} (h : Ok s) : s.step.cnt = s.cnt := by rw [h.step.cnt, h.cnt, h.step_perm.1.length_eq]
theorem Ok.get_step {s : Tb} (h : Ok s) (x : ByteArray) : s.step.get x = s.get x := get_perm h h.step h.step_perm.1 x
end Go.Proofs.Ytfbkfbghejeknaa

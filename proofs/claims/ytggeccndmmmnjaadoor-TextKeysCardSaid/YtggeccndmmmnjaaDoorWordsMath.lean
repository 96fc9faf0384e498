/-
  Plain mathematics of lines, words and keys, no program in it: what stands ahead of the first line feed, the words of a line, which texts are keys, and how joined keys are split. No conditions.
-/
import Derived.Lib.Join
import Derived.Test.YtggeccndmmmnjaaDoorBaseA
import Derived.Test.YtggeccndmmmnjaaDoorArenaBase
import Derived.Lib.TrimByte
import Derived.Lib.Bytealg
import Derived.Lib.Strings
namespace Go.Proofs.YtggeccndmmmnjaaDoor
open Go

/-- What stands ahead of the first c. -/
def upTo (c : UInt8) (l : List UInt8) : List UInt8 := l.takeWhile (· != c)
/-- What stands behind the first c. -/
def past (c : UInt8) (l : List UInt8) : List UInt8 := l.drop ((upTo c l).length + 1)
/-- Without a carriage return that is the last byte. -/
def chop (p : List UInt8) : List UInt8 := if p.getLast? = some 13 then p.dropLast else p
def lineS (l : List UInt8) : List UInt8 := if 10 ∈ l then chop (upTo 10 l) else []
def lineN (l : List UInt8) : Nat := if 10 ∈ l then (upTo 10 l).length + 1 else 0

theorem upTo_cons_eq (c : UInt8) (r : List UInt8) : upTo c (c :: r) = [] := by simp [upTo]
theorem upTo_cons_ne {c d : UInt8} (h : d ≠ c) (r : List UInt8) : upTo c (d :: r) = d :: upTo c r := by simp [upTo, h]
theorem upTo_le (c : UInt8) : ∀ l : List UInt8, (upTo c l).length ≤ l.length
  | [] => by simp [upTo]
  | d :: r => by
    by_cases h : d = c
    · subst h; rw [upTo_cons_eq]; simp
    · rw [upTo_cons_ne h]; have := upTo_le c r; simp; omega
theorem upTo_append {c : UInt8} : ∀ {p : List UInt8}, c ∉ p → ∀ r, upTo c (p ++ c :: r) = p
  | [], _, r => upTo_cons_eq c r
  | d :: p, h, r => by
    have h1 : d ≠ c := fun e => h (by rw [e]; simp)
    have h2 : c ∉ p := fun e => h (by simp [e])
    rw [List.cons_append, upTo_cons_ne h1, upTo_append h2]
theorem upTo_none {c : UInt8} : ∀ {p : List UInt8}, c ∉ p → upTo c p = p
  | [], _ => rfl
  | d :: p, h => by
    have h1 : d ≠ c := fun e => h (by rw [e]; simp)
    have h2 : c ∉ p := fun e => h (by simp [e])
    rw [upTo_cons_ne h1, upTo_none h2]
theorem upTo_not_mem (c : UInt8) : ∀ l : List UInt8, c ∉ upTo c l
  | [] => by simp [upTo]
  | d :: r => by
    by_cases h : d = c
    · subst h; rw [upTo_cons_eq]; simp
    · rw [upTo_cons_ne h]; intro e
      rcases List.mem_cons.1 e with e | e
      · exact h e.symm
      · exact upTo_not_mem c r e
theorem upTo_take (c : UInt8) : ∀ l : List UInt8, upTo c l = l.take (upTo c l).length
  | [] => by simp [upTo]
  | d :: r => by
    by_cases h : d = c
    · subst h; rw [upTo_cons_eq]; simp
    · rw [upTo_cons_ne h, List.length_cons, List.take_succ_cons, ← upTo_take c r]
theorem upTo_lt {c : UInt8} : ∀ {l : List UInt8}, c ∈ l → (upTo c l).length < l.length
  | [], h => by simp at h
  | d :: r, h => by
    by_cases e : d = c
    · subst e; rw [upTo_cons_eq]; simp
    · rw [upTo_cons_ne e]
      have : c ∈ r := by
        rcases List.mem_cons.1 h with h | h
        · exact absurd h.symm e
        · exact h
      have := upTo_lt this
      simp; omega

theorem index_none {c : UInt8} : ∀ {l : List UInt8}, c ∉ l → Lib.indexByte l c = -1
  | [], _ => rfl
  | d :: r, h => by
    have h1 : d ≠ c := fun e => h (by rw [e]; simp)
    have h2 : c ∉ r := fun e => h (by simp [e])
    unfold Lib.indexByte
    rw [index_none h2]; simp [h1]
theorem index_some {c : UInt8} : ∀ {l : List UInt8}, c ∈ l → Lib.indexByte l c = ((upTo c l).length : Int)
  | [], h => by simp at h
  | d :: r, h => by
    unfold Lib.indexByte
    by_cases e : d = c
    · subst e; rw [upTo_cons_eq]; simp
    · rw [upTo_cons_ne e]
      have : c ∈ r := by
        rcases List.mem_cons.1 h with h | h
        · exact absurd h.symm e
        · exact h
      rw [index_some this]
      have h1 : ¬ (d == c) = true := by simp [e]
      have h2 : ¬ (((upTo c r).length : Int) == -1) = true := by simp
      rw [if_neg h1, if_neg h2]; simp

/-- The first c stands at k. -/
theorem upTo_at {c : UInt8} : ∀ {l : List UInt8} {k : Nat}, (∀ j, j < k → l[j]? ≠ some c) → l[k]? = some c → upTo c l = l.take k ∧ c ∈ l
  | [], k, _, h => by simp at h
  | d :: r, 0, _, h => by
    simp at h; subst h
    exact ⟨upTo_cons_eq _ _, by simp⟩
  | d :: r, k + 1, hn, h => by
    have h0 : d ≠ c := fun e => hn 0 (by omega) (by simp [e])
    have := upTo_at (l := r) (k := k) (fun j hj => by have := hn (j + 1) (by omega); simpa using this) (by simpa using h)
    exact ⟨by rw [upTo_cons_ne h0, this.1, List.take_succ_cons], by simp [this.2]⟩
theorem not_mem_at {c : UInt8} {l : List UInt8} (h : ∀ j, j < l.length → l[j]? ≠ some c) : c ∉ l := by
  intro hm
  obtain ⟨j, hj⟩ := List.getElem?_of_mem hm
  exact h j (List.getElem?_eq_some_iff.1 hj).1 hj

theorem trimSuffix_chop (p : List UInt8) : Lib.trimSuffix p [13] = chop p := by
  unfold Lib.trimSuffix Lib.hasSuffix chop
  by_cases h : p.getLast? = some 13
  · have : [13] <:+ p := by
      obtain ⟨q, hq⟩ := List.getLast?_eq_some_iff.1 h
      exact ⟨q, hq.symm⟩
    rw [if_pos h, if_pos (List.isSuffixOf_iff_suffix.2 this), List.dropLast_eq_take]; rfl
  · rw [if_neg h, if_neg]
    intro e
    obtain ⟨q, hq⟩ := List.isSuffixOf_iff_suffix.1 e
    exact h (by rw [← hq]; simp)

theorem chop_take_cr {l : List UInt8} {k : Nat} (hk : k < l.length) (h : l[k]? = some 13) : chop (l.take (k + 1)) = l.take k := by
  unfold chop
  rw [if_pos (by rw [List.getLast?_eq_getElem?, List.length_take, List.getElem?_take]; rw [if_pos (by omega), show min (k + 1) l.length - 1 = k by omega, h]), List.dropLast_eq_take, List.length_take, List.take_take, show min (min (k + 1) l.length - 1) (k + 1) = k by omega]
theorem chop_take_other {l : List UInt8} {k : Nat} (hk : k < l.length) (h : l[k]? ≠ some 13) : chop (l.take (k + 1)) = l.take (k + 1) := by
  unfold chop
  rw [if_neg (by rw [List.getLast?_eq_getElem?, List.length_take, List.getElem?_take]; rw [if_pos (by omega), show min (k + 1) l.length - 1 = k by omega]; exact h)]
theorem chop_nil : chop [] = [] := rfl

theorem line_hit {p : List UInt8} (h : 10 ∉ p) (r : List UInt8) : lineS (p ++ 10 :: r) = chop p ∧ lineN (p ++ 10 :: r) = p.length + 1 := by
  have hm : 10 ∈ p ++ 10 :: r := by simp
  unfold lineS lineN
  rw [if_pos hm, if_pos hm, upTo_append h]; exact ⟨rfl, rfl⟩
theorem line_miss {p : List UInt8} (h : 10 ∉ p) : lineS p = [] ∧ lineN p = 0 := by
  unfold lineS lineN
  rw [if_neg h, if_neg h]; exact ⟨rfl, rfl⟩
theorem line_at {l : List UInt8} {k : Nat} (hn : ∀ j, j < k → l[j]? ≠ some 10) (h : l[k]? = some 10) : lineS l = chop (l.take k) ∧ lineN l = k + 1 := by
  obtain ⟨e, hm⟩ := upTo_at hn h
  have hk := (List.getElem?_eq_some_iff.1 h).1
  unfold lineS lineN
  rw [if_pos hm, if_pos hm, e, List.length_take]
  exact ⟨rfl, by omega⟩

/-- The words of the bytes, 'acc' being a word that has begun. -/
def wordsFrom : List UInt8 → List UInt8 → List (List UInt8)
  | acc, [] => if acc = [] then [] else [acc]
  | acc, c :: r => if c = 32 then (if acc = [] then wordsFrom [] r else acc :: wordsFrom [] r) else wordsFrom (acc ++ [c]) r
/-- The longest runs of bytes that are no blank. -/
def splitS (l : List UInt8) : List (List UInt8) := wordsFrom [] l

theorem wordsFrom_blank_nil (r : List UInt8) : wordsFrom [] (32 :: r) = wordsFrom [] r := by simp [wordsFrom]
theorem wordsFrom_blank {acc : List UInt8} (h : acc ≠ []) (r : List UInt8) : wordsFrom acc (32 :: r) = acc :: wordsFrom [] r := by simp [wordsFrom, h]
theorem wordsFrom_other {c : UInt8} (h : c ≠ 32) (acc r : List UInt8) : wordsFrom acc (c :: r) = wordsFrom (acc ++ [c]) r := by simp [wordsFrom, h]
theorem wordsFrom_nil_nil : wordsFrom [] [] = [] := rfl
theorem wordsFrom_nil {acc : List UInt8} (h : acc ≠ []) : wordsFrom acc [] = [acc] := by simp [wordsFrom, h]

theorem wordsFrom_le : ∀ (l acc : List UInt8), (wordsFrom acc l).length ≤ l.length + (if acc = [] then 0 else 1)
  | [], acc => by by_cases h : acc = [] <;> simp [wordsFrom, h]
  | c :: r, acc => by
    by_cases hc : c = 32
    · subst hc
      have h0 := wordsFrom_le r []
      rw [if_pos rfl] at h0
      by_cases h : acc = []
      · subst h; rw [wordsFrom_blank_nil]; simp; omega
      · rw [wordsFrom_blank h]; simp [h]; omega
    · have h0 := wordsFrom_le r (acc ++ [c])
      rw [if_neg (by simp)] at h0
      rw [wordsFrom_other hc]; simp; omega
theorem splitS_le (l : List UInt8) : (splitS l).length ≤ l.length := by
  have := wordsFrom_le l []
  rw [if_pos rfl] at this
  exact this

theorem wordsFrom_run : ∀ (l : List UInt8) {acc : List UInt8}, acc ≠ [] → wordsFrom acc l = (acc ++ upTo 32 l) :: splitS (past 32 l)
  | [], acc, h => by rw [wordsFrom_nil h]; simp [upTo, past, splitS, wordsFrom]
  | c :: r, acc, h => by
    by_cases hc : c = 32
    · subst hc
      rw [wordsFrom_blank h, upTo_cons_eq, List.append_nil]; simp [past, upTo_cons_eq, splitS]
    · rw [wordsFrom_other hc, wordsFrom_run r (by simp), upTo_cons_ne hc]; simp [past, upTo_cons_ne hc]
theorem splitS_run {c : UInt8} (h : c ≠ 32) (r : List UInt8) : splitS (c :: r) = upTo 32 (c :: r) :: splitS (past 32 (c :: r)) := by
  show wordsFrom [] (c :: r) = _
  rw [wordsFrom_other h, wordsFrom_run r (by simp), upTo_cons_ne h]; simp [past, upTo_cons_ne h]
theorem splitS_trim : ∀ l : List UInt8, splitS (Lib.trimLeftB l 32) = splitS l
  | [] => rfl
  | c :: r => by
    by_cases h : c = 32
    · subst h
      have : Lib.trimLeftB (32 :: r) 32 = Lib.trimLeftB r 32 := by simp [Lib.trimLeftB]
      rw [this, splitS_trim r]; exact (wordsFrom_blank_nil r).symm
    · have : Lib.trimLeftB (c :: r) 32 = c :: r := by simp [Lib.trimLeftB, h]
      rw [this]
theorem trim_head {l : List UInt8} {c : UInt8} {r : List UInt8} (h : Lib.trimLeftB l 32 = c :: r) : c ≠ 32 := by
  unfold Lib.trimLeftB at h
  have := List.head?_dropWhile_not (fun x : UInt8 => x == 32) l
  rw [h] at this
  simpa using this
theorem trim_le (l : List UInt8) : (Lib.trimLeftB l 32).length ≤ l.length := List.dropWhile_sublist _ |>.length_le
/-- One step of the way through: what is left is words, or nothing. -/
theorem splitS_step {l : List UInt8} (h : Lib.trimLeftB l 32 ≠ []) : splitS l = upTo 32 (Lib.trimLeftB l 32) :: splitS (past 32 (Lib.trimLeftB l 32)) := by
  rw [← splitS_trim l]
  rcases e : Lib.trimLeftB l 32 with _ | ⟨c, r⟩
  · exact absurd e h
  · exact splitS_run (trim_head e) r
theorem splitS_end {l : List UInt8} (h : Lib.trimLeftB l 32 = []) : splitS l = [] := by
  rw [← splitS_trim l, h]; rfl
theorem past_lt {c : UInt8} {l : List UInt8} (h : l ≠ []) : (past c l).length < l.length := by
  unfold past
  have : 0 < l.length := List.length_pos_iff.2 h
  rw [List.length_drop]; omega

theorem keyB_rep (n : Nat) : keyB (List.replicate n 107) = (decide (1 ≤ n) && decide (n ≤ 250)) := by
  have : (List.replicate n (107 : UInt8)).all keyByte = true := by
    rw [List.all_eq_true]; intro x hx
    rw [List.eq_of_mem_replicate hx]; rfl
  unfold keyB; rw [this]; simp
theorem key_blank {l : List UInt8} (h : keyB l = true) : 32 ∉ l := fun e => by have := ((keyB_parts h).2.2 _ e).1; simp at this
theorem key_lf {l : List UInt8} (h : keyB l = true) : 10 ∉ l := fun e => by have := ((keyB_parts h).2.2 _ e).1; simp at this
theorem key_cr {l : List UInt8} (h : keyB l = true) : 13 ∉ l := fun e => by have := ((keyB_parts h).2.2 _ e).1; simp at this

theorem splitS_blank (r : List UInt8) : splitS (32 :: r) = splitS r := wordsFrom_blank_nil r
theorem splitS_word {x : List UInt8} (h0 : x ≠ []) (h : 32 ∉ x) (r : List UInt8) : splitS (x ++ 32 :: r) = x :: splitS r := by
  cases x with
  | nil => exact absurd rfl h0
  | cons c t =>
    have hc : c ≠ 32 := fun e => h (by rw [e]; simp)
    rw [List.cons_append, splitS_run hc, ← List.cons_append, upTo_append h]
    unfold past
    rw [upTo_append h, show (c :: t).length + 1 = ((c :: t) ++ [32]).length by simp, show (c :: t) ++ 32 :: r = ((c :: t) ++ [32]) ++ r by simp, List.drop_left]
theorem splitS_one {x : List UInt8} (h0 : x ≠ []) (h : 32 ∉ x) : splitS x = [x] := by
  cases x with
  | nil => exact absurd rfl h0
  | cons c t =>
    have hc : c ≠ 32 := fun e => h (by rw [e]; simp)
    rw [splitS_run hc, upTo_none h]
    unfold past
    rw [upTo_none h, List.drop_of_length_le (by omega)]; rfl

/-- Whatever stands behind: the words 'ks' stand in s, ended by a blank. -/
def Gap (s : List UInt8) (ks : List (List UInt8)) : Prop := ∀ r, splitS (s ++ r) = ks ++ splitS r
theorem gap_blank : Gap [32] [] := fun r => splitS_blank r
theorem Gap.more {s : List UInt8} {ks : List (List UInt8)} (h : Gap s ks) : Gap (s ++ [32]) ks := fun r => by
  rw [List.append_assoc, h]; simp [splitS_blank]
theorem Gap.word {s x : List UInt8} {ks : List (List UInt8)} (h : Gap s ks) (hx : keyB x = true) : Gap (s ++ x ++ [32]) (ks ++ [x]) := fun r => by
  have h0 : x ≠ [] := fun e => by have := (keyB_parts hx).1; rw [e] at this; simp at this
  rw [List.append_assoc, List.append_assoc, h, List.singleton_append, splitS_word h0 (key_blank hx)]; simp
theorem Gap.all {s : List UInt8} {ks : List (List UInt8)} (h : Gap s ks) : splitS s = ks := by
  have := h []
  simpa [splitS, wordsFrom] using this

theorem join_cons2 (x y : List UInt8) (r : List (List UInt8)) : Lib.join (x :: y :: r) [32] = x ++ 32 :: Lib.join (y :: r) [32] := by
  rw [Lib.join_cons, Lib.join_cons]; simp [Lib.joinTail]
theorem splitS_join : ∀ {xs : List (List UInt8)}, (∀ x ∈ xs, keyB x = true) → splitS (Lib.join xs [32]) = xs
  | [], _ => rfl
  | [x], h => by
    have hx := h x (by simp)
    rw [Lib.join_one]
    exact splitS_one (fun e => by have := (keyB_parts hx).1; rw [e] at this; simp at this) (key_blank hx)
  | x :: y :: r, h => by
    have hx := h x (by simp)
    rw [join_cons2, splitS_word (fun e => by have := (keyB_parts hx).1; rw [e] at this; simp at this) (key_blank hx), splitS_join (xs := y :: r) (fun z hz => h z (by simp at hz ⊢; exact .inr hz))]
theorem mem_join {c : UInt8} (hc : c ≠ 32) : ∀ {xs : List (List UInt8)}, c ∈ Lib.join xs [32] → ∃ x ∈ xs, c ∈ x
  | [], h => by simp [Lib.join_nil] at h
  | [x], h => ⟨x, by simp, by rwa [Lib.join_one] at h⟩
  | x :: y :: r, h => by
    rw [join_cons2] at h
    rcases List.mem_append.1 h with h | h
    · exact ⟨x, by simp, h⟩
    · rcases List.mem_cons.1 h with h | h
      · exact absurd h hc
      · obtain ⟨z, hz, hm⟩ := mem_join hc h
        exact ⟨z, by simp at hz ⊢; exact .inr hz, hm⟩
theorem join_lf {xs : List (List UInt8)} (h : ∀ x ∈ xs, keyB x = true) : 10 ∉ Lib.join xs [32] := fun e => by
  obtain ⟨x, hx, hm⟩ := mem_join (by decide) e
  exact key_lf (h x hx) hm
theorem join_cr {xs : List (List UInt8)} (h : ∀ x ∈ xs, keyB x = true) : 13 ∉ Lib.join xs [32] := fun e => by
  obtain ⟨x, hx, hm⟩ := mem_join (by decide) e
  exact key_cr (h x hx) hm
theorem chop_no {p : List UInt8} (h : 13 ∉ p) : chop p = p := by
  unfold chop
  rw [if_neg fun e => h (List.mem_of_getLast? e)]
theorem chop_cr (p : List UInt8) : chop (p ++ [13]) = p := by
  unfold chop; simp
theorem line_join {xs : List (List UInt8)} (h : ∀ x ∈ xs, keyB x = true) (r : List UInt8) :
    lineS (Lib.join xs [32] ++ [10] ++ r) = Lib.join xs [32] ∧ lineN (Lib.join xs [32] ++ [10] ++ r) = (Lib.join xs [32]).length + 1 := by
  have := line_hit (join_lf h) r
  rw [List.append_assoc, List.singleton_append]
  rw [chop_no (join_cr h)] at this
  exact this
theorem line_join_cr {xs : List (List UInt8)} (h : ∀ x ∈ xs, keyB x = true) (r : List UInt8) :
    lineS (Lib.join xs [32] ++ [13, 10] ++ r) = Lib.join xs [32] ∧ lineN (Lib.join xs [32] ++ [13, 10] ++ r) = (Lib.join xs [32]).length + 2 := by
  have hn : (10 : UInt8) ∉ Lib.join xs [32] ++ [13] := by
    intro e
    rcases List.mem_append.1 e with e | e
    · exact join_lf h e
    · simp at e
  have := line_hit hn r
  rw [show Lib.join xs [32] ++ [13, 10] ++ r = (Lib.join xs [32] ++ [13]) ++ 10 :: r by simp]
  rw [chop_cr] at this
  simpa using this

/-- The document's own way to join: a blank ahead of each but the first. -/
theorem join_take_succ {xs : List (List UInt8)} {k : Nat} {y : List UInt8} (h : xs[k]? = some y) : Lib.join (xs.take (k + 1)) [32] = (if k = 0 then Lib.join (xs.take k) [32] else Lib.join (xs.take k) [32] ++ [32]) ++ y := by
  cases xs with
  | nil => simp at h
  | cons x r =>
    cases k with
    | zero => simp at h; subst h; simp [Lib.join_one, Lib.join_nil]
    | succ k =>
      have h' : r[k]? = some y := by simpa using h
      rw [if_neg (by omega), List.take_succ_cons, List.take_succ_cons, Lib.join_cons, Lib.join_cons, Lib.joinTail_take_succ _ _ _ _ h']; simp
theorem join_len_le (b : Nat) : ∀ {xs : List (List UInt8)}, (∀ x ∈ xs, x.length ≤ b) → (Lib.join xs [32]).length ≤ xs.length * (b + 1)
  | [], _ => by simp [Lib.join_nil]
  | [x], h => by rw [Lib.join_one]; have := h x (by simp); simp; omega
  | x :: y :: r, h => by
    have h1 := h x (by simp)
    have h2 := join_len_le b (xs := y :: r) (fun z hz => h z (by simp at hz ⊢; exact .inr hz))
    rw [join_cons2]
    simp only [List.length_append, List.length_cons] at h2 ⊢
    have : (r.length + 1 + 1) * (b + 1) = (r.length + 1) * (b + 1) + (b + 1) := Nat.succ_mul _ _
    omega
end Go.Proofs.YtggeccndmmmnjaaDoor

/-
  Plain mathematics of a slab: what a slab is, what may be true of it, what its calls leave. No program in it. No conditions.
-/
import Derived.Test.YtldfpacdlephcaaM1
import Derived.Test.YtldfpacdlephcaaM3
namespace Go.Proofs.Ytldfpacdlephcaa
open Go Go.RowKit Go.Lib

theorem Blk.ne {w : World} {b b' : Nat} {t t' : TypeId} {cs cs' : List Value} (h : Blk w b t cs) (h' : Blk w b' t' cs') (ht : t ≠ t') : b ≠ b' := by
  intro e
  subst e
  unfold Blk at h h'
  rw [h] at h'
  simp at h'
  exact ht h'.2

/-- f, but for v at k. -/
def upd {α : Type} (f : Nat → α) (k : Nat) (v : α) : Nat → α := fun i => if i = k then v else f i
theorem upd_same {α : Type} (f : Nat → α) (k : Nat) (v : α) : upd f k v k = v := if_pos rfl
theorem upd_ne {α : Type} (f : Nat → α) {k i : Nat} (v : α) (h : i ≠ k) : upd f k v i = f i := if_neg h

/-- A granted page: its class, which places are used, whether it is closed. -/
structure Ct where
  cls : Nat
  used : List Bool
  closed : Bool

/-- A slab: the arena's state, the classes' sizes, their rows (the top at the end), the pages. -/
structure Sl where
  a : St
  sz : List Nat
  rows : Nat → List Nat
  cut : Nat → Option Ct

/-- The size of a class. -/
def Sl.size (s : Sl) (c : Nat) : Nat := s.sz.getD c 1
/-- How many chunks of a class a page holds. -/
def Sl.per (s : Sl) (c : Nat) : Nat := s.a.size / s.size c
/-- How many places a page may have at most. -/
def Sl.U (s : Sl) : Nat := s.a.size / 64

structure Sl.Ok (s : Sl) : Prop where
  ao : s.a.Ok
  n1 : 1 ≤ s.sz.length
  n2 : s.sz.length ≤ 63
  sz : ∀ (c z : Nat), s.sz[c]? = some z → 64 ≤ z ∧ z ≤ s.a.size
  ct : ∀ p k, s.cut p = some k → s.a.ow[p]? = some (k.cls : Int) ∧ k.cls < s.sz.length ∧ k.used.length = s.U ∧ ∀ i, k.used[i]? = some true → i < s.per k.cls
  no : ∀ p, s.cut p = none → p < s.a.ow.length → s.a.ow[p]? = some (-1)
  rw : ∀ c x, c < s.sz.length → x ∈ s.rows c → ∃ k, s.cut (x / 4096) = some k ∧ k.cls = c ∧ k.closed = false ∧ k.used[x % 4096]? = some false ∧ x % 4096 < s.per c
  nd : ∀ c, c < s.sz.length → (s.rows c).Nodup

theorem Sl.Ok.size {s : Sl} (h : s.Ok) {c : Nat} (hc : c < s.sz.length) : s.sz[c]? = some (s.size c) ∧ 64 ≤ s.size c ∧ s.size c ≤ s.a.size := by
  have e : s.sz[c]? = some (s.size c) := by unfold Sl.size; rw [List.getD, List.getElem?_eq_getElem hc]; rfl
  exact ⟨e, h.sz c _ e⟩
theorem Sl.Ok.U_le {s : Sl} (h : s.Ok) : 8 ≤ s.U ∧ s.U ≤ 1024 := by
  have h1 := h.ao.s1
  have h2 := h.ao.s2
  unfold Sl.U; omega
theorem Sl.Ok.per_le {s : Sl} (h : s.Ok) {c : Nat} (hc : c < s.sz.length) : 1 ≤ s.per c ∧ s.per c ≤ s.U := by
  obtain ⟨_, h1, h2⟩ := h.size hc
  unfold Sl.per Sl.U
  exact ⟨Nat.div_pos h2 (by omega), Nat.div_le_div_left h1 (by decide)⟩
theorem Sl.Ok.per_mul {s : Sl} (_ : s.Ok) (c : Nat) : s.per c * s.size c ≤ s.a.size := Nat.div_mul_le_self _ _
theorem Sl.Ok.per_is {s : Sl} (h : s.Ok) {c : Nat} (hc : c < s.sz.length) : Sz.per (Sz.ints s.sz) (c : Int) (s.a.size : Int) = (s.per c : Int) := by
  obtain ⟨e, h1, h2⟩ := h.size hc
  have hs := h.ao.s1
  unfold Sz.per
  rw [if_neg (by rw [Sz.ints_len]; omega), Int.toNat_natCast]
  have : (Sz.ints s.sz)[c]? = some (s.size c : Int) := by unfold Sz.ints; rw [List.getElem?_map, e]; rfl
  rw [this]
  show (if (s.size c : Int) < 1 then (0 : Int) else (s.a.size : Int) / (s.size c : Int)) = _
  rw [if_neg (by omega)]; rfl
theorem Sl.Ok.cut_lt {s : Sl} (h : s.Ok) {p : Nat} {k : Ct} (hk : s.cut p = some k) : p < s.a.ow.length := (List.getElem?_eq_some_iff.1 (h.ct p k hk).1).1
theorem Sl.Ok.cut_1024 {s : Sl} (h : s.Ok) {p : Nat} {k : Ct} (hk : s.cut p = some k) : p < 1024 := by
  have := h.cut_lt hk
  have := h.ao.n2
  omega

/-- A row without repetitions of numbers below n has at most n. -/
theorem nodup_len : ∀ (n : Nat) (l : List Nat), l.Nodup → (∀ x ∈ l, x < n) → l.length ≤ n
  | 0, l, _, h => by
    cases l with
    | nil => exact Nat.le_refl _
    | cons a r => exact absurd (h a (List.mem_cons_self)) (Nat.not_lt_zero _)
  | n + 1, l, hn, h => by
    by_cases hm : n ∈ l
    · have h1 := nodup_len n (l.erase n) (hn.erase n) (fun x hx => by
        have := hn.mem_erase_iff.1 hx
        have := h x this.2
        omega)
      have h2 := List.length_erase_of_mem hm
      omega
    · have h1 := nodup_len n l hn (fun x hx => by
        have h1 := h x hx
        have h2 : x ≠ n := fun e => hm (e ▸ hx)
        omega)
      omega
theorem Sl.Ok.row_len {s : Sl} (h : s.Ok) {c : Nat} (hc : c < s.sz.length) : (s.rows c).length ≤ 4194304 :=
  nodup_len 4194304 _ (h.nd c hc) (fun x hx => by
    obtain ⟨k, hk, _⟩ := h.rw c x hc hx
    have := h.cut_1024 hk
    omega)

/-- How many are true. -/
def tru (l : List Bool) : Nat := l.count true
theorem tru_le (l : List Bool) : tru l ≤ l.length := List.count_le_length
theorem tru_on {l : List Bool} {i : Nat} (h : l[i]? = some false) : tru (l.set i true) = tru l + 1 := by
  obtain ⟨hi, e⟩ := List.getElem?_eq_some_iff.1 h
  unfold tru
  rw [List.count_set hi, e]
  simp
theorem tru_off {l : List Bool} {i : Nat} (h : l[i]? = some true) : tru (l.set i false) = tru l - 1 ∧ 1 ≤ tru l := by
  obtain ⟨hi, e⟩ := List.getElem?_eq_some_iff.1 h
  refine ⟨?_, ?_⟩
  · unfold tru
    rw [List.count_set hi, e]
    simp
  · unfold tru
    exact List.one_le_count_iff.2 (List.mem_of_getElem? h)
theorem tru_zero {l : List Bool} (h : tru l = 0) (i : Nat) : l[i]? ≠ some true := by
  intro e
  have := (tru_off e).2
  omega

/-! What is said of numbers -/
def Sl.classB (s : Sl) (c : Int) : Bool := decide (0 ≤ c ∧ c < s.sz.length)
theorem Sl.class_cases (s : Sl) (c : Int) : (s.classB c = false ∧ (c < 0 ∨ (0 ≤ c ∧ (s.sz.length : Int) ≤ c))) ∨ ∃ k : Nat, c = k ∧ k < s.sz.length ∧ s.classB c = true := by
  unfold Sl.classB
  by_cases h : 0 ≤ c ∧ c < s.sz.length
  · exact .inr ⟨c.toNat, by omega, by omega, by simpa using h⟩
  · refine .inl ⟨by simpa using h, by omega⟩
/-- The page, if it is granted. -/
def Sl.atP (s : Sl) (p : Int) : Option Ct := if 0 ≤ p then s.cut p.toNat else none
theorem Sl.atP_nat (s : Sl) (p : Nat) : s.atP (p : Int) = s.cut p := by unfold Sl.atP; rw [if_pos (by omega), Int.toNat_natCast]
theorem Sl.atP_cases {s : Sl} (h : s.Ok) (p : Int) : (s.atP p = none ∧ (p < 0 ∨ (0 ≤ p ∧ 1024 ≤ p) ∨ ∃ q : Nat, p = q ∧ q < 1024 ∧ s.cut q = none)) ∨ ∃ (q : Nat) (k : Ct), p = q ∧ q < 1024 ∧ s.cut q = some k ∧ s.atP p = some k := by
  by_cases hp : 0 ≤ p
  · obtain ⟨q, rfl⟩ : ∃ q : Nat, p = q := ⟨p.toNat, by omega⟩
    rw [s.atP_nat]
    cases hk : s.cut q with
    | none =>
      refine .inl ⟨rfl, ?_⟩
      by_cases hq : q < 1024
      · exact .inr (.inr ⟨q, rfl, hq, hk⟩)
      · exact .inr (.inl ⟨by omega, by omega⟩)
    | some k => exact .inr ⟨q, k, rfl, h.cut_1024 hk, hk, rfl⟩
  · exact .inl ⟨by unfold Sl.atP; rw [if_neg hp], .inl (by omega)⟩
/-- Is the chunk used? -/
def Sl.usedN (s : Sl) (x : Nat) : Bool := match s.cut (x / 4096) with | none => false | some k => k.used.getD (x % 4096) false
def Sl.usedB (s : Sl) (x : Int) : Bool := decide (0 ≤ x) && s.usedN x.toNat
theorem Sl.usedB_nat (s : Sl) (x : Nat) : s.usedB (x : Int) = s.usedN x := by unfold Sl.usedB; rw [Int.toNat_natCast]; simp
theorem Sl.usedN_true {s : Sl} {x : Nat} (h : s.usedN x = true) : ∃ k, s.cut (x / 4096) = some k ∧ k.used[x % 4096]? = some true := by
  unfold Sl.usedN at h
  cases hk : s.cut (x / 4096) with
  | none => rw [hk] at h; cases h
  | some k =>
    rw [hk] at h
    refine ⟨k, rfl, ?_⟩
    have h' : k.used.getD (x % 4096) false = true := h
    rw [List.getD] at h'
    cases hu : k.used[x % 4096]? with
    | none => rw [hu] at h'; cases h'
    | some b => rw [hu] at h'; exact congrArg some h'
theorem Sl.usedN_of {s : Sl} {x : Nat} {k : Ct} (hk : s.cut (x / 4096) = some k) {b : Bool} (h : k.used[x % 4096]? = some b) : s.usedN x = b := by
  unfold Sl.usedN
  rw [hk]
  show k.used.getD _ _ = _
  rw [List.getD, h]; rfl
theorem Sl.used_cases (s : Sl) (x : Int) : (s.usedB x = false ∧ (x < 0 ∨ ∃ y : Nat, x = y ∧ s.usedN y = false)) ∨ ∃ y : Nat, x = y ∧ s.usedN y = true ∧ s.usedB x = true := by
  by_cases hx : 0 ≤ x
  · obtain ⟨y, rfl⟩ : ∃ y : Nat, x = y := ⟨x.toNat, by omega⟩
    rw [s.usedB_nat]
    cases h : s.usedN y with
    | false => exact .inl ⟨rfl, .inr ⟨y, rfl, h⟩⟩
    | true => exact .inr ⟨y, rfl, h, rfl⟩
  · exact .inl ⟨by unfold Sl.usedB; simp [hx], .inl (by omega)⟩

/-! What calls leave -/
def Sl.setCut (s : Sl) (p : Nat) (k : Ct) : Sl := { s with cut := upd s.cut p (some k) }
def Sl.setRow (s : Sl) (c : Nat) (l : List Nat) : Sl := { s with rows := upd s.rows c l }
def Sl.push (s : Sl) (c x : Nat) : Sl := s.setRow c (s.rows c ++ [x])
def Ct.mark (k : Ct) (i : Nat) (b : Bool) : Ct := { k with used := k.used.set i b }
def Sl.mark (s : Sl) (x : Nat) (b : Bool) : Sl := match s.cut (x / 4096) with | none => s | some k => s.setCut (x / 4096) (k.mark (x % 4096) b)
theorem Sl.mark_at {s : Sl} {x : Nat} {k : Ct} (b : Bool) (h : s.cut (x / 4096) = some k) : s.mark x b = s.setCut (x / 4096) (k.mark (x % 4096) b) := by unfold Sl.mark; rw [h]

theorem mark_at' (k : Ct) (i j : Nat) (b : Bool) : (k.mark i b).used[j]? = if i = j then (if i < k.used.length then some b else none) else k.used[j]? := by
  show (k.used.set i b)[j]? = _
  rw [List.getElem?_set]
theorem Ct.mark_len (k : Ct) (i : Nat) (b : Bool) : (k.mark i b).used.length = k.used.length := List.length_set

/-- A chunk on top of the row is used. -/
theorem Sl.take_ok {s : Sl} (h : s.Ok) {c x : Nat} (hc : c < s.sz.length) {l : List Nat} (hl : s.rows c = l ++ [x]) : ((s.setRow c l).mark x true).Ok := by
  obtain ⟨k, hk, hkc, hkl, hu, hp⟩ := h.rw c x hc (by rw [hl]; simp)
  have hk' : (s.setRow c l).cut (x / 4096) = some k := hk
  rw [Sl.mark_at true hk']
  obtain ⟨h1, h2, h3, h4⟩ := h.ct _ k hk
  have hnd := h.nd c hc
  rw [hl] at hnd
  refine ⟨h.ao, h.n1, h.n2, h.sz, fun p k' hk' => ?_, fun p hp hpl => ?_, fun c' x' hc' hx' => ?_, fun c' hc' => ?_⟩
  · have hk'' : upd s.cut (x / 4096) (some (k.mark (x % 4096) true)) p = some k' := hk'
    by_cases e : p = x / 4096
    · subst e
      rw [upd_same] at hk''
      cases hk''
      refine ⟨h1, h2, by rw [Ct.mark_len]; exact h3, fun i hi => ?_⟩
      rw [mark_at'] at hi
      by_cases e : x % 4096 = i
      · subst e
        show x % 4096 < s.per k.cls
        rw [hkc]; exact hp
      · rw [if_neg e] at hi; exact h4 i hi
    · rw [upd_ne _ _ e] at hk''
      exact h.ct p k' hk''
  · have hp' : upd s.cut (x / 4096) (some (k.mark (x % 4096) true)) p = none := hp
    by_cases e : p = x / 4096
    · subst e
      rw [upd_same] at hp'; cases hp'
    · rw [upd_ne _ _ e] at hp'
      exact h.no p hp' hpl
  · have hx'' : x' ∈ upd s.rows c l c' := hx'
    have hx3 : x' ∈ s.rows c' ∧ x' ≠ x := by
      by_cases e : c' = c
      · subst e
        rw [upd_same] at hx''
        refine ⟨by rw [hl]; simp [hx''], fun e' => ?_⟩
        subst e'
        rw [List.nodup_append] at hnd
        exact hnd.2.2 x' hx'' x' (by simp) rfl
      · rw [upd_ne _ _ e] at hx''
        refine ⟨hx'', fun e' => ?_⟩
        subst e'
        obtain ⟨k2, hk2, hkc2, _⟩ := h.rw c' x' hc' hx''
        rw [hk] at hk2
        cases hk2
        exact e (hkc2.symm.trans hkc)
    obtain ⟨k2, hk2, a1, a2, a3, a4⟩ := h.rw c' x' hc' hx3.1
    show ∃ k3, upd s.cut (x / 4096) (some (k.mark (x % 4096) true)) (x' / 4096) = some k3 ∧ _
    by_cases e : x' / 4096 = x / 4096
    · rw [e, upd_same]
      rw [e, hk] at hk2
      cases hk2
      refine ⟨_, rfl, a1, a2, ?_, a4⟩
      rw [mark_at', if_neg (fun e' => hx3.2 (by omega))]; exact a3
    · rw [upd_ne _ _ e]
      exact ⟨k2, hk2, a1, a2, a3, a4⟩
  · show (upd s.rows c l c').Nodup
    by_cases e : c' = c
    · subst e
      rw [upd_same]
      exact (List.nodup_append.1 hnd).1
    · rw [upd_ne _ _ e]; exact h.nd c' hc'

/-- A used chunk is made free; it stands in no row yet. -/
theorem Sl.free_ok {s : Sl} (h : s.Ok) {x : Nat} (hu : s.usedN x = true) : (s.mark x false).Ok ∧ ∃ k, (s.mark x false).cut (x / 4096) = some k ∧ k.used[x % 4096]? = some false ∧ x % 4096 < s.per k.cls ∧ ∀ c, c < s.sz.length → x ∉ s.rows c := by
  obtain ⟨k, hk, hkt⟩ := Sl.usedN_true hu
  rw [Sl.mark_at false hk]
  obtain ⟨h1, h2, h3, h4⟩ := h.ct _ k hk
  have hlt : x % 4096 < k.used.length := (List.getElem?_eq_some_iff.1 hkt).1
  have hno : ∀ c, c < s.sz.length → x ∉ s.rows c := fun c hc hx => by
    obtain ⟨k2, hk2, _, _, a3, _⟩ := h.rw c x hc hx
    rw [hk] at hk2
    cases hk2
    rw [hkt] at a3; cases a3
  refine ⟨⟨h.ao, h.n1, h.n2, h.sz, fun p k' hk' => ?_, fun p hp hpl => ?_, fun c' x' hc' hx' => ?_, h.nd⟩, k.mark (x % 4096) false, upd_same _ _ _, by rw [mark_at', if_pos rfl, if_pos hlt], h4 _ hkt, hno⟩
  · have hk'' : upd s.cut (x / 4096) (some (k.mark (x % 4096) false)) p = some k' := hk'
    by_cases e : p = x / 4096
    · subst e
      rw [upd_same] at hk''
      cases hk''
      refine ⟨h1, h2, by rw [Ct.mark_len]; exact h3, fun i hi => ?_⟩
      rw [mark_at'] at hi
      by_cases e : x % 4096 = i
      · rw [if_pos e] at hi
        split at hi <;> cases hi
      · rw [if_neg e] at hi; exact h4 i hi
    · rw [upd_ne _ _ e] at hk''
      exact h.ct p k' hk''
  · have hp' : upd s.cut (x / 4096) (some (k.mark (x % 4096) false)) p = none := hp
    by_cases e : p = x / 4096
    · subst e
      rw [upd_same] at hp'; cases hp'
    · rw [upd_ne _ _ e] at hp'
      exact h.no p hp' hpl
  · have hx'' : x' ∈ s.rows c' := hx'
    obtain ⟨k2, hk2, a1, a2, a3, a4⟩ := h.rw c' x' hc' hx''
    show ∃ k3, upd s.cut (x / 4096) (some (k.mark (x % 4096) false)) (x' / 4096) = some k3 ∧ _
    by_cases e : x' / 4096 = x / 4096
    · rw [e, upd_same]
      rw [e, hk] at hk2
      cases hk2
      refine ⟨_, rfl, a1, a2, ?_, a4⟩
      rw [mark_at']
      by_cases e2 : x % 4096 = x' % 4096
      · rw [if_pos e2, if_pos hlt]
      · rw [if_neg e2]; exact a3
    · rw [upd_ne _ _ e]
      exact ⟨k2, hk2, a1, a2, a3, a4⟩

/-- Chunks that are free, of an open page and in no row, are put on top of the row. -/
theorem Sl.lay_ok {s : Sl} (h : s.Ok) {c : Nat} (hc : c < s.sz.length) (m : List Nat)
    (hf : ∀ x ∈ m, ∃ k, s.cut (x / 4096) = some k ∧ k.cls = c ∧ k.closed = false ∧ k.used[x % 4096]? = some false ∧ x % 4096 < s.per c) (hm : m.Nodup) (hn : ∀ x ∈ m, x ∉ s.rows c) : (s.setRow c (s.rows c ++ m)).Ok := by
  refine ⟨h.ao, h.n1, h.n2, h.sz, h.ct, h.no, fun c' x' hc' hx' => ?_, fun c' hc' => ?_⟩
  · have hx'' : x' ∈ upd s.rows c (s.rows c ++ m) c' := hx'
    by_cases e : c' = c
    · subst e
      rw [upd_same, List.mem_append] at hx''
      rcases hx'' with hx | hx
      · exact h.rw c' x' hc' hx
      · exact hf x' hx
    · rw [upd_ne _ _ e] at hx''
      exact h.rw c' x' hc' hx''
  · show (upd s.rows c (s.rows c ++ m) c').Nodup
    by_cases e : c' = c
    · subst e
      rw [upd_same, List.nodup_append]
      exact ⟨h.nd c' hc', hm, fun a ha b hb e => hn b hb (e ▸ ha)⟩
    · rw [upd_ne _ _ e]; exact h.nd c' hc'
theorem Sl.push_ok {s : Sl} (h : s.Ok) {c x : Nat} (hc : c < s.sz.length) {k : Ct} (hk : s.cut (x / 4096) = some k) (h1 : k.cls = c) (h2 : k.closed = false) (h3 : k.used[x % 4096]? = some false) (h4 : x % 4096 < s.per c) (hn : x ∉ s.rows c) : (s.push c x).Ok :=
  Sl.lay_ok h hc [x] (fun y hy => by rw [List.mem_singleton.1 hy]; exact ⟨k, hk, h1, h2, h3, h4⟩) (by simp) (fun y hy => by rw [List.mem_singleton.1 hy]; exact hn)

/-- The places of a page, from the highest down, and whether they are used. -/
def back (used : List Bool) (n k : Nat) : List (Nat × Bool) := (List.range k).map fun j => (n - 1 - j, used.getD (n - 1 - j) false)
theorem back_succ (used : List Bool) (n k : Nat) : back used n (k + 1) = back used n k ++ [(n - 1 - k, used.getD (n - 1 - k) false)] := by simp [back, List.range_succ]
theorem back_len (used : List Bool) (n k : Nat) : (back used n k).length = k := by simp [back]
/-- The chunks that are laid of such places. -/
def layOf (p : Nat) (l : List (Nat × Bool)) : List Nat := (l.filter fun x => !x.2).map fun x => 4096 * p + x.1
theorem layOf_skip (p : Nat) (l : List (Nat × Bool)) (i : Nat) : layOf p (l ++ [(i, true)]) = layOf p l := by simp [layOf]
theorem layOf_more (p : Nat) (l : List (Nat × Bool)) (i : Nat) : layOf p (l ++ [(i, false)]) = layOf p l ++ [4096 * p + i] := by simp [layOf]
def layRow (p : Nat) (used : List Bool) (n : Nat) : List Nat := layOf p (back used n n)
theorem layOf_mem {p : Nat} {used : List Bool} {n k x : Nat} (hx : x ∈ layOf p (back used n k)) : ∃ j, j < k ∧ x = 4096 * p + (n - 1 - j) ∧ used.getD (n - 1 - j) false = false := by
  unfold layOf back at hx
  obtain ⟨y, hy, rfl⟩ := List.mem_map.1 hx
  obtain ⟨h1, h2⟩ := List.mem_filter.1 hy
  obtain ⟨j, hj, rfl⟩ := List.mem_map.1 h1
  exact ⟨j, List.mem_range.1 hj, rfl, by simpa using h2⟩
theorem layOf_nodup (p : Nat) (used : List Bool) (n : Nat) : ∀ k, k ≤ n → (layOf p (back used n k)).Nodup
  | 0, _ => by simp [layOf, back]
  | k + 1, hk => by
    rw [back_succ]
    have ih := layOf_nodup p used n k (by omega)
    cases used.getD (n - 1 - k) false with
    | true => rw [layOf_skip]; exact ih
    | false =>
      rw [layOf_more, List.nodup_append]
      refine ⟨ih, by simp, fun a ha b hb e => ?_⟩
      obtain ⟨j, hj, e1, _⟩ := layOf_mem ha
      rw [List.mem_singleton.1 hb] at e
      omega
theorem Sl.Ok.lay_part {s : Sl} (h : s.Ok) {p : Nat} {k : Ct} (hk : s.cut p = some k) (hcl : k.closed = false) (hno : ∀ x ∈ s.rows k.cls, x / 4096 ≠ p) (j : Nat) (hj : j ≤ s.per k.cls) :
    (s.setRow k.cls (s.rows k.cls ++ layOf p (back k.used (s.per k.cls) j))).Ok := by
  obtain ⟨h1, h2, h3, h4⟩ := h.ct p k hk
  obtain ⟨g1, g2⟩ := h.per_le h2
  have hU := h.U_le
  refine Sl.lay_ok h h2 _ (fun x hx => ?_) (layOf_nodup _ _ _ j hj) (fun x hx hx' => ?_)
  · obtain ⟨i, hi, rfl, hu⟩ := layOf_mem hx
    have e1 : (4096 * p + (s.per k.cls - 1 - i)) / 4096 = p := by omega
    have e2 : (4096 * p + (s.per k.cls - 1 - i)) % 4096 = s.per k.cls - 1 - i := by omega
    rw [e1, e2]
    refine ⟨k, hk, rfl, hcl, ?_, by omega⟩
    have hl : s.per k.cls - 1 - i < k.used.length := by omega
    rw [List.getD, List.getElem?_eq_getElem hl] at hu
    rw [List.getElem?_eq_getElem hl]
    exact congrArg some hu
  · obtain ⟨i, hi, rfl, hu⟩ := layOf_mem hx
    exact hno _ hx' (by omega)
end Go.Proofs.Ytldfpacdlephcaa

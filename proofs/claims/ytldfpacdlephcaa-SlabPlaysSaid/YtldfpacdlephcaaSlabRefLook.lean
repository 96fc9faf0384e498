/-
  The document's own answer for layer 7 (ambryref07) at this program: Where, Chunks and Counts, of any slab and any number. No conditions.
-/
import Derived.Test.YtldfpacdlephcaaSlabRefAlloc
import Derived.Test.YtldfpacdlephcaaArenaPages
namespace Go.Proofs.Ytldfpacdlephcaa
open Go Go.RowKit Go.Lib

/-! The used chunks, page by page -/
def pageUsed (s : Sl) (p : Nat) : List Nat := match s.cut p with | none => [] | some k => chTo k.used p k.used.length
def usedTo (s : Sl) : Nat → List Nat
  | 0 => []
  | n + 1 => usedTo s n ++ pageUsed s n
theorem chTo_mem {used : List Bool} {p x : Nat} : ∀ n, x ∈ chTo used p n ↔ ∃ i, i < n ∧ x = 4096 * p + i ∧ used[i]? = some true
  | 0 => by
    constructor
    · intro h; cases h
    · rintro ⟨i, h, _⟩; omega
  | n + 1 => by
    show x ∈ chTo used p n ++ (if used[n]? = some true then [4096 * p + n] else []) ↔ _
    rw [List.mem_append, chTo_mem n]
    constructor
    · rintro (⟨i, h1, h2, h3⟩ | h)
      · exact ⟨i, by omega, h2, h3⟩
      · by_cases e : used[n]? = some true
        · rw [if_pos e] at h
          exact ⟨n, by omega, List.mem_singleton.1 h, e⟩
        · rw [if_neg e] at h; cases h
    · rintro ⟨i, h1, h2, h3⟩
      by_cases e : i = n
      · subst e
        rw [if_pos h3]
        exact .inr (by rw [h2]; exact List.mem_singleton.2 rfl)
      · exact .inl ⟨i, by omega, h2, h3⟩
theorem chTo_srt (used : List Bool) (p : Nat) : ∀ n, (chTo used p n).Pairwise (· < ·)
  | 0 => List.Pairwise.nil
  | n + 1 => by
    show (chTo used p n ++ (if used[n]? = some true then [4096 * p + n] else [])).Pairwise (· < ·)
    rw [List.pairwise_append]
    refine ⟨chTo_srt used p n, ?_, fun a ha b hb => ?_⟩
    · split
      · exact List.pairwise_singleton _ _
      · exact List.Pairwise.nil
    · obtain ⟨i, h1, rfl, _⟩ := (chTo_mem n).1 ha
      split at hb
      · rw [List.mem_singleton.1 hb]; omega
      · cases hb
theorem page_mem {s : Sl} (ok : s.Ok) {p x : Nat} : x ∈ pageUsed s p ↔ x / 4096 = p ∧ s.usedN x = true := by
  unfold pageUsed
  cases hk : s.cut p with
  | none =>
    constructor
    · intro h; cases h
    · rintro ⟨rfl, h⟩
      obtain ⟨k, hk2, _⟩ := Sl.usedN_true h
      rw [hk] at hk2; cases hk2
  | some k =>
    have hul := (ok.ct p k hk).2.2.1
    have hU := ok.U_le
    show x ∈ chTo k.used p k.used.length ↔ _
    rw [chTo_mem]
    constructor
    · rintro ⟨i, h1, rfl, h3⟩
      have e1 : (4096 * p + i) / 4096 = p := by omega
      have e2 : (4096 * p + i) % 4096 = i := by omega
      exact ⟨e1, Sl.usedN_of (k := k) (by rw [e1]; exact hk) (by rw [e2]; exact h3)⟩
    · rintro ⟨rfl, h⟩
      obtain ⟨k2, hk2, h3⟩ := Sl.usedN_true h
      rw [hk] at hk2
      cases hk2
      exact ⟨x % 4096, (List.getElem?_eq_some_iff.1 h3).1, by omega, h3⟩
theorem page_srt (s : Sl) (p : Nat) : (pageUsed s p).Pairwise (· < ·) := by
  unfold pageUsed
  cases s.cut p with
  | none => exact List.Pairwise.nil
  | some k => exact chTo_srt _ _ _
theorem usedTo_mem {s : Sl} (ok : s.Ok) {x : Nat} : ∀ n, x ∈ usedTo s n ↔ x / 4096 < n ∧ s.usedN x = true
  | 0 => by
    constructor
    · intro h; cases h
    · rintro ⟨h, _⟩; omega
  | n + 1 => by
    show x ∈ usedTo s n ++ pageUsed s n ↔ _
    rw [List.mem_append, usedTo_mem ok n, page_mem ok]
    constructor
    · rintro (⟨h1, h2⟩ | ⟨h1, h2⟩)
      · exact ⟨by omega, h2⟩
      · exact ⟨by omega, h2⟩
    · rintro ⟨h1, h2⟩
      by_cases e : x / 4096 = n
      · exact .inr ⟨e, h2⟩
      · exact .inl ⟨by omega, h2⟩
theorem usedTo_srt {s : Sl} (ok : s.Ok) : ∀ n, (usedTo s n).Pairwise (· < ·)
  | 0 => List.Pairwise.nil
  | n + 1 => by
    show (usedTo s n ++ pageUsed s n).Pairwise (· < ·)
    rw [List.pairwise_append]
    refine ⟨usedTo_srt ok n, page_srt s n, fun a ha b hb => ?_⟩
    have h1 := ((usedTo_mem ok n).1 ha).1
    have h2 := ((page_mem ok).1 hb).1
    omega
theorem srt_eq : ∀ {l m : List Nat}, l.Pairwise (· < ·) → m.Pairwise (· < ·) → (∀ x, x ∈ l ↔ x ∈ m) → l = m
  | [], [], _, _, _ => rfl
  | [], b :: m, _, _, h => by have := (h b).2 (List.mem_cons_self); cases this
  | a :: l, [], _, _, h => by have := (h a).1 (List.mem_cons_self); cases this
  | a :: l, b :: m, h1, h2, h => by
    rw [List.pairwise_cons] at h1 h2
    have e : a = b := by
      rcases List.mem_cons.1 ((h a).1 List.mem_cons_self) with e | e
      · exact e
      · rcases List.mem_cons.1 ((h b).2 List.mem_cons_self) with e' | e'
        · exact e'.symm
        · have := h1.1 b e'; have := h2.1 a e; omega
    subst e
    refine congrArg (a :: ·) (srt_eq h1.2 h2.2 (fun x => ?_))
    constructor
    · intro hx
      rcases List.mem_cons.1 ((h x).1 (List.mem_cons_of_mem _ hx)) with e | e
      · have := h1.1 x hx; omega
      · exact e
    · intro hx
      rcases List.mem_cons.1 ((h x).2 (List.mem_cons_of_mem _ hx)) with e | e
      · have := h2.1 x hx; omega
      · exact e
theorem Ag.is {s : Sl} {tk cl : List Nat} (h : Ag s tk cl) (ok : s.Ok) : tk = usedTo s 1024 :=
  srt_eq h.srt (usedTo_srt ok 1024) (fun x => by
    rw [h.mem, usedTo_mem ok]
    constructor
    · intro hx
      obtain ⟨k, hk, _⟩ := Sl.usedN_true hx
      exact ⟨ok.cut_1024 hk, hx⟩
    · exact fun h => h.2)

/-- The class of a chunk's page. -/
def clsAt (s : Sl) (x : Nat) : Nat := (s.cut (x / 4096)).elim 0 Ct.cls
theorem clsAt_is {s : Sl} {x : Nat} {k : Ct} (h : s.cut (x / 4096) = some k) : clsAt s x = k.cls := by unfold clsAt; rw [h]; rfl
def ofCls (s : Sl) (c : Nat) (l : List Nat) : List Nat := l.filter fun x => clsAt s x == c
theorem ofCls_app (s : Sl) (c : Nat) (l m : List Nat) : (ofCls s c (l ++ m)).length = (ofCls s c l).length + (ofCls s c m).length := by
  unfold ofCls; rw [List.filter_append, List.length_append]
theorem ofCls_page {s : Sl} (ok : s.Ok) (c p : Nat) : (ofCls s c (pageUsed s p)).length = usedOf c (s.cut p) := by
  cases hk : s.cut p with
  | none =>
    unfold pageUsed
    rw [hk]; rfl
  | some k =>
    have hl : (pageUsed s p).length = tru k.used := by
      unfold pageUsed
      rw [hk]
      show (chTo k.used p k.used.length).length = _
      rw [chTo_tru k.used p _ (Nat.le_refl _), List.take_length]
    have hc : ∀ x ∈ pageUsed s p, clsAt s x = k.cls := fun x hx => by
      obtain ⟨e, _⟩ := (page_mem ok).1 hx
      exact clsAt_is (by rw [e]; exact hk)
    show _ = if k.cls = c then tru k.used else 0
    unfold ofCls
    by_cases e : k.cls = c
    · rw [if_pos e, List.filter_eq_self.2 (fun x hx => by rw [hc x hx, e]; exact beq_self_eq_true c), hl]
    · rw [if_neg e, List.length_eq_zero_iff, List.filter_eq_nil_iff]
      intro x hx
      rw [hc x hx]
      simpa using e
theorem ofCls_to {s : Sl} (ok : s.Ok) (c : Nat) : ∀ n, (ofCls s c (usedTo s n)).length = s.cntU c n
  | 0 => rfl
  | n + 1 => by
    show (ofCls s c (usedTo s n ++ pageUsed s n)).length = s.cntU c n + usedOf c (s.cut n)
    rw [ofCls_app, ofCls_to ok c n, ofCls_page ok]
/-- Those of one page. -/
def ofPage (z : Int) (l : List Nat) : List Nat := l.filter fun (x : Nat) => ((x / 4096 : Nat) : Int) == z
theorem ofPage_to {s : Sl} (ok : s.Ok) {tk cl : List Nat} (h : Ag s tk cl) (z : Int) : ofPage z tk = s.chunks z := by
  rcases Sl.atP_cases ok z with ⟨hn, hc⟩ | ⟨p, k, rfl, hp, hk, hk'⟩
  · unfold Sl.chunks
    rw [hn]
    unfold ofPage
    rw [List.filter_eq_nil_iff]
    intro x hx
    have hu := (h.mem x).1 hx
    obtain ⟨k, hk, _⟩ := Sl.usedN_true hu
    simp only [beq_iff_eq]
    intro e
    rw [← e, s.atP_nat, hk] at hn
    cases hn
  · have e : s.chunks (p : Int) = pageUsed s p := by
      unfold Sl.chunks pageUsed
      rw [hk', hk]
      dsimp only
      rw [Int.toNat_natCast]
    rw [e]
    refine srt_eq (h.srt.sublist List.filter_sublist) (page_srt s p) (fun x => ?_)
    unfold ofPage
    rw [List.mem_filter, h.mem x, page_mem ok]
    simp only [beq_iff_eq]
    constructor
    · rintro ⟨h1, h2⟩; exact ⟨by omega, h1⟩
    · rintro ⟨h1, h2⟩; exact ⟨h2, by omega⟩

/-- The pages of a class. -/
theorem isOf_page {s : Sl} (ok : s.Ok) {c p : Nat} (hp : p < s.a.ow.length) : (if s.a.ow[p]? = some (c : Int) then 1 else 0) = isOf c (s.cut p) := by
  cases hk : s.cut p with
  | none =>
    have h := ok.no p hk hp
    rw [h]
    show _ = 0
    rw [if_neg (fun e => by have := Option.some.inj e; omega)]
  | some k =>
    have h := (ok.ct p k hk).1
    rw [h]
    show _ = if k.cls = c then 1 else 0
    by_cases e : k.cls = c
    · rw [if_pos e, if_pos (by rw [e])]
    · rw [if_neg e, if_neg (fun e2 => e (by have := Option.some.inj e2; omega))]
end Go.Proofs.Ytldfpacdlephcaa

/-
  How a table of keys lies in memory: its head, its two rows of buckets, its entries; what turns of it and what stays. No program is run in it. No conditions.
-/
import Derived.Test.YtfbkfbghejeknaaArenaBase
import Derived.Test.YtfbkfbghejeknaaChainMath
namespace Go.Proofs.Ytfbkfbghejeknaa
open Go Go.RowKit Go.Lib

/-- The pointer to a chain's first entry. -/
def ptr : List En → Value
  | [] => .pointer none
  | e :: _ => .pointer (some ⟨e.b, 0, none⟩)
/-- What an entry holds, ahead of the chain l. -/
def enc (e : En) (l : List En) : List Value := [.string e.k, .int .i64 e.n, ptr l]
/-- A chain's entries. -/
def Ents (w : World) : List En → Prop
  | [] => True
  | e :: l => Blk w e.b 66 (enc e l) ∧ Ents w l
def bl (l : List En) : List Nat := l.map En.b

theorem Blk.ne {w : World} {a b : Nat} {t u : TypeId} {cs ds : List Value} (h : Blk w a t cs) (k : Blk w b u ds) (ht : t ≠ u) : a ≠ b := by
  rintro rfl
  have h' : w.heap[a]? = some (.cells cs.toArray t (0, 0)) := h
  have k' : w.heap[a]? = some (.cells ds.toArray u (0, 0)) := k
  rw [h'] at k'; injection k' with k'; injection k' with _ k' _; exact ht k'

theorem Ents.only {w w' : World} {D : Nat → Prop} (ho : Only D w w') : ∀ {l : List En}, Ents w l → (∀ e ∈ l, ¬ D e.b) → Ents w' l
  | [], _, _ => trivial
  | e :: _, ⟨h, k⟩, hd => ⟨h.only ho (hd e (List.mem_cons_self ..)), Ents.only ho k (fun x hx => hd x (List.mem_cons_of_mem _ hx))⟩
theorem Ents.lt {w : World} : ∀ {l : List En}, Ents w l → ∀ e ∈ l, e.b < w.heap.size
  | _ :: _, ⟨h, k⟩, e, he => by
    rcases List.mem_cons.1 he with rfl | he
    · exact h.lt
    · exact Ents.lt k e he
theorem Ents.blk {w : World} : ∀ {l : List En}, Ents w l → ∀ e ∈ l, ∃ r, Blk w e.b 66 (enc e r)
  | _ :: l, ⟨h, k⟩, e, he => by
    rcases List.mem_cons.1 he with rfl | he
    · exact ⟨l, h⟩
    · exact Ents.blk k e he

/-- A row of buckets as a slice. -/
def sl (O : Nat) (L : List (List En)) : Value := if L = [] then .slice none 0 0 else .slice (some ⟨O, 0, none⟩) L.length L.length
theorem sl_nil (O : Nat) : sl O [] = .slice none 0 0 := if_pos rfl
theorem sl_some {O : Nat} {L : List (List En)} (h : L ≠ []) : sl O L = .slice (some ⟨O, 0, none⟩) L.length L.length := if_neg h
theorem sl_same {O : Nat} {L M : List (List En)} (h : L.length = M.length) : sl O L = sl O M := by unfold sl; rw [h]; simp only [len_nil h]

def heads (L : List (List En)) : List Value := L.map ptr
theorem heads_len (L : List (List En)) : (heads L).length = L.length := by simp [heads]
theorem heads_at {L : List (List En)} {i : Nat} {l : List En} (h : L[i]? = some l) : (heads L)[i]? = some (ptr l) := by simp [heads, h]
theorem heads_set (L : List (List En)) (i : Nat) (l : List En) : heads (L.set i l) = (heads L).set i (ptr l) := by simp [heads, List.map_set]

def headc (s : Tb) : List Value := [.int .i64 s.cnt, .int .i64 s.pow, sl s.N s.new, sl s.O s.old, .int .i64 s.moved]

/-- The table s lies at P. -/
structure TM (P : Nat) (s : Tb) (w : World) : Prop where
  head : Blk w P 58 (headc s)
  new : Blk w s.N 64 (heads s.new)
  old : s.old ≠ [] → Blk w s.O 64 (heads s.old)
  apart : s.old ≠ [] → s.N ≠ s.O
  ents : ∀ l ∈ s.rows, Ents w l
  nd : (bl s.ents).Nodup

/-- The table's blocks. -/
def Ft (P : Nat) (s : Tb) (b : Nat) : Prop := b = P ∨ b = s.N ∨ (s.old ≠ [] ∧ b = s.O) ∨ ∃ e ∈ s.ents, e.b = b

theorem TM.blk {P : Nat} {s : Tb} {w : World} (h : TM P s w) {e : En} (he : e ∈ s.ents) : ∃ r, Blk w e.b 66 (enc e r) := by
  obtain ⟨l, hl, hm⟩ := List.mem_flatten.1 he
  exact (h.ents l hl).blk e hm
theorem TM.lt {P : Nat} {s : Tb} {w : World} (h : TM P s w) (b : Nat) (hb : Ft P s b) : b < w.heap.size := by
  rcases hb with rfl | rfl | ⟨ho, rfl⟩ | ⟨e, he, rfl⟩
  · exact h.head.lt
  · exact h.new.lt
  · exact (h.old ho).lt
  · obtain ⟨r, hr⟩ := h.blk he; exact hr.lt
theorem TM.only {P : Nat} {s : Tb} {w w' : World} {D : Nat → Prop} (h : TM P s w) (ho : Only D w w') (hd : ∀ b, Ft P s b → ¬ D b) : TM P s w' :=
  ⟨h.head.only ho (hd _ (.inl rfl)), h.new.only ho (hd _ (.inr (.inl rfl))), fun hn => (h.old hn).only ho (hd _ (.inr (.inr (.inl ⟨hn, rfl⟩)))), h.apart,
    fun l hl => (h.ents l hl).only ho (fun e he => hd _ (.inr (.inr (.inr ⟨e, List.mem_flatten.2 ⟨l, hl, he⟩, rfl⟩)))), h.nd⟩
theorem TM.below {P : Nat} {s : Tb} {w w' : World} (h : TM P s w) (hb : Below w.heap.size w w') : TM P s w' := h.only (D := fun _ => False) (Below.only hb) (fun _ _ => id)
theorem TM.lists {P : Nat} {s : Tb} {w : World} (h : TM P s w) {l : List En} (hl : l ∈ s.rows) : Ents w l := h.ents l hl

/-- Where the key's bucket hangs. -/
def Tb.hd (s : Tb) (k : ByteArray) : Addr := if s.inOld k then ⟨s.O, hb k (s.pow - 1), none⟩ else ⟨s.N, hb k s.pow, none⟩
def Tb.cp (s : Tb) (k : ByteArray) : Nat := if s.inOld k then s.old.length - hb k (s.pow - 1) else s.new.length - hb k s.pow
def Tb.hblk (s : Tb) (k : ByteArray) : Nat := if s.inOld k then s.O else s.N
def Tb.hix (s : Tb) (k : ByteArray) : Nat := if s.inOld k then hb k (s.pow - 1) else hb k s.pow
def Tb.hrow (s : Tb) (k : ByteArray) : List (List En) := if s.inOld k then s.old else s.new
theorem hd_eq (s : Tb) (k : ByteArray) : s.hd k = ⟨s.hblk k, s.hix k, none⟩ := by unfold Tb.hd Tb.hblk Tb.hix; split <;> rfl
/-- The row that the key's bucket is of. -/
theorem TM.home {P : Nat} {s : Tb} {w : World} (h : TM P s w) (m : Mid s) (k : ByteArray) : Blk w (s.hblk k) 64 (heads (s.hrow k)) ∧ (s.hrow k)[s.hix k]? = some (s.row k) := by
  unfold Tb.hblk Tb.hix Tb.hrow Tb.row
  by_cases hi : s.inOld k = true
  · rw [if_pos hi, if_pos hi, if_pos hi, if_pos hi]
    have hn := (inOld_iff.1 hi).1
    have h1 := hb_lt k (s.pow - 1); rw [← m.lenO hn] at h1
    exact ⟨h.old hn, by rw [List.getElem?_eq_getElem h1]; rfl⟩
  · rw [if_neg hi, if_neg hi, if_neg hi, if_neg hi]
    have h1 := hb_lt k s.pow; rw [← m.lenN] at h1
    exact ⟨h.new, by rw [List.getElem?_eq_getElem h1]; rfl⟩
theorem row_in {s : Tb} (m : Mid s) (k : ByteArray) : s.row k ∈ s.rows := List.mem_of_getElem? (m.row_eq k)
theorem TM.hd_cell {P : Nat} {s : Tb} {w : World} (h : TM P s w) (m : Mid s) (k : ByteArray) : w.cell? (s.hd k) = some (ptr (s.row k)) := by
  obtain ⟨h1, h2⟩ := h.home m k
  rw [hd_eq]; exact h1.cell (heads_at h2)
theorem hblk_ft (P : Nat) (s : Tb) (k : ByteArray) : Ft P s (s.hblk k) := by
  unfold Tb.hblk
  split
  · rename_i hi; exact .inr (.inr (.inl ⟨(inOld_iff.1 hi).1, rfl⟩))
  · exact .inr (.inl rfl)
theorem TM.hblk_P {P : Nat} {s : Tb} {w : World} (h : TM P s w) (m : Mid s) (k : ByteArray) : s.hblk k ≠ P := ((h.home m k).1.ne h.head (by decide))
theorem TM.ent_ne {P : Nat} {s : Tb} {w : World} (h : TM P s w) (m : Mid s) {e : En} (he : e ∈ s.ents) (k : ByteArray) : e.b ≠ P ∧ e.b ≠ s.hblk k ∧ e.b ≠ s.N ∧ (s.old ≠ [] → e.b ≠ s.O) := by
  obtain ⟨r, hr⟩ := h.blk he
  exact ⟨hr.ne h.head (by decide), hr.ne (h.home m k).1 (by decide), hr.ne h.new (by decide), fun ho => hr.ne (h.old ho) (by decide)⟩

/-! Writing one bucket's first link -/
theorem upd_N (s : Tb) (k : ByteArray) (l : List En) : (s.upd k l).N = s.N ∧ (s.upd k l).O = s.O := ⟨(upd_pow s k l).2.2.2.1, (upd_pow s k l).2.2.2.2.1⟩
theorem upd_headc (s : Tb) (k : ByteArray) (l : List En) : headc (s.upd k l) = headc s := by
  obtain ⟨h1, h2, h3, h4, h5, h6, h7⟩ := upd_pow s k l
  unfold headc
  rw [h1, h2, h3, h4, h5, sl_same h6, sl_same h7]
theorem upd_old_nil (s : Tb) (k : ByteArray) (l : List En) : (s.upd k l).old = [] ↔ s.old = [] := len_nil (upd_pow s k l).2.2.2.2.2.2
theorem upd_rowsOf {s : Tb} {k : ByteArray} {l : List En} : (s.inOld k = true → (s.upd k l).old = s.old.set (hb k (s.pow - 1)) l ∧ (s.upd k l).new = s.new) ∧ (s.inOld k = false → (s.upd k l).old = s.old ∧ (s.upd k l).new = s.new.set (hb k s.pow) l) := by
  constructor
  · intro hi; unfold Tb.upd; rw [if_pos hi]; exact ⟨rfl, rfl⟩
  · intro hi; unfold Tb.upd; rw [if_neg (by rw [hi]; decide)]; exact ⟨rfl, rfl⟩
theorem inj_of_nodup {l : List En} (hn : (l.map En.b).Nodup) {x y : En} (hx : x ∈ l) (hy : y ∈ l) (e : x.b = y.b) : x = y := by
  induction l with
  | nil => cases hx
  | cons a l ih =>
    rw [List.map_cons, List.nodup_cons] at hn
    rcases List.mem_cons.1 hx with hxa | hx'
    · rcases List.mem_cons.1 hy with hya | hy'
      · rw [hxa, hya]
      · exact (hn.1 (List.mem_map.2 ⟨y, hy', by rw [← e, hxa]⟩)).elim
    · rcases List.mem_cons.1 hy with hya | hy'
      · exact (hn.1 (List.mem_map.2 ⟨x, hx', by rw [e, hya]⟩)).elim
      · exact ih hn.2 hx' hy'
/-- The table with another list in the key's bucket: the rows. -/
theorem TM.upd {P : Nat} {s : Tb} {w w' : World} (h : TM P s w) (m : Mid s) (k : ByteArray) (l : List En) {D : Nat → Prop} (ho : Only D w w') (hP : ¬ D P)
    (hh : Blk w' (s.hblk k) 64 (heads ((s.hrow k).set (s.hix k) l))) (hD : ∀ b, D b → b = s.hblk k ∨ (∃ e ∈ s.row k, e.b = b) ∨ ¬ Ft P s b)
    (he : Ents w' l) (hn : (bl (s.upd k l).ents).Nodup) : TM P (s.upd k l) w' := by
  obtain ⟨u1, u2⟩ := upd_N s k l
  have hNE : ∀ e ∈ s.row k, e.b ≠ P ∧ e.b ≠ s.hblk k ∧ e.b ≠ s.N ∧ (s.old ≠ [] → e.b ≠ s.O) := fun e he' => h.ent_ne m (m.row_mem he') k
  refine ⟨by rw [upd_headc]; exact h.head.only ho hP, ?_, ?_, ?_, ?_, hn⟩
  · rw [u1]
    by_cases hi : s.inOld k = true
    · rw [(upd_rowsOf.1 hi).2]
      refine h.new.only ho (fun hd => ?_)
      rcases hD _ hd with e | ⟨e, he', e'⟩ | e
      · unfold Tb.hblk at e; rw [if_pos hi] at e; exact h.apart (inOld_iff.1 hi).1 e
      · exact (hNE e he').2.2.1 e'
      · exact e (.inr (.inl rfl))
    · rw [(upd_rowsOf.2 (by simpa using hi)).2]
      unfold Tb.hblk Tb.hrow Tb.hix at hh
      rw [if_neg hi, if_neg hi, if_neg hi] at hh; exact hh
  · intro hne
    have hne' : s.old ≠ [] := fun e => hne ((upd_old_nil s k l).2 e)
    rw [u2]
    by_cases hi : s.inOld k = true
    · rw [(upd_rowsOf.1 hi).1]
      unfold Tb.hblk Tb.hrow Tb.hix at hh
      rw [if_pos hi, if_pos hi, if_pos hi] at hh; exact hh
    · rw [(upd_rowsOf.2 (by simpa using hi)).1]
      refine (h.old hne').only ho (fun hd => ?_)
      rcases hD _ hd with e | ⟨e, he', e'⟩ | e
      · unfold Tb.hblk at e; rw [if_neg hi] at e; exact h.apart hne' e.symm
      · exact (hNE e he').2.2.2 hne' e'
      · exact e (.inr (.inr (.inl ⟨hne', rfl⟩)))
  · intro hne; rw [u1, u2]; exact h.apart (fun e => hne ((upd_old_nil s k l).2 e))
  · intro l' hl'
    rw [m.upd_rows] at hl'
    obtain ⟨i, hi⟩ := List.mem_iff_getElem?.1 hl'
    rw [List.getElem?_set] at hi
    split at hi
    · rename_i hi'
      rw [if_pos (hi' ▸ m.hi_lt k)] at hi
      cases hi; exact he
    · rename_i hi'
      refine (h.ents l' (List.mem_of_getElem? hi)).only ho (fun x hx hd => ?_)
      have hxe : x ∈ s.ents := List.mem_flatten.2 ⟨l', List.mem_of_getElem? hi, hx⟩
      rcases hD _ hd with e | ⟨y, hy, e'⟩ | e
      · exact (h.ent_ne m hxe k).2.1 e
      · have hxy : y = x := by
          have hnd := h.nd
          unfold bl at hnd
          have hye := m.row_mem hy
          exact inj_of_nodup hnd hye hxe e'
        subst hxy
        exact hi' ((m.row_home hy).symm.trans (m.home i l' hi y hx))
      · exact e (.inr (.inr (.inr ⟨x, hxe, rfl⟩)))
/-! Links -/
/-- The place where the key's entry hangs, from the link a on. -/
def lnk (k : ByteArray) : Addr → List En → Option Addr
  | _, [] => none
  | a, e :: l => if e.k = k then some a else lnk k ⟨e.b, 2, none⟩ l
theorem lnk_none {k : ByteArray} : ∀ {a : Addr} {l : List En}, lnk k a l = none ↔ fnd k l = none
  | _, [] => by simp [lnk, fnd]
  | a, e :: l => by
    unfold lnk fnd
    split
    · simp
    · exact lnk_none
end Go.Proofs.Ytfbkfbghejeknaa

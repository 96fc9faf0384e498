/-
  Plain notions of memory that a call has made and goes on changing: which blocks may have turned, what one block holds. No program in it. No conditions.
  Package arena at this program: what an arena in memory is, and the contracts of its small calls: isOwner, Owner, granted, Page, Granted, Return, Pass, Grant, of any arena and any numbers. No conditions.
  (*Arena).Pages at this program: a row of the call's own, of the owner's pages, rising. No conditions.
  The bytes of an arena's pages at this program: whole, part, Write, bytes.Clone and Read, of any arena and any numbers that an int holds. No further conditions.
-/
import Derived.Test.YtldfpacdlephcaaRows
import Derived.WalkKit
import Derived.ProofKit
import Derived.OpenShut
import Derived.BigGuard
import Derived.IntWalk
import Derived.OwnWalk
import Derived.Laws.OwnMore
import Derived.Laws.CopyOwn
import Derived.Deep.AppendLies
import Derived.Lib.Hide
import Derived.Test.YtldfpacdlephcaaArenaNew
namespace Go.Proofs.Ytldfpacdlephcaa
open Go Go.RowKit Go.Lib

theorem ret_i64 {a b : Int} (h : a = b) : Ending.returned (.int .i64 a) = .returned (.int .i64 b) := by rw [h]
theorem ret_bool {a b : Bool} (h : a = b) : Ending.returned (.bool a) = .returned (.bool b) := by rw [h]
theorem addr_plain (b o j : Nat) : (⟨b, o, none⟩ : Addr).add j = ⟨b, o + j, none⟩ := by simp [Addr.add]
theorem Below.then {w w1 w2 : World} (a : Below w.heap.size w w1) (b : Below w1.heap.size w1 w2) : Below w.heap.size w w2 := a.trans (b.mono a.size)
theorem grown_of_below {A B : World} (h : Below A.heap.size A B) : A.grownBy B none := ⟨h.os, h.tape, h.output, h.size, fun k hk _ => h.block k hk⟩
theorem own_grown {W w1 : World} {n₀ : Nat} {e : TypeId} {size : Nat} {v : Value} {k : Nat} {xs : List Value} {tmp : Obj} (hrow : W.ownsRow n₀ e size v k xs) (hn₀ : n₀ ≤ W.heap.size)
    (hgrow : (W.alloc tmp).grownBy w1 v.ownBlock) : Below n₀ W w1 := by
  refine ((Below.refl n₀ W).alloc hn₀ tmp).grown hgrow (by simp; omega) fun j ej => ?_
  rcases hrow.2 with ⟨rfl, _⟩ | ⟨g, cap, cur, rfl, hb, _, _⟩
  · simp [Value.ownBlock] at ej
  · obtain rfl : g = j := by simpa [Value.ownBlock] using ej
    exact hb
theorem row_form {w : World} {base : Nat} {e : TypeId} {size : Nat} {v : Value} {n : Nat} {xs : List Value} (h : w.ownsRow base e size v n xs) : ∃ a c, v = .slice a n c := by
  rcases h.2 with ⟨rfl, rfl⟩ | ⟨g, c, cur, rfl, _⟩
  · exact ⟨none, 0, rfl⟩
  · exact ⟨_, _, rfl⟩
theorem one_cell (W : World) (x : Value) (t : TypeId) : ∀ j u, [x][j]? = some u → (W.alloc (.cells #[x] t)).cell? ((⟨W.heap.size, 0, none⟩ : Addr).add j) = some u := by
  intro j u hj
  match j, hj with
  | 0, hj => simp at hj; subst hj; simp [Addr.add]
theorem one_ok (x : Int) : ∀ u ∈ [Value.int .i64 x], u.oneCell' = true := by
  intro u hu; simp at hu; subst hu; rfl

/-- Of the blocks that were there only those of D may have turned. -/
structure Only (D : Nat → Prop) (w w' : World) : Prop where
  os : w'.os = w.os
  tape : w'.tape = w.tape
  output : w'.output = w.output
  size : w.heap.size ≤ w'.heap.size
  block : ∀ k, k < w.heap.size → ¬ D k → w'.heap[k]? = w.heap[k]?

theorem Only.refl (D : Nat → Prop) (w : World) : Only D w w := ⟨rfl, rfl, rfl, Nat.le_refl _, fun _ _ _ => rfl⟩
theorem Only.trans {D E : Nat → Prop} {a b c : World} (h : Only D a b) (k : Only E b c) (hE : ∀ x, E x → D x ∨ a.heap.size ≤ x) : Only D a c :=
  ⟨k.os.trans h.os, k.tape.trans h.tape, k.output.trans h.output, Nat.le_trans h.size k.size, fun i hi hd =>
    (k.block i (Nat.lt_of_lt_of_le hi h.size) (fun e => (hE i e).elim hd (fun hle => Nat.lt_irrefl _ (Nat.lt_of_lt_of_le hi hle)))).trans (h.block i hi hd)⟩
theorem Only.mono {D E : Nat → Prop} {a b : World} (h : Only D a b) (hD : ∀ x, D x → E x) : Only E a b :=
  ⟨h.os, h.tape, h.output, h.size, fun k hk he => h.block k hk (fun d => he (hD k d))⟩
theorem Below.only {D : Nat → Prop} {a b : World} (h : Below a.heap.size a b) : Only D a b := ⟨h.os, h.tape, h.output, h.size, fun k hk _ => h.block k hk⟩
theorem Only.below {D : Nat → Prop} {a b : World} {B : Nat} (h : Only D a b) (hB : B ≤ a.heap.size) (hD : ∀ x, D x → B ≤ x) : Below B a b :=
  ⟨h.os, h.tape, h.output, h.size, fun k hk => h.block k (Nat.lt_of_lt_of_le hk hB) (fun d => Nat.lt_irrefl _ (Nat.lt_of_lt_of_le hk (hD k d)))⟩
theorem Only.drew {D : Nat → Prop} {a b : World} (h : Only D a b) : Only D a b.drew := ⟨h.os, h.tape, h.output, h.size, h.block⟩
theorem Only.setCell {D : Nat → Prop} {a b : World} (h : Only D a b) {p : Addr} (hp : D p.block ∨ a.heap.size ≤ p.block) (u : Value) : Only D a (b.setCell p u) :=
  h.trans (E := fun x => x = p.block) ⟨rfl, rfl, rfl, by simp [World.setCell], fun k _ hne => Below.heap_setCell _ _ _ _ hne⟩ (fun x hx => by subst hx; exact hp)
theorem Only.alloc {D : Nat → Prop} {a b : World} (h : Only D a b) (o : Obj) : Only D a (b.alloc o) :=
  h.trans (E := fun _ => False) ⟨rfl, rfl, rfl, by simp, fun k hk _ => Below.heap_alloc _ _ _ hk⟩ (fun _ hx => hx.elim)
theorem Only.cell {D : Nat → Prop} {a b : World} (h : Only D a b) {p : Addr} (hp : p.block < a.heap.size) (hd : ¬ D p.block) : b.cell? p = a.cell? p := World.cell?_of_block (w := a) (h.block p.block hp hd)
theorem Only.frozen {D : Nat → Prop} {a b : World} (h : Only D a b) {p : Addr} (hp : p.block < a.heap.size) (hd : ¬ D p.block) : b.frozen? p = a.frozen? p := World.frozen?_of_block (w := a) (h.block p.block hp hd)

theorem cell_lt {w : World} {p : Addr} {v : Value} (h : w.cell? p = some v) : p.block < w.heap.size := by
  by_cases hb : p.block < w.heap.size
  · exact hb
  · rw [World.cell?, Array.getElem?_eq_none (by show w.heap.size ≤ p.block; omega)] at h; simp at h
theorem cell_alloc {w : World} {p : Addr} {v : Value} (h : w.cell? p = some v) (o : Obj) : (w.alloc o).cell? p = some v :=
  (((Below.refl w.heap.size w).alloc (Nat.le_refl _) o).cell (cell_lt h)).trans h

/-- Block b holds just these cells, of this type, none frozen. -/
def Blk (w : World) (b : Nat) (t : TypeId) (cs : List Value) : Prop := w.heap[b]? = some (.cells cs.toArray t (0, 0))
theorem Blk.lt {w : World} {b : Nat} {t : TypeId} {cs : List Value} (h : Blk w b t cs) : b < w.heap.size := (Array.getElem?_eq_some_iff.1 h).1
theorem Blk.cell {w : World} {b : Nat} {t : TypeId} {cs : List Value} (h : Blk w b t cs) {i : Nat} {v : Value} (hi : cs[i]? = some v) : w.cell? ⟨b, i, none⟩ = some v := by
  have h' : w.heap[b]? = some (.cells cs.toArray t (0, 0)) := h
  simp [World.cell?, h', hi]
theorem Blk.frozen {w : World} {b : Nat} {t : TypeId} {cs : List Value} (h : Blk w b t cs) (i : Nat) : w.frozen? ⟨b, i, none⟩ = false := by
  have h' : w.heap[b]? = some (.cells cs.toArray t (0, 0)) := h
  simp [World.frozen?, h']
theorem Blk.set {w : World} {b : Nat} {t : TypeId} {cs : List Value} (h : Blk w b t cs) (i : Nat) (u : Value) : Blk (w.setCell ⟨b, i, none⟩ u) b t (cs.set i u) := by
  have hlt : b < w.heap.size := h.lt
  have hv : w.heap[b] = .cells cs.toArray t (0, 0) := (Array.getElem?_eq_some_iff.1 h).2
  unfold Blk World.setCell
  rw [Array.getElem?_eq_getElem (by simpa using hlt), Array.getElem_modify]
  simp [hv]
theorem Blk.setOther {w : World} {b : Nat} {t : TypeId} {cs : List Value} (h : Blk w b t cs) {p : Addr} (hp : b ≠ p.block) (u : Value) : Blk (w.setCell p u) b t cs := (Below.heap_setCell w p u b hp).trans h
theorem Blk.only {D : Nat → Prop} {w w' : World} {b : Nat} {t : TypeId} {cs : List Value} (h : Blk w b t cs) (ho : Only D w w') (hd : ¬ D b) : Blk w' b t cs := (ho.block b h.lt hd).trans h
theorem Blk.below {w w' : World} {b : Nat} {t : TypeId} {cs : List Value} (h : Blk w b t cs) (hb : Below w.heap.size w w') : Blk w' b t cs := (hb.block b h.lt).trans h
theorem Blk.alloc {w : World} {b : Nat} {t : TypeId} {cs : List Value} (h : Blk w b t cs) (o : Obj) : Blk (w.alloc o) b t cs := (Below.heap_alloc w o b h.lt).trans h
theorem Blk.new (w : World) (cs : Array Value) (t : TypeId) : Blk (w.alloc (.cells cs t)) w.heap.size t cs.toList := by
  unfold Blk; show (w.heap.push _)[w.heap.size]? = _
  rw [Array.getElem?_push, if_pos rfl]
theorem Blk.drew {w : World} {b : Nat} {t : TypeId} {cs : List Value} (h : Blk w b t cs) : Blk w.drew b t cs := h

/-- The cells of ints, of bytes. -/
def ic (zs : List Int) : List Value := zs.map fun z => Value.int .i64 z
def bc (l : List UInt8) : List Value := l.map fun b => Value.int .u8 (b.toNat : Int)
theorem ic_len (zs : List Int) : (ic zs).length = zs.length := by simp [ic]
theorem bc_len (l : List UInt8) : (bc l).length = l.length := by simp [bc]
theorem ic_at {zs : List Int} {i : Nat} {z : Int} (h : zs[i]? = some z) : (ic zs)[i]? = some (.int .i64 z) := by simp [ic, h]
theorem bc_at {l : List UInt8} {i : Nat} {b : UInt8} (h : l[i]? = some b) : (bc l)[i]? = some (.int .u8 (b.toNat : Int)) := by simp [bc, h]
theorem ic_set (zs : List Int) (i : Nat) (z : Int) : ic (zs.set i z) = (ic zs).set i (.int .i64 z) := by simp [ic, List.map_set]
theorem ic_ok (zs : List Int) : ∀ u ∈ ic zs, u.oneCell' = true := by
  intro u hu; obtain ⟨z, _, rfl⟩ := List.mem_map.1 hu; rfl
theorem bc_ok (l : List UInt8) : ∀ u ∈ bc l, u.oneCell' = true := by
  intro u hu; obtain ⟨z, _, rfl⟩ := List.mem_map.1 hu; rfl

theorem splice_at {α : Type} {L : List α} {off : Nat} {cs : List α} (h : off + cs.length ≤ L.length) (j : Nat) :
    (splice L off cs)[j]? = if j < off then L[j]? else if j < off + cs.length then cs[j - off]? else L[j]? := by
  unfold splice
  rw [List.getElem?_append, List.length_take, List.getElem?_append, List.getElem?_take, List.getElem?_drop]
  have e : min off L.length = off := by omega
  rw [e]
  by_cases h1 : j < off
  · simp [h1]
  · rw [if_neg h1, if_neg h1]
    by_cases h2 : j < off + cs.length
    · rw [if_pos h2, if_pos (by omega)]
    · rw [if_neg h2, if_neg (by omega)]
      congr 1; omega
theorem Only.setRow {g : Nat} {w : World} (cs : Array Value) : Only (fun b => b = g) w (w.setRow g cs) :=
  ⟨rfl, rfl, rfl, by simp [World.setRow], fun k _ hk => setRow_other w g k cs hk⟩
/-- copy into a row that is known whole: only that block turns. -/
theorem wpList_copy_only {P : Program} {w : World} {ops : Array Oper} {rest : List Oper} {o : Oper} {a : Act} {Q : Exit → Act → World → Prop} (hgd : o.guard = none) (d s : Operand) (dT sT : TypeId)
    (ho : o.op = .call { callee := .builtin .copy, args := #[d, s], argTypes := #[dT, sT] }) (elem : TypeId) (hu : P.underlying dT = some (.slice elem)) (hsz : (P.info? elem).map (·.size) = some 1)
    (dp sp : Option Addr) (dLen dCap sLen sCap : Nat) (hd : a.eval d = .slice dp dLen dCap) (hs : a.eval s = .slice sp sLen sCap)
    (g off : Nat) (cur : List Value) (t : TypeId) (hg : Blk w g t cur) (cs : List Value) (hn : cs.length = Nat.min sLen dLen)
    (hpos : 0 < cs.length → dp = some ⟨g, off, none⟩ ∧ ∃ ad, sp = some ad ∧ ∀ j v, cs[j]? = some v → w.cell? (ad.add j) = some v)
    (hfit : off + cs.length ≤ cur.length) (h1 : ∀ v ∈ cs, v.oneCell' = true)
    (h : ∀ w', Hid (Blk w' g t (splice cur off cs)) → Only (fun b => b = g) w w' → wpList P ops Q rest (a.put o.dst (goInt cs.length)) w') :
    wpList P ops Q (o :: rest) a w := by
  by_cases h0 : cs.length = 0
  · obtain rfl : cs = [] := List.eq_nil_of_length_eq_zero h0
    refine wpList_copy_nothing hgd d s dT sT ho elem hu hsz dp sp dLen dCap sLen sCap hd hs (by simpa using hn.symm) ?_
    exact h w (show Blk _ _ _ _ by simpa [splice] using hg) (Only.refl _ _)
  · obtain ⟨rfl, ad, rfl, hsrc⟩ := hpos (by omega)
    refine wpList_copy_own hgd d s dT sT ho elem hu hsz g off dLen dCap ad sLen sCap hd hs cur.toArray t hg cs hn hsrc (by simpa using hfit) h1 ?_
    exact h _ (show _ = _ by simpa [splice] using setRow_heap w g _ _ t _ hg) (Only.setRow _)
theorem made_cells (z : Value) (n : Nat) (hz : z.cells = #[z]) : (madeCells z.cells (n * 1)).toList = List.replicate n z := by
  rw [Nat.mul_one, hz]
  apply List.ext_getElem
  · simp [madeCells]
  · intro i h1 h2
    simp [madeCells, Nat.mod_one]
end Go.Proofs.Ytldfpacdlephcaa
namespace Go.Proofs.Ytldfpacdlephcaa
open Go Go.RowKit Go.Lib

/-- What an arena is: the size of a page, each page's owner, each page's bytes. -/
structure St where
  size : Nat
  ow : List Int
  pg : Nat → List UInt8

structure St.Ok (s : St) : Prop where
  n1 : 1 ≤ s.ow.length
  n2 : s.ow.length ≤ 1024
  s1 : 512 ≤ s.size
  s2 : s.size ≤ 65536
  ow : ∀ z ∈ s.ow, -1 ≤ z ∧ z ≤ 62
  pg : ∀ p, p < s.ow.length → (s.pg p).length = s.size

/-- The cells of an arena's struct. -/
def headOf (O R n size : Nat) : List Value := [.int .i64 (size : Int), .slice (some ⟨O, 0, none⟩) n n, .slice (some ⟨R, 0, none⟩) (n * size) (n * size)]

/-- The row of bytes holds each page's, one behind the other. -/
def Rows (n size : Nat) (pg : Nat → List UInt8) (cs : List Value) : Prop :=
  cs.length = n * size ∧ ∀ p i b, p < n → (pg p)[i]? = some b → cs[p * size + i]? = some (.int .u8 (b.toNat : Int))

structure AIs (P O R : Nat) (s : St) (w : World) : Prop where
  ok : s.Ok
  po : P ≠ O
  pr : P ≠ R
  or : O ≠ R
  head : Blk w P 65 (headOf O R s.ow.length s.size)
  own : Blk w O 3 (ic s.ow)
  row : ∃ cs, Blk w R 5 cs ∧ Rows s.ow.length s.size s.pg cs

theorem AIs.only {P O R : Nat} {s : St} {w w' : World} {D : Nat → Prop} (h : AIs P O R s w) (ho : Only D w w') (hp : ¬ D P) (hO : ¬ D O) (hr : ¬ D R) : AIs P O R s w' := by
  obtain ⟨cs, hb, hR⟩ := h.row
  exact ⟨h.ok, h.po, h.pr, h.or, h.head.only ho hp, h.own.only ho hO, cs, hb.only ho hr, hR⟩
theorem AIs.below {P O R : Nat} {s : St} {w w' : World} (h : AIs P O R s w) (hb : Below w.heap.size w w') : AIs P O R s w' :=
  h.only (D := fun _ => False) (Below.only hb) id id id
theorem AIs.lt {P O R : Nat} {s : St} {w : World} (h : AIs P O R s w) : P < w.heap.size ∧ O < w.heap.size ∧ R < w.heap.size := by
  obtain ⟨cs, hb, _⟩ := h.row
  exact ⟨h.head.lt, h.own.lt, hb.lt⟩

/-- May pages be granted to this one? -/
def ownB (o : Int) : Bool := decide (0 ≤ o ∧ o < 63)
/-- Whose a page is. -/
def ownerOf (ow : List Int) (p : Int) : Int := if 0 ≤ p then ow.getD p.toNat (-1) else -1
theorem ownerOf_at {ow : List Int} {k : Nat} {z : Int} (h : ow[k]? = some z) : ownerOf ow (k : Int) = z := by
  unfold ownerOf; rw [if_pos (by omega)]; simp [List.getD, h]
theorem ownerOf_out {ow : List Int} {p : Int} (h : p < 0 ∨ (ow.length : Int) ≤ p) : ownerOf ow p = -1 := by
  unfold ownerOf
  split
  · rw [List.getD, List.getElem?_eq_none (by omega)]; rfl
  · rfl

set_option maxRecDepth 100000 in
theorem isOwner_any (o : Int) (w : World) : Calls Try.prog 75 #[.int .i64 o] w fun e w' => e = .returned (.bool (ownB o)) ∧ w = w' := by
  obtain ⟨b, hb⟩ : ∃ b, b = ownB o := ⟨_, rfl⟩
  rw [← hb]
  unfold ownB at hb
  by_cases h1 : 0 ≤ o
  · by_cases h2 : o < 63
    · obtain rfl : b = true := by rw [hb]; simp [h1, h2]
      clear hb
      go_enter Try.func75, Try.ntmps75
      go_wp2
      go_ret
      exact ⟨rfl, rfl⟩
    · obtain rfl : b = false := by rw [hb]; simp [h2]
      clear hb
      go_enter Try.func75, Try.ntmps75
      go_wp2
      go_ret
      exact ⟨rfl, rfl⟩
  · obtain rfl : b = false := by rw [hb]; simp [h1]
    clear hb
    go_enter Try.func75, Try.ntmps75
    go_wp2
    go_ret
    exact ⟨rfl, rfl⟩

set_option maxRecDepth 100000 in
theorem owner_any {P O R : Nat} {s : St} {w : World} (h : AIs P O R s w) (p : Int) :
    Calls Try.prog 80 #[.pointer (some ⟨P, 0, none⟩), .int .i64 p] w fun e w' => e = .returned (.int .i64 (ownerOf s.ow p)) ∧ w = w' := by
  have hP : w.cell? ⟨P, 1, none⟩ = some (.slice (some ⟨O, 0, none⟩) s.ow.length s.ow.length) := h.head.cell rfl
  have hcase : p < 0 ∨ (0 ≤ p ∧ (s.ow.length : Int) ≤ p) ∨ ∃ k : Nat, p = k ∧ k < s.ow.length := by
    by_cases h1 : p < 0
    · exact .inl h1
    · by_cases h2 : (s.ow.length : Int) ≤ p
      · exact .inr (.inl ⟨by omega, h2⟩)
      · exact .inr (.inr ⟨p.toNat, by omega, by omega⟩)
  rcases hcase with h1 | ⟨h1, h2⟩ | ⟨k, rfl, hk⟩
  · rw [ownerOf_out (.inl h1)]
    clear h hP
    go_enter Try.func80, Try.ntmps80
    go_wp2
    go_ret
    exact ⟨rfl, rfl⟩
  · rw [ownerOf_out (.inr h2)]
    clear h
    go_enter Try.func80, Try.ntmps80
    go_wp2
    go_ret
    exact ⟨rfl, rfl⟩
  · obtain ⟨z, hz⟩ : ∃ z, s.ow[k]? = some z := ⟨_, List.getElem?_eq_getElem hk⟩
    rw [ownerOf_at hz]
    have hO : w.cell? ⟨O, k, none⟩ = some (.int .i64 z) := h.own.cell (ic_at hz)
    clear h hz
    generalize s.ow.length = n at *
    go_enter Try.func80, Try.ntmps80
    go_wp2
    go_ret
    exact ⟨rfl, rfl⟩

def grB (ow : List Int) (p : Int) : Bool := ownerOf ow p != -1

set_option maxRecDepth 100000 in
theorem granted_any {P O R : Nat} {s : St} {w : World} (h : AIs P O R s w) (p : Int) :
    Calls Try.prog 60 #[.pointer (some ⟨P, 0, none⟩), .int .i64 p] w fun e w' => e = .returned (.bool (grB s.ow p)) ∧ w = w' := by
  have hc := owner_any h p
  unfold grB
  generalize ownerOf s.ow p = z at *
  clear h
  go_enter Try.func60, Try.ntmps60
  go_wp2_with fail
  refine hc.mono ?_
  rintro e w' ⟨rfl, rfl⟩
  clear hc
  go_wp2_with fail
  go_ret
  exact ⟨rfl, rfl⟩

set_option maxRecDepth 100000 in
theorem page_size {P O R : Nat} {s : St} {w : World} (h : AIs P O R s w) :
    Calls Try.prog 32 #[.pointer (some ⟨P, 0, none⟩)] w fun e w' => e = .returned (.int .i64 (s.size : Int)) ∧ w = w' := by
  have hP : w.cell? ⟨P, 0, none⟩ = some (.int .i64 (s.size : Int)) := h.head.cell rfl
  clear h
  generalize s.size = n at *
  go_enter Try.func32, Try.ntmps32
  go_wp2
  go_ret
  exact ⟨rfl, rfl⟩
end Go.Proofs.Ytldfpacdlephcaa
namespace Go.Proofs.Ytldfpacdlephcaa
open Go Go.RowKit Go.Lib

/-- Those of the first k pages that are o's. -/
def pagesTo (ow : List Int) (o : Int) : Nat → List Int
  | 0 => []
  | k + 1 => if ow[k]? = some o then pagesTo ow o k ++ [(k : Int)] else pagesTo ow o k
theorem pagesTo_len (ow : List Int) (o : Int) : ∀ k, (pagesTo ow o k).length ≤ k
  | 0 => by simp [pagesTo]
  | k + 1 => by
    have := pagesTo_len ow o k
    unfold pagesTo
    split
    · rw [List.length_append]; simp; omega
    · omega
theorem pagesTo_hit {ow : List Int} {o z : Int} {k : Nat} (h : ow[k]? = some z) (e : z = o) : pagesTo ow o (k + 1) = pagesTo ow o k ++ [(k : Int)] := by
  rw [pagesTo, if_pos (by rw [h, e])]
theorem pagesTo_miss {ow : List Int} {o z : Int} {k : Nat} (h : ow[k]? = some z) (e : ¬ z = o) : pagesTo ow o (k + 1) = pagesTo ow o k := by
  rw [pagesTo, if_neg (by rw [h]; simpa using e)]
/-- The owner's pages. -/
def pagesOf (ow : List Int) (o : Int) : List Int := if 0 ≤ o then pagesTo ow o ow.length else []
theorem pagesTo_none {ow : List Int} {o : Int} (h : ∀ z ∈ ow, z ≠ o) : ∀ k, pagesTo ow o k = []
  | 0 => rfl
  | k + 1 => by
    rw [pagesTo, if_neg, pagesTo_none h k]
    intro e
    exact h o (List.mem_of_getElem? e) rfl
theorem pagesOf_bad {s : St} (h : s.Ok) {o : Int} (ho : ownB o = false) : pagesOf s.ow o = [] := by
  unfold ownB at ho
  rw [decide_eq_false_iff_not] at ho
  unfold pagesOf
  split
  · exact pagesTo_none (fun z hz => by have := (h.ow z hz).2; omega) _
  · rfl
theorem ic_one (ps : List Int) (k : Int) : ic ps ++ [Value.int .i64 k] = ic (ps ++ [k]) := by simp [ic]

end Go.Proofs.Ytldfpacdlephcaa
namespace Go.Proofs.Ytldfpacdlephcaa
open Go Go.RowKit Go.Lib

/-- A slice of bytes that can be read. -/
def Byts (w : World) (v : Value) (l : List UInt8) : Prop :=
  ∃ a c, v = .slice a l.length c ∧ ∀ j b, l[j]? = some b → ∃ g o, a = some ⟨g, o, none⟩ ∧ g < w.heap.size ∧ w.cell? ⟨g, o + j, none⟩ = some (.int .u8 (b.toNat : Int))
theorem Byts.only {D : Nat → Prop} {w w' : World} {v : Value} {l : List UInt8} (h : Byts w v l) (ho : Only D w w') (hd : ∀ g o n c, v = .slice (some ⟨g, o, none⟩) n c → ¬ D g) : Byts w' v l := by
  obtain ⟨a, c, rfl, hx⟩ := h
  refine ⟨a, c, rfl, fun j b hj => ?_⟩
  obtain ⟨g, o, rfl, hlt, hc⟩ := hx j b hj
  exact ⟨g, o, rfl, Nat.lt_of_lt_of_le hlt ho.size, (ho.cell (p := ⟨g, o + j, none⟩) hlt (hd _ _ _ _ rfl)).trans hc⟩
theorem Byts.below {B : Nat} {w w' : World} {v : Value} {l : List UInt8} (h : Byts w v l) (hb : Below B w w') (hB : ∀ g o n c, v = .slice (some ⟨g, o, none⟩) n c → g < B) : Byts w' v l := by
  obtain ⟨a, c, rfl, hx⟩ := h
  refine ⟨a, c, rfl, fun j b hj => ?_⟩
  obtain ⟨g, o, rfl, hlt, hc⟩ := hx j b hj
  exact ⟨g, o, rfl, Nat.lt_of_lt_of_le hlt hb.size, (hb.cell (p := ⟨g, o + j, none⟩) (hB _ _ _ _ rfl)).trans hc⟩
theorem byts_row {w : World} {base : Nat} {v : Value} {l : List UInt8} (h : w.ownsRow base 5 1 v l.length (bc l)) : Byts w v l := by
  have hlt := h.lt
  have hcs := @World.ownsRow.cells _ _ _ _ _ _ _ h
  rcases h.2 with ⟨rfl, h0⟩ | ⟨g, cap, cur, rfl, hb, hg, hcap, _⟩
  · refine ⟨none, 0, by rw [h0], fun j x hj => ?_⟩
    rw [List.eq_nil_of_length_eq_zero h0] at hj; simp at hj
  · refine ⟨some ⟨g, 0, none⟩, cap, rfl, fun j x hj => ⟨g, 0, rfl, (hlt g rfl).2, ?_⟩⟩
    have := hcs rfl j _ (bc_at hj)
    rw [addr_plain] at this; exact this
theorem Byts.src {w : World} {a : Option Addr} {n c : Nat} {l : List UInt8} (h : Byts w (.slice a n c) l) (hl : 0 < l.length) : ∃ ad, a = some ad ∧ ∀ j v, (bc l)[j]? = some v → w.cell? (ad.add j) = some v := by
  obtain ⟨a', c', e, hx⟩ := h
  cases e
  obtain ⟨g, o, ha, _, _⟩ := hx 0 l[0] (List.getElem?_eq_getElem hl)
  refine ⟨⟨g, o, none⟩, ha, fun j v hj => ?_⟩
  have hjl : j < l.length := by
    have := (List.getElem?_eq_some_iff.1 hj).1
    rwa [bc_len] at this
  rw [bc_at (List.getElem?_eq_getElem hjl)] at hj
  obtain ⟨g', o', ha', _, hc⟩ := hx j l[j] (List.getElem?_eq_getElem hjl)
  rw [ha] at ha'
  cases ha'
  rw [addr_plain, hc]; exact hj

theorem row_fits {n size k i : Nat} (hk : k < n) (hi : i ≤ size) : k * size + i ≤ n * size := by
  calc k * size + i ≤ k * size + size := by omega
    _ = (k + 1) * size := by rw [Nat.add_mul, Nat.one_mul]
    _ ≤ n * size := Nat.mul_le_mul_right _ hk

/-- Bytes are put into a page. -/
def St.put (s : St) (k i : Nat) (l : List UInt8) : St := { s with pg := fun q => if q = k then splice (s.pg k) i l else s.pg q }
theorem St.put_ok {s : St} (h : s.Ok) {k i : Nat} {l : List UInt8} (hk : k < s.ow.length) (hi : i + l.length ≤ s.size) : (s.put k i l).Ok := by
  refine ⟨h.n1, h.n2, h.s1, h.s2, h.ow, fun p hp => ?_⟩
  show (if p = k then splice (s.pg k) i l else s.pg p).length = s.size
  split
  · rw [length_splice _ _ _ (by rw [h.pg k hk]; exact hi)]; exact h.pg k hk
  · exact h.pg p hp
theorem rows_put {s : St} (h : s.Ok) {cs : List Value} (hR : Rows s.ow.length s.size s.pg cs) {k i : Nat} {l : List UInt8} (hk : k < s.ow.length) (hi : i + l.length ≤ s.size) :
    Rows s.ow.length s.size (s.put k i l).pg (splice cs (k * s.size + i) (bc l)) := by
  obtain ⟨hl, hx⟩ := hR
  have hfit : k * s.size + i + (bc l).length ≤ cs.length := by
    rw [bc_len, hl, Nat.add_assoc]; exact row_fits hk hi
  refine ⟨(length_splice _ _ _ hfit).trans hl, fun p j b hp hb => ?_⟩
  have hb' : (if p = k then splice (s.pg k) i l else s.pg p)[j]? = some b := hb
  rw [splice_at hfit, bc_len]
  by_cases hpk : p = k
  · subst hpk
    rw [if_pos rfl, splice_at (by rw [h.pg p hk]; exact hi)] at hb'
    by_cases h1 : j < i
    · rw [if_pos h1] at hb'
      rw [if_pos (by omega)]; exact hx p j b hp hb'
    · rw [if_neg h1] at hb'
      rw [if_neg (by omega)]
      by_cases h2 : j < i + l.length
      · rw [if_pos h2] at hb'
        rw [if_pos (by omega), show p * s.size + j - (p * s.size + i) = j - i by omega]
        exact bc_at hb'
      · rw [if_neg h2] at hb'
        rw [if_neg (by omega)]; exact hx p j b hp hb'
  · rw [if_neg hpk] at hb'
    have hj : j < s.size := by
      have := (List.getElem?_eq_some_iff.1 hb').1
      rwa [h.pg p hp] at this
    have hout : p * s.size + j < k * s.size + i ∨ k * s.size + i + l.length ≤ p * s.size + j := by
      rcases Nat.lt_or_gt_of_ne hpk with hlt | hgt
      · have : (p + 1) * s.size ≤ k * s.size := Nat.mul_le_mul_right _ hlt
        rw [Nat.add_mul, Nat.one_mul] at this
        left; omega
      · have : (k + 1) * s.size ≤ p * s.size := Nat.mul_le_mul_right _ hgt
        rw [Nat.add_mul, Nat.one_mul] at this
        right; omega
    rcases hout with ho | ho
    · rw [if_pos ho]; exact hx p j b hp hb'
    · rw [if_neg (by omega), if_neg (by omega)]; exact hx p j b hp hb'
/-- What is read. -/
def St.get (s : St) (k i m : Nat) : List UInt8 := ((s.pg k).drop i).take m
theorem St.get_len {s : St} (h : s.Ok) {k i m : Nat} (hk : k < s.ow.length) (hi : i + m ≤ s.size) : (s.get k i m).length = m := by
  unfold St.get; rw [List.length_take, List.length_drop, h.pg k hk]; omega
theorem get_src {s : St} {w : World} {R : Nat} {cs : List Value} (hb : Blk w R 5 cs) (hR : Rows s.ow.length s.size s.pg cs) {k i m : Nat} (hk : k < s.ow.length) :
    ∀ j v, (bc (s.get k i m))[j]? = some v → w.cell? ((⟨R, k * s.size + i, none⟩ : Addr).add j) = some v := by
  intro j v hj
  unfold bc at hj
  rw [List.getElem?_map] at hj
  obtain ⟨b, hb', rfl⟩ := Option.map_eq_some_iff.1 hj
  unfold St.get at hb'
  rw [List.getElem?_take] at hb'
  split at hb'
  · rw [List.getElem?_drop] at hb'
    rw [addr_plain, Nat.add_assoc]
    exact hb.cell (hR.2 k (i + j) b hk hb')
  · cases hb'

set_option maxHeartbeats 1000000 in
set_option maxRecDepth 100000 in
theorem whole_any {P O R : Nat} {s : St} {w : World} (h : AIs P O R s w) (k : Nat) (hk : k < s.ow.length) :
    Calls Try.prog 84 #[.pointer (some ⟨P, 0, none⟩), .int .i64 k] w fun e w' => e = .returned (.slice (some ⟨R, k * s.size, none⟩) s.size s.size) ∧ w = w' := by
  have hP0 : w.cell? ⟨P, 0, none⟩ = some (.int .i64 (s.size : Int)) := h.head.cell rfl
  have hP2 : w.cell? ⟨P, 2, none⟩ = some (.slice (some ⟨R, 0, none⟩) (s.ow.length * s.size) (s.ow.length * s.size)) := h.head.cell rfl
  have hb1 := mul_bound h.ok.n2 h.ok.s2
  have hfit := row_fits (size := s.size) hk (Nat.le_refl _)
  have hs1 := h.ok.s1
  obtain ⟨M, hM⟩ : ∃ M, M = s.ow.length * s.size := ⟨_, rfl⟩
  obtain ⟨K, hK⟩ : ∃ K, K = k * s.size := ⟨_, rfl⟩
  have e1 : (k : Int) * (s.size : Int) = (K : Int) := by rw [hK, Int.natCast_mul]
  rw [← hM] at hb1 hfit hP2
  rw [← hK] at hfit ⊢
  generalize s.size = z at *
  clear hM hK h hk
  have q1 : (0 : Int) ≤ (K : Int) + (z : Int) := by omega
  have q2 : (K : Int) ≤ (K : Int) + (z : Int) := by omega
  have q3 : (K : Int) + (z : Int) ≤ (M : Int) := by omega
  have q4 : ¬ K + z = K := by omega
  go_enter Try.func84, Try.ntmps84
  go_wp2_with fail
  rw [Nat.add_sub_cancel_left]
  go_ret
  exact ⟨rfl, rfl⟩

/-- May so many bytes be asked for there? 0, or what is answered. -/
def St.code (s : St) (p at_ n : Int) : Int := if grB s.ow p = true then (if 0 ≤ at_ ∧ 0 ≤ n ∧ n ≤ s.size - at_ then 0 else 1) else 7
theorem code_cases (s : St) (p at_ n : Int) : (s.code p at_ n = 7 ∧ grB s.ow p = false) ∨
    (s.code p at_ n = 1 ∧ grB s.ow p = true ∧ (at_ < 0 ∨ (0 ≤ at_ ∧ n < 0) ∨ (0 ≤ at_ ∧ 0 ≤ n ∧ s.size - at_ < n))) ∨
    (s.code p at_ n = 0 ∧ grB s.ow p = true ∧ ∃ k i m : Nat, p = k ∧ at_ = i ∧ n = m ∧ k < s.ow.length ∧ i + m ≤ s.size) := by
  unfold St.code
  cases hg : grB s.ow p with
  | false => exact .inl ⟨by simp, rfl⟩
  | true =>
    obtain ⟨k, z, hp, hk, _, _⟩ := grB_at hg
    rw [if_pos rfl]
    by_cases h1 : 0 ≤ at_ ∧ 0 ≤ n ∧ n ≤ s.size - at_
    · rw [if_pos h1]
      exact .inr (.inr ⟨rfl, rfl, k, at_.toNat, n.toNat, hp, by omega, by omega, hk, by omega⟩)
    · rw [if_neg h1]
      exact .inr (.inl ⟨rfl, rfl, by omega⟩)

set_option maxHeartbeats 1000000 in
set_option maxRecDepth 100000 in
theorem part_ok {P O R : Nat} {s : St} {w : World} (h : AIs P O R s w) (k i m : Nat) (hg : grB s.ow (k : Int) = true) (hk : k < s.ow.length) (hi : i + m ≤ s.size) :
    Calls Try.prog 72 #[.pointer (some ⟨P, 0, none⟩), .int .i64 k, .int .i64 i, .int .i64 m] w fun e w' => (∃ ad c, e = .returned (.tuple #[.slice (some ad) m c, .int .i64 0]) ∧ (0 < m → ad = ⟨R, k * s.size + i, none⟩)) ∧ w = w' := by
  have hP0 : w.cell? ⟨P, 0, none⟩ = some (.int .i64 (s.size : Int)) := h.head.cell rfl
  have hgr := granted_any h k
  rw [hg] at hgr
  have hwh := whole_any h k hk
  have hs2 := h.ok.s2
  have hs1 := h.ok.s1
  generalize k * s.size = K at *
  generalize s.size = z at *
  have q1 : (i : Int) ≤ (i : Int) + (m : Int) := by omega
  have q2 : (i : Int) + (m : Int) ≤ (z : Int) := by omega
  have q3 : (m : Int) ≤ (z : Int) - (i : Int) := by omega
  clear h hg
  by_cases hz : z = i
  · have hm0 : m = 0 := by omega
    subst hz
    subst hm0
    go_enter Try.func72, Try.ntmps72
    go_wp2_with fail
    refine hgr.mono ?_
    rintro e w' ⟨rfl, rfl⟩
    clear hgr
    go_wp2_with fail
    refine hwh.mono ?_
    rintro e w' ⟨rfl, rfl⟩
    clear hwh
    go_wp2_with fail
    go_ret2
    exact ⟨⟨_, _, rfl, fun h => (Nat.lt_irrefl _ h).elim⟩, rfl⟩
  · go_enter Try.func72, Try.ntmps72
    go_wp2_with fail
    refine hgr.mono ?_
    rintro e w' ⟨rfl, rfl⟩
    clear hgr
    go_wp2_with fail
    refine hwh.mono ?_
    rintro e w' ⟨rfl, rfl⟩
    clear hwh
    go_wp2_with fail
    rw [Nat.add_sub_cancel_left]
    go_ret2
    exact ⟨⟨_, _, rfl, fun _ => rfl⟩, rfl⟩

set_option maxHeartbeats 1000000 in
set_option maxRecDepth 100000 in
theorem part_bad {P O R : Nat} {s : St} {w : World} (h : AIs P O R s w) (p i m : Int) (hi : i ≤ 9223372036854775807) (c : Int) (hc : c = s.code p i m) (h0 : c ≠ 0) :
    Calls Try.prog 72 #[.pointer (some ⟨P, 0, none⟩), .int .i64 p, .int .i64 i, .int .i64 m] w fun e w' => e = .returned (.tuple #[.slice none 0 0, .int .i64 c]) ∧ w = w' := by
  have hP0 : w.cell? ⟨P, 0, none⟩ = some (.int .i64 (s.size : Int)) := h.head.cell rfl
  have hgr := granted_any h p
  have hs2 := h.ok.s2
  rcases code_cases s p i m with ⟨hd, hg⟩ | ⟨hd, hg, hx⟩ | ⟨hd, _⟩
  · rw [hd] at hc
    subst hc
    rw [hg] at hgr
    clear h hg hd h0
    go_enter Try.func72, Try.ntmps72
    go_wp2_with fail
    refine hgr.mono ?_
    rintro e w' ⟨rfl, rfl⟩
    clear hgr
    go_wp2_with fail
    go_ret2
    exact ⟨rfl, rfl⟩
  · rw [hd] at hc
    subst hc
    rw [hg] at hgr
    generalize s.size = z at *
    clear h hg hd h0
    rcases hx with h1 | ⟨h1, h2⟩ | ⟨h1, h2, h3⟩
    all_goals
      go_enter Try.func72, Try.ntmps72
      go_wp2_with fail
      refine hgr.mono ?_
      rintro e w' ⟨rfl, rfl⟩
      clear hgr
      go_wp2_with fail
      go_ret2
      exact ⟨rfl, rfl⟩
  · exact (h0 (hc.trans hd)).elim

/-- What a write leaves. -/
def St.write (s : St) (p i : Int) (l : List UInt8) : Int × St := (s.code p i l.length, if s.code p i l.length = 0 then s.put p.toNat i.toNat l else s)

set_option maxHeartbeats 1000000 in
set_option maxRecDepth 100000 in
theorem write_any {P O R : Nat} {s : St} {w : World} (h : AIs P O R s w) (p i : Int) (hi : i ≤ 9223372036854775807) (v : Value) (l : List UInt8) (hl : l.length ≤ 9223372036854775807) (hv : Byts w v l) :
    Calls Try.prog 51 #[.pointer (some ⟨P, 0, none⟩), .int .i64 p, .int .i64 i, v] w fun e w' => e = .returned (.int .i64 (s.write p i l).1) ∧ AIs P O R (s.write p i l).2 w' ∧ Only (fun b => b = R) w w' := by
  unfold St.write
  obtain ⟨a, c, rfl⟩ : ∃ a c, v = .slice a l.length c := by obtain ⟨a, c, e, _⟩ := hv; exact ⟨a, c, e⟩
  rcases code_cases s p i l.length with ⟨hd, _⟩ | ⟨hd, _⟩ | ⟨hd, hg, k, j, m, rfl, rfl, hm, hk, hj⟩
  · rw [hd]
    have hp := part_bad h p i l.length hi 7 hd.symm (by decide)
    have H := hid h
    clear h hd hv
    generalize l.length = n at *
    go_enter Try.func51, Try.ntmps51
    go_wp2_with fail
    refine hp.mono ?_
    rintro e w' ⟨rfl, rfl⟩
    clear hp
    go_wp2_with fail
    go_ret
    exact ⟨rfl, H.out, Only.refl _ _⟩
  · rw [hd]
    have hp := part_bad h p i l.length hi 1 hd.symm (by decide)
    have H := hid h
    clear h hd hv
    generalize l.length = n at *
    go_enter Try.func51, Try.ntmps51
    go_wp2_with fail
    refine hp.mono ?_
    rintro e w' ⟨rfl, rfl⟩
    clear hp
    go_wp2_with fail
    go_ret
    exact ⟨rfl, H.out, Only.refl _ _⟩
  · have hm' : l.length = m := by omega
    have hp := part_ok h k j l.length hg hk (by omega)
    rw [hd, if_pos rfl, Int.toNat_natCast, Int.toNat_natCast]
    obtain ⟨cs, hb, hR⟩ := h.row
    have hput := rows_put h.ok hR hk (l := l) (i := j) (by omega)
    have hok := St.put_ok h.ok hk (l := l) (i := j) (by omega)
    have hfit : k * s.size + j + (bc l).length ≤ cs.length := by rw [bc_len, hR.1, Nat.add_assoc]; exact row_fits hk (by omega)
    obtain ⟨cl, hcl⟩ : ∃ cl, cl = bc l := ⟨_, rfl⟩
    have hcn : cl.length = l.length := by rw [hcl, bc_len]
    have HV := hid hv
    have HS := hid (fun (h0 : 0 < cl.length) => Byts.src hv (by rw [hcn] at h0; exact h0))
    have HO := hid (bc_ok l)
    have HB := hid hb
    have HF := hid hfit
    have HE := hid (And.intro hput (And.intro hok h))
    rw [← hcl] at HS HO HF HE
    have HM : Hid (cl.length = Nat.min l.length l.length) := hid (by rw [hcn]; simp)
    clear hd hv hg hput hok hfit hb hR h hcl hm hm' hj hk
    generalize hKK : k * s.size + j = K at *
    have HKK := hid hKK
    clear hKK
    generalize hn : l.length = n at *
    clear hn
    go_enter Try.func51, Try.ntmps51
    go_wp2_with fail
    refine hp.mono ?_
    rintro e w' ⟨⟨ad, c', rfl, had⟩, rfl⟩
    have HA := hid had
    clear hp had
    go_wp2_with (refine wpList_copy_only rfl (.tmp 23) (.tmp 24) 39 39 rfl 5 Try.underlying39 sizeByte (some ad) a n c' n c rfl rfl R K cs 5 HB.out cl HM.out (fun h0 => ⟨congrArg some (HA.out (by omega)), HS.out h0⟩) HF.out HO.out ?_; intro w2 hg2 ho2)
    go_ret
    obtain ⟨r1, r2, r3⟩ := HE.out
    refine ⟨rfl, ⟨r2, r3.po, r3.pr, r3.or, r3.head.only ho2 r3.pr, r3.own.only ho2 r3.or, _, hg2.out, r1⟩, ho2⟩
end Go.Proofs.Ytldfpacdlephcaa

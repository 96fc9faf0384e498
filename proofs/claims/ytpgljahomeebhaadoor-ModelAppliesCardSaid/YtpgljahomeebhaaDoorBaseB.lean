/-
  Plain notions of memory that a call has made and goes on changing: which blocks may have turned, what one block holds. No program in it. No conditions.
  Contracts of words.Key and ambryref02.Key at this program: they answer whether a text is a key. No conditions but that the document's answer is asked of texts below 2^63 bytes.
  Contracts of item.isCount, item.Size, ambryref08.Size, item.isRight, ambryref08.Right and item.marks at this program. Conditions: lengths below 2^63.
  Contracts of item.isRight, ambryref08.Right and item.marks at this program: whether an item is right, and its marks. Conditions: lengths below 2^63.
  A slice of items that can be read; states, commands and answers as values. No program is run in it. No conditions.
  The contracts of the document's own Moment, Gone, may. Conditions: numbers are in their types' ranges.
-/
import Derived.Test.YtpgljahomeebhaaDoorRows
import Derived.WalkKit
import Derived.ProofKit
import Derived.OpenShut
import Derived.BigGuard
import Derived.IntWalk
import Derived.OwnWalk
import Derived.Laws.OwnMore
import Derived.Laws.CopyOwn
import Derived.Deep.AppendLies
import Derived.Lib.Hide
import Derived.Test.YtpgljahomeebhaaDoorBaseA
import Derived.Lib.Walk
import Derived.BigCall
import Derived.Deep.Draws
import Derived.Laws.Strings3
import Derived.WalkLawsBesides
import Derived.WalkSpells
import Derived.BigQuiet
namespace Go.Proofs.YtpgljahomeebhaaDoor
open Go Go.RowKit Go.Lib

theorem ret_i64 {a b : Int} (h : a = b) : Ending.returned (.int .i64 a) = .returned (.int .i64 b) := by rw [h]
theorem ret_bool {a b : Bool} (h : a = b) : Ending.returned (.bool a) = .returned (.bool b) := by rw [h]
theorem addr_plain (b o j : Nat) : (⟨b, o, none⟩ : Addr).add j = ⟨b, o + j, none⟩ := by simp [Addr.add]
theorem Below.then {w w1 w2 : World} (a : Below w.heap.size w w1) (b : Below w1.heap.size w1 w2) : Below w.heap.size w w2 := a.trans (b.mono a.size)
theorem grown_of_below {A B : World} (h : Below A.heap.size A B) : A.grownBy B none := ⟨h.os, h.tape, h.output, h.size, fun k hk _ => h.block k hk⟩
theorem own_grown {W w1 : World} {n₀ : Nat} {e : TypeId} {size : Nat} {v : Value} {k : Nat} {xs : List Value} {tmp : Obj} (hrow : W.ownsRow n₀ e size v k xs) (hn₀ : n₀ ≤ W.heap.size)
    (hgrow : (W.alloc tmp).grownBy w1 v.ownBlock) : Below n₀ W w1 := by
  refine ((Below.refl n₀ W).alloc hn₀ tmp).grown hgrow (by simp; omega) fun j ej => ?_
  rcases hrow.2 with ⟨rfl, _⟩ | ⟨g, cap, cur, rfl, hb, _, _⟩
  · simp [Value.ownBlock] at ej
  · obtain rfl : g = j := by simpa [Value.ownBlock] using ej
    exact hb
theorem row_form {w : World} {base : Nat} {e : TypeId} {size : Nat} {v : Value} {n : Nat} {xs : List Value} (h : w.ownsRow base e size v n xs) : ∃ a c, v = .slice a n c := by
  rcases h.2 with ⟨rfl, rfl⟩ | ⟨g, c, cur, rfl, _⟩
  · exact ⟨none, 0, rfl⟩
  · exact ⟨_, _, rfl⟩
theorem one_cell (W : World) (x : Value) (t : TypeId) : ∀ j u, [x][j]? = some u → (W.alloc (.cells #[x] t)).cell? ((⟨W.heap.size, 0, none⟩ : Addr).add j) = some u := by
  intro j u hj
  match j, hj with
  | 0, hj => simp at hj; subst hj; simp [Addr.add]
theorem one_ok (x : Int) : ∀ u ∈ [Value.int .i64 x], u.oneCell' = true := by
  intro u hu; simp at hu; subst hu; rfl

/-- Of the blocks that were there only those of D may have turned. -/
structure Only (D : Nat → Prop) (w w' : World) : Prop where
  os : w'.os = w.os
  tape : w'.tape = w.tape
  output : w'.output = w.output
  size : w.heap.size ≤ w'.heap.size
  block : ∀ k, k < w.heap.size → ¬ D k → w'.heap[k]? = w.heap[k]?

theorem Only.refl (D : Nat → Prop) (w : World) : Only D w w := ⟨rfl, rfl, rfl, Nat.le_refl _, fun _ _ _ => rfl⟩
theorem Only.trans {D E : Nat → Prop} {a b c : World} (h : Only D a b) (k : Only E b c) (hE : ∀ x, E x → D x ∨ a.heap.size ≤ x) : Only D a c :=
  ⟨k.os.trans h.os, k.tape.trans h.tape, k.output.trans h.output, Nat.le_trans h.size k.size, fun i hi hd =>
    (k.block i (Nat.lt_of_lt_of_le hi h.size) (fun e => (hE i e).elim hd (fun hle => Nat.lt_irrefl _ (Nat.lt_of_lt_of_le hi hle)))).trans (h.block i hi hd)⟩
theorem Only.mono {D E : Nat → Prop} {a b : World} (h : Only D a b) (hD : ∀ x, D x → E x) : Only E a b :=
  ⟨h.os, h.tape, h.output, h.size, fun k hk he => h.block k hk (fun d => he (hD k d))⟩
theorem Below.only {D : Nat → Prop} {a b : World} (h : Below a.heap.size a b) : Only D a b := ⟨h.os, h.tape, h.output, h.size, fun k hk _ => h.block k hk⟩
theorem Only.below {D : Nat → Prop} {a b : World} {B : Nat} (h : Only D a b) (hB : B ≤ a.heap.size) (hD : ∀ x, D x → B ≤ x) : Below B a b :=
  ⟨h.os, h.tape, h.output, h.size, fun k hk => h.block k (Nat.lt_of_lt_of_le hk hB) (fun d => Nat.lt_irrefl _ (Nat.lt_of_lt_of_le hk (hD k d)))⟩
theorem Only.drew {D : Nat → Prop} {a b : World} (h : Only D a b) : Only D a b.drew := ⟨h.os, h.tape, h.output, h.size, h.block⟩
theorem Only.setCell {D : Nat → Prop} {a b : World} (h : Only D a b) {p : Addr} (hp : D p.block ∨ a.heap.size ≤ p.block) (u : Value) : Only D a (b.setCell p u) :=
  h.trans (E := fun x => x = p.block) ⟨rfl, rfl, rfl, by simp [World.setCell], fun k _ hne => Below.heap_setCell _ _ _ _ hne⟩ (fun x hx => by subst hx; exact hp)
theorem Only.alloc {D : Nat → Prop} {a b : World} (h : Only D a b) (o : Obj) : Only D a (b.alloc o) :=
  h.trans (E := fun _ => False) ⟨rfl, rfl, rfl, by simp, fun k hk _ => Below.heap_alloc _ _ _ hk⟩ (fun _ hx => hx.elim)
theorem Only.cell {D : Nat → Prop} {a b : World} (h : Only D a b) {p : Addr} (hp : p.block < a.heap.size) (hd : ¬ D p.block) : b.cell? p = a.cell? p := World.cell?_of_block (w := a) (h.block p.block hp hd)
theorem Only.frozen {D : Nat → Prop} {a b : World} (h : Only D a b) {p : Addr} (hp : p.block < a.heap.size) (hd : ¬ D p.block) : b.frozen? p = a.frozen? p := World.frozen?_of_block (w := a) (h.block p.block hp hd)

theorem cell_lt {w : World} {p : Addr} {v : Value} (h : w.cell? p = some v) : p.block < w.heap.size := by
  by_cases hb : p.block < w.heap.size
  · exact hb
  · rw [World.cell?, Array.getElem?_eq_none (by show w.heap.size ≤ p.block; omega)] at h; simp at h
theorem cell_alloc {w : World} {p : Addr} {v : Value} (h : w.cell? p = some v) (o : Obj) : (w.alloc o).cell? p = some v :=
  (((Below.refl w.heap.size w).alloc (Nat.le_refl _) o).cell (cell_lt h)).trans h

/-- Block b holds just these cells, of this type, none frozen. -/
def Blk (w : World) (b : Nat) (t : TypeId) (cs : List Value) : Prop := w.heap[b]? = some (.cells cs.toArray t (0, 0))
theorem Blk.lt {w : World} {b : Nat} {t : TypeId} {cs : List Value} (h : Blk w b t cs) : b < w.heap.size := (Array.getElem?_eq_some_iff.1 h).1
theorem Blk.cell {w : World} {b : Nat} {t : TypeId} {cs : List Value} (h : Blk w b t cs) {i : Nat} {v : Value} (hi : cs[i]? = some v) : w.cell? ⟨b, i, none⟩ = some v := by
  have h' : w.heap[b]? = some (.cells cs.toArray t (0, 0)) := h
  simp [World.cell?, h', hi]
theorem Blk.frozen {w : World} {b : Nat} {t : TypeId} {cs : List Value} (h : Blk w b t cs) (i : Nat) : w.frozen? ⟨b, i, none⟩ = false := by
  have h' : w.heap[b]? = some (.cells cs.toArray t (0, 0)) := h
  simp [World.frozen?, h']
theorem Blk.set {w : World} {b : Nat} {t : TypeId} {cs : List Value} (h : Blk w b t cs) (i : Nat) (u : Value) : Blk (w.setCell ⟨b, i, none⟩ u) b t (cs.set i u) := by
  have hlt : b < w.heap.size := h.lt
  have hv : w.heap[b] = .cells cs.toArray t (0, 0) := (Array.getElem?_eq_some_iff.1 h).2
  unfold Blk World.setCell
  rw [Array.getElem?_eq_getElem (by simpa using hlt), Array.getElem_modify]
  simp [hv]
theorem Blk.setOther {w : World} {b : Nat} {t : TypeId} {cs : List Value} (h : Blk w b t cs) {p : Addr} (hp : b ≠ p.block) (u : Value) : Blk (w.setCell p u) b t cs := (Below.heap_setCell w p u b hp).trans h
theorem Blk.only {D : Nat → Prop} {w w' : World} {b : Nat} {t : TypeId} {cs : List Value} (h : Blk w b t cs) (ho : Only D w w') (hd : ¬ D b) : Blk w' b t cs := (ho.block b h.lt hd).trans h
theorem Blk.below {w w' : World} {b : Nat} {t : TypeId} {cs : List Value} (h : Blk w b t cs) (hb : Below w.heap.size w w') : Blk w' b t cs := (hb.block b h.lt).trans h
theorem Blk.alloc {w : World} {b : Nat} {t : TypeId} {cs : List Value} (h : Blk w b t cs) (o : Obj) : Blk (w.alloc o) b t cs := (Below.heap_alloc w o b h.lt).trans h
theorem Blk.new (w : World) (cs : Array Value) (t : TypeId) : Blk (w.alloc (.cells cs t)) w.heap.size t cs.toList := by
  unfold Blk; show (w.heap.push _)[w.heap.size]? = _
  rw [Array.getElem?_push, if_pos rfl]
theorem Blk.drew {w : World} {b : Nat} {t : TypeId} {cs : List Value} (h : Blk w b t cs) : Blk w.drew b t cs := h

/-- The cells of ints, of bytes. -/
def ic (zs : List Int) : List Value := zs.map fun z => Value.int .i64 z
def bc (l : List UInt8) : List Value := l.map fun b => Value.int .u8 (b.toNat : Int)
theorem ic_len (zs : List Int) : (ic zs).length = zs.length := by simp [ic]
theorem bc_len (l : List UInt8) : (bc l).length = l.length := by simp [bc]
theorem ic_at {zs : List Int} {i : Nat} {z : Int} (h : zs[i]? = some z) : (ic zs)[i]? = some (.int .i64 z) := by simp [ic, h]
theorem bc_at {l : List UInt8} {i : Nat} {b : UInt8} (h : l[i]? = some b) : (bc l)[i]? = some (.int .u8 (b.toNat : Int)) := by simp [bc, h]
theorem ic_set (zs : List Int) (i : Nat) (z : Int) : ic (zs.set i z) = (ic zs).set i (.int .i64 z) := by simp [ic, List.map_set]
theorem ic_ok (zs : List Int) : ∀ u ∈ ic zs, u.oneCell' = true := by
  intro u hu; obtain ⟨z, _, rfl⟩ := List.mem_map.1 hu; rfl
theorem bc_ok (l : List UInt8) : ∀ u ∈ bc l, u.oneCell' = true := by
  intro u hu; obtain ⟨z, _, rfl⟩ := List.mem_map.1 hu; rfl

theorem splice_at {α : Type} {L : List α} {off : Nat} {cs : List α} (h : off + cs.length ≤ L.length) (j : Nat) :
    (splice L off cs)[j]? = if j < off then L[j]? else if j < off + cs.length then cs[j - off]? else L[j]? := by
  unfold splice
  rw [List.getElem?_append, List.length_take, List.getElem?_append, List.getElem?_take, List.getElem?_drop]
  have e : min off L.length = off := by omega
  rw [e]
  by_cases h1 : j < off
  · simp [h1]
  · rw [if_neg h1, if_neg h1]
    by_cases h2 : j < off + cs.length
    · rw [if_pos h2, if_pos (by omega)]
    · rw [if_neg h2, if_neg (by omega)]
      congr 1; omega
theorem Only.setRow {g : Nat} {w : World} (cs : Array Value) : Only (fun b => b = g) w (w.setRow g cs) :=
  ⟨rfl, rfl, rfl, by simp [World.setRow], fun k _ hk => setRow_other w g k cs hk⟩
/-- copy into a row that is known whole: only that block turns. -/
theorem wpList_copy_only {P : Program} {w : World} {ops : Array Oper} {rest : List Oper} {o : Oper} {a : Act} {Q : Exit → Act → World → Prop} (hgd : o.guard = none) (d s : Operand) (dT sT : TypeId)
    (ho : o.op = .call { callee := .builtin .copy, args := #[d, s], argTypes := #[dT, sT] }) (elem : TypeId) (hu : P.underlying dT = some (.slice elem)) (hsz : (P.info? elem).map (·.size) = some 1)
    (dp sp : Option Addr) (dLen dCap sLen sCap : Nat) (hd : a.eval d = .slice dp dLen dCap) (hs : a.eval s = .slice sp sLen sCap)
    (g off : Nat) (cur : List Value) (t : TypeId) (hg : Blk w g t cur) (cs : List Value) (hn : cs.length = Nat.min sLen dLen)
    (hpos : 0 < cs.length → dp = some ⟨g, off, none⟩ ∧ ∃ ad, sp = some ad ∧ ∀ j v, cs[j]? = some v → w.cell? (ad.add j) = some v)
    (hfit : off + cs.length ≤ cur.length) (h1 : ∀ v ∈ cs, v.oneCell' = true)
    (h : ∀ w', Hid (Blk w' g t (splice cur off cs)) → Only (fun b => b = g) w w' → wpList P ops Q rest (a.put o.dst (goInt cs.length)) w') :
    wpList P ops Q (o :: rest) a w := by
  by_cases h0 : cs.length = 0
  · obtain rfl : cs = [] := List.eq_nil_of_length_eq_zero h0
    refine wpList_copy_nothing hgd d s dT sT ho elem hu hsz dp sp dLen dCap sLen sCap hd hs (by simpa using hn.symm) ?_
    exact h w (show Blk _ _ _ _ by simpa [splice] using hg) (Only.refl _ _)
  · obtain ⟨rfl, ad, rfl, hsrc⟩ := hpos (by omega)
    refine wpList_copy_own hgd d s dT sT ho elem hu hsz g off dLen dCap ad sLen sCap hd hs cur.toArray t hg cs hn hsrc (by simpa using hfit) h1 ?_
    exact h _ (show _ = _ by simpa [splice] using setRow_heap w g _ _ t _ hg) (Only.setRow _)
theorem made_cells (z : Value) (n : Nat) (hz : z.cells = #[z]) : (madeCells z.cells (n * 1)).toList = List.replicate n z := by
  rw [Nat.mul_one, hz]
  apply List.ext_getElem
  · simp [madeCells]
  · intro i h1 h2
    simp [madeCells, Nat.mod_one]
end Go.Proofs.YtpgljahomeebhaaDoor
namespace Go.Proofs.YtpgljahomeebhaaDoor
open Go Go.RowKit

theorem hid {p : Prop} (h : p) : Hid p := h
theorem byte_bounds (s : ByteArray) (k : Nat) (h : k < s.size) : 0 ≤ (s[k].toNat : Int) ∧ (s[k].toNat : Int) ≤ 255 := by
  have := s[k].toNat_lt; omega
theorem keyB_all {s : ByteArray} (h1 : 1 ≤ s.size) (h2 : s.size ≤ 250) (h : ∀ j (hj : j < s.size), 33 ≤ s[j].toNat ∧ s[j].toNat ≠ 127) : keyB s.data.toList = true := by
  have : s.data.toList.all keyByte = true := by
    rw [List.all_eq_true]
    intro c hc
    obtain ⟨j, hj, rfl⟩ := List.getElem_of_mem hc
    have := h j (by rw [size_len]; exact hj)
    have e : s.data.toList[j] = s[j]'(by rw [size_len]; exact hj) := rfl
    rw [e]
    simpa [keyByte] using this
  unfold keyB
  rw [this, ← size_len]; simp; omega
theorem keyB_size {s : ByteArray} (h : s.size = 0 ∨ 250 < s.size) : keyB s.data.toList = false := by
  rw [Bool.eq_false_iff]; intro e
  have := keyB_parts e
  rw [← size_len] at this; omega
theorem keyB_byte {s : ByteArray} {k : Nat} (hk : k < s.size) (h : s[k].toNat < 33 ∨ s[k].toNat = 127) : keyB s.data.toList = false :=
  keyB_bad (c := s[k]) (by have e : s[k] = s.data.toList[k]'(by rw [← size_len]; exact hk) := rfl
                           rw [e]; exact List.getElem_mem _) h

set_option maxHeartbeats 1000000 in
set_option maxRecDepth 100000 in
theorem ref_key (s : ByteArray) (hs : s.size < 9223372036854775807) (w : World) :
    Calls Tryd.prog 35 #[.string s] w fun e w' => e = .returned (.bool (keyB s.data.toList)) ∧ w = w' := by
  go_enter Tryd.func35, Tryd.ntmps35
  go_wp2_with fail
  go_loop [3] (fun i => ∃ k : Nat, k ≤ s.size ∧ i = .int .i64 k ∧ ∀ j (hj : j < s.size), j < k → 33 ≤ s[j].toNat ∧ s[j].toNat ≠ 127) (fun i => s.size - (intOf i).toNat)
  case atStart => exact ⟨0, by omega, rfl, fun j hj h => by omega⟩
  case round =>
    obtain ⟨k, hk, rfl, HI⟩ := hrel
    by_cases hlt : k < s.size
    · by_cases h33 : s[k].toNat < 33
      · have HK : Hid (keyB s.data.toList = false) := hid (keyB_byte hlt (.inl h33))
        have i33 : (s[k].toNat : Int) < 33 := by omega
        clear HI
        go_wp2_with fail
        go_ret
        exact ⟨by rw [HK.out]; rfl, rfl⟩
      · have i33 : ¬ (s[k].toNat : Int) < 33 := by omega
        by_cases h127 : s[k].toNat = 127
        · have HK : Hid (keyB s.data.toList = false) := hid (keyB_byte hlt (.inr h127))
          have i127 : (s[k].toNat : Int) = 127 := by omega
          clear HI
          go_wp2_with fail
          go_ret
          exact ⟨by rw [HK.out]; rfl, rfl⟩
        · have i127 : ¬ (s[k].toNat : Int) = 127 := by omega
          have HN : ∀ j (hj : j < s.size), j < k + 1 → 33 ≤ s[j].toNat ∧ s[j].toNat ≠ 127 := by
            intro j hj hjk
            by_cases hjk : j = k
            · subst hjk; omega
            · exact HI j hj (by omega)
          clear HI
          go_wp2_with fail
          go_round
          case rel => exact ⟨k + 1, by omega, by go_num, HN⟩
          case measure => simp [intOf]; omega
    · have HA : Hid (∀ j (hj : j < s.size), 33 ≤ s[j].toNat ∧ s[j].toNat ≠ 127) := hid (fun j hj => HI j hj (by omega))
      clear HI
      by_cases h1 : 1 ≤ s.size
      · have i1 : (1 : Int) ≤ (s.size : Int) := by omega
        by_cases h2 : s.size ≤ 250
        · have i2 : (s.size : Int) ≤ 250 := by omega
          have HK : Hid (keyB s.data.toList = true) := hid (keyB_all h1 h2 HA.out)
          go_wp2_with fail
          go_ret
          exact ⟨by rw [HK.out]; rfl, rfl⟩
        · have i2 : ¬ (s.size : Int) ≤ 250 := by omega
          have HK : Hid (keyB s.data.toList = false) := hid (keyB_size (by omega))
          go_wp2_with fail
          go_ret
          exact ⟨by rw [HK.out]; rfl, rfl⟩
      · have i1 : ¬ (1 : Int) ≤ (s.size : Int) := by omega
        have HK : Hid (keyB s.data.toList = false) := hid (keyB_size (by omega))
        go_wp2_with fail
        go_ret
        exact ⟨by rw [HK.out]; rfl, rfl⟩

set_option maxRecDepth 100000 in
theorem key_empty (w : World) :
    Calls Tryd.prog 42 #[.string ⟨#[]⟩] w fun e w' => e = .returned (.bool false) ∧ w = w' := by
  go_enter Tryd.func42, Tryd.ntmps42
  go_wp2_with fail
  go_ret
  exact ⟨rfl, rfl⟩

theorem full_list {s : ByteArray} (h : 1 ≤ s.size) : s.toList.isEmpty = false := by
  rw [Lib.toList_data]
  cases e : s.data.toList with
  | nil => rw [size_len, e] at h; simp at h
  | cons a r => rfl

set_option maxHeartbeats 1000000 in
set_option maxRecDepth 100000 in
theorem key_long (s : ByteArray) (h : 250 < s.size) (w : World) :
    Calls Tryd.prog 42 #[.string s] w fun e w' => e = .returned (.bool false) ∧ w = w' := by
  have h0 := full_list (s := s) (by omega)
  have i2 : (250 : Int) < (s.size : Int) := by omega
  clear h
  go_enter Tryd.func42, Tryd.ntmps42
  go_wp2_with fail
  go_ret
  exact ⟨rfl, rfl⟩

set_option maxHeartbeats 1000000 in
set_option maxRecDepth 100000 in
theorem key_mid (s : ByteArray) (h1 : 1 ≤ s.size) (h2 : s.size ≤ 250) (w : World) :
    Calls Tryd.prog 42 #[.string s] w fun e w' => e = .returned (.bool (keyB s.data.toList)) ∧ w = w' := by
  have h0 := full_list h1
  have i2 : ¬ (250 : Int) < (s.size : Int) := by omega
  go_enter Tryd.func42, Tryd.ntmps42
  go_wp2_with fail
  clear h0
  go_loop [13] (fun i => ∃ k : Nat, k ≤ s.size ∧ i = .int .i64 k ∧ ∀ j (hj : j < s.size), j < k → 33 ≤ s[j].toNat ∧ s[j].toNat ≠ 127) (fun i => s.size - (intOf i).toNat)
  case atStart => exact ⟨0, by omega, rfl, fun j hj h => by omega⟩
  case round =>
    obtain ⟨k, hk, rfl, HI⟩ := hrel
    by_cases hlt : k < s.size
    · by_cases h33 : s[k].toNat < 33
      · have HK : Hid (keyB s.data.toList = false) := hid (keyB_byte hlt (.inl h33))
        have i33 : (s[k].toNat : Int) < 33 := by omega
        clear HI
        go_wp2_with fail
        go_ret
        exact ⟨by rw [HK.out]; rfl, rfl⟩
      · have i33 : ¬ (s[k].toNat : Int) < 33 := by omega
        by_cases h127 : s[k].toNat = 127
        · have HK : Hid (keyB s.data.toList = false) := hid (keyB_byte hlt (.inr h127))
          have i127 : (s[k].toNat : Int) = 127 := by omega
          clear HI
          go_wp2_with fail
          go_ret
          exact ⟨by rw [HK.out]; rfl, rfl⟩
        · have i127 : ¬ (s[k].toNat : Int) = 127 := by omega
          have HN : ∀ j (hj : j < s.size), j < k + 1 → 33 ≤ s[j].toNat ∧ s[j].toNat ≠ 127 := by
            intro j hj hjk
            by_cases hjk : j = k
            · subst hjk; omega
            · exact HI j hj (by omega)
          clear HI
          go_wp2_with fail
          go_round
          case rel => exact ⟨k + 1, by omega, by go_num, HN⟩
          case measure => simp [intOf]; omega
    · have HK : Hid (keyB s.data.toList = true) := hid (keyB_all h1 h2 (fun j hj => HI j hj (by omega)))
      clear HI
      go_wp2_with fail
      go_ret
      exact ⟨by rw [HK.out]; rfl, rfl⟩

theorem key_any (s : ByteArray) (w : World) :
    Calls Tryd.prog 42 #[.string s] w fun e w' => e = .returned (.bool (keyB s.data.toList)) ∧ w = w' := by
  by_cases h0 : s.size = 0
  · have e0 : s.data.toList = [] := List.eq_nil_of_length_eq_zero (by rw [← size_len]; exact h0)
    have e : s = ⟨#[]⟩ := by rw [← S_of s, e0]; rfl
    subst e; exact key_empty w
  · by_cases h : 250 < s.size
    · rw [keyB_size (.inr h)]; exact key_long s h w
    · exact key_mid s (by omega) (by omega) w
end Go.Proofs.YtpgljahomeebhaaDoor
namespace Go.Proofs.YtpgljahomeebhaaDoor
open Go Go.RowKit Go.Lib

def It.cells (x : It) : List Value := [.string x.key, .int .u32 x.flags, .string x.val, .int .i64 x.exp, .int .u64 x.cas, .int .i64 x.last, .bool x.stale, .bool x.won]
def It.v (x : It) : Value := .agg x.cells.toArray

def cntB (n : Int) : Bool := decide (0 ≤ n) && decide (n ≤ 65536)
def sizeZ (k v : Int) : Int := if cntB k = true ∧ cntB v = true then 40 + k + v else -1

end Go.Proofs.YtpgljahomeebhaaDoor
namespace Go.Proofs.YtpgljahomeebhaaDoor
open Go Go.RowKit Go.Lib

theorem right_cases (k v : ByteArray) (x l : Int) : (keyB k.data.toList = false ∧ (⟨k, 0, v, x, 0, l, false, false⟩ : It).right = false) ∨
    (keyB k.data.toList = true ∧ ¬ v.size ≤ 65536 ∧ (⟨k, 0, v, x, 0, l, false, false⟩ : It).right = false) ∨
    (keyB k.data.toList = true ∧ v.size ≤ 65536 ∧ x < 0 ∧ (⟨k, 0, v, x, 0, l, false, false⟩ : It).right = false) ∨
    (keyB k.data.toList = true ∧ v.size ≤ 65536 ∧ 0 ≤ x ∧ l < 0 ∧ (⟨k, 0, v, x, 0, l, false, false⟩ : It).right = false) ∨
    (keyB k.data.toList = true ∧ v.size ≤ 65536 ∧ 0 ≤ x ∧ 0 ≤ l ∧ (⟨k, 0, v, x, 0, l, false, false⟩ : It).right = true) := by
  unfold It.right
  cases keyB k.data.toList with
  | false => exact .inl ⟨rfl, rfl⟩
  | true =>
    by_cases h1 : v.size ≤ 65536
    · by_cases h2 : 0 ≤ x
      · by_cases h3 : 0 ≤ l
        · exact .inr (.inr (.inr (.inr ⟨rfl, h1, h2, h3, by simp [h1, h2, h3]⟩)))
        · exact .inr (.inr (.inr (.inl ⟨rfl, h1, h2, by omega, by simp [h3]⟩)))
      · exact .inr (.inr (.inl ⟨rfl, h1, by omega, by simp [h2]⟩))
    · exact .inr (.inl ⟨rfl, h1, by simp [h1]⟩)

set_option maxHeartbeats 2000000 in
set_option maxRecDepth 100000 in
theorem ref_right (x : It) (w : World) (hs : x.key.size < 9223372036854775807) : Calls Tryd.prog 20 #[x.v] w fun e w' => e = .returned (.bool x.right) ∧ Below w.heap.size w w' := by
  obtain ⟨k, f, v, x, c, l, s, o⟩ := x
  show Calls Tryd.prog 20 #[.agg #[.string k, .int .u32 f, .string v, .int .i64 x, .int .u64 c, .int .i64 l, .bool s, .bool o]] w fun e w' => e = .returned (.bool (⟨k, 0, v, x, 0, l, false, false⟩ : It).right) ∧ Below w.heap.size w w'
  have hk := fun w => ref_key k hs w
  clear hs
  rcases right_cases k v x l with ⟨h1, e⟩ | ⟨h1, h2, e⟩ | ⟨h1, h2, h3, e⟩ | ⟨h1, h2, h3, h4, e⟩ | ⟨h1, h2, h3, h4, e⟩
  all_goals
    rw [h1] at hk
    rw [e]
    clear h1 e
    go_enter Tryd.func20, Tryd.ntmps20
    go_wp2_with fail
    refine (hk _).mono ?_
    rintro e w1 ⟨rfl, rfl⟩
    go_wp2_with fail
    go_ret
    exact ⟨by first | rfl | exact ret_bool (decide_eq_false (by omega)), (Below.refl _ _).alloc (Nat.le_refl _) _⟩

end Go.Proofs.YtpgljahomeebhaaDoor
namespace Go.Proofs.YtpgljahomeebhaaDoor.Md
open Go Go.RowKit Go.Lib

/-! Rows of items as cells -/
def ics (l : List It) : List Value := l.flatMap It.cells
theorem cells_len (x : It) : x.cells.length = 8 := rfl
theorem ics_nil : ics [] = [] := rfl
theorem ics_cons (x : It) (l : List It) : ics (x :: l) = x.cells ++ ics l := rfl
theorem ics_app (a b : List It) : ics (a ++ b) = ics a ++ ics b := by unfold ics; exact List.flatMap_append
theorem ics_len (l : List It) : (ics l).length = l.length * 8 := by
  induction l with
  | nil => rfl
  | cons x l ih => rw [ics_cons, List.length_append, cells_len, ih, List.length_cons]; omega
theorem ics_at {l : List It} {i j : Nat} {x : It} {u : Value} (h : l[i]? = some x) (hj : x.cells[j]? = some u) : (ics l)[i * 8 + j]? = some u := by
  have hj8 : j < 8 := by have := (List.getElem?_eq_some_iff.1 hj).1; rwa [cells_len] at this
  induction l generalizing i with
  | nil => simp at h
  | cons y l ih =>
    rw [ics_cons]
    cases i with
    | zero =>
      simp at h; subst h
      rw [Nat.zero_mul, Nat.zero_add, List.getElem?_append_left (by rw [cells_len]; exact hj8)]; exact hj
    | succ i =>
      rw [List.getElem?_append_right (by rw [cells_len]; omega), cells_len, show (i + 1) * 8 + j - 8 = i * 8 + j by omega]
      exact ih (by simpa using h)
theorem ics_ok (l : List It) : ∀ u ∈ ics l, u.oneCell' = true := by
  intro u hu
  obtain ⟨x, _, hx⟩ := List.mem_flatMap.1 hu
  simp only [It.cells, List.mem_cons, List.not_mem_nil, or_false] at hx
  rcases hx with rfl | rfl | rfl | rfl | rfl | rfl | rfl | rfl <;> rfl
/-- A slice of items that can be read. -/
def Its (w : World) (v : Value) (l : List It) : Prop :=
  ∃ a c, v = .slice a l.length c ∧ l.length ≤ c ∧ (a = none → c = 0) ∧ ∀ (i : Nat) x, l[i]? = some x → ∃ b o, a = some ⟨b, o, none⟩ ∧ ∀ j u, x.cells[j]? = some u → w.cell? ⟨b, o + i * 8 + j, none⟩ = some u
theorem Its.below {w w' : World} {v : Value} {l : List It} (h : Its w v l) (hb : Below w.heap.size w w') : Its w' v l := by
  obtain ⟨a, c, hv, hc, hn, hx⟩ := h
  refine ⟨a, c, hv, hc, hn, fun i x hi => ?_⟩
  obtain ⟨b, o, ha, hy⟩ := hx i x hi
  refine ⟨b, o, ha, fun j u hj => ?_⟩
  have h1 := hy j u hj
  exact (hb.cell (p := ⟨b, o + i * 8 + j, none⟩) (cell_lt h1)).trans h1
theorem Its.form {w : World} {v : Value} {l : List It} (h : Its w v l) : ∃ a c, v = .slice a l.length c := by obtain ⟨a, c, hv, _⟩ := h; exact ⟨a, c, hv⟩
theorem its_nil (w : World) : Its w (.slice none 0 0) [] := ⟨none, 0, rfl, Nat.le_refl _, fun _ => rfl, fun i x hi => by simp at hi⟩
theorem its_of_row {w : World} {n₀ n : Nat} {v : Value} {l : List It} (h : w.ownsRow n₀ 33 8 v n (ics l)) (hn : n = l.length) : Its w v l := by
  subst hn
  have hcs := @World.ownsRow.cells _ _ _ _ _ _ _ h
  rcases h.2 with ⟨rfl, h0⟩ | ⟨g, cap, cur, rfl, hb, hg, hcap, _⟩
  · refine ⟨none, 0, by rw [h0], by omega, fun _ => rfl, fun j x hj => ?_⟩
    rw [List.eq_nil_of_length_eq_zero h0] at hj; simp at hj
  · refine ⟨some ⟨g, 0, none⟩, cap, rfl, hcap, fun e => (by cases e), fun i x hi => ⟨g, 0, rfl, fun j u hj => ?_⟩⟩
    have h1 := hcs (g := g) rfl (i * 8 + j) u (ics_at hi hj)
    rw [addr_plain] at h1
    rw [← Nat.add_assoc] at h1
    exact h1
/-! Values -/
def Cm.cells (c : Cm) : List Value := [.int .i64 c.op, .int .i64 c.mode, .string c.key, .string c.val, .int .u32 c.flags, .int .i64 c.exp, .bool c.hasExp, .int .u64 c.cas, .bool c.hasCas, .int .u64 c.delta, .int .u64 c.init, .bool c.down, .bool c.viv, .int .i64 c.vive, .int .i64 c.rcc, .bool c.inv]
def Cm.v (c : Cm) : Value := .agg c.cells.toArray
/-- The cells of an answer: its item's stand among them. -/
def An.cells (a : An) : List Value := [.int .i64 a.st, .string a.it.key, .int .u32 a.it.flags, .string a.it.val, .int .i64 a.it.exp, .int .u64 a.it.cas, .int .i64 a.it.last, .bool a.it.stale, .bool a.it.won, .int .u64 a.n, .bool a.w, .bool a.x, .bool a.z]
def An.v (a : An) : Value := .agg a.cells.toArray
def msv (v : Value) (cas : Nat) (fl : Int) : Value := .agg #[v, .int .u64 cas, .int .i64 fl]
/-- A state as a value whose items can be read. -/
def Sv (w : World) (V : Value) (s : Ms) : Prop := ∃ v, V = msv v s.cas s.fl ∧ Its w v s.its
theorem Sv.below {w w' : World} {V : Value} {s : Ms} (h : Sv w V s) (hb : Below w.heap.size w w') : Sv w' V s := by obtain ⟨v, e, k⟩ := h; exact ⟨v, e, k.below hb⟩
end Go.Proofs.YtpgljahomeebhaaDoor.Md
namespace Go.Proofs.YtpgljahomeebhaaDoor.Md
open Go Go.RowKit Go.Lib

theorem abelow (w : World) (o : Obj) : Below w.heap.size w (w.alloc o) := (Below.refl _ _).alloc (Nat.le_refl _) o
set_option maxRecDepth 100000 in
theorem ref_moment (now e : Int) (h1 : 1 ≤ now) (h2 : now ≤ 1099511627776) (w : World) : Calls Tryd.prog 27 #[.int .i64 now, .int .i64 e] w fun x w' => x = .returned (.int .i64 (moment now e)) ∧ w = w' := by
  have hc : e = 0 ∨ (e < 0 ∧ e ≠ 0) ∨ (0 < e ∧ ¬ e < 0 ∧ e ≠ 0 ∧ e ≤ 2592000) ∨ (2592000 < e ∧ ¬ e < 0 ∧ e ≠ 0 ∧ ¬ e ≤ 2592000) := by omega
  rcases hc with rfl | ⟨a, b⟩ | ⟨a, b, c, d⟩ | ⟨a, b, c, d⟩
  · go_enter Tryd.func27, Tryd.ntmps27
    go_wp2_with fail
    go_ret
    exact ⟨rfl, rfl⟩
  · have hm : Hid (moment now e = now) := hid (by unfold moment; rw [if_neg b, if_pos a])
    have b' : (e == 0) = false := beq_eq_false_iff_ne.2 b
    go_enter Tryd.func27, Tryd.ntmps27
    go_wp2_with fail
    go_ret
    exact ⟨ret_i64 hm.out.symm, rfl⟩
  · have hm : Hid (moment now e = now + e) := hid (by unfold moment; rw [if_neg c, if_neg b, if_pos d])
    have b' : (e == 0) = false := beq_eq_false_iff_ne.2 c
    obtain ⟨s, hs⟩ : ∃ s, s = now + e := ⟨_, rfl⟩
    have q1 : now + e = s := hs.symm
    have q2 : IntKind.i64.wrap s = s := by rw [IntKind.wrap_i64]; omega
    have HS := hid hs
    clear hs
    go_enter Tryd.func27, Tryd.ntmps27
    go_wp2_with fail
    go_ret
    exact ⟨ret_i64 (by rw [hm.out, HS.out]), rfl⟩
  · have hm : Hid (moment now e = e) := hid (by unfold moment; rw [if_neg c, if_neg b, if_neg d])
    have b' : (e == 0) = false := beq_eq_false_iff_ne.2 c
    go_enter Tryd.func27, Tryd.ntmps27
    go_wp2_with fail
    go_ret
    exact ⟨ret_i64 hm.out.symm, rfl⟩
set_option maxRecDepth 100000 in
theorem ref_gone (x : It) (now : Int) (w : World) : Calls Tryd.prog 36 #[x.v, .int .i64 now] w fun e w' => e = .returned (.bool (gone now x)) ∧ Below w.heap.size w w' := by
  obtain ⟨k, f, v, e, c, l, s, o⟩ := x
  show Calls Tryd.prog 36 #[.agg #[.string k, .int .u32 f, .string v, .int .i64 e, .int .u64 c, .int .i64 l, .bool s, .bool o], .int .i64 now] w fun x w' => x = .returned (.bool (gone now ⟨k, f, v, e, c, l, s, o⟩)) ∧ Below w.heap.size w w'
  have HB := hid (abelow w)
  by_cases h0 : e = 0
  · have hg : Hid (gone now ⟨k, f, v, e, c, l, s, o⟩ = false) := hid (by unfold gone; simp [h0])
    subst h0
    go_enter Tryd.func36, Tryd.ntmps36
    go_wp2_with fail
    go_ret
    exact ⟨ret_bool hg.out.symm, HB.out _⟩
  · have h0' : (e == 0) = false := beq_eq_false_iff_ne.2 h0
    have hg : Hid (gone now ⟨k, f, v, e, c, l, s, o⟩ = decide (e ≤ now)) := hid (by unfold gone; simp [h0])
    go_enter Tryd.func36, Tryd.ntmps36
    go_wp2_with fail
    go_ret
    exact ⟨ret_bool (by rw [hg.out]; simp [h0]), HB.out _⟩
end Go.Proofs.YtpgljahomeebhaaDoor.Md

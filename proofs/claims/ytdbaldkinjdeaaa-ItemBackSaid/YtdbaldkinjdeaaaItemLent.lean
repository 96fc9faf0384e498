/-
  A copy of bytes of the call's own, and how bytes are looked at. No conditions.
-/
import Derived.Test.YtdbaldkinjdeaaaItemBits
import Derived.Laws.AppendOwnNone
namespace Go.Proofs.Ytdbaldkinjdeaaa
open Go Go.RowKit Go.Lib

theorem decV_form (o : Option It) : ∃ (z : It) (ec : Int), decV o = .tuple #[z.v, .int .i64 ec] := by
  cases o with
  | none => exact ⟨zero, 9, rfl⟩
  | some x => exact ⟨x, 0, rfl⟩
theorem Byts.cells {w : World} {ad : Addr} {n c : Nat} {l : List UInt8} (h : Byts w (.slice (some ad) n c) l) {j : Nat} {v : Value} (hj : (bc l)[j]? = some v) : w.cell? (ad.add j) = some v := by
  obtain ⟨a, c', e, hx⟩ := h
  cases e
  have hjl : j < l.length := by
    have := (List.getElem?_eq_some_iff.1 hj).1
    rwa [bc_len] at this
  rw [bc_at (List.getElem?_eq_getElem hjl)] at hj
  obtain ⟨g, o, ha, _, hc⟩ := hx j l[j] (List.getElem?_eq_getElem hjl)
  cases ha
  rw [addr_plain, hc]; exact hj
theorem Byts.look {w : World} {a : Option Addr} {n c : Nat} {l : List UInt8} (h : Byts w (.slice a n c) l) {j : Nat} {b : UInt8} (hj : l[j]? = some b) : ∃ g o, a = some ⟨g, o, none⟩ ∧ w.cell? ⟨g, o + j, none⟩ = some (.int .u8 (b.toNat : Int)) := by
  obtain ⟨a', c', e, hx⟩ := h
  cases e
  obtain ⟨g, o, ha, _, hc⟩ := hx j b hj
  exact ⟨g, o, ha, hc⟩
theorem Byts.none_ {w : World} {n c : Nat} {l : List UInt8} (h : Byts w (.slice none n c) l) (hl : l.length = n) : n = 0 := by
  obtain ⟨a', c', e, hx⟩ := h
  cases e
  by_cases h0 : 0 < l.length
  · obtain ⟨g, o, ha, _⟩ := hx 0 l[0] (List.getElem?_eq_getElem h0)
    cases ha
  · omega

/-- A copy of bytes, of the call's own. -/
def Lent (w0 : World) (n : Nat) (l : List UInt8) (v : Value) (wx : World) : Prop :=
  ∃ gl cp cur, v = .slice (some ⟨gl, 0, none⟩) n cp ∧ n ≤ cp ∧ w0.heap.size ≤ gl ∧ Blk wx gl 5 cur ∧ (∀ (j : Nat) b, l[j]? = some b → cur[j]? = some (.int .u8 (b.toNat : Int))) ∧ Below w0.heap.size w0 wx
theorem lent_of {w0 wx : World} {n : Nat} {l : List UInt8} {v : Value} (h : wx.ownsRow w0.heap.size 5 1 v n (bc l)) (hv : v ≠ .slice none 0 0) (hb : Below w0.heap.size w0 wx) : Lent w0 n l v wx := by
  rcases h.2 with ⟨e, _⟩ | ⟨g, c, cur, e, hg0, hg, hcap, _, _, ht⟩
  · exact (hv e).elim
  · refine ⟨g, c, cur.toList, e, hcap, hg0, by unfold Blk; rw [Array.toArray_toList]; exact hg, fun j b hj => ?_, hb⟩
    have h2 := bc_at hj
    rw [← ht, List.getElem?_take] at h2
    split at h2
    · exact h2
    · cases h2
theorem lent_byts {wx : World} {n gl cp : Nat} {l : List UInt8} {cur : List Value} (h : Blk wx gl 5 cur) (hc : ∀ (j : Nat) b, l[j]? = some b → cur[j]? = some (.int .u8 (b.toNat : Int))) (hl : l.length = n) : Byts wx (.slice (some ⟨gl, 0, none⟩) n cp) l :=
  ⟨some ⟨gl, 0, none⟩, cp, by rw [hl], fun j b hj => ⟨gl, 0, rfl, h.lt, by rw [Nat.zero_add]; exact h.cell (hc j b hj)⟩⟩
theorem xor_same (x : Int) : bits .xor .u8 x x = 0 := by
  show IntKind.u8.wrap (((BitVec.ofInt 8 x ^^^ BitVec.ofInt 8 x).toNat : Nat) : Int) = 0
  rw [BitVec.xor_self]; rfl
end Go.Proofs.Ytdbaldkinjdeaaa

/-
  A row of bytes that is filled, and rows beside a slab that are appended to. No conditions.
-/
import Derived.Test.YtldfpacdlephcaaSlabCutAt
namespace Go.Proofs.Ytldfpacdlephcaa
open Go Go.RowKit Go.Lib

/-- Bytes while they are filled: j of z are k. -/
def bf (k z j : Nat) : List Value := List.replicate j (Value.int .u8 (k : Int)) ++ List.replicate (z - j) (Value.int .u8 0)
theorem bf_zero (k z : Nat) : (madeCells (Value.int .u8 0).cells (z * 1)).toList = bf k z 0 := by
  rw [made_cells _ _ rfl]; simp [bf]
theorem bf_made (k z : Nat) : (madeCells #[Value.int .u8 0] z).toList = bf k z 0 := by
  have := bf_zero k z
  rw [Nat.mul_one] at this
  exact this
theorem bf_at {k z j : Nat} (h : j < z) : (bf k z j)[j]? = some (Value.int .u8 0) := by
  unfold bf
  rw [List.getElem?_append_right (by simp), List.length_replicate, List.getElem?_replicate, if_pos (by omega)]
theorem bf_set {k z j : Nat} (h : j < z) : (bf k z j).set j (Value.int .u8 (k : Int)) = bf k z (j + 1) := by
  unfold bf
  obtain ⟨r, hr⟩ : ∃ r, z - j = r + 1 := ⟨z - j - 1, by omega⟩
  have hr' : z - (j + 1) = r := by omega
  rw [hr, hr', List.set_append_right _ _ (by simp), List.length_replicate, Nat.sub_self, List.replicate_succ, List.set_cons_zero, List.replicate_succ', List.append_assoc]
  rfl
theorem bf_all {k : Nat} (hk : k < 256) (z : Nat) : bf k z z = bc (List.replicate z (UInt8.ofNat k)) := by
  have e : ((UInt8.ofNat k).toNat : Int) = (k : Int) := by
    rw [UInt8.toNat_ofNat']; omega
  unfold bf bc
  rw [Nat.sub_self, List.replicate_zero, List.append_nil, List.map_replicate, e]
theorem blk_byts {w : World} {g c : Nat} {l : List UInt8} (h : Blk w g 5 (bc l)) : Byts w (.slice (some ⟨g, 0, none⟩) l.length c) l :=
  ⟨_, _, rfl, fun j b hj => ⟨g, 0, rfl, h.lt, by rw [Nat.zero_add]; exact h.cell (bc_at hj)⟩⟩
theorem rows_apart {w : World} {base base' n n' : Nat} {v v' : Value} {xs xs' : List Value} (h : w.ownsRow base 3 1 v n xs) (h' : w.ownsRow base' 5 1 v' n' xs') : ∀ b, v.ownBlock = some b → ¬ v'.ownBlock = some b := fun b hb hb' => by
  obtain ⟨cs, h1⟩ := own_blk h hb
  obtain ⟨cs', h2⟩ := own_blk h' hb'
  exact Blk.ne h1 h2 (by decide) rfl
/-- A row of the call's own is appended to: what turns. -/
theorem app_row_only {w w1 : World} {tmp : Obj} {v : Value} (hg : (w.alloc tmp).grownBy w1 v.ownBlock) : Only (fun b => v.ownBlock = some b ∨ w.heap.size ≤ b) w w1 :=
  ((Only.refl (fun b => v.ownBlock = some b ∨ w.heap.size ≤ b) w).alloc tmp).trans (E := fun b => v.ownBlock = some b) ⟨hg.os, hg.tape, hg.output, hg.size, fun k hk hne => hg.block k hk (fun e => hne e.symm)⟩ (fun _ hx => .inl (.inl hx))
theorem HasX.appG {w0 : World} {P : Nat} {s : Sl} {w w1 : World} {G G' : Nat → Prop} {e : TypeId} {v : Value} {n : Nat} {xs : List Value} (h : HasX w0 P s G w) (hv : ∀ b, v.ownBlock = some b → G b) (hown : w.ownsRow w0.heap.size e 1 v n xs) (ho : Only (fun b => v.ownBlock = some b ∨ w.heap.size ≤ b) w w1) (hG' : ∀ b, G' b → G b ∨ w.heap.size ≤ b) : HasX w0 P s G' w1 :=
  h.turn ho (fun b hb => hb.elim (fun e => .inl (hv b e)) .inr) hG' (fun b hb => hb.elim (own_ge hown b) (Nat.le_trans h.2.1.size))
theorem own_beside {w w1 : World} {base : Nat} {e : TypeId} {v u : Value} {n : Nat} {xs : List Value} (h : w.ownsRow base e 1 u n xs) (ho : Only (fun b => v.ownBlock = some b ∨ w.heap.size ≤ b) w w1) (hd : ∀ b, v.ownBlock = some b → ¬ u.ownBlock = some b) : w1.ownsRow base e 1 u n xs :=
  own_only h ho (fun b hb hx => hx.elim (fun e => hd b e hb) (fun hle => Nat.lt_irrefl _ (Nat.lt_of_lt_of_le (own_lt h b hb) hle)))
theorem one_byte (x : Int) : ∀ u ∈ [Value.int .u8 x], u.oneCell' = true := by
  intro u hu; simp at hu; subst hu; rfl
theorem bc_app (l : List UInt8) {k : Nat} (hk : k < 256) : bc l ++ [Value.int .u8 (k : Int)] = bc (l ++ [UInt8.ofNat k]) := by
  have e : ((UInt8.ofNat k).toNat : Int) = (k : Int) := by
    rw [UInt8.toNat_ofNat']; omega
  unfold bc
  rw [List.map_append, List.map_cons, List.map_nil, e]
theorem rep_cell {w : World} {base g c z : Nat} {m : UInt8} (h : w.ownsRow base 5 1 (.slice (some ⟨g, 0, none⟩) z c) z (bc (List.replicate z m))) {i : Nat} (hi : i < z) : w.cell? ⟨g, i, none⟩ = some (.int .u8 (m.toNat : Int)) :=
  byte_cell (l := List.replicate z m) (by rw [List.length_replicate]; exact h) (by rw [List.getElem?_replicate, if_pos hi])
theorem get_all {held : List Nat} {marks : List UInt8} {s : Sl} (h : Hm held marks s) {j x : Nat} {m : UInt8} (hx : held[j]? = some x) (hm : marks[j]? = some m) : s.usedN x = true ∧ s.get (x : Int) ((s.zAt x : Nat) : Int) = (0, List.replicate (s.zAt x) m) ∧ 64 ≤ s.zAt x ∧ s.zAt x ≤ 65536 ∧ x < 4194304 := by
  have hu := h.us x (List.mem_of_getElem? hx)
  obtain ⟨_, _, h3, h4⟩ := h.ok.within hu
  have hs := h.ok.ao.s2
  obtain ⟨kk, hkk, _⟩ := Sl.usedN_true hu
  have h5 := h.ok.cut_1024 hkk
  refine ⟨hu, ?_, h4, by omega, by omega⟩
  rw [Sl.get_yes hu (Nat.le_refl _)]
  have := h.by' j x m hx hm
  unfold Sl.bys at this
  rw [this]
end Go.Proofs.Ytldfpacdlephcaa

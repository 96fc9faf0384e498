/-
  Laws for a region that draws its order with several appends and a last store; a chunk put into the row of the used ones. No conditions.
-/
import Derived.Test.YtldfpacdlephcaaSlabRefLay
import Derived.Test.YtldfpacdlephcaaSlabHeld
import Derived.Test.YtldfpacdlephcaaM7
import Derived.Laws.OwnMore
namespace Go.Proofs.Ytldfpacdlephcaa
open Go Go.RowKit Go.Lib

section
variable {P : Program} {ops : Array Oper} {Q : Exit → Act → World → Prop} {md : Region.Mode} {S : World → Prop} {st : Nat}
/-- One of two may come up. -/
theorem wpAnyE_two {i j : Nat} {oi oj : Oper} {fuel : Nat} {listed : Array Bool} {a : Act} {w : World} (hoi : ops[i]? = some oi) (hoj : ops[j]? = some oj) (hr : Region.ready md ops listed = [i, j])
    (hi : ∀ K : Act → World → Prop, (∀ a' w', ((listed.setIfInBounds i true).getD st true = false → S w') → wpAnyE P md ops Q S st fuel (listed.setIfInBounds i true) a' w' → K a' w') → if Region.wanted oi (yielded ops a.tmps) = true then Oper.wp P oi a w K Q else K (a.put oi.dst undef) w)
    (hj : ∀ K : Act → World → Prop, (∀ a' w', ((listed.setIfInBounds j true).getD st true = false → S w') → wpAnyE P md ops Q S st fuel (listed.setIfInBounds j true) a' w' → K a' w') → if Region.wanted oj (yielded ops a.tmps) = true then Oper.wp P oj a w K Q else K (a.put oj.dst undef) w) :
    wpAnyE P md ops Q S st (fuel + 1) listed a w := by
  refine ⟨fun h => (by rw [hr] at h; cases h), fun m hm => ?_⟩
  rw [hr] at hm
  have key : ∀ {n : Nat} {o : Oper}, ops[n]? = some o → (∀ K : Act → World → Prop, (∀ a' w', ((listed.setIfInBounds n true).getD st true = false → S w') → wpAnyE P md ops Q S st fuel (listed.setIfInBounds n true) a' w' → K a' w') → if Region.wanted o (yielded ops a.tmps) = true then Oper.wp P o a w K Q else K (a.put o.dst undef) w) →
      wpOp P ops Q n (fun a' w' => ((listed.setIfInBounds n true).getD st true = false → S w') ∧ wpAnyE P md ops Q S st fuel (listed.setIfInBounds n true) a' w') a w := fun {n o} ho hs => by
    unfold wpOp
    rw [ho]
    dsimp only
    have h1 := hs (fun a' w' => ((listed.setIfInBounds n true).getD st true = false → S w') ∧ wpAnyE P md ops Q S st fuel (listed.setIfInBounds n true) a' w') (fun a' w' h1 h2 => ⟨h1, h2⟩)
    split
    · rename_i hw
      rw [if_pos hw] at h1
      exact .inl h1
    · rename_i hw
      rw [if_neg hw] at h1
      exact h1
  have hm' : m = i ∨ m = j := by simpa using hm
  rcases hm' with rfl | rfl
  · exact key hoi hi
  · exact key hoj hj
end

/-- What is appended: cells that lie somewhere, or nothing. -/
def Srcs (w : World) (x : Value) (m : Nat) (news : List Value) : Prop :=
  (∃ ad c, x = .slice (some ad) m c ∧ news.length = m * 1 ∧ ∀ j u, news[j]? = some u → w.cell? (ad.add j) = some u) ∨ (x = .slice none 0 0 ∧ m = 0 ∧ news = [])
theorem Srcs.below {w w' : World} {x : Value} {m : Nat} {news : List Value} (h : Srcs w x m news) (hb : Below w.heap.size w w') : Srcs w' x m news := by
  rcases h with ⟨ad, c, h1, h2, h3⟩ | h
  · exact .inl ⟨ad, c, h1, h2, fun j u hj => by
      have h4 := h3 j u hj
      exact (hb.cell (cell_lt h4)).trans h4⟩
  · exact .inr h
theorem step_append_src {P : Program} (w : World) {ops : Array Oper} {o : Oper} {a : Act} {K : Act → World → Prop} {Q : Exit → Act → World → Prop} {E : Prop} (hgd : o.guard = none) (s x : Operand) (t : TypeId)
    (ho : o.op = .call { callee := .builtin .append, args := #[s, x], argTypes := #[t, t] })
    (base : Nat) (e : TypeId) (i : TypeInfo) (z : Value) (bytes : Nat) (ht : P.underlying t = some (.slice e)) (hi : P.info? e = some i) (hz : i.zero = some z)
    (hsize : i.size = 1) (hby : i.bytes = bytes) (hzs : z.cells.size = 1)
    (v : Value) (n : Nat) (xs : List Value) (hs : a.eval s = v) (hown : w.ownsRow base e 1 v n xs)
    (xv : Value) (m : Nat) (news : List Value) (hx : a.eval x = xv) (hsrc : Srcs w xv m news) (h1 : ∀ u ∈ news, u.oneCell' = true)
    (h63 : n + m ≤ maxLen) (hbytes : (n + m) * bytes ≤ 140737488355328) (hbase : base ≤ w.heap.size) (N : Nat) (hN : n + m = N)
    (h : ∀ v' w', w'.ownsRow base e 1 v' N (xs ++ news) → w.grownBy w' v.ownBlock → (v'.ownBlock = v.ownBlock ∨ v'.ownBlock = some w.heap.size) → K (a.put o.dst v') w') :
    if Region.wanted o (yielded ops a.tmps) = true then Oper.wp P o a w K Q else E := by
  rcases hsrc with ⟨ad, c, rfl, hl, hc⟩ | ⟨rfl, rfl, rfl⟩
  · exact step_append_more w hgd s x t ho base e i z 1 bytes ht hi hz hsize hby hzs (by omega) v n xs hs hown ad m c news hx hl hc h1 h63 hbytes hbase N hN h
  · have hw : Region.wanted o (yielded ops a.tmps) = true := by simp [Region.wanted, hgd]
    rw [if_pos hw]
    have hrun := run_append_owned_none (P := P) (w := w) base t o.type e i 1 ht hi v n xs hown
    unfold Oper.wp execOp
    simp only [ho, resolve, invoke, builtin, Sem.run_bind, Sem.run_pure, Result.andThen_ok, List.map_toArray, List.map_cons, List.map_nil, hs, hx, hrun]
    refine h v w ?_ ⟨rfl, rfl, rfl, Nat.le_refl _, fun _ _ _ => rfl⟩ (.inl rfl)
    rw [List.append_nil, ← hN]; exact hown

/-! The row of the used chunks -/
theorem mark_shut {s : Sl} (x : Nat) (b : Bool) (p : Nat) : (∃ k, (s.mark x b).cut p = some k ∧ k.closed = true) ↔ ∃ k, s.cut p = some k ∧ k.closed = true := by
  cases hk : s.cut (x / 4096) with
  | none => unfold Sl.mark; rw [hk]
  | some k0 =>
    rw [Sl.mark_at b hk]
    show (∃ k, upd s.cut (x / 4096) (some (k0.mark (x % 4096) b)) p = some k ∧ _) ↔ _
    by_cases e : p = x / 4096
    · subst e
      rw [upd_same, hk]
      constructor
      · rintro ⟨k, h1, h2⟩
        cases h1
        exact ⟨k0, rfl, h2⟩
      · rintro ⟨k, h1, h2⟩
        cases h1
        exact ⟨_, rfl, h2⟩
    · rw [upd_ne _ _ e]
theorem rf_mark (s : Sl) (x : Nat) (b : Bool) (tk cl : List Nat) : rf (s.mark x b) tk cl = rf s tk cl := by
  obtain ⟨h1, h2, h3⟩ := s.mark_sz x b
  unfold rf
  rw [h1, h2, h3]
theorem Ag.ins {s s' : Sl} {tk cl : List Nat} (h : Ag s tk cl) {k x : Nat} (h1 : ∀ y ∈ tk.take k, y < x) (h2 : ∀ y ∈ tk.drop k, x < y)
    (hT : ∀ y, s'.usedN y = if y = x then true else s.usedN y) (hc : ∀ p, (∃ k, s'.cut p = some k ∧ k.closed = true) ↔ ∃ k, s.cut p = some k ∧ k.closed = true) : Ag s' (([] ++ tk.take k) ++ [x] ++ tk.drop k) cl := by
  have hs := h.srt
  rw [← List.take_append_drop k tk, List.pairwise_append] at hs
  obtain ⟨a1, a2, a3⟩ := hs
  refine ⟨?_, fun y => ?_, fun p => (h.cls p).trans (hc p).symm, h.cnd⟩
  · rw [List.nil_append, List.append_assoc, List.pairwise_append]
    refine ⟨a1, ?_, fun y hy z hz => ?_⟩
    · rw [List.singleton_append, List.pairwise_cons]
      exact ⟨h2, a2⟩
    · rcases List.mem_append.1 hz with hz | hz
      · rw [List.mem_singleton.1 hz]; exact h1 y hy
      · exact a3 y hy z hz
  · rw [hT, List.nil_append, List.append_assoc, List.mem_append, List.mem_append, List.mem_singleton]
    have hm := h.mem y
    have hd : y ∈ tk ↔ y ∈ tk.take k ∨ y ∈ tk.drop k := by
      conv => lhs; rw [← List.take_append_drop k tk]
      exact List.mem_append
    by_cases e : y = x
    · rw [if_pos e]
      exact ⟨fun _ => rfl, fun _ => .inr (.inl e)⟩
    · rw [if_neg e, ← hm, hd]
      constructor
      · rintro (h | h | h)
        · exact .inl h
        · exact (e h).elim
        · exact .inr h
      · rintro (h | h)
        · exact .inl h
        · exact .inr (.inr h)
theorem srt_drop {tk : List Nat} (hs : tk.Pairwise (· < ·)) {k x t : Nat} (ht : tk[k]? = some t) (hx : x < t) : ∀ y ∈ tk.drop k, x < y := by
  obtain ⟨hl, e⟩ := List.getElem?_eq_some_iff.1 ht
  have hd := hs.sublist (List.drop_sublist k tk)
  rw [List.drop_eq_getElem_cons hl, e, List.pairwise_cons] at hd
  intro y hy
  rw [List.drop_eq_getElem_cons hl, e] at hy
  rcases List.mem_cons.1 hy with rfl | hy
  · exact hx
  · exact Nat.lt_trans hx (hd.1 y hy)
theorem ins_len (tk : List Nat) {k : Nat} (x : Nat) (hk : k ≤ tk.length) : (([] ++ tk.take k) ++ [x] ++ tk.drop k).length = tk.length + 1 := by
  simp; omega

/-! Parts of a row, as what is appended -/
theorem srcs_part {w : World} {base c n m o : Nat} {a : Option Addr} {l : List Nat} {xv : Value} (h : w.ownsRow base 3 1 (.slice a l.length c) l.length (nc l)) (hx : (∃ g c', a = some ⟨g, 0, none⟩ ∧ (xv = .slice (some ⟨g, o, none⟩) m c' ∨ (m = 0 ∧ ∃ ad, xv = .slice (some ad) 0 c'))) ∨ (a = none ∧ xv = .slice none 0 0)) (hm : m = n) (hl : o + m ≤ l.length) :
    Srcs w xv m (nc ((l.drop o).take n)) := by
  subst hm
  have hln : (nc ((l.drop o).take m)).length = m * 1 := by rw [nc_len, List.length_take, List.length_drop]; omega
  rcases hx with ⟨g, c', rfl, hx⟩ | ⟨rfl, rfl⟩
  · rcases hx with rfl | ⟨rfl, ad, rfl⟩
    · exact .inl ⟨⟨g, o, none⟩, c', rfl, hln, part_src h (fun _ => rfl) rfl⟩
    · refine .inl ⟨ad, c', rfl, hln, fun j u hj => ?_⟩
      rw [List.take_zero] at hj
      simp [nc] at hj
  · rcases h.2 with ⟨_, h0⟩ | ⟨g, cap, cur, e, _⟩
    · have : m = 0 := by omega
      subst this
      exact .inr ⟨rfl, rfl, by rw [List.take_zero]; rfl⟩
    · cases e
end Go.Proofs.Ytldfpacdlephcaa

/-
  The contract of Step of a table at this program. Conditions: the table lies in memory, its keys have at most 2^48 bytes.
-/
import Derived.Test.YtfbkfbghejeknaaChainSet
namespace Go.Proofs.Ytfbkfbghejeknaa
open Go Go.Shelf Go.RowKit Go.Lib

def Tb.sm (s : Tb) : Prop := ∀ e ∈ s.ents, e.k.size ≤ 281474976710656
theorem Ents.len {w : World} : ∀ {l m : List En}, Ents w l → Ents w m → ptr l = ptr m → l.length = m.length
  | [], [], _, _, _ => rfl
  | [], _ :: _, _, _, h => by cases h
  | _ :: _, [], _, _, h => by cases h
  | x :: l, y :: m, ⟨h, hr⟩, ⟨k, kr⟩, e => by
    have e1 : x.b = y.b := congrArg Addr.block (Option.some.inj (Value.pointer.inj e))
    rw [← e1] at k
    have e2 : enc x l = enc y m := by
      have h' : w.heap[x.b]? = some (.cells (enc x l).toArray _ (0, 0)) := h
      have k' : w.heap[x.b]? = some (.cells (enc y m).toArray _ (0, 0)) := k
      rw [h'] at k'
      injection k' with k'; injection k' with k' _ _
      exact congrArg Array.toList k'
    have e3 : ptr l = ptr m := by
      have := congrArg (fun c : List Value => c[2]?) e2
      exact Option.some.inj this
    rw [List.length_cons, List.length_cons, Ents.len hr kr e3]
open Classical in
noncomputable def leftE (w : World) (v : Value) : Nat := if h : ∃ l, v = ptr l ∧ Ents w l then (Classical.choose h).length else 0
theorem leftE_eq {w : World} {l : List En} (h : Ents w l) : leftE w (ptr l) = l.length := by
  have hex : ∃ m, ptr l = ptr m ∧ Ents w m := ⟨l, rfl, h⟩
  unfold leftE
  rw [dif_pos hex]
  obtain ⟨e, hl⟩ := Classical.choose_spec hex
  exact hl.len h e.symm

theorem put_ft {P : Nat} {s : Tb} {e : En} {x : Nat} (m : Mid s) (h : Ft P (s.put e) x) : Ft P s x ∨ x = e.b := by
  have p := m.put_perm e
  obtain ⟨a1, a2, a3, a4, a5, a6, a7⟩ := put_same s e
  rcases h with h | h | ⟨h1, h2⟩ | ⟨y, hy, rfl⟩
  · exact .inl (.inl h)
  · exact .inl (.inr (.inl (h.trans a4)))
  · exact .inl (.inr (.inr (.inl ⟨fun e => h1 ((len_nil a7).2 e), h2.trans a5⟩)))
  · rcases List.mem_cons.1 (p.mem_iff.1 hy) with rfl | hy
    · exact .inr rfl
    · exact .inl (.inr (.inr (.inr ⟨y, hy, rfl⟩)))
theorem lift_ft {P : Nat} {s : Tb} {x : Nat} (o : Ok s) (hne : s.old ≠ []) (h : Ft P s.lift x) : Ft P s x := by
  rcases h with h | h | ⟨h1, h2⟩ | ⟨y, hy, rfl⟩
  · exact .inl h
  · exact .inr (.inl h)
  · exact .inr (.inr (.inl ⟨hne, h2⟩))
  · exact .inr (.inr (.inr ⟨y, (o.lift_perm hne).mem_iff.1 (List.mem_append_right _ hy), rfl⟩))
/-- The bucket is lifted out. -/
theorem TM.lifted {P : Nat} {s : Tb} {w : World} (h : TM P s w) (o : Ok s) (hne : s.old ≠ []) {l : List En} (hl : s.old[s.moved]? = some l) :
    TM P s.lift ((w.setCell ⟨s.O, s.moved, none⟩ (.pointer none)).setCell ⟨P, 4, none⟩ (.int .i64 ((s.moved : Int) + 1))) ∧
    Ents ((w.setCell ⟨s.O, s.moved, none⟩ (.pointer none)).setCell ⟨P, 4, none⟩ (.int .i64 ((s.moved : Int) + 1))) l ∧ (∀ x ∈ l, ¬ Ft P s.lift x.b) ∧ (bl l).Nodup := by
  have m := o.mid
  have hB := h.head
  have hO := h.old hne
  have hOP : s.O ≠ P := hO.ne hB (by decide)
  have hpm := o.lift_perm hne
  rw [hl] at hpm
  have hpm : (l ++ s.lift.ents).Perm s.ents := hpm
  have hnd : (bl (l ++ s.lift.ents)).Nodup := ((hpm.map En.b).nodup_iff).2 h.nd
  unfold bl at hnd
  rw [List.map_append, List.nodup_append] at hnd
  obtain ⟨n1, n2, n3⟩ := hnd
  have hin : ∀ x ∈ l, x ∈ s.ents := fun x hx => hpm.mem_iff.1 (List.mem_append_left _ hx)
  have ho : Only (fun b => b = s.O ∨ b = P) w ((w.setCell ⟨s.O, s.moved, none⟩ (.pointer none)).setCell ⟨P, 4, none⟩ (.int .i64 ((s.moved : Int) + 1))) :=
    ((Only.refl (fun b => b = s.O ∨ b = P) w).setCell (p := ⟨s.O, s.moved, none⟩) (.inl (.inl rfl)) _).setCell (p := ⟨P, 4, none⟩) (.inl (.inr rfl)) _
  have hE : ∀ m ∈ s.rows, Ents ((w.setCell ⟨s.O, s.moved, none⟩ (.pointer none)).setCell ⟨P, 4, none⟩ (.int .i64 ((s.moved : Int) + 1))) m := fun l' hl' => by
    refine (h.ents l' hl').only ho (fun x hx => ?_)
    obtain ⟨r, hr⟩ := (h.ents l' hl').blk x hx
    rintro (e1 | e1)
    · exact hr.ne hO (by decide) e1
    · exact hr.ne hB (by decide) e1
  refine ⟨⟨?_, ?_, fun _ => ?_, fun _ => h.apart hne, fun l' hl' => ?_, n2⟩, hE l (by unfold Tb.rows; exact List.mem_append_left _ (List.mem_of_getElem? hl)), fun x hx hf => ?_, n1⟩
  · have h1 := (hB.setOther (p := ⟨s.O, s.moved, none⟩) (fun e => hOP e.symm) (.pointer none)).set 4 (.int .i64 ((s.moved : Int) + 1))
    have he : headc s.lift = (headc s).set 4 (.int .i64 ((s.moved : Int) + 1)) := by
      unfold headc
      rw [show sl s.lift.O s.lift.old = sl s.O s.old from sl_same (by unfold Tb.lift; simp)]
      rfl
    rw [he]; exact h1
  · exact h.new.only ho (fun e1 => e1.elim (fun e2 => h.apart hne e2) (fun e2 => h.new.ne hB (by decide) e2))
  · have h1 := (hO.set s.moved (.pointer none)).setOther (p := ⟨P, 4, none⟩) hOP (.int .i64 ((s.moved : Int) + 1))
    have he : heads s.lift.old = (heads s.old).set s.moved (.pointer none) := by unfold Tb.lift; exact heads_set _ _ _
    rw [he]; exact h1
  · rw [lift_rows (o.mvlt hne)] at hl'
    obtain ⟨i, hi⟩ := List.mem_iff_getElem?.1 hl'
    rw [List.getElem?_set] at hi
    split at hi
    · split at hi
      · cases hi; trivial
      · cases hi
    · exact hE l' (List.mem_of_getElem? hi)
  · rcases hf with e1 | e1 | ⟨_, e1⟩ | ⟨y, hy, e1⟩
    · exact (h.ent_ne m (hin x hx) x.k).1 e1
    · exact (h.ent_ne m (hin x hx) x.k).2.2.1 e1
    · exact (h.ent_ne m (hin x hx) x.k).2.2.2 hne e1
    · exact n3 _ (List.mem_map.2 ⟨x, hx, rfl⟩) _ (List.mem_map.2 ⟨y, hy, rfl⟩) e1.symm
/-- The last bucket is moved. -/
theorem TM.closed {P : Nat} {s : Tb} {w : World} (h : TM P s w) : TM P { s with old := [] } (w.setCell ⟨P, 3, none⟩ (.slice none 0 0)) := by
  have ho : Only (fun b => b = P) w (w.setCell ⟨P, 3, none⟩ (.slice none 0 0)) := only_set w ⟨P, 3, none⟩ _
  have hs : ({ s with old := [] } : Tb).ents.Sublist s.ents := by
    show ([] ++ s.new).flatten.Sublist (s.old ++ s.new).flatten
    rw [List.flatten_append, List.flatten_append]
    exact List.sublist_append_right _ _
  refine ⟨?_, h.new.only ho (h.new.ne h.head (by decide)), fun e => (e rfl).elim, fun e => (e rfl).elim, fun l hl => ?_, (hs.map En.b).nodup h.nd⟩
  · have h1 := h.head.set 3 (.slice none 0 0)
    have he : headc { s with old := [] } = (headc s).set 3 (.slice none 0 0) := by unfold headc; rw [sl_nil]; rfl
    rw [he]; exact h1
  · have hl' : l ∈ s.rows := by unfold Tb.rows; exact List.mem_append_right _ hl
    refine (h.ents l hl').only ho (fun x hx => ?_)
    obtain ⟨r, hr⟩ := (h.ents l hl').blk x hx
    exact hr.ne h.head (by decide)
end Go.Proofs.Ytfbkfbghejeknaa

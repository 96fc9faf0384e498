/-
  What a store into a link or into an entry makes of a chain and of the table; the rows that Keys and Bucket hand on. No program is run in it. No conditions.
-/
import Derived.Test.YtfbkfbghejeknaaChainKeys
namespace Go.Proofs.Ytfbkfbghejeknaa
open Go Go.RowKit Go.Lib

theorem only_set (w : World) (p : Addr) (u : Value) : Only (fun b => b = p.block) w (w.setCell p u) := (Only.refl (fun b => b = p.block) w).setCell (Or.inl rfl) u
theorem ptr_setN (k : ByteArray) (n : Int) (l : List En) : ptr (setN k n l) = ptr l := by
  cases l with
  | nil => rfl
  | cons e l => unfold setN; split <;> rfl
theorem nodup_tail {e : En} {l : List En} (hn : (bl (e :: l)).Nodup) : (∀ x ∈ l, x.b ≠ e.b) ∧ (bl l).Nodup := by
  unfold bl at hn ⊢
  rw [List.map_cons, List.nodup_cons] at hn
  exact ⟨fun x hx h => hn.1 (List.mem_map.2 ⟨x, hx, h⟩), hn.2⟩
theorem Ents.other {w : World} {l : List En} (h : Ents w l) {p : Addr} (hp : ∀ x ∈ l, x.b ≠ p.block) (u : Value) : Ents (w.setCell p u) l :=
  h.only (D := fun b => b = p.block) (only_set w p u) (fun x hx => hp x hx)
/-- A number is written. -/
theorem Ents.num {w : World} {k : ByteArray} {n : Int} : ∀ {l : List En} {e : En}, Ents w l → (bl l).Nodup → fnd k l = some e → Ents (w.setCell ⟨e.b, 1, none⟩ (.int .i64 n)) (setN k n l)
  | a :: l, e, ⟨h, hr⟩, hn, hf => by
    obtain ⟨n1, n2⟩ := nodup_tail hn
    unfold fnd at hf
    unfold setN
    split at hf
    · rename_i hk
      cases hf
      rw [if_pos hk]
      exact ⟨h.set 1 _, hr.other (fun x hx => n1 x hx) _⟩
    · rename_i hk
      rw [if_neg hk]
      refine ⟨?_, Ents.num hr n2 hf⟩
      have := h.setOther (p := ⟨e.b, 1, none⟩) (fun e1 => n1 e (fnd_key hf).2 e1.symm) (.int .i64 n)
      unfold enc at this ⊢
      rw [ptr_setN]; exact this
/-- The key's entry in its chain: what is ahead, what is behind. -/
theorem fnd_split {k : ByteArray} : ∀ {l : List En} {e : En}, fnd k l = some e → ∃ d r, l = d ++ e :: r ∧ cut k l = d ++ r ∧ ∀ a, lnk k a l = some (match d.getLast? with | none => a | some x => ⟨x.b, 2, none⟩)
  | a :: l, e, hf => by
    unfold fnd at hf
    unfold cut
    split at hf
    · rename_i hk
      cases hf
      exact ⟨[], l, rfl, by rw [if_pos hk]; rfl, fun b => by unfold lnk; rw [if_pos hk]; rfl⟩
    · rename_i hk
      obtain ⟨d, r, h1, h2, h3⟩ := fnd_split hf
      refine ⟨a :: d, r, by rw [h1]; rfl, by rw [if_neg hk, h2]; rfl, fun b => ?_⟩
      unfold lnk
      rw [if_neg hk, h3]
      cases d with
      | nil => rfl
      | cons x d => rw [List.getLast?_cons_cons]; rfl
theorem Ents.right {w : World} : ∀ {d l : List En}, Ents w (d ++ l) → Ents w l
  | [], _, h => h
  | _ :: _, _, ⟨_, h⟩ => Ents.right h
/-- The address of a link, and what lies there. -/
theorem lnk_cell {w : World} {k : ByteArray} : ∀ {a : Addr} {l : List En} {e : En}, w.cell? a = some (ptr l) → Ents w l → fnd k l = some e → ∃ p, lnk k a l = some p ∧ w.cell? p = some (.pointer (some ⟨e.b, 0, none⟩)) ∧ (p = a ∨ ∃ x ∈ l, p = ⟨x.b, 2, none⟩)
  | a, x :: l, e, hc, ⟨h, hr⟩, hf => by
    unfold fnd at hf
    unfold lnk
    split at hf
    · rename_i hk
      cases hf
      exact ⟨a, if_pos hk, hc, .inl rfl⟩
    · rename_i hk
      obtain ⟨p, h1, h2, h3⟩ := lnk_cell (a := ⟨x.b, 2, none⟩) (h.cell (i := 2) rfl) hr hf
      refine ⟨p, by rw [if_neg hk]; exact h1, h2, ?_⟩
      rcases h3 with rfl | ⟨y, hy, rfl⟩
      · exact .inr ⟨x, List.mem_cons_self .., rfl⟩
      · exact .inr ⟨y, List.mem_cons_of_mem _ hy, rfl⟩
theorem ptr_app (d : List En) (x : En) (l m : List En) : ptr (d ++ x :: l) = ptr (d ++ x :: m) := by
  cases d <;> rfl
/-- A link within the chain is turned past one entry. -/
theorem Ents.past {w : World} {x e : En} {r : List En} : ∀ {d : List En}, Ents w (d ++ x :: e :: r) → (bl (d ++ x :: e :: r)).Nodup → Ents (w.setCell ⟨x.b, 2, none⟩ (ptr r)) (d ++ x :: r)
  | [], ⟨h, h2⟩, hn => by
    obtain ⟨n1, n2⟩ := nodup_tail hn
    exact ⟨h.set 2 _, Ents.other h2.2 (fun y hy => n1 y (List.mem_cons_of_mem _ hy)) _⟩
  | y :: d, ⟨h, hr⟩, hn => by
    obtain ⟨n1, n2⟩ := nodup_tail hn
    refine ⟨?_, Ents.past hr n2⟩
    have := h.setOther (p := ⟨x.b, 2, none⟩) (fun e1 => n1 x (by simp) e1.symm) (ptr r)
    unfold enc at this ⊢
    have e9 : ptr (d.append (x :: r)) = ptr (d.append (x :: e :: r)) := ptr_app d x r (e :: r)
    rw [e9]; exact this

theorem row_nd {P : Nat} {s : Tb} {w : World} (h : TM P s w) (m : Mid s) (k : ByteArray) : (bl (s.row k)).Nodup :=
  ((List.sublist_flatten_of_mem (row_in m k)).map En.b).nodup h.nd

/-- Set of a key that is there. -/
theorem TM.setNum {P : Nat} {s : Tb} {w : World} (h : TM P s w) (o : Ok s) (k : ByteArray) (n : Int) {e : En} (hf : fnd k (s.row k) = some e) :
    TM P (s.upd k (setN k n (s.row k))) (w.setCell ⟨e.b, 1, none⟩ (.int .i64 n)) := by
  have m := o.mid
  have hm := (fnd_key hf).2
  have hne := h.ent_ne m (m.row_mem hm) k
  obtain ⟨hR, hr⟩ := h.home m k
  refine h.upd m k _ (D := fun b => b = e.b) (only_set w ⟨e.b, 1, none⟩ _) (fun e1 => hne.1 e1.symm) ?_ (fun b hb => .inr (.inl ⟨e, hm, hb.symm⟩)) (Ents.num (h.ents _ (row_in m k)) (row_nd h m k) hf) ?_
  · have e1 : heads ((s.hrow k).set (s.hix k) (setN k n (s.row k))) = heads (s.hrow k) := by
      rw [heads_set, ptr_setN]
      apply List.ext_getElem?
      intro j
      rw [List.getElem?_set]
      split
      · rename_i hj; subst hj
        rw [heads_at hr]
        have := (List.getElem?_eq_some_iff.1 (heads_at hr)).1
        rw [if_pos this]
      · rfl
    rw [e1]
    exact hR.setOther (fun e1 => hne.2.1 e1.symm) _
  · obtain ⟨r, r1, r2⟩ := o.setN_perm (n := n) hf
    unfold bl
    rw [(r2.map En.b).nodup_iff]
    have := ((r1.map En.b).nodup_iff).1 h.nd
    exact this
/-- Delete of a key that is there: the link at p is turned past its entry. -/
theorem TM.cutOut {P : Nat} {s : Tb} {w : World} (h : TM P s w) (o : Ok s) (k : ByteArray) {e : En} (hf : fnd k (s.row k) = some e) :
    ∃ p r, lnk k (s.hd k) (s.row k) = some p ∧ w.cell? p = some (.pointer (some ⟨e.b, 0, none⟩)) ∧ w.frozen? p = false ∧ Ft P s p.block ∧ p.block ≠ P ∧ w.cell? ⟨e.b, 2, none⟩ = some (ptr r) ∧ TM P (s.upd k (cut k (s.row k))) (w.setCell p (ptr r)) := by
  have m := o.mid
  obtain ⟨hR, hr⟩ := h.home m k
  have hE := h.ents _ (row_in m k)
  have hnd := row_nd h m k
  obtain ⟨d, r, h1, h2, h3⟩ := fnd_split hf
  have hEe : Ents w (e :: r) := by rw [h1] at hE; exact hE.right
  have hc2 := hEe.1.cell (i := 2) (v := ptr r) rfl
  have hperm := o.cut_perm hf
  have hnb : (bl (s.upd k (cut k (s.row k))).ents).Nodup := by
    have := ((hperm.map En.b).nodup_iff).1 h.nd
    rw [List.map_cons, List.nodup_cons] at this
    exact this.2
  obtain ⟨p, q1, q2, q3⟩ := lnk_cell (h.hd_cell m k) hE hf
  refine ⟨p, r, q1, q2, ?_⟩
  rw [h3] at q1
  have q1 := Option.some.inj q1
  rcases List.eq_nil_or_concat d with rfl | ⟨d', x, rfl⟩
  · have hp : s.hd k = p := q1
    subst hp
    refine ⟨by rw [hd_eq]; exact hR.frozen _, by rw [hd_eq]; exact hblk_ft P s k, by rw [hd_eq]; exact h.hblk_P m k, hc2, ?_⟩
    rw [h2]
    rw [hd_eq]
    refine h.upd m k _ (D := fun b => b = s.hblk k) (only_set w ⟨s.hblk k, s.hix k, none⟩ _) (fun e1 => h.hblk_P m k e1.symm) ?_ (fun b hb => .inl hb) ?_ (by rw [← h2]; exact hnb)
    · rw [heads_set]; exact hR.set _ _
    · refine Ents.other hEe.2 (fun y hy => ?_) _
      exact (h.ent_ne m (m.row_mem (k := k) (by rw [h1]; simp [hy])) k).2.1
  · have hp : (⟨x.b, 2, none⟩ : Addr) = p := by rw [← q1]; simp
    subst hp
    have hx : x ∈ s.row k := by rw [h1]; simp
    have hxe := m.row_mem hx
    obtain ⟨rx, hBx⟩ := h.blk hxe
    have hne := h.ent_ne m hxe k
    refine ⟨hBx.frozen 2, .inr (.inr (.inr ⟨x, hxe, rfl⟩)), hne.1, hc2, ?_⟩
    have hl : s.row k = d' ++ x :: e :: r := by rw [h1]; simp
    have hcut : cut k (s.row k) = d' ++ x :: r := by rw [h2]; simp
    rw [hcut]
    refine h.upd m k _ (D := fun b => b = x.b) (only_set w ⟨x.b, 2, none⟩ _) (fun e1 => hne.1 e1.symm) ?_ (fun b hb => .inr (.inl ⟨x, hx, hb.symm⟩)) ?_ (by rw [← hcut]; exact hnb)
    · have e1 : heads ((s.hrow k).set (s.hix k) (d' ++ x :: r)) = heads (s.hrow k) := by
        rw [heads_set]
        apply List.ext_getElem?
        intro j
        rw [List.getElem?_set]
        split
        · rename_i hj; subst hj
          rw [heads_at hr, hl, ptr_app d' x r (e :: r)]
          have := (List.getElem?_eq_some_iff.1 (heads_at hr)).1
          rw [if_pos this]
        · rfl
      rw [e1]
      exact hR.setOther (fun e1 => hne.2.1 e1.symm) _
    · rw [hl] at hE hnd
      exact hE.past hnd

/-! The head -/
theorem TM.setCnt {P : Nat} {s : Tb} {w : World} (h : TM P s w) (c : Nat) : TM P { s with cnt := c } (w.setCell ⟨P, 0, none⟩ (.int .i64 c)) := by
  have ho : Only (fun b => b = P) w (w.setCell ⟨P, 0, none⟩ (.int .i64 c)) := only_set w ⟨P, 0, none⟩ _
  exact ⟨h.head.set 0 _, h.new.only ho (h.new.ne h.head (by decide)), fun hn => (h.old hn).only ho ((h.old hn).ne h.head (by decide)), h.apart,
    fun l hl => (h.ents l hl).only ho (fun e he => by
      obtain ⟨r, hr⟩ := (h.ents l hl).blk e he
      exact hr.ne h.head (by decide)), h.nd⟩

/-! Rows that are handed on -/
structure RowOk (w : World) (r : Rw) : Prop where
  addr : r.ls ≠ [] → r.a = some ⟨r.B, r.o, none⟩
  small : r.ls.length ≤ 1000000000
  chain : ∀ i l, r.ls[i]? = some l → w.cell? ⟨r.B, r.o + i, none⟩ = some (ptr l) ∧ Ents w l
theorem Ents.below {w w' : World} {l : List En} (h : Ents w l) (hb : Below w.heap.size w w') : Ents w' l := h.only (D := fun _ => False) (Below.only hb) (fun _ _ => id)
theorem rows_at {w : World} {rs : List Rw} (h : ∀ r ∈ rs, RowOk w r) (hl : rs.length ≤ 1000000000) (t : TypeId) :
    RowsAt (w.alloc (.cells (rs.map Rw.v).toArray t)).heap.size (w.alloc (.cells (rs.map Rw.v).toArray t)) w.heap.size rs := by
  have hb : Below w.heap.size w (w.alloc (.cells (rs.map Rw.v).toArray t)) := (Below.refl _ _).alloc (Nat.le_refl _) _
  refine ⟨by simp, fun j r hj => (Blk.new w _ t).cell (by simp [hj]), fun r hr => (h r hr).addr, fun r hr i l hl' => ?_, hl, fun r hr => (h r hr).small⟩
  obtain ⟨h1, h2⟩ := (h r hr).chain i l hl'
  have hlt := cell_lt h1
  exact chn_of (Nat.le_refl _) (Nat.lt_of_lt_of_le hlt (by simp)) ((hb.cell hlt).trans h1) (h2.below hb)
theorem ks_lks (l : List En) : ∀ a, ks (lks a l) = l.map En.k := by
  induction l with
  | nil => intro a; rfl
  | cons e l ih => intro a; show e.k :: ks (lks _ l) = _; rw [ih]; rfl
theorem ks_app (a b : List (Addr × En)) : ks (a ++ b) = ks a ++ ks b := by simp [ks]
theorem ks_bucks (B : Nat) (ls : List (List En)) : ∀ o, ks (bucks B o ls) = ls.flatten.map En.k := by
  induction ls with
  | nil => intro o; rfl
  | cons l ls ih => intro o; show ks (lks _ l ++ bucks B (o + 1) ls) = _; rw [ks_app, ks_lks, ih, List.flatten_cons, List.map_append]
/-- What Keys hands on. -/
def rws (s : Tb) : List Rw := [⟨if s.old = [] then none else some ⟨s.O, 0, none⟩, s.old.length, s.O, 0, s.old⟩, ⟨some ⟨s.N, 0, none⟩, s.new.length, s.N, 0, s.new⟩]
theorem rws_v {s : Tb} (m : Mid s) : (rws s).map Rw.v = [sl s.O s.old, sl s.N s.new] := by
  unfold rws sl
  rw [if_neg m.new_ne]
  by_cases ho : s.old = []
  · simp [ho, Rw.v]
  · simp [ho, Rw.v]
theorem rws_ks (s : Tb) : ks (alls (rws s)) = s.ents.map En.k := by
  unfold alls rws Tb.ents Tb.rows
  simp [ks_app, ks_bucks]
theorem TM.rws_ok {P : Nat} {s : Tb} {w : World} (h : TM P s w) (m : Mid s) : ∀ r ∈ rws s, RowOk w r := by
  obtain ⟨l1, l2⟩ := m.len_le
  intro r hr
  unfold rws at hr
  rcases List.mem_cons.1 hr with rfl | hr
  · refine ⟨fun hne => if_neg hne, Nat.le_trans l2 (by decide), fun i l hl => ?_⟩
    have hne : s.old ≠ [] := fun e => by have hl' : s.old[i]? = some l := hl; rw [e] at hl'; cases hl'
    exact ⟨by rw [Nat.zero_add]; exact (h.old hne).cell (heads_at hl), h.ents l (by unfold Tb.rows; exact List.mem_append_left _ (List.mem_of_getElem? hl))⟩
  · rw [List.mem_singleton] at hr; subst hr
    exact ⟨fun _ => rfl, Nat.le_trans l1 (by decide), fun i l hl => ⟨by rw [Nat.zero_add]; exact h.new.cell (heads_at hl), h.ents l (by unfold Tb.rows; exact List.mem_append_right _ (List.mem_of_getElem? hl))⟩⟩
/-- What Bucket hands on. -/
def rwb (s : Tb) (i : Nat) (l : List En) : List Rw := [⟨some ⟨s.N, i, none⟩, s.new.length - i, s.N, i, [l]⟩]
theorem rwb_ks (s : Tb) (i : Nat) (l : List En) : ks (alls (rwb s i l)) = l.map En.k := by
  unfold alls rwb
  simp [ks_bucks]
theorem TM.rwb_ok {P : Nat} {s : Tb} {w : World} (h : TM P s w) {i : Nat} {l : List En} (hl : s.new[i]? = some l) : ∀ r ∈ rwb s i l, RowOk w r := by
  intro r hr
  unfold rwb at hr
  rw [List.mem_singleton] at hr; subst hr
  refine ⟨fun _ => rfl, by simp, fun j l' hl' => ?_⟩
  match j, hl' with
  | 0, hl' =>
    cases hl'
    exact ⟨h.new.cell (heads_at hl), h.ents l (by unfold Tb.rows; exact List.mem_append_right _ (List.mem_of_getElem? hl))⟩
end Go.Proofs.Ytfbkfbghejeknaa

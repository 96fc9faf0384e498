/-
  How the document's own table lies in memory: its head, its two rows of buckets, a block for each bucket; what turns of it and what stays. No program is run in it. No conditions.
-/
import Derived.Test.YtfbkfbghejeknaaChainSame
namespace Go.Proofs.Ytfbkfbghejeknaa
open Go Go.Shelf Go.RowKit Go.Lib

/-- The cells of a bucket's entries. -/
def ec : List En → List Value
  | [] => []
  | e :: l => .string e.k :: .int .i64 e.n :: ec l
theorem ec_len (l : List En) : (ec l).length = l.length * 2 := by
  induction l with
  | nil => rfl
  | cons e l ih => show (ec l).length + 1 + 1 = (l.length + 1) * 2; omega
theorem ec_app (a b : List En) : ec (a ++ b) = ec a ++ ec b := by
  induction a with
  | nil => rfl
  | cons e a ih => show _ :: _ :: ec (a ++ b) = _; rw [ih]; rfl
theorem ec_at {l : List En} {i : Nat} {e : En} (h : l[i]? = some e) : (ec l)[i * 2]? = some (.string e.k) ∧ (ec l)[i * 2 + 1]? = some (.int .i64 e.n) := by
  induction l generalizing i with
  | nil => simp at h
  | cons a l ih =>
    cases i with
    | zero => simp at h; subst h; exact ⟨rfl, rfl⟩
    | succ i =>
      have h' : l[i]? = some e := by simpa using h
      obtain ⟨h1, h2⟩ := ih h'
      rw [show (i + 1) * 2 = i * 2 + 1 + 1 by omega]
      exact ⟨h1, h2⟩
theorem ec_ok (l : List En) : ∀ u ∈ ec l, u.oneCell' = true := by
  induction l with
  | nil => intro u hu; cases hu
  | cons e l ih =>
    intro u hu
    rcases List.mem_cons.1 hu with rfl | hu
    · rfl
    · rcases List.mem_cons.1 hu with rfl | hu
      · rfl
      · exact ih u hu

/-- A bucket's slice. -/
def Bkt (w : World) (v : Value) (l : List En) : Prop := w.ownsRow 0 72 2 v l.length (ec l)
theorem Bkt.only {w w' : World} {v : Value} {l : List En} {D : Nat → Prop} (h : Bkt w v l) (ho : Only D w w') (hd : ∀ b, v.ownBlock = some b → ¬ D b) : Bkt w' v l := by
  refine ⟨h.1, h.2.imp id (fun ⟨g, cap, cur, hv, h0, hg, r⟩ => ⟨g, cap, cur, hv, h0, ?_, r⟩)⟩
  have hlt : g < w.heap.size := (Array.getElem?_eq_some_iff.1 hg).1
  exact (ho.block g hlt (hd g (by rw [hv]; simp [Value.ownBlock]))).trans hg
theorem Bkt.lt {w : World} {v : Value} {l : List En} (h : Bkt w v l) : ∀ b, v.ownBlock = some b → b < w.heap.size := fun b hb => by
  rcases h.2 with ⟨rfl, _⟩ | ⟨g, cap, cur, rfl, _, hg, _⟩
  · simp [Value.ownBlock] at hb
  · obtain rfl : g = b := by simpa [Value.ownBlock] using hb
    exact (Array.getElem?_eq_some_iff.1 hg).1
theorem Bkt.ne {w : World} {v : Value} {l : List En} {c : Nat} {t : TypeId} {cs : List Value} (h : Bkt w v l) (hB : Blk w c t cs) (ht : 72 ≠ t) : ∀ b, v.ownBlock = some b → b ≠ c := fun b hb e => by
  subst e
  rcases h.2 with ⟨rfl, _⟩ | ⟨g, cap, cur, rfl, _, hg, _⟩
  · simp [Value.ownBlock] at hb
  · obtain rfl : g = b := by simpa [Value.ownBlock] using hb
    have hB' : w.heap[g]? = some (.cells cs.toArray t (0, 0)) := hB
    rw [hg] at hB'
    injection hB' with hB'; injection hB' with _ h2 _
    exact ht h2
theorem Bkt.nil (w : World) : Bkt w (.slice none 0 0) [] := ⟨rfl, .inl ⟨rfl, rfl⟩⟩

structure Rf where
  N : Nat
  O : Nat
  nv : List Value
  ov : List Value
def BS (w : World) (vs : List Value) (ls : List (List En)) : Prop := vs.length = ls.length ∧ ∀ (i : Nat) (v : Value) (l : List En), vs[i]? = some v → ls[i]? = some l → Bkt w v l
def slv (O : Nat) (vs : List Value) : Value := if vs = [] then .slice none 0 0 else .slice (some ⟨O, 0, none⟩) vs.length vs.length
def rhead (r : Rf) (s : Tb) : List Value := [.int .i64 s.pow, .bool (decide (s.old ≠ [])), .int .i64 s.moved, slv r.O r.ov, slv r.N r.nv, .int .i64 s.cnt]
/-- The document's table s lies at P. -/
structure RM (P : Nat) (r : Rf) (s : Tb) (w : World) : Prop where
  head : Blk w P 34 (rhead r s)
  new : Blk w r.N 61 r.nv
  old : s.old ≠ [] → Blk w r.O 61 r.ov
  nb : BS w r.nv s.new
  ob : BS w r.ov s.old
  nd : ((r.ov ++ r.nv).filterMap Value.ownBlock).Nodup
  apart : s.old ≠ [] → r.N ≠ r.O
def RFt (P : Nat) (r : Rf) (s : Tb) (b : Nat) : Prop := b = P ∨ b = r.N ∨ (s.old ≠ [] ∧ b = r.O) ∨ ∃ v ∈ r.ov ++ r.nv, v.ownBlock = some b
theorem BS.only {w w' : World} {vs : List Value} {ls : List (List En)} {D : Nat → Prop} (h : BS w vs ls) (ho : Only D w w') (hd : ∀ v ∈ vs, ∀ b, v.ownBlock = some b → ¬ D b) : BS w' vs ls :=
  ⟨h.1, fun i v l hv hl => (h.2 i v l hv hl).only ho (hd v (List.mem_of_getElem? hv))⟩
theorem RM.only {P : Nat} {r : Rf} {s : Tb} {w w' : World} {D : Nat → Prop} (h : RM P r s w) (ho : Only D w w') (hd : ∀ b, RFt P r s b → ¬ D b) : RM P r s w' :=
  ⟨h.head.only ho (hd _ (.inl rfl)), h.new.only ho (hd _ (.inr (.inl rfl))), fun hn => (h.old hn).only ho (hd _ (.inr (.inr (.inl ⟨hn, rfl⟩)))),
    h.nb.only ho (fun v hv b hb => hd b (.inr (.inr (.inr ⟨v, List.mem_append_right _ hv, hb⟩)))), h.ob.only ho (fun v hv b hb => hd b (.inr (.inr (.inr ⟨v, List.mem_append_left _ hv, hb⟩)))), h.nd, h.apart⟩
theorem RM.below {P : Nat} {r : Rf} {s : Tb} {w w' : World} (h : RM P r s w) (hb : Below w.heap.size w w') : RM P r s w' := h.only (D := fun _ => False) (Below.only hb) (fun _ _ => id)
theorem BS.lt {w : World} {vs : List Value} {ls : List (List En)} (h : BS w vs ls) {v : Value} (hv : v ∈ vs) : ∀ b, v.ownBlock = some b → b < w.heap.size := by
  obtain ⟨i, hi⟩ := List.mem_iff_getElem?.1 hv
  have hl : i < ls.length := by rw [← h.1]; exact (List.getElem?_eq_some_iff.1 hi).1
  exact (h.2 i v ls[i] hi (List.getElem?_eq_getElem hl)).lt
theorem BS.ne {w : World} {vs : List Value} {ls : List (List En)} (h : BS w vs ls) {v : Value} (hv : v ∈ vs) {c : Nat} {t : TypeId} {cs : List Value} (hB : Blk w c t cs) (ht : 72 ≠ t) : ∀ b, v.ownBlock = some b → b ≠ c := by
  obtain ⟨i, hi⟩ := List.mem_iff_getElem?.1 hv
  have hl : i < ls.length := by rw [← h.1]; exact (List.getElem?_eq_some_iff.1 hi).1
  exact (h.2 i v ls[i] hi (List.getElem?_eq_getElem hl)).ne hB ht
theorem RM.lt {P : Nat} {r : Rf} {s : Tb} {w : World} (h : RM P r s w) (b : Nat) (hb : RFt P r s b) : b < w.heap.size := by
  rcases hb with rfl | rfl | ⟨ho, rfl⟩ | ⟨v, hv, hb⟩
  · exact h.head.lt
  · exact h.new.lt
  · exact (h.old ho).lt
  · rcases List.mem_append.1 hv with hv | hv
    · exact h.ob.lt hv b hb
    · exact h.nb.lt hv b hb

/-! The key's bucket -/
def Rf.hblk (r : Rf) (s : Tb) (k : ByteArray) : Nat := if s.inOld k then r.O else r.N
def Rf.hvs (r : Rf) (s : Tb) (k : ByteArray) : List Value := if s.inOld k then r.ov else r.nv
def Rf.val (r : Rf) (s : Tb) (k : ByteArray) : Value := (r.hvs s k)[s.hix k]?.getD (.slice none 0 0)
def Rf.upd (r : Rf) (s : Tb) (k : ByteArray) (v : Value) : Rf := if s.inOld k then { r with ov := r.ov.set (s.hix k) v } else { r with nv := r.nv.set (s.hix k) v }
theorem RM.home {P : Nat} {r : Rf} {s : Tb} {w : World} (h : RM P r s w) (m : Mid s) (k : ByteArray) : Blk w (r.hblk s k) 61 (r.hvs s k) ∧ (r.hvs s k)[s.hix k]? = some (r.val s k) ∧ Bkt w (r.val s k) (s.row k) := by
  unfold Rf.val Rf.hblk Rf.hvs Tb.hix Tb.row
  by_cases hi : s.inOld k = true
  · rw [if_pos hi, if_pos hi, if_pos hi, if_pos hi]
    have hn := (inOld_iff.1 hi).1
    have h1 := hb_lt k (s.pow - 1); rw [← m.lenO hn] at h1
    have h2 : hb k (s.pow - 1) < r.ov.length := by rw [h.ob.1]; exact h1
    rw [List.getElem?_eq_getElem h1, List.getElem?_eq_getElem h2]
    exact ⟨h.old hn, rfl, h.ob.2 _ _ _ (List.getElem?_eq_getElem h2) (List.getElem?_eq_getElem h1)⟩
  · rw [if_neg hi, if_neg hi, if_neg hi, if_neg hi]
    have h1 := hb_lt k s.pow; rw [← m.lenN] at h1
    have h2 : hb k s.pow < r.nv.length := by rw [h.nb.1]; exact h1
    rw [List.getElem?_eq_getElem h1, List.getElem?_eq_getElem h2]
    exact ⟨h.new, rfl, h.nb.2 _ _ _ (List.getElem?_eq_getElem h2) (List.getElem?_eq_getElem h1)⟩
theorem rhblk_ft (P : Nat) (r : Rf) (s : Tb) (k : ByteArray) : RFt P r s (r.hblk s k) := by
  unfold Rf.hblk
  split
  · rename_i hi; exact .inr (.inr (.inl ⟨(inOld_iff.1 hi).1, rfl⟩))
  · exact .inr (.inl rfl)
theorem slv_same {O : Nat} {a b : List Value} (h : a.length = b.length) : slv O a = slv O b := by unfold slv; rw [h]; simp only [len_nil h]
theorem rupd_len (r : Rf) (s : Tb) (k : ByteArray) (v : Value) : (r.upd s k v).N = r.N ∧ (r.upd s k v).O = r.O ∧ (r.upd s k v).nv.length = r.nv.length ∧ (r.upd s k v).ov.length = r.ov.length := by
  unfold Rf.upd; split <;> simp
theorem rupd_head (r : Rf) (s : Tb) (k : ByteArray) (v : Value) (l : List En) : rhead (r.upd s k v) (s.upd k l) = rhead r s := by
  obtain ⟨h1, h2, h3, h4, h5, h6, h7⟩ := upd_pow s k l
  obtain ⟨r1, r2, r3, r4⟩ := rupd_len r s k v
  unfold rhead
  rw [h1, h2, h3, r1, r2, slv_same r3, slv_same r4]
  rw [show decide ((s.upd k l).old ≠ []) = decide (s.old ≠ []) from decide_eq_decide.2 (not_congr (len_nil h7))]

theorem mem_set_sub {α : Type} {l : List α} {i : Nat} {x y : α} (h : x ∈ l.set i y) : x = y ∨ x ∈ l := (List.mem_or_eq_of_mem_set h).symm
/-- Of a row without a block twice, with another value at one place, whose block is new or the old one's. -/
theorem nd_set {vs : List Value} {i : Nat} {v u : Value} (hi : vs[i]? = some v) (hn : (vs.filterMap Value.ownBlock).Nodup) (hu : ∀ b, u.ownBlock = some b → v.ownBlock = some b ∨ ∀ x ∈ vs, x.ownBlock ≠ some b) :
    ((vs.set i u).filterMap Value.ownBlock).Nodup := by
  induction vs generalizing i with
  | nil => simp at hi
  | cons a vs ih =>
    have hn' : (vs.filterMap Value.ownBlock).Nodup := by
      rw [List.filterMap_cons] at hn
      cases ha : a.ownBlock with
      | none => rw [ha] at hn; exact hn
      | some b => rw [ha] at hn; exact (List.nodup_cons.1 hn).2
    have hna : ∀ b, a.ownBlock = some b → ∀ x ∈ vs, x.ownBlock ≠ some b := fun b hb x hx e => by
      rw [List.filterMap_cons, hb] at hn
      exact (List.nodup_cons.1 hn).1 (List.mem_filterMap.2 ⟨x, hx, e⟩)
    cases i with
    | zero =>
      have hav : a = v := by simpa using hi
      subst hav
      rw [List.set_cons_zero, List.filterMap_cons]
      cases hub : u.ownBlock with
      | none => exact hn'
      | some b =>
        refine List.nodup_cons.2 ⟨fun hm => ?_, hn'⟩
        obtain ⟨x, hx, hxb⟩ := List.mem_filterMap.1 hm
        rcases hu b hub with h | h
        · exact hna b h x hx hxb
        · exact h x (List.mem_cons_of_mem _ hx) hxb
    | succ i =>
      have hi' : vs[i]? = some v := by simpa using hi
      have hu' : ∀ b, u.ownBlock = some b → v.ownBlock = some b ∨ ∀ x ∈ vs, x.ownBlock ≠ some b := fun b hb => (hu b hb).imp id (fun h x hx => h x (List.mem_cons_of_mem _ hx))
      have h1 := ih hi' hn' hu'
      rw [List.set_cons_succ, List.filterMap_cons]
      cases ha : a.ownBlock with
      | none => exact h1
      | some b =>
        refine List.nodup_cons.2 ⟨fun hm => ?_, h1⟩
        obtain ⟨x, hx, hxb⟩ := List.mem_filterMap.1 hm
        rcases mem_set_sub hx with rfl | hx
        · rcases hu b hxb with h | h
          · exact hna b ha v (List.mem_of_getElem? hi') h
          · exact h a (List.mem_cons_self ..) ha
        · exact hna b ha x hx hxb
theorem all_at {P : Nat} {r : Rf} {s : Tb} {w : World} (h : RM P r s w) (m : Mid s) (k : ByteArray) : (r.ov ++ r.nv)[s.hi k]? = some (r.val s k) := by
  obtain ⟨_, h2, _⟩ := h.home m k
  unfold Rf.hvs Tb.hix at h2
  unfold Tb.hi
  by_cases hi : s.inOld k = true
  · rw [if_pos hi, if_pos hi] at h2
    rw [if_pos hi, List.getElem?_append_left (List.getElem?_eq_some_iff.1 h2).1]; exact h2
  · rw [if_neg hi, if_neg hi] at h2
    rw [if_neg hi, List.getElem?_append_right (by rw [h.ob.1]; omega), h.ob.1, Nat.add_sub_cancel_left]; exact h2
theorem rupd_all {P : Nat} {r : Rf} {s : Tb} {w : World} (h : RM P r s w) (m : Mid s) (k : ByteArray) (v : Value) : (r.upd s k v).ov ++ (r.upd s k v).nv = (r.ov ++ r.nv).set (s.hi k) v := by
  unfold Rf.upd Tb.hi Tb.hix
  by_cases hi : s.inOld k = true
  · rw [if_pos hi, if_pos hi]
    have h1 := hb_lt k (s.pow - 1); rw [← m.lenO (inOld_iff.1 hi).1, ← h.ob.1] at h1
    rw [if_pos hi, List.set_append_left _ _ h1]
  · rw [if_neg hi, if_neg hi]
    rw [if_neg hi, List.set_append_right _ _ (by rw [h.ob.1]; omega), h.ob.1, Nat.add_sub_cancel_left]
/-- Two buckets at two places have two blocks. -/
theorem nd_ne {vs : List Value} (hn : (vs.filterMap Value.ownBlock).Nodup) {i j : Nat} {v u : Value} (hi : vs[i]? = some v) (hj : vs[j]? = some u) (hij : i ≠ j) {b : Nat} (hv : v.ownBlock = some b) : u.ownBlock ≠ some b := by
  induction vs generalizing i j with
  | nil => simp at hi
  | cons a vs ih =>
    have hn' : (vs.filterMap Value.ownBlock).Nodup := by
      rw [List.filterMap_cons] at hn
      cases ha : a.ownBlock with
      | none => rw [ha] at hn; exact hn
      | some b => rw [ha] at hn; exact (List.nodup_cons.1 hn).2
    have hna : ∀ b, a.ownBlock = some b → ∀ x ∈ vs, x.ownBlock ≠ some b := fun b hb x hx e => by
      rw [List.filterMap_cons, hb] at hn
      exact (List.nodup_cons.1 hn).1 (List.mem_filterMap.2 ⟨x, hx, e⟩)
    cases i with
    | zero =>
      cases j with
      | zero => exact (hij rfl).elim
      | succ j =>
        have hav : a = v := by simpa using hi
        have hj' : vs[j]? = some u := by simpa using hj
        exact hna b (hav ▸ hv) u (List.mem_of_getElem? hj')
    | succ i =>
      have hi' : vs[i]? = some v := by simpa using hi
      cases j with
      | zero =>
        have hau : a = u := by simpa using hj
        intro e
        exact hna b (hau ▸ e) v (List.mem_of_getElem? hi') hv
      | succ j =>
        have hj' : vs[j]? = some u := by simpa using hj
        exact ih hn' hi' hj' (fun e => hij (by rw [e]))

/-- Another bucket in the key's place. -/
theorem RM.upd {P : Nat} {r : Rf} {s : Tb} {w w' : World} (h : RM P r s w) (m : Mid s) (k : ByteArray) (v : Value) (l : List En) {D : Nat → Prop} (ho : Only D w w') (hP : ¬ D P)
    (hh : Blk w' (r.hblk s k) 61 ((r.hvs s k).set (s.hix k) v)) (hbv : Bkt w' v l)
    (hD : ∀ b, D b → b = r.hblk s k ∨ (r.val s k).ownBlock = some b ∨ ¬ RFt P r s b)
    (hv : ∀ b, v.ownBlock = some b → (r.val s k).ownBlock = some b ∨ ∀ x ∈ r.ov ++ r.nv, x.ownBlock ≠ some b) : RM P (r.upd s k v) (s.upd k l) w' := by
  obtain ⟨r1, r2, r3, r4⟩ := rupd_len r s k v
  have hat := all_at h m k
  obtain ⟨hR, hRv, hRb⟩ := h.home m k
  -- a bucket at another place lies as it lay
  have hstay : ∀ i u q, (r.ov ++ r.nv)[i]? = some u → i ≠ s.hi k → Bkt w u q → u ∈ r.ov ++ r.nv → Bkt w' u q := fun i u q hi hne hq hu => by
    refine hq.only ho (fun b hbu hd => ?_)
    rcases hD b hd with e | e | e
    · refine hq.ne hR (by decide) b hbu e
    · exact nd_ne h.nd hat hi (fun e1 => hne e1.symm) e hbu
    · exact e (.inr (.inr (.inr ⟨u, hu, hbu⟩)))
  have hrow : ∀ {c : Nat} {cs : List Value}, Blk w c 61 cs → RFt P r s c → c ≠ r.hblk s k → Blk w' c 61 cs := fun {c cs} hB hf hne => by
    refine hB.only ho (fun hd => ?_)
    rcases hD _ hd with e | e | e
    · exact hne e
    · exact hRb.ne hB (by decide) c e rfl
    · exact e hf
  refine ⟨by rw [rupd_head]; exact h.head.only ho hP, ?_, ?_, ?_, ?_, by rw [rupd_all h m]; exact nd_set hat h.nd hv, ?_⟩
  · rw [r1]
    by_cases hi : s.inOld k = true
    · have hne : r.N ≠ r.hblk s k := by unfold Rf.hblk; rw [if_pos hi]; exact h.apart (inOld_iff.1 hi).1
      have e : (r.upd s k v).nv = r.nv := by unfold Rf.upd; rw [if_pos hi]
      rw [e]; exact hrow h.new (.inr (.inl rfl)) hne
    · have e : (r.upd s k v).nv = r.nv.set (s.hix k) v := by unfold Rf.upd; rw [if_neg hi]
      rw [e]
      unfold Rf.hblk Rf.hvs at hh
      rw [if_neg hi, if_neg hi] at hh; exact hh
  · intro hne
    have hne' : s.old ≠ [] := fun e => hne ((upd_old_nil s k l).2 e)
    rw [r2]
    by_cases hi : s.inOld k = true
    · have e : (r.upd s k v).ov = r.ov.set (s.hix k) v := by unfold Rf.upd; rw [if_pos hi]
      rw [e]
      unfold Rf.hblk Rf.hvs at hh
      rw [if_pos hi, if_pos hi] at hh; exact hh
    · have e : (r.upd s k v).ov = r.ov := by unfold Rf.upd; rw [if_neg hi]
      have hne2 : r.O ≠ r.hblk s k := by unfold Rf.hblk; rw [if_neg hi]; exact fun e1 => h.apart hne' e1.symm
      rw [e]; exact hrow (h.old hne') (.inr (.inr (.inl ⟨hne', rfl⟩))) hne2
  · refine ⟨by rw [r3, h.nb.1, (upd_pow s k l).2.2.2.2.2.1], fun i u q hu hq => ?_⟩
    by_cases hi : s.inOld k = true
    · have e : (r.upd s k v).nv = r.nv := by unfold Rf.upd; rw [if_pos hi]
      rw [e] at hu
      rw [(upd_rowsOf.1 hi).2] at hq
      have hlo := hb_lt k (s.pow - 1); rw [← m.lenO (inOld_iff.1 hi).1] at hlo
      refine hstay (s.old.length + i) u q (by rw [List.getElem?_append_right (by rw [h.ob.1]; omega), h.ob.1, Nat.add_sub_cancel_left]; exact hu) ?_ (h.nb.2 i u q hu hq) (List.mem_append_right _ (List.mem_of_getElem? hu))
      unfold Tb.hi; rw [if_pos hi]; omega
    · have e : (r.upd s k v).nv = r.nv.set (s.hix k) v := by unfold Rf.upd; rw [if_neg hi]
      rw [e, List.getElem?_set] at hu
      rw [(upd_rowsOf.2 (by simpa using hi)).2, List.getElem?_set] at hq
      have hx : s.hix k = hb k s.pow := by unfold Tb.hix; rw [if_neg hi]
      rw [hx] at hu
      split at hu
      · rename_i e1
        rw [if_pos e1] at hq
        have hlt := hb_lt k s.pow; rw [← m.lenN] at hlt
        rw [if_pos (by rw [h.nb.1]; exact hlt)] at hu
        rw [if_pos hlt] at hq
        cases hu; cases hq; exact hbv
      · rename_i e1
        rw [if_neg e1] at hq
        refine hstay (s.old.length + i) u q (by rw [List.getElem?_append_right (by rw [h.ob.1]; omega), h.ob.1, Nat.add_sub_cancel_left]; exact hu) ?_ (h.nb.2 i u q hu hq) (List.mem_append_right _ (List.mem_of_getElem? hu))
        unfold Tb.hi; rw [if_neg hi]; omega
  · refine ⟨by rw [r4, h.ob.1, (upd_pow s k l).2.2.2.2.2.2], fun i u q hu hq => ?_⟩
    by_cases hi : s.inOld k = true
    · have e : (r.upd s k v).ov = r.ov.set (s.hix k) v := by unfold Rf.upd; rw [if_pos hi]
      rw [e, List.getElem?_set] at hu
      rw [(upd_rowsOf.1 hi).1, List.getElem?_set] at hq
      have hx : s.hix k = hb k (s.pow - 1) := by unfold Tb.hix; rw [if_pos hi]
      rw [hx] at hu
      split at hu
      · rename_i e1
        rw [if_pos e1] at hq
        have hlt := hb_lt k (s.pow - 1); rw [← m.lenO (inOld_iff.1 hi).1] at hlt
        rw [if_pos (by rw [h.ob.1]; exact hlt)] at hu
        rw [if_pos hlt] at hq
        cases hu; cases hq; exact hbv
      · rename_i e1
        rw [if_neg e1] at hq
        have hlt : i < r.ov.length := (List.getElem?_eq_some_iff.1 hu).1
        refine hstay i u q (by rw [List.getElem?_append_left hlt]; exact hu) ?_ (h.ob.2 i u q hu hq) (List.mem_append_left _ (List.mem_of_getElem? hu))
        unfold Tb.hi; rw [if_pos hi]; omega
    · have e : (r.upd s k v).ov = r.ov := by unfold Rf.upd; rw [if_neg hi]
      rw [e] at hu
      rw [(upd_rowsOf.2 (by simpa using hi)).1] at hq
      have hlt : i < r.ov.length := (List.getElem?_eq_some_iff.1 hu).1
      refine hstay i u q (by rw [List.getElem?_append_left hlt]; exact hu) ?_ (h.ob.2 i u q hu hq) (List.mem_append_left _ (List.mem_of_getElem? hu))
      unfold Tb.hi; rw [if_neg hi, ← h.ob.1]; omega
  · intro hne; rw [r1, r2]; exact h.apart (fun e => hne ((upd_old_nil s k l).2 e))
end Go.Proofs.Ytfbkfbghejeknaa

/-
  The contracts of the document's own table's put, Get, Moved and New at this program. Conditions: the table lies in memory.
-/
import Derived.Test.YtfbkfbghejeknaaChainRef
namespace Go.Proofs.Ytfbkfbghejeknaa
open Go Go.Shelf Go.RowKit Go.Lib

/-- What a call of the answer's leaves. -/
structure RGo (P : Nat) (r : Rf) (s : Tb) (w : World) (r' : Rf) (s' : Tb) (w' : World) : Prop where
  rm : RM P r' s' w'
  only : Only (RFt P r s) w w'
  foot : ∀ x, RFt P r' s' x → RFt P r s x ∨ w.heap.size ≤ x
theorem rupd_ft {P : Nat} {r : Rf} {s : Tb} {k : ByteArray} {v : Value} {l : List En} {x : Nat} (h : RFt P (r.upd s k v) (s.upd k l) x) : RFt P r s x ∨ v.ownBlock = some x := by
  obtain ⟨r1, r2, r3, r4⟩ := rupd_len r s k v
  rcases h with h | h | ⟨h1, h2⟩ | ⟨u, hu, hub⟩
  · exact .inl (.inl h)
  · exact .inl (.inr (.inl (h.trans r1)))
  · exact .inl (.inr (.inr (.inl ⟨fun e => h1 ((upd_old_nil s k l).2 e), h2.trans r2⟩)))
  · have : u = v ∨ u ∈ r.ov ++ r.nv := by
      unfold Rf.upd at hu
      split at hu
      · rcases List.mem_append.1 hu with hu | hu
        · exact (mem_set_sub hu).imp id (List.mem_append_left _)
        · exact .inr (List.mem_append_right _ hu)
      · rcases List.mem_append.1 hu with hu | hu
        · exact .inr (List.mem_append_left _ hu)
        · exact (mem_set_sub hu).imp id (List.mem_append_right _)
    rcases this with rfl | hu
    · exact .inr hub
    · exact .inl (.inr (.inr (.inr ⟨u, hu, hub⟩)))
/-- A new bucket, in blocks of the call's own, in the key's place. -/
theorem RM.stored {P : Nat} {r : Rf} {s : Tb} {w w1 : World} (h : RM P r s w) (m : Mid s) (k : ByteArray) (v : Value) (l : List En) (hb : Below w.heap.size w w1) (hv : w1.ownsRow w.heap.size 72 2 v l.length (ec l)) :
    RGo P r s w (r.upd s k v) (s.upd k l) (w1.setCell ⟨r.hblk s k, s.hix k, none⟩ v) := by
  have h1 := h.below hb
  obtain ⟨hR, hRv, hRb⟩ := h1.home m k
  have hnew : ∀ b, v.ownBlock = some b → w.heap.size ≤ b := fun b e => by
    rcases hv.2 with ⟨rfl, _⟩ | ⟨g, cap, cur, rfl, h0, _⟩
    · simp [Value.ownBlock] at e
    · obtain rfl : g = b := by simpa [Value.ownBlock] using e
      exact h0
  have hv0 : Bkt w1 v l := ⟨hv.1, hv.2.imp id (fun ⟨g, cap, cur, e, _, q⟩ => ⟨g, cap, cur, e, Nat.zero_le _, q⟩)⟩
  have ho := only_set w1 ⟨r.hblk s k, s.hix k, none⟩ v
  refine ⟨h1.upd m k v l (D := fun b => b = r.hblk s k) ho (fun e => hR.ne h1.head (by decide) e.symm) (hR.set _ _) (hv0.only ho (fun b e e1 => hv0.ne hR (by decide) b e e1)) (fun b e => .inl e) (fun b e => .inr (fun x hx e1 => ?_)), ?_, ?_⟩
  · have h2 := h.lt b (.inr (.inr (.inr ⟨x, hx, e1⟩)))
    have h3 := hnew b e
    omega
  · exact (Below.only hb).setCell (p := ⟨r.hblk s k, s.hix k, none⟩) (.inl (rhblk_ft P r s k)) v
  · exact fun x hx => (rupd_ft hx).imp id (fun e => hnew x e)

set_option maxRecDepth 100000 in
set_option maxHeartbeats 1000000 in
theorem ref_put {P : Nat} {r : Rf} {s : Tb} {w0 w : World} (h : RM P r s w0) (hb0 : Below w0.heap.size w0 w) (m : Mid s) (k : ByteArray) (hk : k.size ≤ 9223372036854775807) {v : Value} {l : List En} (hv : w.ownsRow w0.heap.size 72 2 v l.length (ec l)) :
    Calls Try.prog 41 #[.pointer (some ⟨P, 0, none⟩), .string k, v] w fun e w' => e = .returned (.tuple #[]) ∧ RGo P r s w0 (r.upd s k v) (s.upd k l) w' := by
  have hw := h.below hb0
  have ho := ref_old hw m k hk
  obtain ⟨hR, hRv, hRb⟩ := hw.home m k
  obtain ⟨a, c, hV⟩ := hRb.form
  obtain ⟨a', c', rfl⟩ := row_form2 hv
  have hcell := hR.cell hRv
  have hfr := hR.frozen (s.hix k)
  have hRlt := hR.lt
  rw [hV] at hcell
  have hfin : ∀ w1, Below w.heap.size w w1 → Hid (RGo P r s w0 (r.upd s k (.slice a' l.length c')) (s.upd k l) (w1.setCell ⟨r.hblk s k, s.hix k, none⟩ (.slice a' l.length c'))) := fun w1 b1 => hid (h.stored m k _ l (Below.then hb0 b1) ⟨hv.1, hv.2.imp id (fun ⟨g, cap, cur, e, h0, hg, q⟩ => ⟨g, cap, cur, e, h0, (b1.block g (Array.getElem?_eq_some_iff.1 hg).1).trans hg, q⟩)⟩)
  have HF := hid hfin
  by_cases hi : s.inOld k = true
  · have hn := (inOld_iff.1 hi).1
    have c3 := hw.c3 hn
    have hlt3 := cell_lt c3
    have hx : s.hix k = hb k (s.pow - 1) := by unfold Tb.hix; rw [if_pos hi]
    have hbk : r.hblk s k = r.O := by unfold Rf.hblk; rw [if_pos hi]
    have hlt := hb_lt k (s.pow - 1); rw [← m.lenO hn] at hlt
    have hol : s.olds k = hb k (s.pow - 1) := if_neg hn
    have hll := m.len_le.2
    rw [hx, hbk] at hcell hfr HF
    rw [hbk] at hRlt
    rw [hi, hol] at ho
    generalize hb k (s.pow - 1) = B at *
    generalize s.old.length = L at *
    clear h hw m hR hRv hRb hV hx hbk hol hn hi hfin hv
    go_enter Try.func41, Try.ntmps41
    go_wp2_with fail
    refine ho.mono ?_
    rintro e w1 ⟨rfl, b1⟩
    have d3 := (b1.cell (p := ⟨P, 3, none⟩) hlt3).trans c3
    have d4 := (b1.cell (p := ⟨r.O, B, none⟩) hRlt).trans hcell
    have d5 := (b1.frozen (p := ⟨r.O, B, none⟩) hRlt).trans hfr
    go_wp2_with fail
    refine bodyPost_ret (results_none rfl _ _ _) rfl ?_
    exact ⟨rfl, (HF.out w1 b1).out⟩
  · have c4 := hw.c4 m
    have c0 := hw.c0
    have hlt3 := cell_lt c4
    have hx : s.hix k = hb k s.pow := by unfold Tb.hix; rw [if_neg hi]
    have hbk : r.hblk s k = r.N := by unfold Rf.hblk; rw [if_neg hi]
    have hlt := hb_lt k s.pow; rw [← m.lenN] at hlt
    have hll := m.len_le.1
    have p20 := m.p20
    have cO := fun w => ofN k hk w
    have cB := fun w => bucketN k s.pow (by omega) w
    rw [hx, hbk] at hcell hfr HF
    rw [hbk] at hRlt
    rw [Bool.eq_false_iff.2 hi] at ho
    have hb0' : (0 : Int) ≤ ((hb k s.pow : Nat) : Int) := by omega
    have hb1 : ((hb k s.pow : Nat) : Int) < ((s.new.length : Nat) : Int) := by omega
    generalize fnv k.data.toList = H at *
    generalize hb k s.pow = B at *
    generalize s.new.length = L at *
    generalize s.olds k = U at *
    generalize s.pow = p at *
    clear h hw m hR hRv hRb hV hx hbk hi hk hfin hv
    go_enter Try.func41, Try.ntmps41
    go_wp2_with fail
    refine ho.mono ?_
    rintro e w1 ⟨rfl, b1⟩
    have d0 := (b1.cell (p := ⟨P, 0, none⟩) hlt3).trans c0
    have d3 := (b1.cell (p := ⟨P, 4, none⟩) hlt3).trans c4
    have d4 := (b1.cell (p := ⟨r.N, B, none⟩) hRlt).trans hcell
    have d5 := (b1.frozen (p := ⟨r.N, B, none⟩) hRlt).trans hfr
    have cO := cO w1
    have cB := cB w1
    go_wp2_with fail
    go_quiet (first | exact cO _ | exact cB _)
    go_wp2_with fail
    go_end0
    exact ⟨rfl, (HF.out (w1.drewN nq) (b1.trans ⟨rfl, rfl, rfl, Nat.le_refl _, fun _ _ => rfl⟩)).out⟩

theorem ati_none {k : ByteArray} {l : List En} (h : fnd k l = none) : ati k l = -1 := if_pos h
theorem ati_some {k : ByteArray} {l : List En} {e : En} (h : fnd k l = some e) : ati k l = pos k l := if_neg (by rw [h]; simp)
theorem row_le {s : Tb} (o : Ok s) (hc : s.cnt ≤ 1000000000) (k : ByteArray) : (s.row k).length ≤ 1000000000 := by
  refine Nat.le_trans ?_ hc
  rw [o.cnt]
  exact (List.sublist_flatten_of_mem (row_in o.mid k)).length_le
/-- A bucket with an entry has a block. -/
theorem Bkt.some {w : World} {v : Value} {l : List En} (h : Bkt w v l) (hl : 0 < l.length) : ∃ g c, v = .slice (some ⟨g, 0, none⟩) l.length c := by
  rcases h.2 with ⟨_, h2⟩ | ⟨g, cap, cur, h1, -⟩
  · omega
  · exact ⟨g, cap, h1⟩
set_option maxRecDepth 100000 in
set_option maxHeartbeats 1000000 in
theorem ref_get {P : Nat} {r : Rf} {s : Tb} {w : World} (h : RM P r s w) (o : Ok s) (hc : s.cnt ≤ 1000000000) (k : ByteArray) (hk : k.size ≤ 9223372036854775807) :
    Calls Try.prog 27 #[.pointer (some ⟨P, 0, none⟩), .string k] w fun e w' => e = .returned (.tuple #[.int .i64 ((s.get k).getD 0), .bool (s.get k).isSome]) ∧ Below w.heap.size w w' := by
  have hr := ref_row h o.mid k hk
  obtain ⟨hR, hRv, hRb⟩ := h.home o.mid k
  have hlen := row_le o hc k
  have hat : ∀ w1, Below w.heap.size w w1 → Calls Try.prog 40 #[r.val s k, .string k] w1 fun e w' => e = .returned (.int .i64 (ati k (s.row k))) ∧ w1 = w' := fun w1 b1 => ref_at (hRb.only (Below.only (D := fun _ => False) b1) (fun _ _ => id)) hlen k
  cases hf : fnd k (s.row k) with
  | none =>
    have hg := hid (Tb.get_none.2 hf)
    rw [ati_none hf] at hat
    obtain ⟨a, c, hV⟩ := hRb.form
    rw [hV] at hr hat
    clear h hR hRv hRb hV hf
    go_enter Try.func27, Try.ntmps27
    go_wp2_with fail
    refine hr.mono ?_
    rintro e w1 ⟨rfl, b1⟩
    go_wp2_with fail
    refine (hat w1 b1).mono ?_
    rintro e w2 ⟨rfl, rfl⟩
    go_wp2_with fail
    go_ret2
    exact ⟨by rw [hg.out]; rfl, b1⟩
  | some e =>
    have hg : Hid (s.get k = some e.n) := hid (by unfold Tb.get; rw [hf]; rfl)
    obtain ⟨p1, p2⟩ := pos_at hf
    rw [ati_some hf] at hat
    obtain ⟨g, c, hV⟩ := hRb.some (by omega)
    rw [hV] at hr hat hRb
    have hcl := World.ownsRow.cellAt hRb (pos k (s.row k) * 2 + 1) (by omega)
    rw [(ec_at p1).2] at hcl
    have hlt := cell_lt hcl
    have hp1 : (0 : Int) ≤ ((pos k (s.row k) : Nat) : Int) := by omega
    generalize pos k (s.row k) = B at *
    generalize (s.row k).length = L at *
    clear h hR hRv hRb hV hf p1
    go_enter Try.func27, Try.ntmps27
    go_wp2_with fail
    refine hr.mono ?_
    rintro e w1 ⟨rfl, b1⟩
    have hc1 := (b1.cell (p := ⟨g, B * 2 + 1, none⟩) hlt).trans hcl
    go_wp2_with fail
    refine (hat w1 b1).mono ?_
    rintro e w2 ⟨rfl, rfl⟩
    go_wp2_with fail
    go_ret2
    exact ⟨by rw [hg.out]; rfl, b1⟩
set_option maxRecDepth 100000 in
theorem ref_moved {P : Nat} {r : Rf} {s : Tb} {w : World} (h : RM P r s w) :
    Calls Try.prog 15 #[.pointer (some ⟨P, 0, none⟩)] w fun e w' => e = .returned (.int .i64 s.mv) ∧ w = w' := by
  have c1 := h.c1
  have c2 := h.c2
  by_cases hn : s.old = []
  · have hm : Hid (s.mv = -1) := hid (if_pos hn)
    rw [decide_eq_false (p := s.old ≠ []) (fun e => e hn)] at c1
    clear hn h
    go_enter Try.func15, Try.ntmps15
    go_wp2_with fail
    go_ret
    exact ⟨ret_i64 hm.out.symm, rfl⟩
  · have hm : Hid (s.mv = s.moved) := hid (if_neg hn)
    rw [decide_eq_true (p := s.old ≠ []) hn] at c1
    clear hn h
    go_enter Try.func15, Try.ntmps15
    go_wp2_with fail
    go_ret
    exact ⟨ret_i64 hm.out.symm, rfl⟩
theorem infoRow : (Try.prog.info? 61).map (fun i => (i.zero, i.size, i.bytes)) = some (some (.slice none 0 0), 1, 24) := by kernel_rfl
set_option maxRecDepth 100000 in
theorem ref_new (w : World) (c : Nat) : Calls Try.prog 10 #[] w fun e w' => ∃ P r, e = .returned (.pointer (some ⟨P, 0, none⟩)) ∧ RM P r (Tb.first c) w' ∧ Below w.heap.size w w' ∧ ∀ x, RFt P r (Tb.first c) x → w.heap.size ≤ x := by
  obtain ⟨i0, hi, hz0, hz1, hz2⟩ := info_parts infoRow
  go_enter Try.func10, Try.ntmps10
  go_wp2_with (at_make; refine wpList_make_full _ rfl _ _ 32 rfl w.heap.size 61 i0 (.slice none 0 0) 1 Try.underlying32 hi hz0 hz1 .i64 .i64 _ _ 4 rfl rfl (by omega) (by omega) (by rw [hz2]; omega) (by unfold maxLen; omega) (Nat.le_refl _) ?_; intro w2 hown hgrow)
  rw [made_cells _ _ rfl] at hown
  have hB0 := blk_of_full hown
  have hb0 := below_of_grown hgrow
  go_ret
  have hP := Blk.new w2 #[.int .i64 2, .bool false, .int .i64 0, .slice none 0 0, .slice (some ⟨w.heap.size, 0, none⟩) 4 4, .int .i64 0] 34
  refine ⟨w2.heap.size, ⟨w.heap.size, 0, List.replicate 4 (.slice none 0 0), []⟩, rfl, ⟨hP, hB0.alloc _, fun h => (h rfl).elim, ⟨rfl, fun i v l hv hl => ?_⟩, ⟨rfl, fun i v l hv hl => by simp at hv⟩, by simp [Value.ownBlock, List.replicate, List.filterMap], fun h => (h rfl).elim⟩, hb0.alloc hb0.size _, fun x hx => ?_⟩
  · have h1 : v ∈ List.replicate 4 (Value.slice none 0 0) := List.mem_of_getElem? hv
    have h2 : l ∈ List.replicate 4 ([] : List En) := List.mem_of_getElem? hl
    rw [(List.mem_replicate.1 h1).2, (List.mem_replicate.1 h2).2]
    exact Bkt.nil _
  · rcases hx with rfl | rfl | ⟨h1, _⟩ | ⟨v, hv, hb⟩
    · exact hb0.size
    · exact Nat.le_refl _
    · exact (h1 rfl).elim
    · have h1 : v ∈ List.replicate 4 (Value.slice none 0 0) := hv
      rw [(List.mem_replicate.1 h1).2] at hb
      simp [Value.ownBlock] at hb
end Go.Proofs.Ytfbkfbghejeknaa

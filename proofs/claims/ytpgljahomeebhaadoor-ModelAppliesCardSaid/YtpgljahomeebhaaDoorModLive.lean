/-
  The contract of the document's own Live: the items that are left at a moment. Conditions: the state's items can be read.
-/
import Derived.Test.YtpgljahomeebhaaDoorBaseB
import Derived.Deep.AppendLies
import Derived.Deep.Slices
namespace Go.Proofs.YtpgljahomeebhaaDoor.Md
open Go Go.RowKit Go.Lib

theorem infoItem : (Tryd.prog.info? 33).map (fun i => (i.zero, i.size, i.bytes)) = some (some (.agg #[.string emp, .int .u32 0, .string emp, .int .i64 0, .int .u64 0, .int .i64 0, .bool false, .bool false]), 8, 72) := by kernel_rfl
theorem info_parts {P : Program} {t : TypeId} {z : Value} {n b : Nat} (h : (P.info? t).map (fun i => (i.zero, i.size, i.bytes)) = some (some z, n, b)) : ∃ i, P.info? t = some i ∧ i.zero = some z ∧ i.size = n ∧ i.bytes = b := by
  cases e : P.info? t with
  | none => rw [e] at h; cases h
  | some i =>
    rw [e] at h
    simp only [Option.map_some, Option.some.injEq, Prod.mk.injEq] at h
    exact ⟨i, rfl, h.1, h.2.1, h.2.2⟩
theorem orow_below {w w' : World} {base : Nat} {e : TypeId} {size : Nat} {v : Value} {n : Nat} {xs : List Value} (h : w.ownsRow base e size v n xs) (hb : Below w.heap.size w w') : w'.ownsRow base e size v n xs :=
  ⟨h.1, h.2.imp id (fun ⟨g, cap, cur, hv, h0, hg, r⟩ => ⟨g, cap, cur, hv, h0, (hb.block g (Array.getElem?_eq_some_iff.1 hg).1).trans hg, r⟩)⟩
theorem item_src (w : World) (x : It) : ∀ j u, x.cells[j]? = some u → ((w.alloc (.cells #[.string x.key, .int .u32 x.flags, .string x.val, .int .i64 x.exp, .int .u64 x.cas, .int .i64 x.last, .bool x.stale, .bool x.won] 33)).drew).cell? ((⟨w.heap.size, 0, none⟩ : Addr).add j) = some u := fun j u hj => by
  rw [addr_plain, Nat.zero_add]
  exact (Blk.new w #[.string x.key, .int .u32 x.flags, .string x.val, .int .i64 x.exp, .int .u64 x.cas, .int .i64 x.last, .bool x.stale, .bool x.won] 33).cell hj
theorem cells_ok (x : It) : ∀ u ∈ x.cells, u.oneCell' = true := fun u hu => ics_ok [x] u (by rw [ics_cons]; exact List.mem_append_left _ hu)
theorem own_blk {w : World} {base : Nat} {e : TypeId} {size : Nat} {v : Value} {n : Nat} {xs : List Value} (h : w.ownsRow base e size v n xs) {b : Nat} (hb : v.ownBlock = some b) : base ≤ b ∧ ∃ cs, Blk w b e cs := by
  rcases h.2 with ⟨rfl, _⟩ | ⟨g, cap, cur, rfl, h0, hg, _⟩
  · simp [Value.ownBlock] at hb
  · obtain rfl : g = b := by simpa [Value.ownBlock] using hb
    exact ⟨h0, cur.toList, hg⟩
theorem blk_ne {w : World} {b c : Nat} {t u : TypeId} {cs ds : List Value} (h : Blk w b t cs) (k : Blk w c u ds) (hn : t ≠ u) : b ≠ c := fun e => by
  subst e
  have h1 : w.heap[b]? = some (.cells cs.toArray t (0, 0)) := h
  have h2 : w.heap[b]? = some (.cells ds.toArray u (0, 0)) := k
  rw [h1] at h2
  injection h2 with h2; injection h2 with _ h2
  exact hn h2
/-- The cells of an item that can be read, one by one. -/
theorem Its.at {w : World} {a : Option Addr} {N c : Nat} {l : List It} (h : Its w (.slice a N c) l) {k : Nat} {x : It} (hk : l[k]? = some x) : ∃ b o, a = some ⟨b, o, none⟩ ∧ w.cell? ⟨b, o + k * 8, none⟩ = some (.string x.key) ∧ w.cell? ⟨b, o + k * 8 + 1, none⟩ = some (.int .u32 x.flags) ∧ w.cell? ⟨b, o + k * 8 + 2, none⟩ = some (.string x.val) ∧ w.cell? ⟨b, o + k * 8 + 3, none⟩ = some (.int .i64 x.exp) ∧ w.cell? ⟨b, o + k * 8 + 4, none⟩ = some (.int .u64 x.cas) ∧ w.cell? ⟨b, o + k * 8 + 5, none⟩ = some (.int .i64 x.last) ∧ w.cell? ⟨b, o + k * 8 + 6, none⟩ = some (.bool x.stale) ∧ w.cell? ⟨b, o + k * 8 + 7, none⟩ = some (.bool x.won) := by
  obtain ⟨a', c', hv, hc, _, hx⟩ := h
  injection hv with h1 h2 h3
  subst h1
  obtain ⟨b, o, ha, hy⟩ := hx k x hk
  exact ⟨b, o, ha, hy 0 _ rfl, hy 1 _ rfl, hy 2 _ rfl, hy 3 _ rfl, hy 4 _ rfl, hy 5 _ rfl, hy 6 _ rfl, hy 7 _ rfl⟩
/-- Live, under way: k items are looked at. -/
structure LW (w0 : World) (vs : Value) (its : List It) (cas : Nat) (fl now : Int) (k : Nat) (vo : Value) (W : World) : Prop where
  b0 : Blk W w0.heap.size 25 [vs, .int .u64 cas, .int .i64 fl]
  b1 : Blk W (w0.heap.size + 1) 25 [.slice none 0 0, .int .u64 0, .int .i64 0]
  b2 : Blk W (w0.heap.size + 1 + 1) 25 [vo, .int .u64 cas, .int .i64 fl]
  row : W.ownsRow w0.heap.size 33 8 vo ((its.take k).filter (fun x => !gone now x)).length (ics ((its.take k).filter (fun x => !gone now x)))
  below : Below w0.heap.size w0 W
section
variable {w0 W W' : World} {vs vo : Value} {its : List It} {cas k : Nat} {fl now : Int}
theorem LW.step (h : LW w0 vs its cas fl now k vo W) (hb : Below W.heap.size W W') : LW w0 vs its cas fl now k vo W' := ⟨h.b0.below hb, h.b1.below hb, h.b2.below hb, orow_below h.row hb, Below.then h.below (hb.mono (Nat.le_refl _))⟩
theorem LW.skip (h : LW w0 vs its cas fl now k vo W) {x : It} (hx : its[k]? = some x) (hp : (!gone now x) = false) : LW w0 vs its cas fl now (k + 1) vo W := by
  have e : (its.take (k + 1)).filter (fun x => !gone now x) = (its.take k).filter (fun x => !gone now x) := by
    obtain ⟨hk, rfl⟩ := List.getElem?_eq_some_iff.1 hx
    rw [List.take_succ_eq_append_getElem hk, List.filter_append, List.filter_cons_of_neg (by rw [hp]; decide)]
    simp
  exact ⟨h.b0, h.b1, h.b2, by rw [e]; exact h.row, h.below⟩
/-- One more is laid behind. -/
theorem LW.snoc (h : LW w0 vs its cas fl now k vo W) {x : It} (hx : its[k]? = some x) (hp : (!gone now x) = true) {w1 : World} {tmp : Obj} {g cap n : Nat} (hn : n = ((its.take k).filter (fun x => !gone now x)).length) (hg : ((W.alloc tmp).drew).grownBy w1 vo.ownBlock)
    (ho : w1.ownsRow w0.heap.size 33 8 (.slice (some ⟨g, 0, none⟩) (n + 1) cap) (n + 1) (ics ((its.take k).filter (fun x => !gone now x)) ++ x.cells)) :
    LW w0 vs its cas fl now (k + 1) (.slice (some ⟨g, 0, none⟩) (n + 1) cap) (w1.setCell ⟨w0.heap.size + 1 + 1, 0, none⟩ (.slice (some ⟨g, 0, none⟩) (n + 1) cap)) := by
  have e : (its.take (k + 1)).filter (fun x => !gone now x) = (its.take k).filter (fun x => !gone now x) ++ [x] := by
    obtain ⟨hk, rfl⟩ := List.getElem?_eq_some_iff.1 hx
    rw [List.take_succ_eq_append_getElem hk, List.filter_append, List.filter_cons_of_pos (by rw [hp])]
    simp
  have hne : ∀ b cs, Blk W b 25 cs → vo.ownBlock ≠ some b := fun b cs hb e2 => by
    obtain ⟨_, ds, hd⟩ := own_blk h.row e2
    exact blk_ne hd hb (by decide) rfl
  have hk2 : ∀ b cs, Blk W b 25 cs → Blk w1 b 25 cs := fun b cs hb => (hg.block b (by simp; exact Nat.lt_succ_of_lt hb.lt) (fun e2 => hne b cs hb e2.symm)).trans (hb.alloc tmp)
  have hgs : ∀ b, vo.ownBlock = some b → w0.heap.size ≤ b := fun b hb => (own_blk h.row hb).1
  have hB2 := hk2 _ _ h.b2
  have hg2 : g ≠ w0.heap.size + 1 + 1 := by
    obtain ⟨_, ds, hd⟩ := own_blk ho (b := g) rfl
    exact blk_ne hd hB2 (by decide)
  have ho2 : Only (fun b => b = w0.heap.size + 1 + 1) w1 (w1.setCell ⟨w0.heap.size + 1 + 1, 0, none⟩ (.slice (some ⟨g, 0, none⟩) (n + 1) cap)) := Only.setCell (D := fun b => b = w0.heap.size + 1 + 1) (Only.refl _ _) (p := ⟨w0.heap.size + 1 + 1, 0, none⟩) (.inl rfl) _
  refine ⟨(hk2 _ _ h.b0).only ho2 (by omega), (hk2 _ _ h.b1).only ho2 (by omega), hB2.set 0 _, ?_, ?_⟩
  · rw [e, ics_app, List.length_append, ← hn]
    refine ⟨ho.1, ho.2.imp id (fun ⟨g', cap', cur, hv, h0, hgc, r⟩ => ⟨g', cap', cur, hv, h0, ?_, r⟩)⟩
    have hgg : g = g' := by injection hv with h1 _ _; injection h1 with h1; injection h1
    exact (ho2.block g' (Array.getElem?_eq_some_iff.1 hgc).1 (by rw [← hgg]; exact hg2)).trans hgc
  · have h1 : Below w0.heap.size w0 w1 := by
      have hb0 : Below w0.heap.size w0 (W.alloc tmp).drew := (Below.then h.below (abelow W tmp)).trans ((Below.refl _ _).drew)
      refine ⟨hg.os.trans hb0.os, hg.tape.trans hb0.tape, hg.output.trans hb0.output, Nat.le_trans hb0.size hg.size, fun b hb => ?_⟩
      exact (hg.block b (Nat.lt_of_lt_of_le hb hb0.size) (fun e2 => by have := hgs b e2.symm; omega)).trans (hb0.block b hb)
    exact h1.setCell (p := ⟨w0.heap.size + 1 + 1, 0, none⟩) (by show w0.heap.size ≤ w0.heap.size + 1 + 1; omega) _
end
theorem res_state {fn : Func} {R : Nat} (h : fn.results = #[.cell R 25]) {tmps : Array Value} {w : World} {B : Nat} {a : Option Addr} {n c : Nat} {cas fl : Int} (hb : Blk w B 25 [.slice a n c, .int .u64 cas, .int .i64 fl]) (h2 : tmps[R]?.getD undef = .pointer (some ⟨B, 0, none⟩)) :
    (results fn tmps).run Tryd.prog w = .ok (.agg #[.slice a n c, .int .u64 cas, .int .i64 fl]) w := by
  have q0 := hb.cell (i := 0) rfl
  have q1 := hb.cell (i := 1) rfl
  have q2 := hb.cell (i := 2) rfl
  simp [results, h, h2, go_sem, q0, q1, q2]
set_option maxRecDepth 100000 in
set_option maxHeartbeats 4000000 in
theorem ref_live {s : Ms} {V : Value} {w : World} (h : Sv w V s) (hlen : s.its.length ≤ 4194304) (now : Int) : Calls Tryd.prog 22 #[V, .int .i64 now] w fun e w' => ∃ V', e = .returned V' ∧ Sv w' V' (live s now) ∧ Below w.heap.size w w' := by
  obtain ⟨v, rfl, hI⟩ := h
  obtain ⟨a, c, rfl⟩ := hI.form
  have HI := hid hI
  clear hI
  unfold msv
  obtain ⟨N, hN⟩ : ∃ N, N = s.its.length := ⟨_, rfl⟩
  rw [← hN] at HI hlen ⊢
  have HN := hid hN
  clear hN
  obtain ⟨fl, hfl⟩ : ∃ fl, fl = s.fl := ⟨_, rfl⟩
  have H0 : Hid (∀ W, ((w.alloc (.cells #[.slice a N c, .int .u64 s.cas, .int .i64 fl] 25)).alloc (.cells #[.slice none 0 0, .int .u64 0, .int .i64 0] 25)).alloc (.cells #[.slice none 0 0, .int .u64 s.cas, .int .i64 fl] 25) = W → LW w (.slice a N c) s.its s.cas fl now 0 (.slice none 0 0) W) := hid (by
    rintro W rfl
    have hB0 := Blk.new w #[.slice a N c, .int .u64 s.cas, .int .i64 fl] 25
    generalize hw1 : w.alloc (.cells #[.slice a N c, .int .u64 s.cas, .int .i64 fl] 25) = w1 at *
    have z1 : w1.heap.size = w.heap.size + 1 := by rw [← hw1]; simp
    have hB1 := Blk.new w1 #[.slice none 0 0, .int .u64 0, .int .i64 0] 25
    rw [z1] at hB1
    generalize hw2 : w1.alloc (.cells #[.slice none 0 0, .int .u64 0, .int .i64 0] 25) = w2 at *
    have z2 : w2.heap.size = w.heap.size + 1 + 1 := by rw [← hw2]; simp [z1]
    have hB2 := Blk.new w2 #[.slice none 0 0, .int .u64 s.cas, .int .i64 fl] 25
    rw [z2] at hB2
    have b1 := abelow w (.cells #[.slice a N c, .int .u64 s.cas, .int .i64 fl] 25)
    have b2 := abelow w1 (.cells #[.slice none 0 0, .int .u64 0, .int .i64 0] 25)
    have b3 := abelow w2 (.cells #[.slice none 0 0, .int .u64 s.cas, .int .i64 fl] 25)
    rw [hw1] at b1
    rw [hw2] at b2
    exact ⟨(hB0.below b2).below b3, hB1.below b3, hB2, ⟨rfl, .inl ⟨rfl, rfl⟩⟩, Below.then (Below.then b1 b2) b3⟩)
  by_cases hc : fl ≠ 0 ∧ fl ≤ now
  · obtain ⟨h0, h1⟩ := hc
    have hl : Hid (live s now = ⟨[], s.cas, 0⟩) := hid (by unfold live; rw [if_pos (by rw [← hfl]; exact ⟨h0, h1⟩)])
    have h0' : (fl == 0) = false := beq_eq_false_iff_ne.2 h0
    rw [← hfl]
    clear hfl
    generalize s.cas = cas at *
    have HX : Hid (∀ W, W = ((w.alloc (.cells #[.slice a N c, .int .u64 cas, .int .i64 fl] 25)).alloc (.cells #[.slice none 0 0, .int .u64 cas, .int .i64 0] 25)).alloc (.cells #[.slice none 0 0, .int .u64 cas, .int .i64 0] 25) → Blk W (w.heap.size + 1) 25 [.slice none 0 0, .int .u64 cas, .int .i64 0] ∧ Below w.heap.size w W) := hid (by
      rintro W rfl
      have b1 := abelow w (.cells #[.slice a N c, .int .u64 cas, .int .i64 fl] 25)
      generalize hw1 : w.alloc (.cells #[.slice a N c, .int .u64 cas, .int .i64 fl] 25) = w1 at *
      have z1 : w1.heap.size = w.heap.size + 1 := by rw [← hw1]; simp
      have hB1 := Blk.new w1 #[.slice none 0 0, .int .u64 cas, .int .i64 0] 25
      rw [z1] at hB1
      have b2 := abelow w1 (.cells #[.slice none 0 0, .int .u64 cas, .int .i64 0] 25)
      have b3 := abelow (w1.alloc (.cells #[.slice none 0 0, .int .u64 cas, .int .i64 0] 25)) (.cells #[.slice none 0 0, .int .u64 cas, .int .i64 0] 25)
      exact ⟨hB1.below b3, Below.then (Below.then b1 b2) b3⟩)
    clear H0 HI HN
    go_enter Tryd.func22, Tryd.ntmps22
    go_wp2_with fail
    obtain ⟨X1, X2⟩ := HX.out _ rfl
    refine bodyPost_ret (res_state rfl X1 rfl) rfl ⟨_, rfl, ?_, X2⟩
    rw [hl.out]
    exact ⟨_, rfl, its_nil _⟩
  · have hl : Hid (live s now = ⟨s.its.filter (fun x => !gone now x), s.cas, fl⟩) := hid (by unfold live; rw [if_neg (by rw [← hfl]; exact hc), ← hfl])
    have h01 : fl = 0 ∨ ((fl != 0) = true ∧ ¬ fl ≤ now) := by
      by_cases e : fl = 0
      · exact .inl e
      · exact .inr ⟨bne_iff_ne.2 e, fun h => hc ⟨e, h⟩⟩
    rw [← hfl]
    clear hfl hc
    generalize s.cas = cas at *
    rcases h01 with rfl | ⟨h01, h02⟩
    · go_enter Tryd.func22, Tryd.ntmps22
      go_wp2_with fail
      have hL := H0.out _ rfl
      generalize ((w.alloc (.cells #[.slice a N c, .int .u64 cas, .int .i64 0] 25)).alloc (.cells #[.slice none 0 0, .int .u64 0, .int .i64 0] 25)).alloc (.cells #[.slice none 0 0, .int .u64 cas, .int .i64 0] 25) = W0 at *
      have HL := hid hL
      clear hL H0
      go_loopw [6] (fun i wr => ∃ (k : Nat) (vo : Value), i = .int .i64 k ∧ k ≤ N ∧ Hid (LW w (.slice a N c) s.its cas 0 now k vo wr)) (fun i _ => N - (RowKit.intOf i).toNat)
      case atStart => exact ⟨0, _, rfl, Nat.zero_le _, HL⟩
      case round =>
        obtain ⟨k, vo, rfl, hk, hL⟩ := hrel
        clear HL
        have c0 := hL.out.b0.cell (i := 0) rfl
        by_cases hlt : k < N
        · have hlt1 : (k : Int) < (N : Int) := by omega
          have k0 : (0 : Int) ≤ (k : Int) := by omega
          obtain ⟨x, hx⟩ : ∃ x, s.its[k]? = some x := ⟨_, List.getElem?_eq_getElem (by rw [← HN.out]; exact hlt)⟩
          obtain ⟨b, o, rfl, d0, d1, d2, d3, d4, d5, d6, d7⟩ := (HI.out.below hL.out.below).at hx
          have hg := ref_gone x now wr
          go_wp2_with fail
          refine hg.mono ?_
          rintro e w2 ⟨rfl, hb2⟩
          have hL2 := hid (hL.out.step hb2)
          have c1 := hL2.out.b0.cell (i := 0) rfl
          cases hp : gone now x
          · have HN3 : Hid (∀ (w1 : World) (tmp : Obj) (g cap n : Nat), n = ((s.its.take k).filter (fun x => !gone now x)).length → ((w2.alloc tmp).drew).grownBy w1 vo.ownBlock → w1.ownsRow w.heap.size 33 8 (.slice (some ⟨g, 0, none⟩) (n + 1) cap) (n + 1) (ics ((s.its.take k).filter (fun x => !gone now x)) ++ x.cells) → LW w (.slice (some ⟨b, o, none⟩) N c) s.its cas 0 now (k + 1) (.slice (some ⟨g, 0, none⟩) (n + 1) cap) (w1.setCell ⟨w.heap.size + 1 + 1, 0, none⟩ (.slice (some ⟨g, 0, none⟩) (n + 1) cap))) := hid (fun w1 tmp g cap n h1 h2 h3 => hL2.out.snoc hx (by rw [hp]; rfl) h1 h2 h3)
            obtain ⟨b', o', hbo, m0, m1, m2, m3, m4, m5, m6, m7⟩ := (HI.out.below hL2.out.below).at hx
            injection hbo with hbo; injection hbo with hb1 hb2'
            subst hb1 hb2'
            have cc := hL2.out.b2.cell (i := 0) rfl
            have ff := hL2.out.b2.frozen 0
            have l2 := hL2.out.b2.lt
            have hown := hL2.out.row
            have hne : vo.ownBlock ≠ some (w.heap.size + 1 + 1) := fun e2 => by
              obtain ⟨_, ds, hd⟩ := own_blk hown e2
              exact blk_ne hd hL2.out.b2 (by decide) rfl
            have hfl : ((s.its.take k).filter (fun x => !gone now x)).length ≤ 4194304 := by
              have h1 := List.length_filter_le (fun x => !gone now x) (s.its.take k)
              have h2 : (s.its.take k).length ≤ s.its.length := by rw [List.length_take]; omega
              have := HN.out
              omega
            obtain ⟨av, cv, hvo⟩ := row_form hown
            have HNn := hid (rfl : ((s.its.take k).filter (fun x => !gone now x)).length = ((s.its.take k).filter (fun x => !gone now x)).length)
            generalize hnn : ((s.its.take k).filter (fun x => !gone now x)).length = nn at hown hvo hfl
            have HNN := hid hnn
            subst hvo
            obtain ⟨i0, hi0, hz0, hz1, hz2⟩ := info_parts infoItem
            have hsrc := item_src w2 x
            clear hL2 hL d0 d1 d2 d3 d4 d5 d6 d7 c0 hg hnn HNn hx hp hb2
            generalize ics ((s.its.take k).filter (fun x => !gone now x)) = XS at *
            go_wp2_with fail
            go_region_law ((refine step_append_lies _ (by rfl) _ _ _ (by rfl) w.heap.size 33 i0 _ 8 72 Tryd.underlying22 hi0 hz0 hz1 hz2 rfl (by omega) (.slice av nn cv) nn XS (by rfl) ((hown.alloc _).drew) ⟨w2.heap.size, 0, none⟩ 1 1 x.cells (by rfl) (by rfl) hsrc (cells_ok x) (by omega) (by unfold maxLen; omega) (by omega) (by simp; omega) (w2.heap.size + 1) (by simp) ?_; intro g cap w1 hown1 hgrow hat hlt; have er := (hgrow.cell_far ⟨w.heap.size + 1 + 1, 0, none⟩ (by simp; omega) (Ne.symm hne)).trans (cell_alloc cc _); have ef := (hgrow.frozen_far ⟨w.heap.size + 1 + 1, 0, none⟩ (by simp; omega) (Ne.symm hne)).trans ((World.frozen?_alloc_past _ (w.heap.size + 1 + 1) 0 l2).trans ff)))
            all_goals
              have hL3 := hid (HN3.out w1 _ g cap nn HNN.out.symm hgrow hown1)
              clear HN3 hown1 hgrow hat hown HNN
              go_wp2_with fail
              go_roundw
              case rel => exact ⟨k + 1, _, by go_num, by omega, hL3⟩
              case measure => simp [RowKit.intOf] <;> omega
          · have hL3 := hid (hL2.out.skip hx (by rw [hp]; rfl))
            clear hL2 hL d0 d1 d2 d3 d4 d5 d6 d7 c0 c1 hg
            go_wp2_with fail
            go_roundw
            case rel => exact ⟨k + 1, vo, by go_num, by omega, hL3⟩
            case measure => simp [RowKit.intOf] <;> omega
        · have hlt1 : ¬ (k : Int) < (N : Int) := by omega
          have hkN : k = N := by omega
          obtain ⟨av, cv, rfl⟩ := row_form hL.out.row
          have c2a := hL.out.b2.cell (i := 0) rfl
          have c2b := hL.out.b2.cell (i := 1) rfl
          have c2c := hL.out.b2.cell (i := 2) rfl
          have c1a := hL.out.b1.cell (i := 0) rfl
          have c1b := hL.out.b1.cell (i := 1) rfl
          have c1c := hL.out.b1.cell (i := 2) rfl
          have f1a := hL.out.b1.frozen 0
          have f1b := hL.out.b1.frozen 1
          have f1c := hL.out.b1.frozen 2
          subst hkN
          have HX : Hid (∀ W, W = (((wr.setCell ⟨w.heap.size + 1, 0, none⟩ (.slice av ((s.its.take k).filter (fun x => !gone now x)).length cv)).setCell ⟨w.heap.size + 1, 1, none⟩ (.int .u64 cas)).setCell ⟨w.heap.size + 1, 2, none⟩ (.int .i64 0)) → Blk W (w.heap.size + 1) 25 [.slice av ((s.its.take k).filter (fun x => !gone now x)).length cv, .int .u64 cas, .int .i64 0] ∧ Sv W (.agg #[.slice av ((s.its.take k).filter (fun x => !gone now x)).length cv, .int .u64 cas, .int .i64 0]) (live s now) ∧ Below w.heap.size w W) := hid (by
            rintro W rfl
            have e : s.its.take k = s.its := List.take_of_length_le (by have := HN.out; omega)
            have hb : Below w.heap.size w (((wr.setCell ⟨w.heap.size + 1, 0, none⟩ (.slice av ((s.its.take k).filter (fun x => !gone now x)).length cv)).setCell ⟨w.heap.size + 1, 1, none⟩ (.int .u64 cas)).setCell ⟨w.heap.size + 1, 2, none⟩ (.int .i64 0)) :=
              ((hL.out.below.setCell (p := ⟨w.heap.size + 1, 0, none⟩) (Nat.le_succ _) _).setCell (p := ⟨w.heap.size + 1, 1, none⟩) (Nat.le_succ _) _).setCell (p := ⟨w.heap.size + 1, 2, none⟩) (Nat.le_succ _) _
            refine ⟨((hL.out.b1.set 0 _).set 1 _).set 2 _, ?_, hb⟩
            rw [hl.out]
            refine ⟨_, rfl, ?_⟩
            have hr := its_of_row hL.out.row rfl
            have hne : ∀ (b o : Nat), av = some ⟨b, o, none⟩ → b ≠ w.heap.size + 1 := fun b o e2 => by
              have hown := hL.out.row
              obtain ⟨_, ds, hd⟩ := own_blk hown (b := b) (by
                subst e2
                rcases hown.2 with ⟨q, _⟩ | ⟨g, cap, cur, q, _⟩
                · cases q
                · injection q with q1 _ _; injection q1 with q1; injection q1 with q1 q2; subst q1 q2; rfl)
              exact blk_ne hd hL.out.b1 (by decide)
            have hm : ∀ v (u : Value) j, Its v (.slice av ((s.its.take k).filter (fun x => !gone now x)).length cv) ((s.its.take k).filter (fun x => !gone now x)) → Its (v.setCell ⟨w.heap.size + 1, j, none⟩ u) (.slice av ((s.its.take k).filter (fun x => !gone now x)).length cv) ((s.its.take k).filter (fun x => !gone now x)) := fun v u j hv => by
              obtain ⟨a', c', q, hc', hn', hx⟩ := hv
              refine ⟨a', c', q, hc', hn', fun i x hi => ?_⟩
              obtain ⟨b, o, ha, hy⟩ := hx i x hi
              refine ⟨b, o, ha, fun j2 u2 hj => ?_⟩
              have hab : av = some ⟨b, o, none⟩ := by injection q with q1 _ _; rw [q1]; exact ha
              exact (World.cell?_setCell_other _ _ _ _ (fun e2 => hne b o hab (congrArg Addr.block e2).symm)).trans (hy j2 u2 hj)
            have := hm _ (.int .i64 0) 2 (hm _ (.int .u64 cas) 1 (hm _ (.slice av ((s.its.take k).filter (fun x => !gone now x)).length cv) 0 hr))
            rw [e] at this ⊢
            exact this)
          clear hL HI HN hl
          generalize ((s.its.take k).filter (fun x => !gone now x)).length = nn at *
          go_wp2_with fail
          obtain ⟨X1, X2, X3⟩ := HX.out _ rfl
          exact bodyPost_ret (res_state rfl X1 rfl) rfl ⟨_, rfl, X2, X3⟩
    · go_enter Tryd.func22, Tryd.ntmps22
      go_wp2_with fail
      have hL := H0.out _ rfl
      generalize ((w.alloc (.cells #[.slice a N c, .int .u64 cas, .int .i64 fl] 25)).alloc (.cells #[.slice none 0 0, .int .u64 0, .int .i64 0] 25)).alloc (.cells #[.slice none 0 0, .int .u64 cas, .int .i64 fl] 25) = W0 at *
      have HL := hid hL
      clear hL H0
      go_loopw [6] (fun i wr => ∃ (k : Nat) (vo : Value), i = .int .i64 k ∧ k ≤ N ∧ Hid (LW w (.slice a N c) s.its cas fl now k vo wr)) (fun i _ => N - (RowKit.intOf i).toNat)
      case atStart => exact ⟨0, _, rfl, Nat.zero_le _, HL⟩
      case round =>
        obtain ⟨k, vo, rfl, hk, hL⟩ := hrel
        clear HL
        have c0 := hL.out.b0.cell (i := 0) rfl
        by_cases hlt : k < N
        · have hlt1 : (k : Int) < (N : Int) := by omega
          have k0 : (0 : Int) ≤ (k : Int) := by omega
          obtain ⟨x, hx⟩ : ∃ x, s.its[k]? = some x := ⟨_, List.getElem?_eq_getElem (by rw [← HN.out]; exact hlt)⟩
          obtain ⟨b, o, rfl, d0, d1, d2, d3, d4, d5, d6, d7⟩ := (HI.out.below hL.out.below).at hx
          have hg := ref_gone x now wr
          go_wp2_with fail
          refine hg.mono ?_
          rintro e w2 ⟨rfl, hb2⟩
          have hL2 := hid (hL.out.step hb2)
          have c1 := hL2.out.b0.cell (i := 0) rfl
          cases hp : gone now x
          · have HN3 : Hid (∀ (w1 : World) (tmp : Obj) (g cap n : Nat), n = ((s.its.take k).filter (fun x => !gone now x)).length → ((w2.alloc tmp).drew).grownBy w1 vo.ownBlock → w1.ownsRow w.heap.size 33 8 (.slice (some ⟨g, 0, none⟩) (n + 1) cap) (n + 1) (ics ((s.its.take k).filter (fun x => !gone now x)) ++ x.cells) → LW w (.slice (some ⟨b, o, none⟩) N c) s.its cas fl now (k + 1) (.slice (some ⟨g, 0, none⟩) (n + 1) cap) (w1.setCell ⟨w.heap.size + 1 + 1, 0, none⟩ (.slice (some ⟨g, 0, none⟩) (n + 1) cap))) := hid (fun w1 tmp g cap n h1 h2 h3 => hL2.out.snoc hx (by rw [hp]; rfl) h1 h2 h3)
            obtain ⟨b', o', hbo, m0, m1, m2, m3, m4, m5, m6, m7⟩ := (HI.out.below hL2.out.below).at hx
            injection hbo with hbo; injection hbo with hb1 hb2'
            subst hb1 hb2'
            have cc := hL2.out.b2.cell (i := 0) rfl
            have ff := hL2.out.b2.frozen 0
            have l2 := hL2.out.b2.lt
            have hown := hL2.out.row
            have hne : vo.ownBlock ≠ some (w.heap.size + 1 + 1) := fun e2 => by
              obtain ⟨_, ds, hd⟩ := own_blk hown e2
              exact blk_ne hd hL2.out.b2 (by decide) rfl
            have hfl : ((s.its.take k).filter (fun x => !gone now x)).length ≤ 4194304 := by
              have h1 := List.length_filter_le (fun x => !gone now x) (s.its.take k)
              have h2 : (s.its.take k).length ≤ s.its.length := by rw [List.length_take]; omega
              have := HN.out
              omega
            obtain ⟨av, cv, hvo⟩ := row_form hown
            have HNn := hid (rfl : ((s.its.take k).filter (fun x => !gone now x)).length = ((s.its.take k).filter (fun x => !gone now x)).length)
            generalize hnn : ((s.its.take k).filter (fun x => !gone now x)).length = nn at hown hvo hfl
            have HNN := hid hnn
            subst hvo
            obtain ⟨i0, hi0, hz0, hz1, hz2⟩ := info_parts infoItem
            have hsrc := item_src w2 x
            clear hL2 hL d0 d1 d2 d3 d4 d5 d6 d7 c0 hg hnn HNn hx hp hb2
            generalize ics ((s.its.take k).filter (fun x => !gone now x)) = XS at *
            go_wp2_with fail
            go_region_law ((refine step_append_lies _ (by rfl) _ _ _ (by rfl) w.heap.size 33 i0 _ 8 72 Tryd.underlying22 hi0 hz0 hz1 hz2 rfl (by omega) (.slice av nn cv) nn XS (by rfl) ((hown.alloc _).drew) ⟨w2.heap.size, 0, none⟩ 1 1 x.cells (by rfl) (by rfl) hsrc (cells_ok x) (by omega) (by unfold maxLen; omega) (by omega) (by simp; omega) (w2.heap.size + 1) (by simp) ?_; intro g cap w1 hown1 hgrow hat hlt; have er := (hgrow.cell_far ⟨w.heap.size + 1 + 1, 0, none⟩ (by simp; omega) (Ne.symm hne)).trans (cell_alloc cc _); have ef := (hgrow.frozen_far ⟨w.heap.size + 1 + 1, 0, none⟩ (by simp; omega) (Ne.symm hne)).trans ((World.frozen?_alloc_past _ (w.heap.size + 1 + 1) 0 l2).trans ff)))
            all_goals
              have hL3 := hid (HN3.out w1 _ g cap nn HNN.out.symm hgrow hown1)
              clear HN3 hown1 hgrow hat hown HNN
              go_wp2_with fail
              go_roundw
              case rel => exact ⟨k + 1, _, by go_num, by omega, hL3⟩
              case measure => simp [RowKit.intOf] <;> omega
          · have hL3 := hid (hL2.out.skip hx (by rw [hp]; rfl))
            clear hL2 hL d0 d1 d2 d3 d4 d5 d6 d7 c0 c1 hg
            go_wp2_with fail
            go_roundw
            case rel => exact ⟨k + 1, vo, by go_num, by omega, hL3⟩
            case measure => simp [RowKit.intOf] <;> omega
        · have hlt1 : ¬ (k : Int) < (N : Int) := by omega
          have hkN : k = N := by omega
          obtain ⟨av, cv, rfl⟩ := row_form hL.out.row
          have c2a := hL.out.b2.cell (i := 0) rfl
          have c2b := hL.out.b2.cell (i := 1) rfl
          have c2c := hL.out.b2.cell (i := 2) rfl
          have c1a := hL.out.b1.cell (i := 0) rfl
          have c1b := hL.out.b1.cell (i := 1) rfl
          have c1c := hL.out.b1.cell (i := 2) rfl
          have f1a := hL.out.b1.frozen 0
          have f1b := hL.out.b1.frozen 1
          have f1c := hL.out.b1.frozen 2
          subst hkN
          have HX : Hid (∀ W, W = (((wr.setCell ⟨w.heap.size + 1, 0, none⟩ (.slice av ((s.its.take k).filter (fun x => !gone now x)).length cv)).setCell ⟨w.heap.size + 1, 1, none⟩ (.int .u64 cas)).setCell ⟨w.heap.size + 1, 2, none⟩ (.int .i64 fl)) → Blk W (w.heap.size + 1) 25 [.slice av ((s.its.take k).filter (fun x => !gone now x)).length cv, .int .u64 cas, .int .i64 fl] ∧ Sv W (.agg #[.slice av ((s.its.take k).filter (fun x => !gone now x)).length cv, .int .u64 cas, .int .i64 fl]) (live s now) ∧ Below w.heap.size w W) := hid (by
            rintro W rfl
            have e : s.its.take k = s.its := List.take_of_length_le (by have := HN.out; omega)
            have hb : Below w.heap.size w (((wr.setCell ⟨w.heap.size + 1, 0, none⟩ (.slice av ((s.its.take k).filter (fun x => !gone now x)).length cv)).setCell ⟨w.heap.size + 1, 1, none⟩ (.int .u64 cas)).setCell ⟨w.heap.size + 1, 2, none⟩ (.int .i64 fl)) :=
              ((hL.out.below.setCell (p := ⟨w.heap.size + 1, 0, none⟩) (Nat.le_succ _) _).setCell (p := ⟨w.heap.size + 1, 1, none⟩) (Nat.le_succ _) _).setCell (p := ⟨w.heap.size + 1, 2, none⟩) (Nat.le_succ _) _
            refine ⟨((hL.out.b1.set 0 _).set 1 _).set 2 _, ?_, hb⟩
            rw [hl.out]
            refine ⟨_, rfl, ?_⟩
            have hr := its_of_row hL.out.row rfl
            have hne : ∀ (b o : Nat), av = some ⟨b, o, none⟩ → b ≠ w.heap.size + 1 := fun b o e2 => by
              have hown := hL.out.row
              obtain ⟨_, ds, hd⟩ := own_blk hown (b := b) (by
                subst e2
                rcases hown.2 with ⟨q, _⟩ | ⟨g, cap, cur, q, _⟩
                · cases q
                · injection q with q1 _ _; injection q1 with q1; injection q1 with q1 q2; subst q1 q2; rfl)
              exact blk_ne hd hL.out.b1 (by decide)
            have hm : ∀ v (u : Value) j, Its v (.slice av ((s.its.take k).filter (fun x => !gone now x)).length cv) ((s.its.take k).filter (fun x => !gone now x)) → Its (v.setCell ⟨w.heap.size + 1, j, none⟩ u) (.slice av ((s.its.take k).filter (fun x => !gone now x)).length cv) ((s.its.take k).filter (fun x => !gone now x)) := fun v u j hv => by
              obtain ⟨a', c', q, hc', hn', hx⟩ := hv
              refine ⟨a', c', q, hc', hn', fun i x hi => ?_⟩
              obtain ⟨b, o, ha, hy⟩ := hx i x hi
              refine ⟨b, o, ha, fun j2 u2 hj => ?_⟩
              have hab : av = some ⟨b, o, none⟩ := by injection q with q1 _ _; rw [q1]; exact ha
              exact (World.cell?_setCell_other _ _ _ _ (fun e2 => hne b o hab (congrArg Addr.block e2).symm)).trans (hy j2 u2 hj)
            have := hm _ (.int .i64 fl) 2 (hm _ (.int .u64 cas) 1 (hm _ (.slice av ((s.its.take k).filter (fun x => !gone now x)).length cv) 0 hr))
            rw [e] at this ⊢
            exact this)
          clear hL HI HN hl
          generalize ((s.its.take k).filter (fun x => !gone now x)).length = nn at *
          go_wp2_with fail
          obtain ⟨X1, X2, X3⟩ := HX.out _ rfl
          exact bodyPost_ret (res_state rfl X1 rfl) rfl ⟨_, rfl, X2, X3⟩
end Go.Proofs.YtpgljahomeebhaaDoor.Md

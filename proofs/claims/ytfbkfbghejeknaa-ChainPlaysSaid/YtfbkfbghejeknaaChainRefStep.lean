/-
  The contract of the document's own table's Step at this program. Conditions: the table lies in memory, there are at most 10^9 entries, its keys have at most 2^48 bytes.
-/
import Derived.Test.YtfbkfbghejeknaaChainRefStepMem
namespace Go.Proofs.Ytfbkfbghejeknaa
open Go Go.Shelf Go.RowKit Go.Lib

set_option maxRecDepth 100000 in
set_option maxHeartbeats 2000000 in
theorem ref_step {P : Nat} {r : Rf} {s : Tb} {w : World} (h : RM P r s w) (o : Ok s) (hc : s.cnt ≤ 1000000000) (sm : s.sm) :
    Calls Try.prog 29 #[.pointer (some ⟨P, 0, none⟩)] w fun e w' => e = .returned (.bool (decide (s.step.old ≠ []))) ∧ ∃ r', RGo P r s w r' s.step w' := by
  have m := o.mid
  have c1 := h.c1
  by_cases hne : s.old = []
  · have hs : s.step = s := by unfold Tb.step; rw [if_pos hne]
    rw [hs, decide_eq_false (p := s.old ≠ []) (fun e => e hne)]
    rw [decide_eq_false (p := s.old ≠ []) (fun e => e hne)] at c1
    have H := hid h
    clear h hne hs
    go_enter Try.func29, Try.ntmps29
    go_wp2_with fail
    go_ret
    exact ⟨rfl, r, H.out, Only.refl _ _, fun _ hx => .inl hx⟩
  · rw [decide_eq_true (p := s.old ≠ []) hne] at c1
    have hlt := o.mvlt hne
    have hll := m.len_le.2
    obtain ⟨l, hl⟩ : ∃ l, s.old[s.moved]? = some l := ⟨_, List.getElem?_eq_getElem hlt⟩
    obtain ⟨v, hv⟩ : ∃ v, r.ov[s.moved]? = some v := ⟨_, List.getElem?_eq_getElem (by rw [h.ob.1]; exact hlt)⟩
    have hO := h.old hne
    have c2 := h.c2
    have c3 := h.c3 hne
    have cO := hO.cell hv
    have fO := hO.frozen s.moved
    have f2 := h.head.frozen 2
    have hOP : r.O ≠ P := hO.ne h.head (by decide)
    have hK := h.ob.2 _ v l hv hl
    have hpm := o.lift_perm hne
    rw [hl] at hpm
    have hpm : (l ++ s.lift.ents).Perm s.ents := hpm
    have hmids : ∀ j, Mid (s.lift.puts (l.take j)) ∧ (s.lift.puts (l.take j)).ents.length ≤ s.ents.length := fun j => by
      have hn := (nodup_perm hpm).2 m.once
      have hq := (o.lift hne).puts (l.take j) (nodup_sub ((List.take_sublist j l).append (List.Sublist.refl _)) hn)
      refine ⟨hq.1, ?_⟩
      rw [hq.2.length_eq, ← hpm.length_eq, List.length_append, List.length_append, List.length_take]; omega
    have hsml : ∀ x ∈ l, x.k.size ≤ 281474976710656 := fun x hx => sm x (hpm.mem_iff.1 (List.mem_append_left _ hx))
    have hll1 : l.length ≤ 1000000000 := by
      have := hpm.length_eq
      rw [List.length_append, ← o.cnt] at this; omega
    have hin : ∀ x ∈ l, ∀ j, (s.lift.puts (l.take j)).inOld x.k = false := fun x hx j => Mid.moved_in o hne hl hx j
    have hstart : Hid (RMv P r s w v l (r.lift s) s.lift ((w.drew.drew.setCell ⟨r.O, s.moved, none⟩ (.slice none 0 0)).setCell ⟨P, 2, none⟩ (.int .i64 ((s.moved : Int) + 1)))) := hid (by
      obtain ⟨t1, t2, t3⟩ := (h.below ((Below.refl _ w).drew.drew)).lifted hne hv hl
      exact ⟨t1, t2, t3, ((Below.only (D := RFt P r s) ((Below.refl _ w).drew.drew)).setCell (p := ⟨r.O, s.moved, none⟩) (.inl (.inr (.inr (.inl ⟨hne, rfl⟩)))) _).setCell (p := ⟨P, 2, none⟩) (.inl (.inl rfl)) _, fun x hx => .inl (rlift_ft hne hx)⟩)
    have i1 : (0 : Int) ≤ (s.moved : Int) := by omega
    have i2 : (s.moved : Int) < (s.old.length : Int) := by omega
    obtain ⟨av, cv, rfl⟩ := hK.form
    have HS := hstart
    have HPM := hid hpm
    generalize hM : s.moved = M at *
    generalize hLL : s.old.length = L at *
    have HM := hid hM
    have HLL := hid hLL
    clear hM hLL
    have H := hid h
    have HL := hid hl
    clear hstart h hl hO hv hK hpm
    go_enter Try.func29, Try.ntmps29
    go_wp2_with fail
    go_region
    go_wp2_with fail
    go_region
    go_wp2_with fail
    go_loopw [4] (fun p wr => ∃ (j : Nat) (r' : Rf), p = .int .i64 j ∧ j ≤ l.length ∧ Hid (RMv P r s w (.slice av l.length cv) l r' (s.lift.puts (l.take j)) wr)) (fun p _ => l.length - (RowKit.intOf p).toNat)
    case atStart => exact ⟨0, r.lift s, rfl, Nat.zero_le _, HS⟩
    case round =>
      obtain ⟨j, r', rfl, hj, hmv⟩ := hrel
      clear HS c1 c2 c3 cO fO f2
      by_cases hlt2 : j < l.length
      · obtain ⟨e, he⟩ : ∃ e, l[j]? = some e := ⟨_, List.getElem?_eq_getElem hlt2⟩
        have hei := List.mem_of_getElem? he
        have hio := hin e hei j
        obtain ⟨hm1, hN1⟩ := hmids j
        have hk := hsml e hei
        have htk : s.lift.puts (l.take (j + 1)) = (s.lift.puts (l.take j)).put e := by
          have : l.take (j + 1) = l.take j ++ [e] := by rw [List.take_add_one, he]; rfl
          rw [this]; unfold Tb.puts; rw [List.foldl_append]; rfl
        have HTK := hid htk
        have hMV := hmv.out
        have hbk := hMV.bk
        obtain ⟨g, cg, hg⟩ := hbk.some (by omega)
        obtain ⟨rfl, rfl⟩ : av = some ⟨g, 0, none⟩ ∧ cv = cg := by simpa using hg
        have q1 := World.ownsRow.cellAt hbk (j * 2) (by omega)
        have q2 := World.ownsRow.cellAt hbk (j * 2 + 1) (by omega)
        rw [(ec_at he).1] at q1
        rw [(ec_at he).2] at q2
        have hxx : (s.lift.puts (l.take j)).hix e.k = hb e.k (s.lift.puts (l.take j)).pow := by unfold Tb.hix; rw [hio]; rfl
        have hbb : r'.hblk (s.lift.puts (l.take j)) e.k = r'.N := by unfold Rf.hblk; rw [hio]; rfl
        have hrl : ((s.lift.puts (l.take j)).row e.k).length ≤ 1000000000 := by
          refine Nat.le_trans ?_ (Nat.le_trans hN1 (by rw [← o.cnt]; exact hc))
          exact (List.sublist_flatten_of_mem (row_in hm1 e.k)).length_le
        clear htk hin hmids hsml hio hmv he hei hg
        obtain ⟨hR, hRv, hRb⟩ := hMV.rm.home hm1 e.k
        have d0 := hMV.rm.c0
        have d4 := hMV.rm.c4 hm1
        have p20 := hm1.p20
        have hBl := hb_lt e.k (s.lift.puts (l.take j)).pow; rw [← hm1.lenN] at hBl
        have hll2 := hm1.len_le.1
        have cN := hR.cell hRv
        have fN := hR.frozen ((s.lift.puts (l.take j)).hix e.k)
        have hsrc := hRb.srcs
        have hst : ∀ w1 v1, Below wr.heap.size wr w1 → w1.ownsRow wr.heap.size 72 2 v1 (((s.lift.puts (l.take j)).row e.k).length + 1) (ec (e :: (s.lift.puts (l.take j)).row e.k)) → Hid (RMv P r s w (.slice (some ⟨g, 0, none⟩) l.length cv) l (r'.upd (s.lift.puts (l.take j)) e.k v1) ((s.lift.puts (l.take j)).put e) (w1.setCell ⟨r'.hblk (s.lift.puts (l.take j)) e.k, (s.lift.puts (l.take j)).hix e.k, none⟩ v1)) := fun w1 v1 b1 h1 => hid (hMV.go (hMV.rm.stored hm1 e.k v1 (e :: (s.lift.puts (l.take j)).row e.k) b1 h1))
        rw [hxx, hbb] at cN fN hst
        obtain ⟨an, cn, hV⟩ := hRb.form
        rw [hV] at cN hsrc
        have HST := hid hst
        have cO := fun w => ofN e.k (by omega) w
        have cB := fun w => bucketN e.k (s.lift.puts (l.take j)).pow (by omega) w
        clear hst hMV hbk hR hRv hRb hV hxx hbb
        have j0 : (0 : Int) ≤ (j : Int) := by omega
        generalize hs1 : s.lift.puts (l.take j) = s1 at *
        generalize fnv e.k.data.toList = HH at *
        generalize hb e.k s1.pow = B at *
        generalize s1.pow = p at *
        generalize s1.row e.k = row1 at *
        generalize s1.new.length = LN at *
        generalize l.length = LL at *
        have HHS1 := hid hs1
        clear hs1
        have B0 : (0 : Int) ≤ (B : Int) := by omega
        have B1 : (B : Int) < (LN : Int) := by omega
        have j1 : (j : Int) < (LL : Int) := by omega
        have cO := cO wr
        have cB := cB wr
        go_wp2_with fail
        go_quiet (first | exact cO _ | exact cB _)
        go_wp2_with fail
        have hS : (fun w' : World => w'.cell? ⟨P, 4, none⟩ = some (.slice (some ⟨r'.N, 0, none⟩) LN LN) ∧ w'.cell? ⟨r'.N, B, none⟩ = some (.slice an row1.length cn) ∧ w'.cell? ⟨g, j * 2, none⟩ = some (.string e.k) ∧ w'.cell? ⟨g, j * 2 + 1, none⟩ = some (.int .i64 e.n)) (wr.drewN nq).drew := ⟨d4, cN, q1, q2⟩
        have hSb : ∀ w1, Below wr.heap.size wr w1 → (fun w' : World => w'.cell? ⟨P, 4, none⟩ = some (.slice (some ⟨r'.N, 0, none⟩) LN LN) ∧ w'.cell? ⟨r'.N, B, none⟩ = some (.slice an row1.length cn) ∧ w'.cell? ⟨g, j * 2, none⟩ = some (.string e.k) ∧ w'.cell? ⟨g, j * 2 + 1, none⟩ = some (.int .i64 e.n)) w1 := fun w1 b1 =>
          ⟨(b1.cell (cell_lt d4)).trans d4, (b1.cell (cell_lt cN)).trans cN, (b1.cell (cell_lt q1)).trans q1, (b1.cell (cell_lt q2)).trans q2⟩
        have hfz : ∀ w1, Below wr.heap.size wr w1 → w1.frozen? ⟨r'.N, B, none⟩ = false := fun w1 b1 => (b1.frozen (cell_lt cN)).trans fN
        have hNc := cell_lt cN
        have HSb := hid hSb
        have HFZ := hid hfz
        clear hSb hfz
        refine wp_region_E (fun w' : World => w'.cell? ⟨P, 4, none⟩ = some (.slice (some ⟨r'.N, 0, none⟩) LN LN) ∧ w'.cell? ⟨r'.N, B, none⟩ = some (.slice an row1.length cn) ∧ w'.cell? ⟨g, j * 2, none⟩ = some (.string e.k) ∧ w'.cell? ⟨g, j * 2 + 1, none⟩ = some (.int .i64 e.n)) 19 (by kernel_rfl) ?_
        --TAKES wpAnyE_take | 4 | 0=.pointer (some ⟨P, 0, none⟩) ; 1=.pointer (some ⟨P, 0, none⟩) ; 2=.pointer (some ⟨P, 4, none⟩) ; 3=.slice (some ⟨r'.N, 0, none⟩) LN LN ; 4=.int .i64 B ; 5=.slice (some ⟨g, 0, none⟩) LL cv ; 6=.int .i64 j ; 7=.pointer (some ⟨g, j * 2, none⟩) ; 8=.agg #[.string e.k, .int .i64 e.n] ; 10=.pointer (some ⟨P, 0, none⟩) ; 11=.pointer (some ⟨P, 0, none⟩) ; 12=.pointer (some ⟨P, 4, none⟩) ; 13=.slice (some ⟨r'.N, 0, none⟩) LN LN ; 14=.int .i64 B ; 15=.pointer (some ⟨r'.N, B, none⟩) ; 16=.slice an row1.length cn
        refine wpAnyE_take (i := 0) (v := .pointer (some ⟨P, 0, none⟩)) rfl (by kernel_rfl) (by kernel_rfl) (by kernel_rfl) (fun _ _ _ h => h) (by kernel_rfl) (by kernel_rfl) hS (Or.inl ⟨by rfl, ?_⟩) ?_
        · intro w' hw'
          obtain ⟨s0, s1, s2, s3⟩ := hw'
          go_simp
        refine wpAnyE_take (i := 1) (v := .pointer (some ⟨P, 0, none⟩)) rfl (by kernel_rfl) (by kernel_rfl) (by kernel_rfl) (fun _ _ _ h => h) (by kernel_rfl) (by kernel_rfl) hS (Or.inl ⟨by rfl, ?_⟩) ?_
        · intro w' hw'
          obtain ⟨s0, s1, s2, s3⟩ := hw'
          go_simp
        refine wpAnyE_take (i := 2) (v := .pointer (some ⟨P, 4, none⟩)) rfl (by kernel_rfl) (by kernel_rfl) (by kernel_rfl) (fun _ _ _ h => h) (by kernel_rfl) (by kernel_rfl) hS (Or.inl ⟨by rfl, ?_⟩) ?_
        · intro w' hw'
          obtain ⟨s0, s1, s2, s3⟩ := hw'
          go_simp
        refine wpAnyE_take (i := 3) (v := .slice (some ⟨r'.N, 0, none⟩) LN LN) rfl (by kernel_rfl) (by kernel_rfl) (by kernel_rfl) (fun _ _ _ h => h) (by kernel_rfl) (by kernel_rfl) hS (Or.inl ⟨by rfl, ?_⟩) ?_
        · intro w' hw'
          obtain ⟨s0, s1, s2, s3⟩ := hw'
          go_simp
        refine wpAnyE_take (i := 4) (v := .int .i64 B) rfl (by kernel_rfl) (by kernel_rfl) (by kernel_rfl) (fun _ _ _ h => h) (by kernel_rfl) (by kernel_rfl) hS (Or.inl ⟨by rfl, ?_⟩) ?_
        · intro w' hw'
          obtain ⟨s0, s1, s2, s3⟩ := hw'
          go_simp
        refine wpAnyE_take (i := 5) (v := .slice (some ⟨g, 0, none⟩) LL cv) rfl (by kernel_rfl) (by kernel_rfl) (by kernel_rfl) (fun _ _ _ h => h) (by kernel_rfl) (by kernel_rfl) hS (Or.inl ⟨by rfl, ?_⟩) ?_
        · intro w' hw'
          obtain ⟨s0, s1, s2, s3⟩ := hw'
          go_simp
        refine wpAnyE_take (i := 6) (v := .int .i64 j) rfl (by kernel_rfl) (by kernel_rfl) (by kernel_rfl) (fun _ _ _ h => h) (by kernel_rfl) (by kernel_rfl) hS (Or.inl ⟨by rfl, ?_⟩) ?_
        · intro w' hw'
          obtain ⟨s0, s1, s2, s3⟩ := hw'
          go_simp
        refine wpAnyE_take (i := 7) (v := .pointer (some ⟨g, j * 2, none⟩)) rfl (by kernel_rfl) (by kernel_rfl) (by kernel_rfl) (fun _ _ _ h => h) (by kernel_rfl) (by kernel_rfl) hS (Or.inl ⟨by rfl, ?_⟩) ?_
        · intro w' hw'
          obtain ⟨s0, s1, s2, s3⟩ := hw'
          go_simp
        refine wpAnyE_take (i := 8) (v := .agg #[.string e.k, .int .i64 e.n]) rfl (by kernel_rfl) (by kernel_rfl) (by kernel_rfl) (fun _ _ _ h => h) (by kernel_rfl) (by kernel_rfl) hS (Or.inl ⟨by rfl, ?_⟩) ?_
        · intro w' hw'
          obtain ⟨s0, s1, s2, s3⟩ := hw'
          go_simp
        refine wpAnyE_take (i := 10) (v := .pointer (some ⟨P, 0, none⟩)) rfl (by kernel_rfl) (by kernel_rfl) (by kernel_rfl) (fun _ _ _ h => h) (by kernel_rfl) (by kernel_rfl) hS (Or.inl ⟨by rfl, ?_⟩) ?_
        · intro w' hw'
          obtain ⟨s0, s1, s2, s3⟩ := hw'
          go_simp
        refine wpAnyE_take (i := 11) (v := .pointer (some ⟨P, 0, none⟩)) rfl (by kernel_rfl) (by kernel_rfl) (by kernel_rfl) (fun _ _ _ h => h) (by kernel_rfl) (by kernel_rfl) hS (Or.inl ⟨by rfl, ?_⟩) ?_
        · intro w' hw'
          obtain ⟨s0, s1, s2, s3⟩ := hw'
          go_simp
        refine wpAnyE_take (i := 12) (v := .pointer (some ⟨P, 4, none⟩)) rfl (by kernel_rfl) (by kernel_rfl) (by kernel_rfl) (fun _ _ _ h => h) (by kernel_rfl) (by kernel_rfl) hS (Or.inl ⟨by rfl, ?_⟩) ?_
        · intro w' hw'
          obtain ⟨s0, s1, s2, s3⟩ := hw'
          go_simp
        refine wpAnyE_take (i := 13) (v := .slice (some ⟨r'.N, 0, none⟩) LN LN) rfl (by kernel_rfl) (by kernel_rfl) (by kernel_rfl) (fun _ _ _ h => h) (by kernel_rfl) (by kernel_rfl) hS (Or.inl ⟨by rfl, ?_⟩) ?_
        · intro w' hw'
          obtain ⟨s0, s1, s2, s3⟩ := hw'
          go_simp
        refine wpAnyE_take (i := 14) (v := .int .i64 B) rfl (by kernel_rfl) (by kernel_rfl) (by kernel_rfl) (fun _ _ _ h => h) (by kernel_rfl) (by kernel_rfl) hS (Or.inl ⟨by rfl, ?_⟩) ?_
        · intro w' hw'
          obtain ⟨s0, s1, s2, s3⟩ := hw'
          go_simp
        refine wpAnyE_take (i := 15) (v := .pointer (some ⟨r'.N, B, none⟩)) rfl (by kernel_rfl) (by kernel_rfl) (by kernel_rfl) (fun _ _ _ h => h) (by kernel_rfl) (by kernel_rfl) hS (Or.inl ⟨by rfl, ?_⟩) ?_
        · intro w' hw'
          obtain ⟨s0, s1, s2, s3⟩ := hw'
          go_simp
        refine wpAnyE_take (i := 16) (v := .slice an row1.length cn) rfl (by kernel_rfl) (by kernel_rfl) (by kernel_rfl) (fun _ _ _ h => h) (by kernel_rfl) (by kernel_rfl) hS (Or.inl ⟨by rfl, ?_⟩) ?_
        · intro w' hw'
          obtain ⟨s0, s1, s2, s3⟩ := hw'
          go_simp
        --END
        obtain ⟨i0, hi0, hz0, hz1, hz2⟩ := info_parts infoEnt
        have bA : Below wr.heap.size wr ((wr.drewN nq).drew.alloc (.cells #[.string e.k, .int .i64 e.n] 72)) := by
          have b1 : Below wr.heap.size wr (wr.drewN nq).drew := (below_drewN wr nq).drew
          exact b1.alloc b1.size _
        have hlit : ((wr.drewN nq).drew.alloc (.cells #[.string e.k, .int .i64 e.n] 72)).ownsRow wr.heap.size 72 2 (.slice (some ⟨wr.heap.size, 0, none⟩) 1 1) 1 [.string e.k, .int .i64 e.n] := World.ownsRow_lit (wr.drewN nq).drew #[.string e.k, .int .i64 e.n] 1 (Nat.le_refl _) (by unfold maxLen; omega) rfl
        refine wpAnyE_one (i := 9) rfl (by kernel_rfl) (fun K hK => ?_)
        go_simp
        refine hK _ _ (fun _ => HSb.out _ bA) ?_
        clear hK K
        refine wpAnyE_one (i := 17) rfl (by kernel_rfl) (fun K hK => ?_)
        refine step_append_src2 _ (by rfl) _ _ _ (by rfl) wr.heap.size 72 i0 _ 24 Try.underlying61 hi0 hz0 hz1 hz2 rfl (.slice (some ⟨wr.heap.size, 0, none⟩) 1 1) 1 _ (by rfl) hlit (.slice an row1.length cn) row1.length _ (by rfl) (hsrc.below bA) (ec_ok _) (by unfold maxLen; omega) (by omega) bA.size (row1.length + 1) (by omega) ?_
        intro v3 w3 hown3 hg3 _
        have b3 := bA.grown hg3 bA.size (fun j ej => own_ge2 hlit j ej)
        have hfz3 := HFZ.out w3 b3
        have hcl3 := ((b3.cell (p := ⟨r'.N, B, none⟩) hNc).trans cN)
        have HV3 := HST.out w3 v3 b3 hown3
        obtain ⟨a3, c3', rfl⟩ := row_form2 hown3
        have hS3 := HSb.out w3 b3
        clear HST hS HFZ HSb hlit hsrc bA hg3 q1 q2 d0 d4 cN fN cO cB
        refine hK _ _ (fun _ => hS3) ?_
        clear hK K
        refine wpAnyE_one (i := 18) rfl (by kernel_rfl) (fun K hK => ?_)
        go_simp
        refine hK _ _ (fun _ => hS3) ?_
        clear hK K
        refine wpAnyE_one (i := 19) rfl (by kernel_rfl) (fun K hK => ?_)
        go_simp
        refine hK _ _ (fun h => (by cases (show true = false from h))) (wpAnyE_done (by kernel_rfl) ?_ _)
        clear hK K
        go_wp2_with fail
        go_roundw
        case rel => exact ⟨j + 1, _, by go_num, by omega, by rw [HTK.out]; exact HV3⟩
        case measure => simp [RowKit.intOf] <;> omega
      · obtain rfl : j = l.length := by omega
        rw [List.take_length] at hmv
        obtain ⟨p1, p2, p3, p4, p5, p6, p7⟩ := puts_same s.lift l
        have hs2 : s.step = (s.lift.puts l).done := by unfold Tb.step; rw [if_neg hne, HM.out, HL.out]; rfl
        have hl2 : (s.lift.puts l).old.length = L := by rw [p7, ← HLL.out]; unfold Tb.lift; simp
        have hm3 : (s.lift.puts l).moved = M + 1 := by rw [p2, ← HM.out]; rfl
        have HS2 := hid hs2
        have hMV := hmv.out
        clear hmids hin hsml hmv p1 p2 p3 p4 p5 p6 p7 hs2
        generalize s.lift.puts l = s2 at *
        have hne2 : s2.old ≠ [] := fun e => by rw [e] at hl2; simp at hl2; omega
        have d1 := hMV.rm.c1
        rw [decide_eq_true (p := s2.old ≠ []) hne2] at d1
        have d2 := hMV.rm.c2
        rw [hm3] at d2
        have d3 := hMV.rm.c3 hne2
        rw [hl2] at d3
        have d2' : wr.cell? ⟨P, 2, none⟩ = some (.int .i64 ((M : Int) + 1)) := by rw [d2]; rfl
        have f1 := hMV.rm.head.frozen 1
        have f3 := hMV.rm.head.frozen 3
        have HMV := hid hMV
        clear d2 hMV
        generalize l.length = LL at *
        by_cases hq : M + 1 = L
        · have hq' : ((M : Int) + 1 == (L : Int)) = true := by rw [beq_iff_eq]; omega
          have hdn : s2.done = { s2 with old := [] } := by unfold Tb.done; rw [if_pos (by rw [hm3, hl2, hq])]
          have hV : Hid (decide (s.step.old ≠ []) = false) := hid (by rw [HS2.out, hdn]; rfl)
          have hG : Hid (RGo P r s w { r' with ov := [] } s.step ((wr.drew.setCell ⟨P, 1, none⟩ (.bool false)).setCell ⟨P, 3, none⟩ (.slice none 0 0))) := hid (by
            rw [HS2.out, hdn]
            refine ⟨(HMV.out.rm.below (Below.refl _ wr).drew).closed, ?_, fun x hx => HMV.out.foot x (rclosed_ft hx)⟩
            exact (HMV.out.only.drew.setCell (p := ⟨P, 1, none⟩) (.inl (.inl rfl)) _).setCell (p := ⟨P, 3, none⟩) (.inl (.inl rfl)) _)
          clear hdn hq hm3 hl2 HMV
          go_wp2_with fail
          go_region
          go_wp2_with fail
          go_ret
          exact ⟨by rw [hV.out]; rfl, _, hG.out⟩
        · have hq' : ((M : Int) + 1 == (L : Int)) = false := by rw [beq_eq_false_iff_ne]; omega
          have hdn : s2.done = s2 := by unfold Tb.done; rw [if_neg (by rw [hm3, hl2]; exact hq)]
          have hV : Hid (decide (s.step.old ≠ []) = true) := hid (by rw [HS2.out, hdn]; exact decide_eq_true hne2)
          have hG : Hid (RGo P r s w r' s.step wr.drew) := hid (by
            rw [HS2.out, hdn]
            exact ⟨HMV.out.rm.below (Below.refl _ wr).drew, HMV.out.only.drew, HMV.out.foot⟩)
          clear hdn hq hm3 hl2 HMV
          go_wp2_with fail
          go_region
          go_wp2_with fail
          go_ret
          exact ⟨by rw [hV.out]; rfl, _, hG.out⟩
end Go.Proofs.Ytfbkfbghejeknaa

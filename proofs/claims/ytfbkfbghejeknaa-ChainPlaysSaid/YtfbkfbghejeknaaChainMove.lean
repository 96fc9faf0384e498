/-
  The contract of Step of a table at this program. Conditions: the table lies in memory, its keys have at most 2^48 bytes.
-/
import Derived.Test.YtfbkfbghejeknaaChainStep
namespace Go.Proofs.Ytfbkfbghejeknaa
open Go Go.Shelf Go.RowKit Go.Lib

/-- In the midst of a move: the entries of l are still to be put. -/
structure Mv (P : Nat) (s0 : Tb) (w0 : World) (s : Tb) (l : List En) (w : World) : Prop where
  tm : TM P s w
  ents : Ents w l
  apart : ∀ x ∈ l, ¬ Ft P s x.b
  nd : (bl l).Nodup
  only : Only (Ft P s0) w0 w
  foot : ∀ x, Ft P s x → Ft P s0 x
  own : ∀ x ∈ l, Ft P s0 x.b
theorem Mv.put {P : Nat} {s0 s : Tb} {w0 w w' : World} {e : En} {l : List En} (h : Mv P s0 w0 s (e :: l) w) (m : Mid s) (ht : TM P (s.put e) w') (ho : Only (fun b => b = s.hblk e.k ∨ b = e.b) w w') : Mv P s0 w0 (s.put e) l w' := by
  obtain ⟨n1, n2⟩ := nodup_tail h.nd
  refine ⟨ht, h.ents.2.only ho (fun x hx => ?_), fun x hx hf => ?_, n2, h.only.trans ho (fun x hx => .inl ?_), fun x hx => ?_, fun x hx => h.own x (List.mem_cons_of_mem _ hx)⟩
  · rintro (e1 | e1)
    · exact h.apart x (List.mem_cons_of_mem _ hx) (e1 ▸ hblk_ft P s e.k)
    · exact n1 x hx e1
  · rcases put_ft m hf with hf | hf
    · exact h.apart x (List.mem_cons_of_mem _ hx) hf
    · exact n1 x hx hf
  · rcases hx with rfl | rfl
    · exact h.foot _ (hblk_ft P s e.k)
    · exact h.own e (List.mem_cons_self ..)
  · rcases put_ft m hx with hx | rfl
    · exact h.foot x hx
    · exact h.own e (List.mem_cons_self ..)

set_option maxRecDepth 100000 in
set_option maxHeartbeats 1000000 in
theorem step_any {P : Nat} {s : Tb} {w : World} (h : TM P s w) (o : Ok s) (sm : s.sm) :
    Calls Try.prog 21 #[.pointer (some ⟨P, 0, none⟩)] w fun e w' => e = .returned (.bool (decide (s.step.old ≠ []))) ∧ Go9 P s w s.step w' := by
  have m := o.mid
  have hG := grows_any h
  by_cases hne : s.old = []
  · have hs : s.step = s := by unfold Tb.step; rw [if_pos hne]
    rw [hs, decide_eq_false (p := s.old ≠ []) (fun e => e hne)]
    rw [decide_eq_false (p := s.old ≠ []) (fun e => e hne)] at hG
    have H := hid h
    clear h hne hs
    go_enter Try.func21, Try.ntmps21
    go_wp2_with fail
    refine hG.mono ?_
    rintro e w1 ⟨rfl, rfl⟩
    go_wp2_with fail
    go_ret
    exact ⟨rfl, Go9.refl H.out o (Below.refl _ _)⟩
  · rw [decide_eq_true (p := s.old ≠ []) hne] at hG
    have hlt := o.mvlt hne
    have hll := m.len_le.2
    obtain ⟨l, hl⟩ : ∃ l, s.old[s.moved]? = some l := ⟨_, List.getElem?_eq_getElem hlt⟩
    have hO := h.old hne
    have c3 := h.c3 hne
    have c4 := h.c4
    have cO := hO.cell (heads_at hl)
    have fO := hO.frozen s.moved
    have f4 := h.head.frozen 4
    have hOP : s.O ≠ P := hO.ne h.head (by decide)
    have hmids : ∀ j, Mid (s.lift.puts (l.take j)) := fun j => by
      have hpm := o.lift_perm hne
      rw [hl] at hpm
      have hn := (nodup_perm (show (l ++ s.lift.ents).Perm s.ents from hpm)).2 m.once
      exact ((o.lift hne).puts (l.take j) (nodup_sub ((List.take_sublist j l).append (List.Sublist.refl _)) hn)).1
    have hsml : ∀ x ∈ l, x.k.size ≤ 281474976710656 := fun x hx => by
      have hpm := o.lift_perm hne
      rw [hl] at hpm
      exact sm x ((show (l ++ s.lift.ents).Perm s.ents from hpm).mem_iff.1 (List.mem_append_left _ hx))
    have hstart : ∀ w1, Below w.heap.size w w1 → Hid (Mv P s w s.lift l ((w1.setCell ⟨s.O, s.moved, none⟩ (.pointer none)).setCell ⟨P, 4, none⟩ (.int .i64 ((s.moved : Int) + 1)))) := fun w1 b1 => hid (by
      obtain ⟨t1, t2, t3, t4⟩ := (h.below b1).lifted o hne hl
      refine ⟨t1, t2, t3, t4, ((Below.only b1).setCell (p := ⟨s.O, s.moved, none⟩) (.inl (.inr (.inr (.inl ⟨hne, rfl⟩)))) _).setCell (p := ⟨P, 4, none⟩) (.inl (.inl rfl)) _, fun x => lift_ft o hne, fun x hx => ?_⟩
      have hpm := o.lift_perm hne
      rw [hl] at hpm
      exact .inr (.inr (.inr ⟨x, (show (l ++ s.lift.ents).Perm s.ents from hpm).mem_iff.1 (List.mem_append_left _ hx), rfl⟩)))
    have i1 : (0 : Int) ≤ (s.moved : Int) := by omega
    have i2 : (s.moved : Int) < (s.old.length : Int) := by omega
    obtain ⟨X, hX⟩ := ptr_form l
    rw [hX] at cO
    have HS := hid hstart
    have HX := hid hX
    generalize hM : s.moved = M at *
    generalize hLL : s.old.length = L at *
    generalize hOO : s.O = Ob at *
    have HM := hid hM
    have HLL := hid hLL
    have HOO := hid hOO
    clear hM hLL hOO
    have H := hid h
    have HL := hid hl
    clear hstart hX h hl hO
    go_enter Try.func21, Try.ntmps21
    go_wp2_with fail
    refine hG.mono ?_
    rintro e w1 ⟨rfl, rfl⟩
    go_wp2_with fail
    go_region
    go_wp2_with fail
    go_region
    go_wp2_with fail
    have HMV := HS.out w.drew.drew (((Below.refl _ w).drew).drew)
    clear HS
    go_loopw [3] (fun p wr => ∃ (j : Nat) (r : List En), p = ptr r ∧ Hid (l.drop j = r) ∧ Hid (Mv P s w (s.lift.puts (l.take j)) r wr)) (fun p wr => leftE wr p)
    case atStart => exact ⟨0, l, HX.out.symm, hid rfl, HMV⟩
    case round =>
      obtain ⟨j, r, rfl, hr, hmv⟩ := hrel
      clear HMV
      cases r with
      | nil =>
        have hfull : l.take j = l := List.take_of_length_le (List.drop_eq_nil_iff.1 hr.out)
        rw [hfull] at hmv
        have hm2 := hmids l.length
        rw [List.take_length] at hm2
        obtain ⟨p1, p2, p3, p4, p5, p6, p7⟩ := puts_same s.lift l
        have hs2 : s.step = (s.lift.puts l).done := by unfold Tb.step; rw [if_neg hne, HM.out, HL.out]; rfl
        have hl2 : (s.lift.puts l).old.length = L := by rw [p7, ← HLL.out]; unfold Tb.lift; simp
        have hm3 : (s.lift.puts l).moved = M + 1 := by rw [p2, ← HM.out]; rfl
        have hO2 : (s.lift.puts l).O = Ob := by rw [p5, ← HOO.out]; rfl
        have oS := o.step
        have hsame := hid hs2
        have hMV := hmv.out
        generalize s.lift.puts l = s2 at *
        have hne2 : s2.old ≠ [] := fun e => by rw [e] at hl2; simp at hl2; omega
        have d3 := hMV.tm.c3 hne2
        have d4 := hMV.tm.c4
        rw [hl2, hO2] at d3
        rw [hm3] at d4
        have e3 := hMV.tm.head.frozen 3
        have HMV := hid hMV
        have HE2 := hid hl2
        have HE3 := hid hm3
        have HNE := hid hne2
        clear hmv hMV hs2 hl2 hm3 hO2 p1 p2 p3 p4 p5 p6 p7 hm2 hfull hmids hne2 c3 c4 cO fO f4 hG hne
        have d4' : wr.cell? ⟨P, 4, none⟩ = some (.int .i64 ((M : Int) + 1)) := by rw [d4]; rfl
        clear d4
        rw [show ptr [] = .pointer none from rfl]
        have hEnd : ∀ w7, Hid (TM P s2.done w7) → Only (Ft P s) wr w7 → Hid (Go9 P s w s.step w7) := fun w7 h7 o7 => hid (by
          rw [hsame.out]
          refine ⟨h7.out, hsame.out ▸ oS, HMV.out.only.trans o7 (fun _ hx => .inl hx), fun x hx => .inl (HMV.out.foot x ?_)⟩
          unfold Tb.done at hx
          split at hx
          · rcases hx with e1 | e1 | ⟨e1, _⟩ | ⟨y, hy, e1⟩
            · exact .inl e1
            · exact .inr (.inl e1)
            · exact (e1 rfl).elim
            · refine .inr (.inr (.inr ⟨y, ?_, e1⟩))
              have hsub : ({ s2 with old := [] } : Tb).ents.Sublist s2.ents := by
                show ([] ++ s2.new).flatten.Sublist (s2.old ++ s2.new).flatten
                rw [List.flatten_append, List.flatten_append]
                exact List.sublist_append_right _ _
              exact hsub.subset hy
          · exact hx)
        have HEnd := hid hEnd
        clear hEnd
        by_cases hq : M + 1 = L
        · have hq' : ((M : Int) + 1 == (L : Int)) = true := by rw [beq_iff_eq]; omega
          have hdn : s2.done = { s2 with old := [] } := by unfold Tb.done; rw [if_pos (by rw [HE3.out, HE2.out, hq])]
          have h6 : TM P s2.done (wr.drew.setCell ⟨P, 3, none⟩ (.slice none 0 0)) := by rw [hdn]; exact (HMV.out.tm.below (Below.refl _ wr).drew).closed
          have hG6 := grows_any h6
          have hG7 : decide (s2.done.old ≠ []) = false := by rw [hdn]; rfl
          rw [hG7] at hG6
          have hE6 := HEnd.out _ (hid h6) (((Only.refl (Ft P s) wr).drew).setCell (p := ⟨P, 3, none⟩) (.inl (.inl rfl)) _)
          clear h6 hdn hq
          have hV := hid hG7
          clear hG7
          go_wp2_with fail
          go_region
          go_wp2_with fail
          refine hG6.mono ?_
          rintro x w8 ⟨rfl, rfl⟩
          go_wp2_with fail
          go_ret
          exact ⟨by rw [hsame.out, hV.out]; rfl, hE6.out⟩
        · have hq' : ((M : Int) + 1 == (L : Int)) = false := by rw [beq_eq_false_iff_ne]; omega
          have hdn : s2.done = s2 := by unfold Tb.done; rw [if_neg (by rw [HE3.out, HE2.out]; exact hq)]
          have h6 : TM P s2.done wr.drew := by rw [hdn]; exact (HMV.out.tm.below (Below.refl _ wr).drew)
          have hG6 := grows_any h6
          have hG7 : decide (s2.done.old ≠ []) = true := by rw [hdn]; exact decide_eq_true HNE.out
          rw [hG7] at hG6
          have hE6 := HEnd.out _ (hid h6) ((Only.refl (Ft P s) wr).drew)
          clear h6 hdn hq
          have hV := hid hG7
          clear hG7
          go_wp2_with fail
          go_region
          go_wp2_with fail
          refine hG6.mono ?_
          rintro x w8 ⟨rfl, rfl⟩
          go_wp2_with fail
          go_ret
          exact ⟨by rw [hsame.out, hV.out]; rfl, hE6.out⟩
      | cons e r =>
        have hMV := hmv.out
        have hm1 := hmids j
        have hin : e ∈ l := List.mem_of_mem_drop (hr.out ▸ List.mem_cons_self .. : e ∈ l.drop j)
        have hsz := hsml e hin
        have hput := put_any hMV.tm hm1 e r hMV.ents.1 (hMV.apart e (List.mem_cons_self ..)) hsz
        have e2 := hMV.ents.1.cell (i := 2) (v := ptr r) rfl
        obtain ⟨Y, hY⟩ := ptr_form r
        rw [hY] at e2
        have hM1 := leftE_eq hMV.ents
        have hdr : l.drop (j + 1) = r := by rw [← List.drop_drop, hr.out]; rfl
        have htk : s.lift.puts (l.take (j + 1)) = (s.lift.puts (l.take j)).put e := by
          have : l.take (j + 1) = l.take j ++ [e] := by
            rw [List.take_add_one]
            congr 1
            have h9 : l[j]? = some e := by
              have := congrArg (fun x => x[0]?) hr.out
              simpa using this
            rw [h9]; rfl
          rw [this]; unfold Tb.puts; rw [List.foldl_append]; rfl
        have HTK := hid htk
        have HM1 := hid hM1
        have HMid := hid hm1
        have HYY := hid hY
        have HMV := hid hMV
        clear hmv hMV hm1 hY hM1 htk hmids c3 c4 cO fO f4 hG hne
        have e2' : wr.cell? ⟨e.b, 2, none⟩ = some (.pointer Y) := e2
        clear e2
        show Code.wp _ _ _ _ _
        have hptr : ptr (e :: r) = .pointer (some ⟨e.b, 0, none⟩) := rfl
        rw [hptr]
        go_wp2_with fail
        refine hput.mono ?_
        rintro x w5 ⟨rfl, h5, o5⟩
        have HMV5 := hid (HMV.out.put HMid.out h5 o5)
        go_wp2_with fail
        go_roundw
        case rel => exact ⟨j + 1, r, HYY.out.symm, hid hdr, by rw [HTK.out]; exact HMV5⟩
        case measure =>
          have h7 := leftE_eq HMV5.out.ents
          rw [← HYY.out, h7, ← hptr, HM1.out]
          simp
end Go.Proofs.Ytfbkfbghejeknaa

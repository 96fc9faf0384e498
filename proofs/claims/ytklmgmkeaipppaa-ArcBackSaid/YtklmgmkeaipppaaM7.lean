/-
  The contract of the program's adaptive replacement's Evict. Conditions: it lies in memory; its ghosts are not over long; ids are ints.
  The contracts of the document's own adaptive replacement's New and Insert. Conditions: it lies in memory.
-/
import Derived.Test.YtklmgmkeaipppaaArcInsert
import Derived.Test.YtklmgmkeaipppaaArcRefMore
namespace Go.Proofs.Ytklmgmkeaipppaa.Ac
open Go Go.RowKit Go.Lib

set_option maxRecDepth 100000 in
set_option maxHeartbeats 1000000 in
theorem ar_evict {P : Nat} {G : Nat → Prop} {s : Ar} {w : World} (h : AR P G s w) (hb1 : s.b1.length < 4194304) (hb2 : s.b2.length < 4194304) (z : Int) (hz : i64ok z) : Calls Try.prog 22 #[.pointer (some ⟨P, 0, none⟩), .int .i64 z] w fun e w' => e = .returned (.bool (s.has z)) ∧ ∃ G', AR P G' (s.evict z) w' ∧ Stp G G' w w' := by
  have HQ := hid h
  obtain ⟨ok, r, m, Q1, Q2, F, hq, hG⟩ := h
  have hs := ap_stands hq z hz
  have hz1 : Below w.heap.size w w.drew := (Below.refl _ _).drew
  cases hrow : rowOf s.L z with
  | none =>
    rw [hrow] at hs
    have e1 : Hid (s.has z = false) := hid (by unfold Ar.has; rw [hrow]; rfl)
    have ho : s.out z = s := by unfold Ar.out; rw [hrow]
    have hn : z ∉ s.L.flatten := rowOf_none'.1 hrow
    have e2 : Hid (s.evict z = s) := hid (by
      unfold Ar.evict
      rw [ho]
      unfold Ar.rem
      have h1 : updN s.num z 0 = s.num := by
        funext y
        by_cases e : y = z
        · rw [e, updN_same, ok.zero z hn]
        · rw [updN_other e]
      rw [take_no hn, h1])
    clear hq hG ok hrow ho hn hz
    go_enter Try.func22, Try.ntmps22
    go_wp2_with fail
    refine hs.mono ?_
    rintro e w1 ⟨rfl, rfl⟩
    go_wp2_with fail
    go_ret
    exact ⟨ret_bool e1.out.symm, G, by rw [e2.out]; exact HQ.out, Stp.refl _ _⟩
  | some i =>
    rw [hrow] at hs
    have e1 : Hid (s.has z = true) := hid (by unfold Ar.has; rw [hrow]; rfl)
    have HV : Hid (∀ t G' W, AR P G' t W → t.has z = true → s.evict z = t.rem z → Stp G G' w W → Calls Try.prog 31 #[.pointer (some ⟨P, 0, none⟩), .int .i64 z] W fun e w' => e = .returned (.bool (s.has z)) ∧ ∃ G', AR P G' (s.evict z) w' ∧ Stp G G' w w') := hid (fun t G' W k k2 k3 g => (ar_remove k z hz).mono (by
      rintro e w' ⟨he, G2, q1, q2⟩
      rw [k2] at he
      exact ⟨by rw [e1.out]; exact he, G2, by rw [k3]; exact q1, g.trans q2⟩))
    rcases row_lt2 ok.two hrow with rfl | rfl
    · have hw0 := hq.below hz1
      have hX := hid (hq.nok z)
      have oko := ok.out z
      have et : s.out z = ⟨s.L, s.m, Gh.addL s.m s.b1 (s.num z), s.b2, s.p, s.num⟩ := by unfold Ar.out; rw [hrow]; rfl
      have HA : Hid (Calls Try.prog 44 #[.pointer (some ⟨Q1, 0, none⟩), .int .u64 (s.num z)] w.drew fun e w' => e = .returned (.tuple #[]) ∧ ∃ G', AR P G' (s.out z) w' ∧ Stp G G' w w') := hid (by
        refine (ap_addA hw0 (s.num z) hX.out hb1).mono ?_
        rintro e w' ⟨he, F', k, g⟩
        exact ⟨he, ar_go (s := s.out z) (F' := F') hG oko (by rw [et]; exact k) ((Stp.below hz1).trans g)⟩)
      have HX : Hid (w.drew.cell? ⟨P, 0, none⟩ = some (.pointer (some ⟨r, 0, none⟩)) ∧ w.drew.cell? ⟨P, 1, none⟩ = some (.map (some m)) ∧ w.drew.cell? ⟨P, 2, none⟩ = some (.pointer (some ⟨Q1, 0, none⟩)) ∧ (Instr.lookup 54 (.map (some m)) (.int .i64 z) false).run Try.prog w.drew = .ok (.int .u64 (s.num z)) w.drew) := hid ⟨hw0.head.cell (i := 0) rfl, hw0.head.cell (i := 1) rfl, hw0.head.cell (i := 2) rfl, hw0.map.look hz⟩
      have hr := at_row hw0.rows z hz
      rw [hrow] at hr
      replace hr : Calls Try.prog 43 #[.pointer (some ⟨r, 0, none⟩), .int .i64 z] w.drew fun e w' => e = .returned (.int .i64 0) ∧ w.drew = w' := hr
      have hHas : (s.out z).has z = true := by unfold Ar.has; rw [(out_L s z).1, hrow]; rfl
      have HH := hid hHas
      generalize s.num z = X at *
      clear hq hG ok hrow hw0 oko et hz hX hHas HQ
      go_enter Try.func22, Try.ntmps22
      go_wp2_with fail
      refine hs.mono ?_
      rintro e w1 ⟨rfl, rfl⟩
      go_upto_region 3 with fail
      refine region_tail 17 (by kernel_rfl) (by kernel_rfl) ?_
      simp only [List.take_succ_cons, List.take_zero, List.drop_succ_cons, List.drop_zero]
      generalize hW : w.drew = wx at *
      obtain ⟨d0, d1, d2, hlk⟩ := HX.out
      clear HX hs
      repeat still_step
      refine wpStill_step (fun K hK => ?_)
      go_simp
      refine ⟨_, hr.mono (fun e w' hh => ⟨hh.1, hh.2.symm⟩), hK _ ?_⟩
      clear hK K
      repeat still_step
      refine wpStill_nil ?_
      go_wp2_with fail
      refine HA.out.mono ?_
      rintro e w2 ⟨rfl, G2, k2, g2⟩
      have hR := HV.out _ _ _ k2 HH.out rfl g2
      clear k2 g2 HA HV d0 d1 d2 hlk hr
      go_wp2_with fail
      refine hR.mono ?_
      rintro e w3 ⟨rfl, hF⟩
      have HF := hid hF
      clear hF hR
      go_wp2_with fail
      go_ret
      exact ⟨rfl, HF.out⟩
    · have hw0 := hq.below hz1
      have hX := hid (hq.nok z)
      have oko := ok.out z
      have et : s.out z = ⟨s.L, s.m, s.b1, Gh.addL s.m s.b2 (s.num z), s.p, s.num⟩ := by unfold Ar.out; rw [hrow]; rfl
      have HA : Hid (Calls Try.prog 44 #[.pointer (some ⟨Q2, 0, none⟩), .int .u64 (s.num z)] w.drew fun e w' => e = .returned (.tuple #[]) ∧ ∃ G', AR P G' (s.out z) w' ∧ Stp G G' w w') := hid (by
        refine (ap_addB hw0 (s.num z) hX.out hb2).mono ?_
        rintro e w' ⟨he, F', k, g⟩
        exact ⟨he, ar_go (s := s.out z) (F' := F') hG oko (by rw [et]; exact k) ((Stp.below hz1).trans g)⟩)
      have HX : Hid (w.drew.cell? ⟨P, 0, none⟩ = some (.pointer (some ⟨r, 0, none⟩)) ∧ w.drew.cell? ⟨P, 1, none⟩ = some (.map (some m)) ∧ w.drew.cell? ⟨P, 3, none⟩ = some (.pointer (some ⟨Q2, 0, none⟩)) ∧ (Instr.lookup 54 (.map (some m)) (.int .i64 z) false).run Try.prog w.drew = .ok (.int .u64 (s.num z)) w.drew) := hid ⟨hw0.head.cell (i := 0) rfl, hw0.head.cell (i := 1) rfl, hw0.head.cell (i := 3) rfl, hw0.map.look hz⟩
      have hr := at_row hw0.rows z hz
      rw [hrow] at hr
      replace hr : Calls Try.prog 43 #[.pointer (some ⟨r, 0, none⟩), .int .i64 z] w.drew fun e w' => e = .returned (.int .i64 1) ∧ w.drew = w' := hr
      have hHas : (s.out z).has z = true := by unfold Ar.has; rw [(out_L s z).1, hrow]; rfl
      have HH := hid hHas
      generalize s.num z = X at *
      clear hq hG ok hrow hw0 oko et hz hX hHas HQ
      go_enter Try.func22, Try.ntmps22
      go_wp2_with fail
      refine hs.mono ?_
      rintro e w1 ⟨rfl, rfl⟩
      go_upto_region 3 with fail
      refine region_tail 17 (by kernel_rfl) (by kernel_rfl) ?_
      simp only [List.take_succ_cons, List.take_zero, List.drop_succ_cons, List.drop_zero]
      generalize hW : w.drew = wx at *
      obtain ⟨d0, d1, d2, hlk⟩ := HX.out
      clear HX hs
      repeat still_step
      refine wpStill_step (fun K hK => ?_)
      go_simp
      refine ⟨_, hr.mono (fun e w' hh => ⟨hh.1, hh.2.symm⟩), hK _ ?_⟩
      clear hK K
      repeat still_step
      refine wpStill_nil ?_
      go_wp2_with fail
      refine HA.out.mono ?_
      rintro e w2 ⟨rfl, G2, k2, g2⟩
      have hR := HV.out _ _ _ k2 HH.out rfl g2
      clear k2 g2 HA HV d0 d1 d2 hlk hr
      go_wp2_with fail
      refine hR.mono ?_
      rintro e w3 ⟨rfl, hF⟩
      have HF := hid hF
      clear hF hR
      go_wp2_with fail
      go_ret
      exact ⟨rfl, HF.out⟩
end Go.Proofs.Ytklmgmkeaipppaa.Ac
namespace Go.Proofs.Ytklmgmkeaipppaa.Ac
open Go Go.RowKit Go.Lib

theorem only_grown2 {w w' : World} {v : Value} (h : w.grownBy w' v.ownBlock) : Only (fun b => v.ownBlock = some b) w w' := ⟨h.os, h.tape, h.output, h.size, fun k hk hd => h.block k hk (fun e => hd e.symm)⟩
/-- One more at the end of the row of numbers. -/
theorem Qr.snoc {P Q Q1 Q2 : Nat} {v : Value} {hs : List (Int × Int)} {F : Nat → Nat → Prop} {L : List (List Int)} {m m1 m2 : Nat} {b1 b2 : List Int} {p : Int} {w : World} (h : Qr P Q Q1 Q2 v hs F L m m1 m2 b1 b2 p w) (z x : Int) (hlen : hs.length + 1 ≤ 4194304) :
    ∀ v6 w6, w6.ownsRow 0 88 2 v6 (hs.length + 1) (nc hs ++ [.int .i64 z, .int .u64 x]) → (w.alloc (.cells #[.int .i64 z, .int .u64 x] 88)).grownBy w6 v.ownBlock → (v6.ownBlock = v.ownBlock ∨ v6.ownBlock = some (w.alloc (.cells #[.int .i64 z, .int .u64 x] 88)).heap.size) →
      (∃ F', Qr P Q Q1 Q2 v6 (hs ++ [(z, x)]) F' L m m1 m2 b1 b2 p (w6.setCell ⟨P, 5, none⟩ v6) ∧ Stp (allF F) (allF F') w (w6.setCell ⟨P, 5, none⟩ v6)) ∧ w6.frozen? ⟨P, 5, none⟩ = false ∧ w6.cell? ⟨P, 5, none⟩ = some v := by
  intro v6 w6 o6 g6 l6
  have bA : Below w.heap.size w (w.alloc (.cells #[.int .i64 z, .int .u64 x] 88)) := (Below.refl _ _).alloc (Nat.le_refl _) _
  have ho : Only (F 4) w w6 := (Below.only bA).trans ((only_grown2 g6).mono (fun b hb => (h.f4 b).2 hb)) (fun b hb => .inl hb)
  have hB : Blk w6 P 37 [.pointer (some ⟨Q, 0, none⟩), .pointer (some ⟨Q1, 0, none⟩), .pointer (some ⟨Q2, 0, none⟩), .int .i64 m, .int .i64 p, v] := h.head.only ho (h.dj.out (i := 0) (by decide) P ((h.f0 P).2 rfl))
  refine ⟨?_, hB.frozen 5, hB.cell (i := 5) rfl⟩
  obtain ⟨X, k1, k2⟩ := h.goH (v' := v6) (hs' := hs ++ [(z, x)]) ho (by rw [List.length_append, List.length_singleton, nc_app]; exact o6) (fun b hb => by
    rcases l6 with e | e
    · exact .inl (e ▸ hb)
    · right
      rw [e] at hb
      injection hb with hb
      rw [← hb]; simp) (by rw [List.length_append, List.length_singleton]; exact hlen)
  exact ⟨_, k1, k2⟩

set_option maxRecDepth 100000 in
theorem qr_new (w : World) : Calls Try.prog 10 #[] w fun e w' => ∃ P G, e = .returned (.pointer (some ⟨P, 0, none⟩)) ∧ QR P G Ar.new w' ∧ Below w.heap.size w w' ∧ ∀ b, G b → w.heap.size ≤ b := by
  have hn := rq_new 2 (by decide) (by decide) w
  have hgn := fun W => gq_new 0 (by decide) W
  go_enter Try.func10, Try.ntmps10
  go_wp2_with fail
  refine hn.mono ?_
  rintro e w1 ⟨Q, F1, rfl, k1, d1, f1⟩
  have K1 := hid k1
  have hg1 := hgn w1
  clear hn k1
  go_wp2_with fail
  refine hg1.mono ?_
  rintro e w2 ⟨Q1, F2, rfl, k2, d2, f2⟩
  have K2 := hid k2
  have hg2 := hgn w2
  clear hg1 k2 hgn
  go_wp2_with fail
  refine hg2.mono ?_
  rintro e w3 ⟨Q2, F3, rfl, k3, d3, f3⟩
  have HF : Hid (∀ w4, w3.alloc (.cells #[.pointer (some ⟨Q, 0, none⟩), .pointer (some ⟨Q1, 0, none⟩), .pointer (some ⟨Q2, 0, none⟩), .int .i64 0, .int .i64 0, .slice none 0 0] 37) = w4 → ∃ G, QR w3.heap.size G Ar.new w4 ∧ Below w.heap.size w w4 ∧ ∀ b, G b → w.heap.size ≤ b) := hid (by
    rintro w4 rfl
    have d4 : Below w3.heap.size w3 (w3.alloc (.cells #[.pointer (some ⟨Q, 0, none⟩), .pointer (some ⟨Q1, 0, none⟩), .pointer (some ⟨Q2, 0, none⟩), .int .i64 0, .int .i64 0, .slice none 0 0] 37)) := (Below.refl _ _).alloc (Nat.le_refl _) _
    have l1 : ∀ b, F1 b → b < w1.heap.size := fun b hb => K1.out.lt hb
    have l2 : ∀ b, F2 b → b < w2.heap.size := fun b hb => K2.out.lt hb
    have l3 : ∀ b, F3 b → b < w3.heap.size := fun b hb => k3.lt hb
    have s1 := d1.size
    have s2 := d2.size
    have s3 := d3.size
    let F : Nat → Nat → Prop := fun i b => if i = 0 then b = w3.heap.size else if i = 1 then F1 b else if i = 2 then F2 b else if i = 3 then F3 b else False
    have dj : Dj F (w3.alloc (.cells #[.pointer (some ⟨Q, 0, none⟩), .pointer (some ⟨Q1, 0, none⟩), .pointer (some ⟨Q2, 0, none⟩), .int .i64 0, .int .i64 0, .slice none 0 0] 37)) := by
      have hin : ∀ i b, F i b → (i = 0 ∧ b = w3.heap.size) ∨ (i = 1 ∧ w.heap.size ≤ b ∧ b < w1.heap.size) ∨ (i = 2 ∧ w1.heap.size ≤ b ∧ b < w2.heap.size) ∨ (i = 3 ∧ w2.heap.size ≤ b ∧ b < w3.heap.size) := fun i b hb => by
        by_cases e0 : i = 0
        · subst e0; exact .inl ⟨rfl, by simpa [F] using hb⟩
        · by_cases e1 : i = 1
          · subst e1
            have hb' : F1 b := by simpa [F] using hb
            exact .inr (.inl ⟨rfl, f1 b hb', l1 b hb'⟩)
          · by_cases e2 : i = 2
            · subst e2
              have hb' : F2 b := by simpa [F] using hb
              exact .inr (.inr (.inl ⟨rfl, f2 b hb', l2 b hb'⟩))
            · by_cases e3 : i = 3
              · subst e3
                have hb' : F3 b := by simpa [F] using hb
                exact .inr (.inr (.inr ⟨rfl, f3 b hb', l3 b hb'⟩))
              · simp [F, e0, e1, e2, e3] at hb
      refine ⟨fun i j b hi hj => ?_, fun i b hi => ?_⟩
      · have := hin i b hi
        have := hin j b hj
        omega
      · have := hin i b hi
        have := d4.size
        have hs : (w3.alloc (.cells #[.pointer (some ⟨Q, 0, none⟩), .pointer (some ⟨Q1, 0, none⟩), .pointer (some ⟨Q2, 0, none⟩), .int .i64 0, .int .i64 0, .slice none 0 0] 37)).heap.size = w3.heap.size + 1 := by simp
        omega
    refine ⟨allF F, ⟨Ar.new_ok, Q, Q1, Q2, .slice none 0 0, [], F, ⟨Blk.new w3 #[.pointer (some ⟨Q, 0, none⟩), .pointer (some ⟨Q1, 0, none⟩), .pointer (some ⟨Q2, 0, none⟩), .int .i64 0, .int .i64 0, .slice none 0 0] 37, ?_, ?_, ?_, World.ownsRow_nil _ _ _ _, by simp, fun b => by simp [F], fun b => by simp [F, Value.ownBlock], fun i b hi hb => ?_, dj⟩, ⟨by simp, fun z => by simp [Ar.new], fun e he => by simp at he⟩, fun _ => Iff.rfl⟩, d1.trans ((d2.trans ((d3.trans (d4.mono d3.size)).mono d2.size)).mono d1.size), fun b hb => ?_⟩
    · exact (((K1.out.below d2).below d3).below d4)
    · exact ((K2.out.below d3).below d4)
    · exact k3.below d4
    · have h0 : i ≠ 0 := by omega
      have h1 : i ≠ 1 := by omega
      have h2 : i ≠ 2 := by omega
      have h3 : i ≠ 3 := by omega
      simp [F, h0, h1, h2, h3] at hb
    · obtain ⟨i, hb⟩ := hb
      by_cases e0 : i = 0
      · subst e0
        have : b = w3.heap.size := by simpa [F] using hb
        omega
      · by_cases e1 : i = 1
        · subst e1; exact f1 b (by simpa [F] using hb)
        · by_cases e2 : i = 2
          · subst e2; exact Nat.le_trans s1 (f2 b (by simpa [F] using hb))
          · by_cases e3 : i = 3
            · subst e3; exact Nat.le_trans (Nat.le_trans s1 s2) (f3 b (by simpa [F] using hb))
            · simp [F, e0, e1, e2, e3] at hb)
  clear k3 hg2 K1 K2 d1 d2 d3 f1 f2 f3
  go_wp2_with fail
  go_ret
  obtain ⟨G, k1, k2, k3⟩ := HF.out _ rfl
  exact ⟨_, G, rfl, k1, k2, k3⟩
end Go.Proofs.Ytklmgmkeaipppaa.Ac

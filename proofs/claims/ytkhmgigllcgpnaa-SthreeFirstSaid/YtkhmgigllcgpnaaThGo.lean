/-
  The contracts of the program's three queues: New, Cap, Insert, Evict. Conditions: they lie in memory; ids are ints, numbers are numbers; the ghost is not over long.
-/
import Derived.Test.YtkhmgigllcgpnaaThSmall
namespace Go.Proofs.Ytkhmgigllcgpnaa.Th
open Go Go.RowKit Go.Lib

theorem tp_begin {w w1 w2 : World} {r Q : Nat} {R X : Nat → Prop} (h : RAt r R [[], []] w1) (hb : Below w.heap.size w w1) (hf : ∀ b, R b → w.heap.size ≤ b)
    (k : Gh.GAt Q X 0 [] w2) (kb : Below (w1.alloc (.map #[] 0)).heap.size (w1.alloc (.map #[] 0)) w2) (kf : ∀ b, X b → (w1.alloc (.map #[] 0)).heap.size ≤ b) {W : World}
    (hW : W = w2.alloc (.cells #[.pointer (some ⟨r, 0, none⟩), .map (some w1.heap.size), .pointer (some ⟨Q, 0, none⟩), .int .i64 0] 60)) :
    ∃ G, TP w2.heap.size G new W ∧ Below w.heap.size w W ∧ ∀ b, G b → w.heap.size ≤ b := by
  subst hW
  have b1 := abelow w1 (.map #[] 0)
  have b3 := abelow w2 (.cells #[.pointer (some ⟨r, 0, none⟩), .map (some w1.heap.size), .pointer (some ⟨Q, 0, none⟩), .int .i64 0] 60)
  have hz1 : (w1.alloc (.map #[] 0)).heap.size = w1.heap.size + 1 := by simp
  have hz2 := kb.size
  have hz0 := hb.size
  rw [hz1] at hz2 kf
  have hB := Blk.new w2 #[.pointer (some ⟨r, 0, none⟩), .map (some w1.heap.size), .pointer (some ⟨Q, 0, none⟩), .int .i64 0] 60
  have hR : ∀ b, R b → b < w1.heap.size := fun b hx => h.lt hx
  have hX : ∀ b, X b → b < w2.heap.size := fun b hx => k.lt hx
  have hm : EM w2 w1.heap.size (fun _ => false) (fun _ => 0) (fun _ => 0) := (EM.new w1).only (Below.only kb (D := fun _ => False)) id
  have hr : RAt r R [[], []] w2 := (h.below b1).below kb
  have bw : Below w.heap.size w w2 := (hb.trans (b1.mono hz0)).trans (kb.mono (by omega))
  let F : Nat → Nat → Prop := fun i b => (i = 0 ∧ b = w2.heap.size) ∨ (i = 1 ∧ R b) ∨ (i = 2 ∧ b = w1.heap.size) ∨ (i = 3 ∧ X b)
  have hF1 : F 1 = R := by funext b; simp [F]
  have hF3 : F 3 = X := by funext b; simp [F]
  have hS : new.has = fun _ => false := by funext z; rfl
  refine ⟨allF F, ⟨new_ok, r, w1.heap.size, Q, F, ⟨hB, ?_, ?_, ?_, fun _ => ⟨Int.le_refl 0, by show (0 : Int) ≤ _; decide⟩, fun b => by simp [F], fun b => by simp [F], fun i b hi hx => by rcases hx with ⟨e, _⟩ | ⟨e, _⟩ | ⟨e, _⟩ | ⟨e, _⟩ <;> omega, ⟨?_, ?_⟩⟩, fun _ => Iff.rfl⟩, bw.trans (b3.mono bw.size), ?_⟩
  · rw [hF1]; exact hr.below b3
  · rw [hS]; exact hm.only (Below.only b3 (D := fun _ => False)) id
  · rw [hF3]; exact k.below b3
  · rintro i j b (⟨hi, e1⟩ | ⟨hi, e1⟩ | ⟨hi, e1⟩ | ⟨hi, e1⟩) (⟨hj, e2⟩ | ⟨hj, e2⟩ | ⟨hj, e2⟩ | ⟨hj, e2⟩)
    all_goals first | (rw [hi, hj]; done) | (exfalso; first | (have := hR b e1; have := kf b e2; omega) | (have := hR b e2; have := kf b e1; omega) | (have := hR b e1; omega) | (have := hR b e2; omega) | (have := kf b e1; have := hX b e1; omega) | (have := kf b e2; have := hX b e2; omega) | omega)
  · have hz3 : (w2.alloc (.cells #[.pointer (some ⟨r, 0, none⟩), .map (some w1.heap.size), .pointer (some ⟨Q, 0, none⟩), .int .i64 0] 60)).heap.size = w2.heap.size + 1 := by simp
    rw [hz3]
    rintro i b (⟨hi, e1⟩ | ⟨hi, e1⟩ | ⟨hi, e1⟩ | ⟨hi, e1⟩)
    · omega
    · have := hR b e1; omega
    · omega
    · have := hX b e1; omega
  · rintro b ⟨i, (⟨hi, e1⟩ | ⟨hi, e1⟩ | ⟨hi, e1⟩ | ⟨hi, e1⟩)⟩
    · omega
    · exact hf b e1
    · omega
    · have := kf b e1; omega

set_option maxRecDepth 100000 in
set_option maxHeartbeats 1000000 in
theorem tp_new (w : World) : Calls Try.prog 9 #[] w fun e w' => ∃ P F, e = .returned (.pointer (some ⟨P, 0, none⟩)) ∧ TP P F new w' ∧ Below w.heap.size w w' ∧ ∀ b, F b → w.heap.size ≤ b := by
  have hn := at_new 2 (by decide) (by decide) w
  have hmm := @run_makeMap Try.prog
  go_enter Try.func9, Try.ntmps9
  go_wp2_with fail
  refine hn.mono ?_
  rintro e w1 ⟨r, R, rfl, h, hb, hf⟩
  have HF := hid (And.intro h (And.intro hb hf))
  clear h hb hf hn
  go_wp2_with fail
  refine (Gh.at_new 0 _).mono ?_
  rintro e w2 ⟨Q, X, rfl, k, kb, kf⟩
  have HK := hid (And.intro k (And.intro kb kf))
  clear k kb kf hmm
  go_wp2_with fail
  go_ret
  obtain ⟨G, h1, h2, h3⟩ := tp_begin HF.out.1 HF.out.2.1 HF.out.2.2 HK.out.1 HK.out.2.1 HK.out.2.2 rfl
  exact ⟨_, G, rfl, h1, h2, h3⟩

section
variable {P : Nat} {G : Nat → Prop} {s : Th} {w : World}
set_option maxRecDepth 100000 in
set_option maxHeartbeats 1000000 in
theorem tp_cap (h : TP P G s w) (n : Int) (hn : i64ok n) : Calls Try.prog 19 #[.pointer (some ⟨P, 0, none⟩), .int .i64 n] w fun e w' => e = .returned (.tuple #[]) ∧ ∃ G', TP P G' (s.cap n) w' ∧ Stp G G' w w' := by
  obtain ⟨ok, r, m, Q, F, hq, hG⟩ := h
  have okc := ok.cap hn.2
  have f3 := hq.head.frozen 3
  have c3 := hq.head.cell (i := 3) rfl
  obtain ⟨k1, g1⟩ := hq.goM n.toNat
  obtain ⟨j, hj⟩ : ∃ j : Int, j = (n.toNat : Int) := ⟨_, rfl⟩
  have hjn : j.toNat = n.toNat := by omega
  rw [← hj] at k1 g1
  have hb : Below (w.setCell ⟨P, 3, none⟩ (.int .i64 j)).heap.size (w.setCell ⟨P, 3, none⟩ (.int .i64 j)) (w.setCell ⟨P, 3, none⟩ (.int .i64 j)).drew := (Below.refl _ _).drew
  have k2 := k1.below hb
  have d2 := k2.head.cell (i := 2) rfl
  have d3 := k2.head.cell (i := 3) rfl
  have HA : Calls Try.prog 38 #[.pointer (some ⟨Q, 0, none⟩), .int .i64 j] (w.setCell ⟨P, 3, none⟩ (.int .i64 j)).drew fun e w' => e = .returned (.tuple #[]) ∧ (w'.cell? ⟨P, 2, none⟩ = some (.pointer (some ⟨Q, 0, none⟩)) ∧ w'.cell? ⟨P, 3, none⟩ = some (.int .i64 j)) ∧ ∃ G', TP P G' (s.cap n) w' ∧ Stp G G' w w' := by
    refine (tm_lim k2 j).mono ?_
    rintro e w' ⟨he, F', k3, g3⟩
    refine ⟨he, ⟨k3.head.cell (i := 2) rfl, by have := k3.head.cell (i := 3) rfl; rw [← hj] at this; exact this⟩, ?_⟩
    rw [hjn] at k3
    exact tp_go (s := s.cap n) hG okc k3 ((g1.trans (Stp.below hb)).trans g3)
  rw [← hj] at d3
  have hc : (0 ≤ n ∧ j = n) ∨ (n < 0 ∧ j = 0) := by omega
  clear hq hG ok okc k1 g1 k2 hb hjn hj hn
  rcases hc with ⟨q1, rfl⟩ | ⟨q1, rfl⟩
  · go_enter Try.func19, Try.ntmps19
    go_upto_region 1 with fail
    generalize hW : w.setCell ⟨P, 3, none⟩ (.int .i64 j) = w5 at *
    have hx0 := And.intro d2 d3
    clear f3 c3
    go_region_held3 (fun w' => w'.cell? ⟨P, 2, none⟩ = some (.pointer (some ⟨Q, 0, none⟩)) ∧ w'.cell? ⟨P, 3, none⟩ = some (.int .i64 j)) (first | exact hx1 | exact hx0) (first
      | (go_at_call 38; refine HA.mono ?_; rintro e w6 ⟨rfl, hx1, hR⟩; have HR := hid hR))
    clear hR hx0 hx1 HA d2 d3 hW
    go_wp2_with fail
    go_end0
    exact ⟨rfl, HR.out⟩
  · go_enter Try.func19, Try.ntmps19
    go_upto_region 1 with fail
    generalize hW : w.setCell ⟨P, 3, none⟩ (.int .i64 0) = w5 at *
    have hx0 := And.intro d2 d3
    clear f3 c3
    go_region_held3 (fun w' => w'.cell? ⟨P, 2, none⟩ = some (.pointer (some ⟨Q, 0, none⟩)) ∧ w'.cell? ⟨P, 3, none⟩ = some (.int .i64 0)) (first | exact hx1 | exact hx0) (first
      | (go_at_call 38; refine HA.mono ?_; rintro e w6 ⟨rfl, hx1, hR⟩; have HR := hid hR))
    clear hR hx0 hx1 HA d2 d3 hW
    go_wp2_with fail
    go_end0
    exact ⟨rfl, HR.out⟩

theorem rw_none {L : List (List Int)} {z : Int} (h : rowOf L z = none) : rv (rowOf L z) = -1 := by rw [h]; rfl
theorem rw_some {L : List (List Int)} {z : Int} {i : Nat} (h : rowOf L z = some i) : rv (rowOf L z) = (i : Int) := by rw [h]; rfl
theorem ins_is {s : Th} {z x : Int} (h : s.insB z = true) : s.ins z x = ⟨opFront s.L (if x ∈ s.g then 1 else 0) z, Gh.rmL s.g x, s.m, updN s.num z x, updN s.cnt z 0⟩ := by unfold Th.ins; rw [if_pos h]
theorem ins_has {s : Th} (ok : s.Ok) {z x : Int} (h : s.insB z = true) : updN s.has z true = (s.ins z x).has := by
  have hz : okId z = true := by unfold Th.insB at h; exact (Bool.and_eq_true _ _ ▸ h).2
  have hm : May s.L.length (if x ∈ s.g then 1 else 0) z := by split <;> exact may2 ok.two (by decide) (by decide) hz
  funext y
  rw [Bool.eq_iff_iff, has_in, ins_is h]
  show updN s.has z true y = true ↔ y ∈ (opFront s.L (if x ∈ s.g then 1 else 0) z).flatten
  rw [opF_mem hm]
  by_cases e : y = z
  · rw [e, updN_same]; simp
  · rw [updN_other e, has_in]; simp [e]

set_option maxRecDepth 100000 in
set_option maxHeartbeats 1000000 in
theorem tp_insert (h : TP P G s w) (z x : Int) (hz : i64ok z) (hx : u64ok x) : Calls Try.prog 20 #[.pointer (some ⟨P, 0, none⟩), .int .i64 z, .int .u64 x] w fun e w' => e = .returned (.bool (s.insB z)) ∧ ∃ G', TP P G' (s.ins z x) w' ∧ Stp G G' w w' := by
  have HQ := hid h
  obtain ⟨ok, r, m, Q, F, hq, hG⟩ := h
  have c0 := hq.head.cell (i := 0) rfl
  have hr := at_row hq.rows z hz
  cases hh : s.has z
  · have hrow : rowOf s.L z = none := by
      cases e : rowOf s.L z with
      | none => rfl
      | some i => unfold Th.has at hh; rw [e] at hh; cases hh
    rw [rw_none hrow] at hr
    have hf := tm_front hq 0 z hz
    by_cases hk : okId z = true
    · have M0 := may2 ok.two (r := 0) (by decide) (by decide) hk
      have M1 := may2 ok.two (r := 1) (by decide) (by decide) hk
      rw [decide_eq_true M0] at hf
      have hB : s.insB z = true := by unfold Th.insB; rw [hh, hk]; rfl
      have e1 : Hid (s.insB z = true) := hid hB
      have HZ : Hid ((0 ≤ z ∧ z ≤ 4194303) ∧ (0 : Int) = ((0 : Nat) : Int)) := hid ⟨of_decide_eq_true hk, rfl⟩
      have HN : Hid (∀ y, u64ok (updN s.num z x y)) := hid (upd_ok hq.nok hx)
      have oks := ok.ins z x
      have et := ins_is (x := x) hB
      have eh := ins_has (x := x) ok hB
      have L2 := opF_twice M0 M1
      have M2 : May (opFront s.L 0 z).length 1 z := by rw [opFront_len]; exact M1
      have HI := hid hz
      have HX := hid hx
      have HE : Hid (∀ F' W, TM P r m Q F' (opFront s.L (if x ∈ s.g then 1 else 0) z) s.m s.m (Gh.rmL s.g x) (updN s.has z true) (updN s.num z x) (updN s.cnt z 0) W → Stp (allF F) (allF F') w W → ∃ G', TP P G' (s.ins z x) W ∧ Stp G G' w W) := hid (fun F' W k g => by
        rw [eh] at k
        refine tp_go (r := r) (m := m) (Q := Q) (s := s.ins z x) (F' := F') hG oks ?_ g
        generalize (s.ins z x).has = S at *
        rw [et]; exact k)
      have HL := hid (And.intro M2 L2)
      by_cases a1 : x ∈ s.g
      · rw [if_pos a1] at HE
        have HA := hid a1
        clear hq hG ok hh hrow hk M0 M1 hB oks et eh L2 M2 a1 HQ hz hx
        go_enter Try.func20, Try.ntmps20
        go_wp2_with fail
        refine hr.mono ?_
        rintro e w1 ⟨rfl, rfl⟩
        go_wp2_with fail
        refine hf.mono ?_
        rintro e w2 ⟨rfl, F2, k2, g2⟩
        have d1 := k2.head.cell (i := 1) rfl
        have hu := hid k2.map
        have K2 := hid (And.intro k2 g2)
        clear k2 g2 hf hr c0
        go_wp2_with (at_mapUpdate; refine wpList_em_put rfl _ _ _ rfl rfl hu rfl rfl HZ ?_; intro w3 h3 t3; obtain ⟨k3, g3⟩ := K2.out.1.goE h3.out t3.out HN.out; have d2 := k3.head.cell (i := 2) rfl; have K3 := hid (And.intro k3 (K2.out.2.trans g3)); clear h3 t3 k3 g3 K2 hu d1 HZ HN)
        have hg := tm_rmG K3.out.1 x HX.out
        rw [decide_eq_true HA.out] at hg
        refine hg.mono ?_
        rintro e w4 ⟨rfl, F4, k4, g4⟩
        have d0 := k4.head.cell (i := 0) rfl
        have K4 := hid (And.intro k4 (K3.out.2.trans g4))
        clear k4 g4 K3 hg d2
        go_wp2_with fail
        refine (tm_front K4.out.1 1 z HI.out).mono ?_
        rintro e w5 ⟨rfl, F5, k5, g5⟩
        rw [HL.out.2] at k5
        have HF := hid (HE.out F5 _ k5 (K4.out.2.trans g5))
        clear k5 g5 K4 HE d0
        go_wp2_with fail
        go_ret
        exact ⟨ret_bool e1.out.symm, HF.out⟩
      · rw [if_neg a1] at HE
        have HA := hid a1
        clear hq hG ok hh hrow hk M0 M1 hB oks et eh L2 M2 a1 HQ hz hx
        go_enter Try.func20, Try.ntmps20
        go_wp2_with fail
        refine hr.mono ?_
        rintro e w1 ⟨rfl, rfl⟩
        go_wp2_with fail
        refine hf.mono ?_
        rintro e w2 ⟨rfl, F2, k2, g2⟩
        have d1 := k2.head.cell (i := 1) rfl
        have hu := hid k2.map
        have K2 := hid (And.intro k2 g2)
        clear k2 g2 hf hr c0
        go_wp2_with (at_mapUpdate; refine wpList_em_put rfl _ _ _ rfl rfl hu rfl rfl HZ ?_; intro w3 h3 t3; obtain ⟨k3, g3⟩ := K2.out.1.goE h3.out t3.out HN.out; have d2 := k3.head.cell (i := 2) rfl; have K3 := hid (And.intro k3 (K2.out.2.trans g3)); clear h3 t3 k3 g3 K2 hu d1 HZ HN)
        have hg := tm_rmG K3.out.1 x HX.out
        rw [decide_eq_false HA.out] at hg
        refine hg.mono ?_
        rintro e w4 ⟨rfl, F4, k4, g4⟩
        have HF := hid (HE.out F4 _ k4 (K3.out.2.trans g4))
        clear k4 g4 K3 HE hg d2
        go_wp2_with fail
        go_ret
        exact ⟨ret_bool e1.out.symm, HF.out⟩
    · have M0 : ¬ May s.L.length 0 z := fun hM => hk (decide_eq_true (by unfold May at hM; exact hM.2.2))
      rw [decide_eq_false M0, opFront_no M0] at hf
      have e1 : Hid (s.insB z = false) := hid (by unfold Th.insB; rw [hh]; simpa using hk)
      have e2 : Hid (s.ins z x = s) := hid (by unfold Th.ins; rw [e1.out]; rfl)
      have HE : Hid (∀ F' W, TM P r m Q F' s.L s.m s.m s.g s.has s.num s.cnt W → Stp (allF F) (allF F') w W → ∃ G', TP P G' s W ∧ Stp G G' w W) := hid (fun F' W k g => tp_go (F' := F') hG ok k g)
      clear hq hG ok hh hrow hk M0 HQ
      go_enter Try.func20, Try.ntmps20
      go_wp2_with fail
      refine hr.mono ?_
      rintro e w1 ⟨rfl, rfl⟩
      go_wp2_with fail
      refine hf.mono ?_
      rintro e w2 ⟨rfl, F2, k2, g2⟩
      have HF := hid (HE.out F2 _ k2 g2)
      clear k2 g2 hf hr c0 HE
      go_wp2_with fail
      go_ret
      exact ⟨ret_bool e1.out.symm, by rw [e2.out]; exact HF.out⟩
  · obtain ⟨i, hrow⟩ : ∃ i, rowOf s.L z = some i := Option.isSome_iff_exists.1 hh
    rw [rw_some hrow] at hr
    have i0 : (0 : Int) ≤ (i : Int) := by omega
    have e1 : Hid (s.insB z = false) := hid (by unfold Th.insB; rw [hh]; rfl)
    have e2 : Hid (s.ins z x = s) := hid (by unfold Th.ins; rw [e1.out]; rfl)
    clear hq hG ok hh hrow
    go_enter Try.func20, Try.ntmps20
    go_wp2_with fail
    refine hr.mono ?_
    rintro e w1 ⟨rfl, rfl⟩
    go_wp2_with fail
    go_ret
    exact ⟨ret_bool e1.out.symm, G, by rw [e2.out]; exact HQ.out, Stp.refl _ _⟩

theorem evict_is {s : Th} {z : Int} {i : Nat} (h : rowOf s.L z = some (i + 1)) : s.evict z = s.rem z := by
  unfold Th.evict Th.out
  rw [h, if_neg (by simp)]
theorem evict_no {s : Th} {z : Int} (h : rowOf s.L z = none) : s.evict z = s.rem z := by
  unfold Th.evict Th.out
  rw [h, if_neg (by simp)]

set_option maxRecDepth 100000 in
set_option maxHeartbeats 1000000 in
theorem tp_evict (h : TP P G s w) (hg : s.g.length < 4194304) (z : Int) (hz : i64ok z) : Calls Try.prog 23 #[.pointer (some ⟨P, 0, none⟩), .int .i64 z] w fun e w' => e = .returned (.bool (s.has z)) ∧ ∃ G', TP P G' (s.evict z) w' ∧ Stp G G' w w' := by
  have HQ := hid h
  obtain ⟨ok, r, m, Q, F, hq, hG⟩ := h
  have c0 := hq.head.cell (i := 0) rfl
  have hr := at_row hq.rows z hz
  by_cases hrow : rowOf s.L z = some 0
  · rw [hrow] at hr
    replace hr : Calls Try.prog 39 #[.pointer (some ⟨r, 0, none⟩), .int .i64 z] w fun e w' => e = .returned (.int .i64 0) ∧ w = w' := hr
    have hb : Below w.heap.size w w.drew := (Below.refl _ _).drew
    have hw0 := hq.below hb
    have d1 := hw0.head.cell (i := 1) rfl
    have d2 := hw0.head.cell (i := 2) rfl
    have hlk := hw0.map.look hz
    have oko := ok.out z
    have et : s.out z = ⟨s.L, Gh.addL s.m s.g (s.num z), s.m, s.num, s.cnt⟩ := by unfold Th.out; rw [if_pos hrow]
    have eh : (s.out z).has = s.has := by rw [et]; rfl
    have hhas : s.has z = true := by unfold Th.has; rw [hrow]; rfl
    have HA : Hid (Calls Try.prog 45 #[.pointer (some ⟨Q, 0, none⟩), .int .u64 (s.num z)] w.drew fun e w' => e = .returned (.tuple #[]) ∧ ∃ G', TP P G' (s.out z) w' ∧ Stp G G' w w') := hid (by
      refine (tm_add hw0 (s.num z) (hq.nok z) hg).mono ?_
      rintro e w' ⟨he, F', k, g⟩
      refine ⟨he, tp_go (r := r) (m := m) (Q := Q) (s := s.out z) (F' := F') hG oko ?_ ((Stp.below hb).trans g)⟩
      rw [eh, et]; exact k)
    have HV : Hid (∀ G' W, TP P G' (s.out z) W → Stp G G' w W → Calls Try.prog 30 #[.pointer (some ⟨P, 0, none⟩), .int .i64 z] W fun e w' => e = .returned (.bool (s.has z)) ∧ ∃ G', TP P G' (s.evict z) w' ∧ Stp G G' w w') := hid (fun G' W k g => (tp_remove k z hz).mono (by
      rintro e w' ⟨he, G2, q1, q2⟩
      rw [eh] at he
      exact ⟨he, G2, q1, g.trans q2⟩))
    generalize s.num z = X at *
    generalize s.cnt z = N at *
    have hfd : ∀ W, (Instr.field 64 (.agg #[.int .u64 X, .int .i64 (N : Nat)]) 0).run Try.prog W = .ok (.int .u64 X) W := fun W => by kernel_rfl
    clear hq hG ok hrow hw0 oko et eh hhas hz HQ hg
    go_enter Try.func23, Try.ntmps23
    go_wp2_with fail
    refine hr.mono ?_
    rintro e w1 ⟨rfl, rfl⟩
    go_upto_region 2 with fail
    refine region_tail 11 (by kernel_rfl) (by kernel_rfl) ?_
    simp only [List.take_succ_cons, List.take_zero, List.drop_succ_cons, List.drop_zero]
    generalize hW : w.drew = wx at *
    clear hr c0
    repeat still_step
    refine wpStill_nil ?_
    go_wp2_with fail
    refine HA.out.mono ?_
    rintro e w2 ⟨rfl, G2, k2, g2⟩
    have hR := HV.out _ _ k2 g2
    clear k2 g2 HA HV d1 d2 hlk
    go_wp2_with fail
    refine hR.mono ?_
    rintro e w3 ⟨rfl, hF⟩
    have HF := hid hF
    clear hF hR
    go_wp2_with fail
    go_ret
    exact ⟨rfl, HF.out⟩
  · have hR := tp_remove HQ.out z hz
    obtain ⟨k, hk, hrv, hev⟩ : ∃ k : Int, (k == 0) = false ∧ rv (rowOf s.L z) = k ∧ s.evict z = s.rem z := by
      cases e : rowOf s.L z with
      | none => exact ⟨-1, rfl, rfl, evict_no e⟩
      | some i =>
        cases i with
        | zero => exact absurd e hrow
        | succ i => exact ⟨((i + 1 : Nat) : Int), beq_eq_false_iff_ne.2 (by omega), rfl, evict_is e⟩
    rw [hrv] at hr
    rw [← hev] at hR
    clear hq hG ok hrow hev HQ hrv hg hz
    go_enter Try.func23, Try.ntmps23
    go_wp2_with fail
    refine hr.mono ?_
    rintro e w1 ⟨rfl, rfl⟩
    go_wp2_with fail
    refine hR.mono ?_
    rintro e w3 ⟨rfl, hF⟩
    have HF := hid hF
    clear hF hR
    go_wp2_with fail
    go_ret
    exact ⟨rfl, HF.out⟩
end
end Go.Proofs.Ytkhmgigllcgpnaa.Th

/-
  The contracts of the document's own three queues' New, Cap and Insert. Conditions: they lie in memory.
-/
import Derived.Test.YtkhmgigllcgpnaaThRefCalls
namespace Go.Proofs.Ytkhmgigllcgpnaa.Th
open Go Go.RowKit Go.Lib

theorem infoNamed : (Try.prog.info? 67).map (fun i => (i.zero, i.size, i.bytes)) = some (some (.agg #[.int .i64 0, .int .u64 0, .int .i64 0]), 3, 24) := by kernel_rfl
theorem three_cell (W : World) (x y z : Value) (t : TypeId) : ∀ j u, [x, y, z][j]? = some u → (W.alloc (.cells #[x, y, z] t)).cell? ((⟨W.heap.size, 0, none⟩ : Addr).add j) = some u := by
  intro j u h
  have hB := Blk.new W #[x, y, z] t
  match j, h with
  | 0, h => exact hB.cell (i := 0) h
  | 1, h => exact hB.cell (i := 1) h
  | 2, h => exact hB.cell (i := 2) h
  | j + 3, h => simp at h
theorem three_ok (x y z : Int) : ∀ u ∈ [Value.int .i64 x, Value.int .u64 y, Value.int .i64 z], u.oneCell' = true := by
  intro u hu
  rcases List.mem_cons.1 hu with rfl | hu
  · rfl
  · rcases List.mem_cons.1 hu with rfl | hu
    · rfl
    · rw [List.mem_singleton.1 hu]; rfl
theorem only_grown3 {w w' : World} {v : Value} (h : w.grownBy w' v.ownBlock) : Only (fun b => v.ownBlock = some b) w w' := ⟨h.os, h.tape, h.output, h.size, fun k hk hd => h.block k hk (fun e => hd e.symm)⟩
theorem Qt.snoc {P Q Q1 : Nat} {v : Value} {es : List Em} {F : Nat → Nat → Prop} {L : List (List Int)} {m m1 : Nat} {g : List Int} {w : World} (h : Qt P Q Q1 v es F L m m1 g w) (z x : Int) (hlen : es.length + 1 ≤ 4194304) :
    ∀ v6 w6, w6.ownsRow 0 67 3 v6 (es.length + 1) (nc es ++ [.int .i64 z, .int .u64 x, .int .i64 0]) → (w.alloc (.cells #[.int .i64 z, .int .u64 x, .int .i64 0] 67)).grownBy w6 v.ownBlock → (v6.ownBlock = v.ownBlock ∨ v6.ownBlock = some (w.alloc (.cells #[.int .i64 z, .int .u64 x, .int .i64 0] 67)).heap.size) →
      (∃ F', Qt P Q Q1 v6 (es ++ [⟨z, x, 0⟩]) F' L m m1 g (w6.setCell ⟨P, 3, none⟩ v6) ∧ Stp (allF F) (allF F') w (w6.setCell ⟨P, 3, none⟩ v6)) ∧ w6.frozen? ⟨P, 3, none⟩ = false ∧ w6.cell? ⟨P, 3, none⟩ = some v := by
  intro v6 w6 o6 g6 l6
  have bA : Below w.heap.size w (w.alloc (.cells #[.int .i64 z, .int .u64 x, .int .i64 0] 67)) := (Below.refl _ _).alloc (Nat.le_refl _) _
  have ho : Only (F 3) w w6 := (Below.only bA).trans ((only_grown3 g6).mono (fun b hb => (h.f3 b).2 hb)) (fun b hb => .inl hb)
  have hB : Blk w6 P 41 [.pointer (some ⟨Q, 0, none⟩), .pointer (some ⟨Q1, 0, none⟩), .int .i64 m, v] := h.head.only ho (h.dj.out (i := 0) (by decide) P ((h.f0 P).2 rfl))
  refine ⟨?_, hB.frozen 3, hB.cell (i := 3) rfl⟩
  obtain ⟨X, k1, k2⟩ := h.goH (v' := v6) (es' := es ++ [⟨z, x, 0⟩]) ho (by rw [List.length_append, List.length_singleton, nc_app]; exact o6) (fun b hb => by
    rcases l6 with e | e
    · exact .inl (e ▸ hb)
    · right
      rw [e] at hb
      injection hb with hb
      rw [← hb]; simp) (by rw [List.length_append, List.length_singleton]; exact hlen)
  exact ⟨_, k1, k2⟩
/-- The end of Insert. -/
theorem ins_end {P Q Q1 : Nat} {v : Value} {es : List Em} {G : Nat → Prop} {F F1 : Nat → Nat → Prop} {t : Th} {w w1 : World} (hG : ∀ b, G b ↔ allF F b) (ht : t.Ok) (z x : Int)
    (hsay : Says (es ++ [⟨z, x, 0⟩]) t.L t.num t.cnt) (hlen : es.length + 1 ≤ 4194304) (h : Qt P Q Q1 v es F1 t.L t.m t.m t.g w1) (g : Stp (allF F) (allF F1) w w1) :
    w1.cell? ⟨P, 3, none⟩ = some v ∧ w1.ownsRow 0 67 3 v es.length (nc es) ∧
    ∀ v6 w6, w6.ownsRow 0 67 3 v6 (es.length + 1) (nc es ++ [.int .i64 z, .int .u64 x, .int .i64 0]) → (w1.alloc (.cells #[.int .i64 z, .int .u64 x, .int .i64 0] 67)).grownBy w6 v.ownBlock → (v6.ownBlock = v.ownBlock ∨ v6.ownBlock = some (w1.alloc (.cells #[.int .i64 z, .int .u64 x, .int .i64 0] 67)).heap.size) →
      (∃ G', QT P G' t (w6.setCell ⟨P, 3, none⟩ v6) ∧ Stp G G' w (w6.setCell ⟨P, 3, none⟩ v6)) ∧ w6.frozen? ⟨P, 3, none⟩ = false ∧ w6.cell? ⟨P, 3, none⟩ = some v := by
  refine ⟨h.head.cell (i := 3) rfl, h.row, fun v6 w6 o6 g6 l6 => ?_⟩
  obtain ⟨⟨F', k1, k2⟩, k3, k4⟩ := h.snoc z x hlen v6 w6 o6 g6 l6
  exact ⟨qt_go (Q := Q) (Q1 := Q1) (v := v6) (F' := F') hG ht k1 hsay (g.trans k2), k3, k4⟩

set_option maxRecDepth 100000 in
theorem qt_new (w : World) : Calls Try.prog 10 #[] w fun e w' => ∃ P G, e = .returned (.pointer (some ⟨P, 0, none⟩)) ∧ QT P G new w' ∧ Below w.heap.size w w' ∧ ∀ b, G b → w.heap.size ≤ b := by
  have hn := rq_new 2 (by decide) (by decide) w
  have hgn := fun W => gq_new 0 (by decide) W
  go_enter Try.func10, Try.ntmps10
  go_wp2_with fail
  refine hn.mono ?_
  rintro e w1 ⟨Q, F1, rfl, k1, d1, f1⟩
  have K1 := hid k1
  have hg1 := hgn w1
  clear hn k1 hgn
  go_wp2_with fail
  refine hg1.mono ?_
  rintro e w2 ⟨Q1, F2, rfl, k2, d2, f2⟩
  have HF : Hid (∀ w4, w2.alloc (.cells #[.pointer (some ⟨Q, 0, none⟩), .pointer (some ⟨Q1, 0, none⟩), .int .i64 0, .slice none 0 0] 41) = w4 → ∃ G, QT w2.heap.size G new w4 ∧ Below w.heap.size w w4 ∧ ∀ b, G b → w.heap.size ≤ b) := hid (by
    rintro w4 rfl
    have d4 : Below w2.heap.size w2 (w2.alloc (.cells #[.pointer (some ⟨Q, 0, none⟩), .pointer (some ⟨Q1, 0, none⟩), .int .i64 0, .slice none 0 0] 41)) := (Below.refl _ _).alloc (Nat.le_refl _) _
    have l1 : ∀ b, F1 b → b < w1.heap.size := fun b hb => K1.out.lt hb
    have l2 : ∀ b, F2 b → b < w2.heap.size := fun b hb => k2.lt hb
    have s1 := d1.size
    have s2 := d2.size
    let F : Nat → Nat → Prop := fun i b => if i = 0 then b = w2.heap.size else if i = 1 then F1 b else if i = 2 then F2 b else False
    have dj : Dj F (w2.alloc (.cells #[.pointer (some ⟨Q, 0, none⟩), .pointer (some ⟨Q1, 0, none⟩), .int .i64 0, .slice none 0 0] 41)) := by
      have hin : ∀ i b, F i b → (i = 0 ∧ b = w2.heap.size) ∨ (i = 1 ∧ w.heap.size ≤ b ∧ b < w1.heap.size) ∨ (i = 2 ∧ w1.heap.size ≤ b ∧ b < w2.heap.size) := fun i b hb => by
        by_cases e0 : i = 0
        · subst e0; exact .inl ⟨rfl, by simpa [F] using hb⟩
        · by_cases e1 : i = 1
          · subst e1
            have hb' : F1 b := by simpa [F] using hb
            exact .inr (.inl ⟨rfl, f1 b hb', l1 b hb'⟩)
          · by_cases e2 : i = 2
            · subst e2
              have hb' : F2 b := by simpa [F] using hb
              exact .inr (.inr ⟨rfl, f2 b hb', l2 b hb'⟩)
            · simp [F, e0, e1, e2] at hb
      refine ⟨fun i j b hi hj => ?_, fun i b hi => ?_⟩
      · have := hin i b hi
        have := hin j b hj
        omega
      · have := hin i b hi
        have hs : (w2.alloc (.cells #[.pointer (some ⟨Q, 0, none⟩), .pointer (some ⟨Q1, 0, none⟩), .int .i64 0, .slice none 0 0] 41)).heap.size = w2.heap.size + 1 := by simp
        omega
    refine ⟨allF F, ⟨new_ok, Q, Q1, .slice none 0 0, [], F, ⟨Blk.new w2 #[.pointer (some ⟨Q, 0, none⟩), .pointer (some ⟨Q1, 0, none⟩), .int .i64 0, .slice none 0 0] 41, ?_, ?_, World.ownsRow_nil _ _ _ _, by simp, fun b => by simp [F], fun b => by simp [F, Value.ownBlock], fun i b hi hb => ?_, dj⟩, ⟨by simp, fun z => by simp [new], fun e he => by simp at he, fun e he => by simp at he⟩, fun _ => Iff.rfl⟩, d1.trans ((d2.trans (d4.mono d2.size)).mono d1.size), fun b hb => ?_⟩
    · exact ((K1.out.below d2).below d4)
    · exact k2.below d4
    · have h0 : i ≠ 0 := by omega
      have h1 : i ≠ 1 := by omega
      have h2 : i ≠ 2 := by omega
      simp [F, h0, h1, h2] at hb
    · obtain ⟨i, hb⟩ := hb
      by_cases e0 : i = 0
      · subst e0
        have : b = w2.heap.size := by simpa [F] using hb
        omega
      · by_cases e1 : i = 1
        · subst e1; exact f1 b (by simpa [F] using hb)
        · by_cases e2 : i = 2
          · subst e2; exact Nat.le_trans s1 (f2 b (by simpa [F] using hb))
          · simp [F, e0, e1, e2] at hb)
  clear k2 hg1 K1 d1 d2 f1 f2
  go_wp2_with fail
  go_ret
  obtain ⟨G, k1, k2, k3⟩ := HF.out _ rfl
  exact ⟨_, G, rfl, k1, k2, k3⟩

set_option maxRecDepth 100000 in
theorem qt_cap {P : Nat} {G : Nat → Prop} {s : Th} {w : World} (h : QT P G s w) (n : Int) (q : -9223372036854775808 ≤ n ∧ n ≤ 9223372036854775807) :
    Calls Try.prog 33 #[.pointer (some ⟨P, 0, none⟩), .int .i64 n] w fun e w' => e = .returned (.tuple #[]) ∧ ∃ G', QT P G' (s.cap n) w' ∧ Stp G G' w w' := by
  obtain ⟨ok, Q, Q1, v, es, F, hq, hsay, hG⟩ := h
  have oks := ok.cap q.2
  have f2 := hq.head.frozen 2
  have c2 := hq.head.cell (i := 2) rfl
  have c1 := hq.head.cell (i := 1) rfl
  obtain ⟨k, hk⟩ : ∃ k, k = n.toNat := ⟨_, rfl⟩
  obtain ⟨hq1, g1⟩ := hq.goM k
  have hA := qt_lim hq1 n q
  have HG : Hid (∀ F' W, Qt P Q Q1 v es F' s.L k n.toNat (Gh.cutL n.toNat s.g) W → Stp (allF F) (allF F') (w.setCell ⟨P, 2, none⟩ (.int .i64 (k : Nat))) W → ∃ G', QT P G' (s.cap n) W ∧ Stp G G' w W) := hid (fun F' W k2 g2 => by
    rw [hk] at k2
    exact qt_go (s := s.cap n) hG oks k2 hsay (g1.trans g2))
  have hcase : (n < 0 ∧ k = 0) ∨ (0 ≤ n ∧ n = (k : Int)) := by omega
  clear hq hsay hG ok oks hq1 g1 q hk
  rcases hcase with ⟨h0, rfl⟩ | ⟨h0, rfl⟩
  · rw [show ((0 : Nat) : Int) = 0 from rfl] at hA HG
    go_enter Try.func33, Try.ntmps33
    go_wp2_with fail
    refine hA.mono ?_
    rintro e w1 ⟨rfl, F1, k1, g1⟩
    have HR := hid (HG.out F1 _ k1 g1)
    clear hA k1 g1 HG
    go_wp2_with fail
    go_end0
    exact ⟨rfl, HR.out⟩
  · go_enter Try.func33, Try.ntmps33
    go_wp2_with fail
    refine hA.mono ?_
    rintro e w1 ⟨rfl, F1, k1, g1⟩
    have HR := hid (HG.out F1 _ k1 g1)
    clear hA k1 g1 HG
    go_wp2_with fail
    go_end0
    exact ⟨rfl, HR.out⟩

set_option maxRecDepth 100000 in
set_option maxHeartbeats 1000000 in
theorem qt_insert {P : Nat} {G : Nat → Prop} {s : Th} {w : World} (h : QT P G s w) (z x : Int) :
    Calls Try.prog 28 #[.pointer (some ⟨P, 0, none⟩), .int .i64 z, .int .u64 x] w fun e w' => e = .returned (.bool (s.insB z)) ∧ ∃ G', QT P G' (s.ins z x) w' ∧ Stp G G' w w' := by
  have HQ := hid h
  obtain ⟨ok, Q, Q1, v, es, F, hq, hsay, hG⟩ := h
  have c0 := hq.head.cell (i := 0) rfl
  have c1 := hq.head.cell (i := 1) rfl
  have hf := qt_find hq z
  rcases hsay.find z with ⟨hz, hx⟩ | ⟨k, hk, he, hx, hz⟩
  · rw [hx] at hf
    have hh : s.has z = false := by cases e : s.has z; · rfl
                                    · exact absurd (arow_some.1 e) hz
    by_cases hzr : 0 ≤ z ∧ z ≤ 4194303
    · have hk : okId z = true := decide_eq_true hzr
      have hB : s.insB z = true := by unfold Th.insB; rw [hh, hk]; rfl
      have e1 : Hid (s.insB z = true) := hid hB
      have oks := ok.ins z x
      have hlen : es.length + 1 ≤ 4194304 := by
        have h1 := hsay.snoc (x := x) hz (fun y => opF_mem (may2 ok.two (by decide) (by decide) hk) (r := 0))
        have := h1.len (opF_good ok.good 0 z)
        simpa using this
      obtain ⟨i0, hi0, hz0, hz1, hz2⟩ := info_parts infoNamed
      obtain ⟨z0, z1⟩ := hzr
      have hrm := qt_rmG hq x
      have et : s.ins z x = ⟨opFront s.L (if x ∈ s.g then 1 else 0) z, Gh.rmL s.g x, s.m, updN s.num z x, updN s.cnt z 0⟩ := by unfold Th.ins; rw [if_pos hB]
      have hM : May s.L.length (if x ∈ s.g then 1 else 0) z := by split <;> exact may2 ok.two (by decide) (by decide) hk
      have HFR : Hid (∀ r F1 W, Qt P Q Q1 v es F1 s.L s.m s.m (Gh.rmL s.g x) W → W.cell? ⟨P, 0, none⟩ = some (.pointer (some ⟨Q, 0, none⟩)) ∧ Calls Try.prog 47 #[.pointer (some ⟨Q, 0, none⟩), .int .i64 r, .int .i64 z] W fun e w' => e = .returned (.bool (decide (May s.L.length r z))) ∧ ∃ F', Qt P Q Q1 v es F' (opFront s.L r z) s.m s.m (Gh.rmL s.g x) w' ∧ Stp (allF F1) (allF F') W w') := hid (fun r F1 W k => ⟨k.head.cell (i := 0) rfl, qt_front k r z⟩)
      have HE : Hid (∀ F1 W, Qt P Q Q1 v es F1 (opFront s.L (if x ∈ s.g then 1 else 0) z) s.m s.m (Gh.rmL s.g x) W → Stp (allF F) (allF F1) w W → _) := hid (fun F1 W k g => ins_end (t := s.ins z x) hG oks z x (by rw [et]; exact hsay.snoc hz (fun y => opF_mem hM)) hlen (by rw [et]; exact k) g)
      obtain ⟨K, hK⟩ : ∃ K, K = es.length := ⟨_, rfl⟩
      rw [← hK] at HE hlen
      clear hq hsay ok oks hh hB hz et hM hk HQ hK hx
      by_cases hg : x ∈ s.g
      · rw [decide_eq_true hg] at hrm
        simp only [if_pos hg] at HE
        clear hg
        go_enter Try.func28, Try.ntmps28
        go_wp2_with fail
        refine hf.mono ?_
        rintro e w1 ⟨rfl, rfl⟩
        go_wp2_with fail
        refine hrm.mono ?_
        rintro e w1 ⟨rfl, F1, k, g⟩
        obtain ⟨d0, hfr⟩ := HFR.out 1 F1 _ k
        have G1 := hid g
        clear k g hrm HFR hf
        go_wp2_with fail
        refine hfr.mono ?_
        rintro e w2 ⟨rfl, F2, k, g⟩
        obtain ⟨c3, hown, hS⟩ := HE.out F2 _ k (G1.out.trans g)
        have HS := hid hS
        obtain ⟨av, cv, rfl⟩ := row2_form hown
        clear k g hfr HE hS G1 d0 c0 c1
        go_wp2_with (at_builtin; refine wpList_append_own_at _ rfl _ _ 39 rfl 0 67 i0 (.agg #[.int .i64 0, .int .u64 0, .int .i64 0]) 3 24 Try.underlying39 hi0 hz0 hz1 hz2 rfl (by decide) (.slice av K cv) _ _ rfl (hown.alloc _) ⟨w2.heap.size, 0, none⟩ 1 1 [.int .i64 z, .int .u64 x, .int .i64 0] rfl rfl (three_cell _ _ _ _ _) (three_ok _ _ _) (by unfold maxLen; omega) (by omega) (by simp) ?_; intro v6 w6 hown6 hgrow6 hnil6 hloc6; obtain ⟨a6, d6, rfl⟩ := row2_form hown6; obtain ⟨hg6, hf6, hc6⟩ := HS.out _ w6 hown6 hgrow6 hloc6; have HG := hid hg6; clear hg6 hown6 hgrow6 hnil6 hloc6 hown HS c3)
        go_ret
        exact ⟨ret_bool e1.out.symm, HG.out⟩
      · rw [decide_eq_false hg] at hrm
        simp only [if_neg hg] at HE
        clear hg
        go_enter Try.func28, Try.ntmps28
        go_wp2_with fail
        refine hf.mono ?_
        rintro e w1 ⟨rfl, rfl⟩
        go_wp2_with fail
        refine hrm.mono ?_
        rintro e w1 ⟨rfl, F1, k, g⟩
        obtain ⟨d0, hfr⟩ := HFR.out 0 F1 _ k
        have G1 := hid g
        clear k g hrm HFR hf
        go_wp2_with fail
        refine hfr.mono ?_
        rintro e w2 ⟨rfl, F2, k, g⟩
        obtain ⟨c3, hown, hS⟩ := HE.out F2 _ k (G1.out.trans g)
        have HS := hid hS
        obtain ⟨av, cv, rfl⟩ := row2_form hown
        clear k g hfr HE hS G1 d0 c0 c1
        go_wp2_with (at_builtin; refine wpList_append_own_at _ rfl _ _ 39 rfl 0 67 i0 (.agg #[.int .i64 0, .int .u64 0, .int .i64 0]) 3 24 Try.underlying39 hi0 hz0 hz1 hz2 rfl (by decide) (.slice av K cv) _ _ rfl (hown.alloc _) ⟨w2.heap.size, 0, none⟩ 1 1 [.int .i64 z, .int .u64 x, .int .i64 0] rfl rfl (three_cell _ _ _ _ _) (three_ok _ _ _) (by unfold maxLen; omega) (by omega) (by simp) ?_; intro v6 w6 hown6 hgrow6 hnil6 hloc6; obtain ⟨a6, d6, rfl⟩ := row2_form hown6; obtain ⟨hg6, hf6, hc6⟩ := HS.out _ w6 hown6 hgrow6 hloc6; have HG := hid hg6; clear hg6 hown6 hgrow6 hnil6 hloc6 hown HS c3)
        go_ret
        exact ⟨ret_bool e1.out.symm, HG.out⟩
    · have hk : okId z = false := decide_eq_false hzr
      have e1 : Hid (s.insB z = false) := hid (by unfold Th.insB; rw [hh, hk]; rfl)
      have e2 : Hid (s.ins z x = s) := hid (by unfold Th.ins; rw [e1.out]; rfl)
      have hz2 : z < 0 ∨ (0 ≤ z ∧ 4194303 < z) := by omega
      clear hq hsay hG ok hh hzr hk hz hx
      rcases hz2 with z0 | ⟨z0, z1⟩
      all_goals
        go_enter Try.func28, Try.ntmps28
        go_wp2_with fail
        refine hf.mono ?_
        rintro e w1 ⟨rfl, rfl⟩
        go_wp2_with fail
        go_ret
        exact ⟨ret_bool e1.out.symm, G, by rw [e2.out]; exact HQ.out, Stp.refl _ _⟩
  · rw [hx] at hf
    have hh : s.has z = true := arow_some.2 hz
    have e1 : Hid (s.insB z = false) := hid (by unfold Th.insB; rw [hh]; rfl)
    have e2 : Hid (s.ins z x = s) := hid (by unfold Th.ins; rw [e1.out]; rfl)
    have i0 : (0 : Int) ≤ (k : Int) := by omega
    clear hq hsay hG ok hh hx hz he
    go_enter Try.func28, Try.ntmps28
    go_wp2_with fail
    refine hf.mono ?_
    rintro e w1 ⟨rfl, rfl⟩
    go_wp2_with fail
    go_ret
    exact ⟨ret_bool e1.out.symm, G, by rw [e2.out]; exact HQ.out, Stp.refl _ _⟩
end Go.Proofs.Ytkhmgigllcgpnaa.Th

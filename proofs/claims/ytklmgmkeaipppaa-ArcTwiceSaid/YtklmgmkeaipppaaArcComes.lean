/-
  The contract of the program's comesBack: what a number that a ghost has makes of the target and the ghosts. Conditions: it lies in memory; its target is not over great.
-/
import Derived.Test.YtklmgmkeaipppaaArcCap
import Derived.StillTailTactics
namespace Go.Proofs.Ytklmgmkeaipppaa.Ac
open Go Go.RowKit Go.Lib

theorem gdrew {Q m : Nat} {F : Nat → Prop} {l : List Int} {w : World} (h : Gh.GAt Q F m l w) : Gh.GAt Q F m l w.drew := h.below (Below.refl _ _).drew
/-- A region whose operations but the last ones only read: the walk in the text's order. -/
theorem region_tail {P : Program} {id : Nat} {Q : Exit → Act → World → Prop} {a : Act} {w : World} {l : List Oper} (n : Nat) (hm : P.follows .mixedOrders = true) (hB : Region.lexTailB .any l.toArray n = true)
    (h : wpStill P l.toArray w.drew (fun a' => wpList P l.toArray Q (l.drop n) a' w.drew) (l.take n) a) : (Code.region id l.toArray true).wp P Q a w := wp_region_still_tail n hm hB h
set_option maxRecDepth 100000 in
set_option maxHeartbeats 1000000 in
theorem cb_one {P r m Q1 Q2 : Nat} {F : Nat → Nat → Prop} {L : List (List Int)} {c m1 m2 : Nat} {b1 b2 : List Int} {p : Nat} {num : Int → Int} {w : World} (h : AP P r m Q1 Q2 F L c m1 m2 b1 b2 p num w) (x : Int) (hx : u64ok x) (hm : x ∈ b1) (hp : (p : Int) ≤ 4611686018427387904) (hc : (c : Int) ≤ 9223372036854775807) (p' : Nat) (hp' : p' = min c (p + max 1 (b2.length / b1.length))) :
    Calls Try.prog 45 #[.pointer (some ⟨P, 0, none⟩), .int .u64 x] w fun e w' => e = .returned (.bool true) ∧ ∃ F', AP P r m Q1 Q2 F' L c m1 m2 (Gh.rmL b1 x) b2 p' num w' ∧ Stp (allF F) (allF F') w w' := by
  have hz : Below w.heap.size w w.drew.drew := (Below.refl _ _).drew.drew
  have hw0 := h.below hz
  have c2 := h.head.cell (i := 2) rfl
  have c3 := h.head.cell (i := 3) rfl
  have hh := Gh.at_has (gdrew h.g1) x hx
  rw [decide_eq_true hm] at hh
  have hl := List.length_pos_of_mem hm
  obtain ⟨E, hE⟩ : ∃ E, E = max 1 (b2.length / b1.length) := ⟨_, rfl⟩
  have hw := weight_any hw0.g1 hw0.g2 hl hE
  rw [← hE] at hp'
  have hEb : E ≤ 4194304 := by
    have := gat_len h.g2
    have := Nat.div_le_self b2.length b1.length
    omega
  obtain ⟨k1, g1⟩ := hw0.goP p'
  have HR : Hid (Calls Try.prog 63 #[.pointer (some ⟨Q1, 0, none⟩), .int .u64 x] (w.drew.drew.setCell ⟨P, 5, none⟩ (.int .i64 p')) fun e w' => e = .returned (.bool (decide (x ∈ b1))) ∧ ∃ F', AP P r m Q1 Q2 F' L c m1 m2 (Gh.rmL b1 x) b2 p' num w' ∧ Stp (allF F) (allF F') w w') := hid (by
    refine (ap_remA k1 x hx).mono ?_
    rintro e w' ⟨he, F', k, g⟩
    exact ⟨he, F', k, (Stp.below hz).trans (g1.trans g)⟩)
  obtain ⟨S, hS⟩ : ∃ S, S = p + E := ⟨_, rfl⟩
  have q2 : (p : Int) + (E : Int) = (S : Int) := by omega
  have q3 : (S : Int) ≤ 4611686018431582208 := by omega
  have q4 : IntKind.i64.wrap (S : Int) = (S : Int) := by rw [IntKind.wrap_i64]; omega
  have hcase : ((S : Int) ≤ (c : Int) ∧ p' = S) ∨ ((c : Int) < (S : Int) ∧ p' = c) := by omega
  have HX : Hid (w.drew.drew.cell? ⟨P, 4, none⟩ = some (.int .i64 c) ∧ w.drew.drew.cell? ⟨P, 5, none⟩ = some (.int .i64 p) ∧ w.drew.drew.frozen? ⟨P, 5, none⟩ = false) := hid ⟨hw0.head.cell (i := 4) rfl, hw0.head.cell (i := 5) rfl, hw0.head.frozen 5⟩
  clear h hw0 k1 g1 hp' hE hl hEb hm hS hp
  rcases hcase with ⟨a, rfl⟩ | ⟨a, rfl⟩
  all_goals
    go_enter Try.func45, Try.ntmps45
    go_wp2_with fail
    go_region
    go_wp2_with fail
    refine hh.mono ?_
    rintro e w1 ⟨rfl, rfl⟩
    go_upto_region 4 with fail
    refine region_tail 16 (by kernel_rfl) (by kernel_rfl) ?_
    simp only [List.take_succ_cons, List.take_zero, List.drop_succ_cons, List.drop_zero]
    generalize hW : w.drew.drew = wx at *
    obtain ⟨d4, d5, g5⟩ := HX.out
    clear HX c2 c3
    repeat still_step
    refine wpStill_step (fun K hK => ?_)
    go_simp
    refine ⟨_, hw.mono (fun e w' hh => ⟨hh.1, hh.2.symm⟩), hK _ ?_⟩
    clear hK K
    repeat still_step
    refine wpStill_nil ?_
    go_wp2_with fail
    refine HR.out.mono ?_
    rintro e w2 ⟨rfl, HF⟩
    have HF := hid HF
    clear hw d4 d5 g5 hh HR
    go_wp2_with fail
    go_ret
    exact ⟨rfl, HF.out⟩
set_option maxRecDepth 100000 in
set_option maxHeartbeats 1000000 in
theorem cb_two {P r m Q1 Q2 : Nat} {F : Nat → Nat → Prop} {L : List (List Int)} {c m1 m2 : Nat} {b1 b2 : List Int} {p : Nat} {num : Int → Int} {w : World} (h : AP P r m Q1 Q2 F L c m1 m2 b1 b2 p num w) (x : Int) (hx : u64ok x) (hn : x ∉ b1) (hm : x ∈ b2) (hp : (p : Int) ≤ 4611686018427387904) (p' : Nat) (hp' : p' = p - max 1 (b1.length / b2.length)) :
    Calls Try.prog 45 #[.pointer (some ⟨P, 0, none⟩), .int .u64 x] w fun e w' => e = .returned (.bool true) ∧ ∃ F', AP P r m Q1 Q2 F' L c m1 m2 b1 (Gh.rmL b2 x) p' num w' ∧ Stp (allF F) (allF F') w w' := by
  have hz : Below w.heap.size w w.drew.drew := (Below.refl _ _).drew.drew
  have hw0 := h.below hz
  have c2 := h.head.cell (i := 2) rfl
  have c3 := h.head.cell (i := 3) rfl
  have hh1 := Gh.at_has (gdrew h.g1) x hx
  rw [decide_eq_false hn] at hh1
  have hh := Gh.at_has (gdrew h.g2) x hx
  rw [decide_eq_true hm] at hh
  have hl := List.length_pos_of_mem hm
  obtain ⟨E, hE⟩ : ∃ E, E = max 1 (b1.length / b2.length) := ⟨_, rfl⟩
  have hw := weight_any hw0.g2 hw0.g1 hl hE
  rw [← hE] at hp'
  have hEb : E ≤ 4194304 := by
    have := gat_len h.g1
    have := Nat.div_le_self b1.length b2.length
    omega
  obtain ⟨k1, g1⟩ := hw0.goP p'
  have HR : Hid (Calls Try.prog 63 #[.pointer (some ⟨Q2, 0, none⟩), .int .u64 x] (w.drew.drew.setCell ⟨P, 5, none⟩ (.int .i64 p')) fun e w' => e = .returned (.bool (decide (x ∈ b2))) ∧ ∃ F', AP P r m Q1 Q2 F' L c m1 m2 b1 (Gh.rmL b2 x) p' num w' ∧ Stp (allF F) (allF F') w w') := hid (by
    refine (ap_remB k1 x hx).mono ?_
    rintro e w' ⟨he, F', k, g⟩
    exact ⟨he, F', k, (Stp.below hz).trans (g1.trans g)⟩)
  have q4 : IntKind.i64.wrap ((p : Int) - (E : Int)) = (p : Int) - (E : Int) := by rw [IntKind.wrap_i64]; omega
  have hcase : ((0 : Int) ≤ (p : Int) - (E : Int) ∧ (p : Int) - (E : Int) = (p' : Int)) ∨ ((p : Int) - (E : Int) < 0 ∧ p' = 0) := by omega
  have HX : Hid (w.drew.drew.cell? ⟨P, 5, none⟩ = some (.int .i64 p) ∧ w.drew.drew.frozen? ⟨P, 5, none⟩ = false) := hid ⟨hw0.head.cell (i := 5) rfl, hw0.head.frozen 5⟩
  clear h hw0 k1 g1 hp' hE hl hEb hm hp hn
  rcases hcase with ⟨a, a2⟩ | ⟨a, rfl⟩
  · have q5 : (0 : Int) ≤ (p' : Int) := by omega
    have q6 : IntKind.i64.wrap (p' : Int) = (p' : Int) := by rw [← a2]; exact q4
    have q7 : (p : Int) - (E : Int) = (p' : Int) := a2
    clear a q4 a2
    go_enter Try.func45, Try.ntmps45
    go_wp2_with fail
    go_region
    go_wp2_with fail
    refine hh1.mono ?_
    rintro e w1 ⟨rfl, rfl⟩
    go_wp2_with fail
    refine hh.mono ?_
    rintro e w1 ⟨rfl, rfl⟩
    go_upto_region 7 with fail
    refine region_tail 12 (by kernel_rfl) (by kernel_rfl) ?_
    simp only [List.take_succ_cons, List.take_zero, List.drop_succ_cons, List.drop_zero]
    generalize hW : w.drew.drew = wx at *
    obtain ⟨d5, g5⟩ := HX.out
    clear HX c2 c3
    repeat still_step
    refine wpStill_step (fun K hK => ?_)
    go_simp
    refine ⟨_, hw.mono (fun e w' hh => ⟨hh.1, hh.2.symm⟩), hK _ ?_⟩
    clear hK K
    repeat still_step
    refine wpStill_nil ?_
    go_wp2_with fail
    refine HR.out.mono ?_
    rintro e w2 ⟨rfl, HF⟩
    have HF := hid HF
    clear hw d5 g5 hh hh1 HR
    go_wp2_with fail
    go_ret
    exact ⟨rfl, HF.out⟩
  · replace HR : Hid (Calls Try.prog 63 #[.pointer (some ⟨Q2, 0, none⟩), .int .u64 x] (w.drew.drew.setCell ⟨P, 5, none⟩ (.int .i64 0)) fun e w' => e = .returned (.bool (decide (x ∈ b2))) ∧ ∃ F', AP P r m Q1 Q2 F' L c m1 m2 b1 (Gh.rmL b2 x) (0 : Nat) num w' ∧ Stp (allF F) (allF F') w w') := HR
    go_enter Try.func45, Try.ntmps45
    go_wp2_with fail
    go_region
    go_wp2_with fail
    refine hh1.mono ?_
    rintro e w1 ⟨rfl, rfl⟩
    go_wp2_with fail
    refine hh.mono ?_
    rintro e w1 ⟨rfl, rfl⟩
    go_upto_region 7 with fail
    refine region_tail 12 (by kernel_rfl) (by kernel_rfl) ?_
    simp only [List.take_succ_cons, List.take_zero, List.drop_succ_cons, List.drop_zero]
    generalize hW : w.drew.drew = wx at *
    obtain ⟨d5, g5⟩ := HX.out
    clear HX c2 c3
    repeat still_step
    refine wpStill_step (fun K hK => ?_)
    go_simp
    refine ⟨_, hw.mono (fun e w' hh => ⟨hh.1, hh.2.symm⟩), hK _ ?_⟩
    clear hK K
    repeat still_step
    refine wpStill_nil ?_
    go_wp2_with fail
    refine HR.out.mono ?_
    rintro e w2 ⟨rfl, HF⟩
    have HF := hid HF
    clear hw d5 g5 hh hh1 HR
    go_wp2_with fail
    go_ret
    exact ⟨rfl, HF.out⟩
set_option maxRecDepth 100000 in
theorem cb_none {P r m Q1 Q2 : Nat} {F : Nat → Nat → Prop} {L : List (List Int)} {c m1 m2 : Nat} {b1 b2 : List Int} {p : Int} {num : Int → Int} {w : World} (h : AP P r m Q1 Q2 F L c m1 m2 b1 b2 p num w) (x : Int) (hx : u64ok x) (hn1 : x ∉ b1) (hn2 : x ∉ b2) :
    Calls Try.prog 45 #[.pointer (some ⟨P, 0, none⟩), .int .u64 x] w fun e w' => e = .returned (.bool false) ∧ ∃ F', AP P r m Q1 Q2 F' L c m1 m2 b1 b2 p num w' ∧ Stp (allF F) (allF F') w w' := by
  have hz : Below w.heap.size w w.drew := (Below.refl _ _).drew
  have c2 := h.head.cell (i := 2) rfl
  have c3 := h.head.cell (i := 3) rfl
  have hh1 := Gh.at_has (gdrew h.g1) x hx
  rw [decide_eq_false hn1] at hh1
  have hh2 := Gh.at_has (gdrew h.g2) x hx
  rw [decide_eq_false hn2] at hh2
  have HR := hid (And.intro (h.below hz) (Stp.below (F := allF F) hz))
  clear h hn1 hn2
  go_enter Try.func45, Try.ntmps45
  go_wp2_with fail
  go_region
  go_wp2_with fail
  refine hh1.mono ?_
  rintro e w1 ⟨rfl, rfl⟩
  go_wp2_with fail
  refine hh2.mono ?_
  rintro e w1 ⟨rfl, rfl⟩
  go_wp2_with fail
  go_ret
  exact ⟨rfl, F, HR.out.1, HR.out.2⟩
end Go.Proofs.Ytklmgmkeaipppaa.Ac

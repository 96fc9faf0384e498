/-
  The laws SizesNew, SizesTell, SizesHold at this program. No conditions but that a slice has at most 2^63 - 1 places.
-/
import Derived.Test.YtoiifccmnmhnkaaSizesPer
namespace Go.Proofs.Ytoiifccmnmhnkaa
open Go Go.RowKit Go.Lib

theorem row_shown : row 512 200 = [64, 128, 256, 512] := by decide
theorem page_shown : pageB 512 = true := by decide
theorem cls_shown : cls [64, 128, 256, 512] 65 0 = 1 := by decide
theorem per_shown : per [64, 128, 256, 512] 0 512 = 8 := by decide

set_option maxHeartbeats 1000000 in
set_option maxRecDepth 100000 in
theorem shown_any (w : World) : Calls Try.prog 8 #[] w fun e w' => e = .returned (.bool true) ∧ Below w.heap.size w w' := by
  have h1 : ∀ w, Calls Try.prog 9 #[.int .i64 512, .int .i64 200] w fun e w' => ∃ g c, e = .returned (.tuple #[.slice (some ⟨g, 0, none⟩) 4 c, .int .i64 0]) ∧ w'.cell? ⟨g, 3, none⟩ = some (.int .i64 512) ∧ Ints w' (.slice (some ⟨g, 0, none⟩) 4 c) [64, 128, 256, 512] ∧ Below w.heap.size w w' := fun w => by
    have h := new_ok 512 200 (by omega) (by omega) page_shown (by omega) (by omega) w
    rw [row_shown] at h
    refine h.mono fun e w' ⟨v, he, ho, hb⟩ => ?_
    obtain ⟨g, c, rfl, hg, hlt⟩ := ho.form (by decide)
    refine ⟨g, c, he, ?_, ints_of_row ho, hb⟩
    have := ho.cellAt 3 (by decide)
    rw [this]; rfl
  have h2 : ∀ a c w, Ints w (.slice a 4 c) [64, 128, 256, 512] → Calls Try.prog 12 #[.slice a 4 c, .int .i64 65] w fun e w' => e = .returned (.int .i64 1) ∧ Below w.heap.size w w' := fun a c w h => by
    have := class_any a c [64, 128, 256, 512] 65 w (by decide) h
    rw [cls_shown] at this; exact this
  have h3 : ∀ a c w, Ints w (.slice a 4 c) [64, 128, 256, 512] → Calls Try.prog 14 #[.slice a 4 c, .int .i64 0, .int .i64 512] w fun e w' => e = .returned (.int .i64 8) ∧ w = w' := fun a c w h => by
    have := per_any a c [64, 128, 256, 512] 0 512 (by decide) w h
    rw [per_shown] at this; exact this
  go_enter Try.func8, Try.ntmps8
  go_wp2_with fail
  refine (h1 _).mono ?_
  rintro e w1 ⟨g, c, rfl, hc, hI, b1⟩
  clear h1
  have hI := hid hI
  go_wp2_with fail
  refine (h2 _ _ _ hI.out).mono ?_
  rintro e w2 ⟨rfl, b2⟩
  have hI2 := hid (hI.out.below b2)
  clear hI h2
  go_wp2_with fail
  refine (h3 _ _ _ hI2.out).mono ?_
  rintro e w3 ⟨rfl, rfl⟩
  clear hI2 h3
  go_wp2_with fail
  go_ret
  exact ⟨rfl, Below.then b1 b2⟩

set_option maxHeartbeats 1000000 in
set_option maxRecDepth 100000 in
theorem same_rows (v u : Value) (zs : List Int) (hn : zs.length < 9223372036854775807) (w : World) (hv : Ints w v zs) (hu : Ints w u zs) :
    Calls Try.prog 11 #[v, u] w fun e w' => e = .returned (.bool true) ∧ Below w.heap.size w w' := by
  obtain ⟨a, ca, rfl, ha⟩ := hv
  obtain ⟨b, cb, rfl, hb⟩ := hu
  have HA := hid ha
  have HB := hid hb
  clear ha hb
  go_enter Try.func11, Try.ntmps11
  go_wp2_with fail
  go_loopw [5] (fun i wr => ∃ k : Nat, k ≤ zs.length ∧ i = .int .i64 k ∧ Below w.heap.size w wr) (fun i _ => zs.length - (intOf i).toNat)
  case atStart => exact ⟨0, by omega, rfl, Below.refl _ _⟩
  case round =>
    obtain ⟨k, hk, rfl, hbw⟩ := hrel
    by_cases hlt : k < zs.length
    · obtain ⟨x, hx⟩ : ∃ x, zs[k]? = some x := ⟨_, List.getElem?_eq_getElem hlt⟩
      obtain ⟨ba, oa, rfl, l1, h1⟩ := HA.out k x hx
      obtain ⟨bb, ob, rfl, l2, h2⟩ := HB.out k x hx
      have g1 : wr.cell? ⟨ba, oa + k, none⟩ = some (.int .i64 x) := (hbw.cell (p := ⟨ba, oa + k, none⟩) l1).trans h1
      have g2 : wr.cell? ⟨bb, ob + k, none⟩ = some (.int .i64 x) := (hbw.cell (p := ⟨bb, ob + k, none⟩) l2).trans h2
      clear HA HB hx h1 h2 l1 l2
      go_wp2_with fail
      go_region
      go_wp2_with fail
      go_roundw
      case rel => exact ⟨k + 1, by omega, by go_num, hbw.drew⟩
      case measure => simp [intOf] <;> omega
    · clear HA HB
      go_wp2_with fail
      go_ret
      exact ⟨rfl, hbw⟩

/-- A row of our own, whatever its cells hold: n cells that may be written. -/
def Slots (w : World) (v : Value) (n base : Nat) : Prop := ∃ cs, w.ownsRow base 3 1 v n cs
theorem Slots.at {w : World} {v : Value} {n base k : Nat} (h : Slots w v n base) (hk : k < n) :
    ∃ g c x, v = .slice (some ⟨g, 0, none⟩) n c ∧ n ≤ c ∧ w.cell? ⟨g, k, none⟩ = some x ∧ w.frozen? ⟨g, k, none⟩ = false ∧ base ≤ g ∧ ∀ u, Slots (w.setCell ⟨g, k, none⟩ u) v n base := by
  obtain ⟨cs, ho⟩ := h
  have hlt := ho.lt
  have ho' := ho
  rcases ho.2 with ⟨_, h0⟩ | ⟨g, c, cur, rfl, hb, _, hnc, _⟩
  · omega
  · have hl := ho'.1
    have hkc : k < cs.length := by omega
    refine ⟨g, c, cs[k], rfl, hnc, ?_, ho'.frozenAt k, hb, fun u => ⟨_, (ho'.stored k u).1⟩⟩
    rw [ho'.cellAt k (by omega), List.getElem?_eq_getElem hkc]
theorem Slots.form {w : World} {v : Value} {n base : Nat} (h : Slots w v n base) : ∃ a c, v = .slice a n c := by
  obtain ⟨cs, ho⟩ := h
  exact row_form ho

theorem okB_parts {page f : Int} (h : okB page f = true) : ∃ p g : Nat, page = p ∧ f = g ∧ 512 ≤ p ∧ p ≤ 65536 ∧ p % 8 = 0 ∧ 105 ≤ g ∧ g ≤ 400 := by
  unfold okB pageB at h
  rw [Bool.and_eq_true, decide_eq_true_iff, decide_eq_true_iff] at h
  exact ⟨page.toNat, f.toNat, by omega, by omega, by omega, by omega, by omega, by omega, by omega⟩
theorem page_of {p : Nat} (h1 : 512 ≤ p) (h2 : p ≤ 65536) (h8 : p % 8 = 0) : pageB (p : Int) = true := by
  unfold pageB; rw [decide_eq_true_iff]; omega
theorem okB_page {page f : Int} (h : okB page f = true) : pageB page = true := by
  unfold okB at h; rw [Bool.and_eq_true] at h; exact h.1

/-- What both answer. -/
theorem new_facts (page f : Int) : ∃ (xs : List Nat) (er : Int), xs.length ≤ 63 ∧
      (∀ W, Calls Try.prog 9 #[.int .i64 page, .int .i64 f] W fun e w' => ∃ u, e = .returned (.tuple #[u, .int .i64 er]) ∧ w'.ownsRow W.heap.size 3 1 u xs.length (cellsOf xs) ∧ Below W.heap.size W w') ∧
      (∀ W, Calls Try.prog 10 #[.int .i64 page, .int .i64 f] W fun e w' => ∃ u, e = .returned (.tuple #[u, .int .i64 er]) ∧ Ints w' u (ints xs) ∧ Below W.heap.size W w') ∧
      (∀ W v u, Ints W v (ints xs) → Ints W u (ints xs) → Calls Try.prog 11 #[v, u] W fun e w' => e = .returned (.bool true) ∧ Below W.heap.size W w') := by
  cases h : okB page f with
  | true =>
    have h5 := okB_page h
    obtain ⟨p, g, rfl, rfl, p1, p2, p8, g1, g2⟩ := okB_parts h
    have hl := row_len p g
    exact ⟨row p g, 0, hl, fun W => new_ok p g p1 p2 h5 g1 g2 W, fun W => (ref_new_ok p g p1 p2 p8 g1 g2 W).mono fun e w' ⟨u, he, ho, hb⟩ => ⟨u, he, ints_of_row ho, hb⟩,
      fun W v u hv hu => same_rows v u _ (by rw [ints_len]; omega) W hv hu⟩
  | false =>
    refine ⟨[], 1, by simp, fun W => (new_bad page f h W).mono ?_, fun W => (ref_new_bad page f h W).mono ?_, fun W v u hv hu => same_rows v u _ (by simp [ints]) W hv hu⟩
    · rintro e w' ⟨rfl, rfl⟩
      exact ⟨_, rfl, World.ownsRow_nil _ _ _ _, Below.refl _ _⟩
    · rintro e w' ⟨rfl, rfl⟩
      exact ⟨_, rfl, ⟨none, 0, rfl, fun j x hj => by simp [ints] at hj⟩, Below.refl _ _⟩

set_option maxHeartbeats 2000000 in
set_option maxRecDepth 100000 in
theorem new_law (page : Int) (_ : -9223372036854775808 ≤ page) (_ : page ≤ 9223372036854775807) (f : Int) (_ : -9223372036854775808 ≤ f) (_ : f ≤ 9223372036854775807) (w : World) :
    Calls Try.prog 3 #[.int .i64 page, .int .i64 f] w fun e w' => e = .returned (.bool true) ∧ Below w.heap.size w w' := by
  obtain ⟨xs, er, hkl, hsp, hrf, hsame⟩ := new_facts page f
  have HSP := hid hsp
  have HRF := hid hrf
  have HSM := hid hsame
  clear hsp hrf hsame
  go_enter Try.func3, Try.ntmps3
  go_wp2_with fail
  refine (shown_any _).mono ?_
  rintro e w1 ⟨rfl, b1⟩
  go_wp2_with fail
  go_loopw [6] (fun i wr => ∃ k : Nat, k ≤ 2 ∧ i = .int .i64 k ∧ Below w.heap.size w wr) (fun i _ => 2 - (intOf i).toNat)
  case atStart => exact ⟨0, by omega, rfl, b1⟩
  case round =>
    obtain ⟨k, hk, rfl, hb⟩ := hrel
    have hsz := hb.size
    by_cases hlt : k < 2
    · have ilt : (k : Int) < 2 := by omega
      go_wp2_with fail
      refine (HSP.out _).mono ?_
      rintro e w2 ⟨v, rfl, ho, b2⟩
      have hv := ints_of_row ho
      have hS : Slots w2 v xs.length wr.heap.size := ⟨_, ho⟩
      clear ho
      go_wp2_with fail
      refine (HRF.out _).mono ?_
      rintro e w3 ⟨u, rfl, hu, b3⟩
      have hv3 := hv.below b3
      have hS3 : Slots w3 v xs.length wr.heap.size := by
        obtain ⟨cs, ho⟩ := hS
        exact ⟨cs, ho.kept (grown_of_below b3) (by cases hb0 : v.ownBlock <;> simp)⟩
      clear hS hv
      go_wp2_with fail
      refine (HSM.out _ _ _ hv3 hu).mono ?_
      rintro e w4 ⟨rfl, b4⟩
      have hS4 : Slots w4 v xs.length wr.heap.size := by
        obtain ⟨cs, ho⟩ := hS3
        exact ⟨cs, ho.kept (grown_of_below b4) (by cases hb0 : v.ownBlock <;> simp)⟩
      have hb4 : Below w.heap.size w w4 := hb.trans (Below.mono (Below.then (Below.then b2 b3) b4) hsz)
      obtain ⟨a0, c0, hform⟩ := hS4.form
      clear hS3 hv3 hu b2 b3 b4 HSP HRF HSM
      generalize xs.length = n at *
      subst hform
      go_wp2_with fail
      go_loopw [12] (fun i wq => ∃ j : Nat, j ≤ n ∧ i = .int .i64 j ∧ Slots wq (.slice a0 n c0) n wr.heap.size ∧ Below w.heap.size w wq) (fun i _ => n - (intOf i).toNat)
      case atStart => exact ⟨0, by omega, rfl, hS4, hb4⟩
      case round =>
        obtain ⟨j, hj, rfl, hS, hbq⟩ := hrel
        clear hS4 hb4
        by_cases hjl : j < n
        · obtain ⟨g, c, x, e, hnc, hce, hfr, hbg, hst⟩ := hS.at hjl
          cases e
          have hS' := hst (.int .i64 7)
          have hb' : Below w.heap.size w _ := hbq.setCell (p := ⟨g, j, none⟩) (Nat.le_trans hsz hbg) (.int .i64 7)
          clear hS hst hbq
          go_wp2_with fail
          go_roundw
          case rel => exact ⟨j + 1, by omega, by go_num, hS', hb'⟩
          case measure => simp [intOf] <;> omega
        · go_wp2_with fail
          go_roundw
          case rel => exact ⟨k + 1, by omega, by go_num, hbq⟩
          case measure => simp [intOf] <;> omega
    · go_wp2_with fail
      go_ret
      exact ⟨rfl, hb⟩

set_option maxHeartbeats 1000000 in
set_option maxRecDepth 100000 in
theorem tell_law (a : Option Addr) (m c : Nat) (zs : List Int) (hm : zs.length = m) (n : Int) (k : Int) (page : Int) (hp : page ≤ 9223372036854775807) (w : World) (hZ : Ints w (.slice a m c) zs) (hl : zs.length ≤ 9223372036854775807) :
    Calls Try.prog 4 #[.slice a m c, .int .i64 n, .int .i64 k, .int .i64 page] w fun e w' => e = .returned (.bool true) ∧ Below w.heap.size w w' := by
  subst hm
  have h1 : ∀ W, Below w.heap.size w W → _ := fun W hW => class_any a c zs n W hl (hZ.below hW)
  have h2 : ∀ W, Below w.heap.size w W → _ := fun W hW => ref_class a c zs n W hl (hZ.below hW)
  have h3 : ∀ W, Below w.heap.size w W → _ := fun W hW => per_any a c zs k page hp W (hZ.below hW)
  have h4 : ∀ W, Below w.heap.size w W → _ := fun W hW => ref_per a c zs k page hp W (hZ.below hW)
  have hZ' := hid hZ
  clear hZ hp hl
  generalize cls zs n 0 = r at *
  generalize per zs k page = q at *
  generalize zs.length = m at *
  go_enter Try.func4, Try.ntmps4
  go_wp2_with fail
  refine (shown_any _).mono ?_
  rintro e w1 ⟨rfl, b1⟩
  go_wp2_with fail
  refine (h1 _ b1).mono ?_
  rintro e w2 ⟨rfl, b2⟩
  have b2 := Below.then b1 b2
  go_wp2_with fail
  refine (h2 _ b2).mono ?_
  rintro e w3 ⟨rfl, rfl⟩
  go_wp2_with fail
  refine (h3 _ b2).mono ?_
  rintro e w3 ⟨rfl, rfl⟩
  go_wp2_with fail
  refine (h4 _ b2).mono ?_
  rintro e w3 ⟨rfl, rfl⟩
  go_wp2_with fail
  go_ret
  exact ⟨rfl, b2⟩
end Go.Proofs.Ytoiifccmnmhnkaa

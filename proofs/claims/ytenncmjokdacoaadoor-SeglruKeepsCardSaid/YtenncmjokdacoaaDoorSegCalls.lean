/-
  The contracts of the program's segmented row: New, Insert, Touch, Remove, Victim, Active, All. Conditions: it lies in memory; ids are ints.
-/
import Derived.Test.YtenncmjokdacoaaDoorSegMem
import Derived.Test.YtenncmjokdacoaaDoorSegRefStep
namespace Go.Proofs.YtenncmjokdacoaaDoor.Sr
open Go Go.RowKit Go.Lib

theorem alloc_below (w : World) (o : Obj) : Below w.heap.size w (w.alloc o) := (Below.refl _ _).alloc (Nat.le_refl _) o

set_option maxRecDepth 100000 in
theorem seg_stands {r : Nat} {R : Nat → Prop} {L : List (List Int)} {w : World} (h : RAt r R L w) (m : Nat) (z : Int) (hz : i64ok z) :
    Calls Tryd.prog 28 #[.agg #[.pointer (some ⟨r, 0, none⟩), .map (some m)], .int .i64 z] w fun e w' => e = .returned (.bool (rowOf L z).isSome) ∧ Below w.heap.size w w' := by
  have hr := fun o => at_row (h.below (alloc_below w o)) z hz
  have hb := hid (fun o => alloc_below w o)
  cases e : rowOf L z with
  | none =>
    rw [rv_none e] at hr
    clear h e
    go_enter Tryd.func28, Tryd.ntmps28
    go_wp2_with fail
    refine (hr _).mono ?_
    rintro e w1 ⟨rfl, rfl⟩
    go_wp2_with fail
    go_ret
    exact ⟨rfl, hb.out _⟩
  | some i =>
    rw [rv_some e] at hr
    have i0 : (0 : Int) ≤ (i : Int) := by omega
    clear h e
    go_enter Tryd.func28, Tryd.ntmps28
    go_wp2_with fail
    refine (hr _).mono ?_
    rintro e w1 ⟨rfl, rfl⟩
    go_wp2_with fail
    go_ret
    exact ⟨rfl, hb.out _⟩

set_option maxRecDepth 100000 in
theorem sa_new (w : World) : Calls Tryd.prog 9 #[] w fun e w' => ∃ P F, e = .returned (.pointer (some ⟨P, 0, none⟩)) ∧ SA P F Sg.new w' ∧ Below w.heap.size w w' ∧ ∀ b, F b → w.heap.size ≤ b := by
  have hn := at_new 3 (by decide) (by decide) w
  have hmm := @run_makeMap Tryd.prog
  go_enter Tryd.func9, Tryd.ntmps9
  go_wp2_with fail
  refine hn.mono ?_
  rintro e w1 ⟨r, R, rfl, h, hb, hf⟩
  have HF : Hid (∀ w2, (w1.alloc (.map #[] 0)).alloc (.cells #[.pointer (some ⟨r, 0, none⟩), .map (some w1.heap.size)] 50) = w2 → SA (w1.heap.size + 1) (SF (w1.heap.size + 1) w1.heap.size R) Sg.new w2 ∧ Below w.heap.size w w2 ∧ ∀ b, SF (w1.heap.size + 1) w1.heap.size R b → w.heap.size ≤ b) := hid (by
    rintro w2 rfl
    have b1 := alloc_below w1 (.map #[] 0)
    have b2 := alloc_below (w1.alloc (.map #[] 0)) (.cells #[.pointer (some ⟨r, 0, none⟩), .map (some w1.heap.size)] 50)
    have hz : (w1.alloc (.map #[] 0)).heap.size = w1.heap.size + 1 := by simp
    have hB := Blk.new (w1.alloc (.map #[] 0)) #[.pointer (some ⟨r, 0, none⟩), .map (some w1.heap.size)] 50
    rw [hz] at hB
    have b3 := Below.then b1 b2
    refine ⟨⟨Sg.new_ok, r, w1.heap.size, R, [], ⟨hB, h.below b3, ((UM.new w1).only (Below.only b2 (D := fun _ => False)) id), List.nodup_nil, fun z => by simp [Sg.new], fun hq => absurd (h.lt hq) (by omega), fun hq => absurd (h.lt hq) (Nat.lt_irrefl _)⟩, fun _ => Iff.rfl⟩, hb.trans (b3.mono hb.size), fun b hb2 => ?_⟩
    have hs := hb.size
    rcases hb2 with rfl | rfl | hb2
    · omega
    · omega
    · exact hf b hb2)
  clear h hb hf hn
  go_wp2_with fail
  go_ret
  obtain ⟨k1, k2, k3⟩ := HF.out _ rfl
  exact ⟨_, _, rfl, k1, k2, k3⟩

set_option maxRecDepth 100000 in
theorem sa_active {P : Nat} {F : Nat → Prop} {s : Sg} {w : World} (h : SA P F s w) (z : Int) (hz : i64ok z) :
    Calls Tryd.prog 21 #[.pointer (some ⟨P, 0, none⟩), .int .i64 z] w fun e w' => e = .returned (.bool (s.a z)) ∧ Below w.heap.size w w' := by
  obtain ⟨ok, r, m, R, xs, hp, hG⟩ := h
  have c1 := hp.head.cell (i := 1) rfl
  have hu := hid hp.set
  have hz' := hid hz
  have hb := hid (fun o => alloc_below w o)
  obtain ⟨B, hB0⟩ : ∃ B, s.a z = B := ⟨_, rfl⟩
  have hB := hid hB0
  rw [hB0]
  clear hp hG ok hz hB0
  go_enter Tryd.func21, Tryd.ntmps21
  go_wp2_with (at_lookup; refine wpList_um_look rfl _ _ rfl rfl hu rfl hz' hB ?_)
  go_ret
  exact ⟨rfl, hb.out _⟩

set_option maxRecDepth 100000 in
theorem sa_insert {P : Nat} {F : Nat → Prop} {s : Sg} {w : World} (h : SA P F s w) (z : Int) (hz : i64ok z) :
    Calls Tryd.prog 11 #[.pointer (some ⟨P, 0, none⟩), .int .i64 z] w fun e w' => e = .returned (.bool (s.insB z)) ∧ ∃ F', SA P F' (s.ins z) w' ∧ Stp F F' w w' := by
  have HQ := hid h
  obtain ⟨ok, r, m, R, xs, hp, hG⟩ := h
  have c0 := hp.head.cell (i := 0) rfl
  have c1 := hp.head.cell (i := 1) rfl
  have hs := seg_stands hp.rows m z hz
  have HP := hid hp
  have oki := ok.ins z
  cases hrow : rowOf s.L z with
  | none =>
    rw [hrow] at hs
    have hh : s.has z = false := by unfold Sg.has; rw [hrow]; rfl
    have e1 : Hid (s.insB z = decide (May s.L.length 0 z)) := hid (by unfold Sg.insB; rw [hh]; rfl)
    have HG : Hid (∀ R' w1 w', Below w.heap.size w w1 → RAt r R' (opFront s.L 0 z) w' → Stp R R' w1 w' → ∃ F', SA P F' (s.ins z) w' ∧ Stp F F' w w') := hid (fun R' w1 w' b1 k g => by
      have hp1 := hp.below b1
      obtain ⟨k1, k2⟩ := hp1.go k g
      exact sa_go hG k1 ((Stp.below b1).trans k2) oki (by unfold Sg.ins; rw [hh]; rfl) (by unfold Sg.ins; rw [hh]; rfl))
    have HFr := hid (fun w1 (b1 : Below w.heap.size w w1) => at_front ((hp.below b1).rows) 0 z hz)
    have HC := hid (fun w1 (b1 : Below w.heap.size w w1) => (hp.below b1).head.cell (i := 0) rfl)
    generalize decide (May s.L.length 0 z) = A at *
    clear hp hG ok oki hh hrow HQ hz HP
    go_enter Tryd.func11, Tryd.ntmps11
    go_wp2_with fail
    refine hs.mono ?_
    rintro e w1 ⟨rfl, b1⟩
    have d0 := HC.out _ b1
    have hf := HFr.out _ b1
    have hb1 := hid b1
    clear HFr HC hs b1 c0 c1
    go_wp2_with fail
    refine hf.mono ?_
    rintro e w2 ⟨rfl, R', k, g⟩
    have HR := hid (HG.out _ _ _ hb1.out k g)
    clear k g hf HG hb1 d0
    go_wp2_with fail
    go_ret
    exact ⟨ret_bool e1.out.symm, HR.out⟩
  | some i =>
    rw [hrow] at hs
    have hh : s.has z = true := by unfold Sg.has; rw [hrow]; rfl
    have e1 : Hid (s.insB z = false) := hid (by unfold Sg.insB; rw [hh]; rfl)
    have e2 : Hid (s.ins z = s) := hid (by unfold Sg.ins; rw [hh]; rfl)
    clear hp hG ok oki hh hrow hz HP
    go_enter Tryd.func11, Tryd.ntmps11
    go_wp2_with fail
    refine hs.mono ?_
    rintro e w1 ⟨rfl, b1⟩
    have HR := hid (And.intro (HQ.out.below b1) (Stp.below (F := F) b1))
    clear b1 HQ hs
    go_wp2_with fail
    go_ret
    exact ⟨ret_bool e1.out.symm, F, by rw [e2.out]; exact HR.out.1, HR.out.2⟩
end Go.Proofs.YtenncmjokdacoaaDoor.Sr

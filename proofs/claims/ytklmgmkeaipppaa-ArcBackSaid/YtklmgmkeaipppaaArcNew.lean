/-
  The contracts of the program's adaptive replacement: New, Cap. Conditions: it lies in memory; the bound is an int.
-/
import Derived.Test.YtklmgmkeaipppaaArcMoves
import Derived.BigRegion
namespace Go.Proofs.Ytklmgmkeaipppaa.Ac
open Go Go.RowKit Go.Lib

def qv (q : Option Nat) : Value := .pointer (q.map fun b => ⟨b, 0, none⟩)
/-- A policy that is being made: some of its ghosts are laid in. -/
structure NW (w0 : World) (P r m : Nat) (q1 q2 : Option Nat) (F : Nat → Nat → Prop) (w : World) : Prop where
  head : Blk w P 58 [.pointer (some ⟨r, 0, none⟩), .map (some m), qv q1, qv q2, .int .i64 0, .int .i64 0]
  rows : RAt r (F 1) [[], []] w
  map : NM w m (fun _ => 0)
  g1 : ∀ q, q1 = some q → Gh.GAt q (F 3) 0 [] w
  g2 : ∀ q, q2 = some q → Gh.GAt q (F 4) 0 [] w
  f0 : ∀ b, F 0 b ↔ b = P
  f2 : ∀ b, F 2 b ↔ b = m
  f5 : ∀ i b, 5 ≤ i → ¬ F i b
  dj : Dj F w
  new : ∀ i b, F i b → w0.heap.size ≤ b
  below : Below w0.heap.size w0 w

/-- One ghost is made and laid in. -/
theorem NW.goA {w0 : World} {P r m q : Nat}  {F : Nat → Nat → Prop} {X : Nat → Prop} {w w' : World} (h : NW w0 P r m none none F w) (k : Gh.GAt q X 0 [] w') (hb : Below w.heap.size w w') (hf : ∀ b, X b → w.heap.size ≤ b) :
    NW w0 P r m (some q) none (setF F 3 X) (w'.setCell ⟨P, 2, none⟩ (.pointer (some ⟨q, 0, none⟩))) ∧ w'.frozen? ⟨P, 2, none⟩ = false ∧ w'.cell? ⟨P, 2, none⟩ = some (.pointer none) := by
  have g : Stp (F 3) X w w' := ⟨Below.only hb, fun b hx => .inr (hf b hx)⟩
  have d1 := h.dj.step g (fun b hx => k.lt hx)
  have hB := h.head.below hb
  have ho2 : Only (fun b => b = P) w' (w'.setCell ⟨P, 2, none⟩ (.pointer (some ⟨q, 0, none⟩))) := Only.setCell (D := fun b => b = P) (Only.refl _ _) (p := ⟨P, 2, none⟩) (.inl rfl) _
  have hno : ∀ i b, i ≠ 0 → setF F 3 X i b → ¬ b = P := fun i b hi hx e => by
    have h0 : setF F 3 X 0 P := by rw [setF_other (by decide)]; exact (h.f0 P).2 rfl
    rw [e] at hx
    exact hi (d1.one i 0 P hx h0)
  refine ⟨⟨hB.set 2 _, ?_, ((h.map.only (Below.only hb (D := fun _ => False)) id).only ho2 (hno 2 m (by decide) (by rw [setF_other (by decide)]; exact (h.f2 m).2 rfl))), ?_, ?_, by rw [setF_other (by decide)]; exact h.f0, by rw [setF_other (by decide)]; exact h.f2, fun i b hi => by rw [setF_other (by omega)]; exact h.f5 i b hi, d1.keep ho2.size, fun i b hx => ?_, ?_⟩, hB.frozen 2, hB.cell (i := 2) rfl⟩
  · rw [setF_other (by decide)]
    exact (h.rows.below hb).only ho2 (fun b hx => hno 1 b (by decide) (by rw [setF_other (by decide)]; exact hx))
  · rintro q' e
    cases e
    rw [setF_same]
    exact k.only ho2 (fun b hx => hno 3 b (by decide) (by rw [setF_same]; exact hx))
  · rintro q' e; cases e
  · by_cases e : i = 3
    · subst e; rw [setF_same] at hx; exact Nat.le_trans h.below.size (hf b hx)
    · rw [setF_other e] at hx; exact h.new i b hx
  · have hP : w0.heap.size ≤ P := h.new 0 P ((h.f0 P).2 rfl)
    exact (h.below.trans (hb.mono h.below.size)).setCell (p := ⟨P, 2, none⟩) hP _

/-- One ghost is made and laid in. -/
theorem NW.goB {w0 : World} {P r m q : Nat} {q1 : Nat} {F : Nat → Nat → Prop} {X : Nat → Prop} {w w' : World} (h : NW w0 P r m (some q1) none F w) (k : Gh.GAt q X 0 [] w') (hb : Below w.heap.size w w') (hf : ∀ b, X b → w.heap.size ≤ b) :
    NW w0 P r m (some q1) (some q) (setF F 4 X) (w'.setCell ⟨P, 3, none⟩ (.pointer (some ⟨q, 0, none⟩))) ∧ w'.frozen? ⟨P, 3, none⟩ = false ∧ w'.cell? ⟨P, 3, none⟩ = some (.pointer none) := by
  have g : Stp (F 4) X w w' := ⟨Below.only hb, fun b hx => .inr (hf b hx)⟩
  have d1 := h.dj.step g (fun b hx => k.lt hx)
  have hB := h.head.below hb
  have ho2 : Only (fun b => b = P) w' (w'.setCell ⟨P, 3, none⟩ (.pointer (some ⟨q, 0, none⟩))) := Only.setCell (D := fun b => b = P) (Only.refl _ _) (p := ⟨P, 3, none⟩) (.inl rfl) _
  have hno : ∀ i b, i ≠ 0 → setF F 4 X i b → ¬ b = P := fun i b hi hx e => by
    have h0 : setF F 4 X 0 P := by rw [setF_other (by decide)]; exact (h.f0 P).2 rfl
    rw [e] at hx
    exact hi (d1.one i 0 P hx h0)
  refine ⟨⟨hB.set 3 _, ?_, ((h.map.only (Below.only hb (D := fun _ => False)) id).only ho2 (hno 2 m (by decide) (by rw [setF_other (by decide)]; exact (h.f2 m).2 rfl))), ?_, ?_, by rw [setF_other (by decide)]; exact h.f0, by rw [setF_other (by decide)]; exact h.f2, fun i b hi => by rw [setF_other (by omega)]; exact h.f5 i b hi, d1.keep ho2.size, fun i b hx => ?_, ?_⟩, hB.frozen 3, hB.cell (i := 3) rfl⟩
  · rw [setF_other (by decide)]
    exact (h.rows.below hb).only ho2 (fun b hx => hno 1 b (by decide) (by rw [setF_other (by decide)]; exact hx))
  · rintro q' e
    cases e
    rw [setF_other (by decide)]
    exact ((h.g1 _ rfl).below hb).only ho2 (fun b hx => hno 3 b (by decide) (by rw [setF_other (by decide)]; exact hx))
  · rintro q' e
    cases e
    rw [setF_same]
    exact k.only ho2 (fun b hx => hno 4 b (by decide) (by rw [setF_same]; exact hx))
  · by_cases e : i = 4
    · subst e; rw [setF_same] at hx; exact Nat.le_trans h.below.size (hf b hx)
    · rw [setF_other e] at hx; exact h.new i b hx
  · have hP : w0.heap.size ≤ P := h.new 0 P ((h.f0 P).2 rfl)
    exact (h.below.trans (hb.mono h.below.size)).setCell (p := ⟨P, 3, none⟩) hP _

theorem NW.done {w0 : World} {P r m q1 q2 : Nat} {F : Nat → Nat → Prop} {w : World} (h : NW w0 P r m (some q1) (some q2) F w) : ∃ G, AR P G Ar.new w ∧ Below w0.heap.size w0 w ∧ ∀ b, G b → w0.heap.size ≤ b :=
  ⟨allF F, ⟨Ar.new_ok, r, m, q1, q2, F, ⟨h.head, h.rows, h.map, h.g1 _ rfl, h.g2 _ rfl, fun _ => ⟨Int.le_refl 0, by show (0 : Int) ≤ _; decide⟩, h.f0, h.f2, h.f5, h.dj⟩, fun _ => Iff.rfl⟩, h.below, fun b ⟨i, hb⟩ => h.new i b hb⟩
/-- The head and the map are made. -/
theorem NW.begin {w w1 : World} {r : Nat} {R : Nat → Prop} (h : RAt r R [[], []] w1) (hb : Below w.heap.size w w1) (hf : ∀ b, R b → w.heap.size ≤ b) (W : World)
    (hW : (w1.alloc (.map #[] 0)).alloc (.cells #[.pointer (some ⟨r, 0, none⟩), .map (some w1.heap.size), .pointer none, .pointer none, .int .i64 0, .int .i64 0] 58) = W) :
    NW w (w1.heap.size + 1) r w1.heap.size none none (fun i b => (i = 0 ∧ b = w1.heap.size + 1) ∨ (i = 1 ∧ R b) ∨ (i = 2 ∧ b = w1.heap.size)) W := by
  subst hW
  have b1 := abelow w1 (.map #[] 0)
  have b2 := abelow (w1.alloc (.map #[] 0)) (.cells #[.pointer (some ⟨r, 0, none⟩), .map (some w1.heap.size), .pointer none, .pointer none, .int .i64 0, .int .i64 0] 58)
  have hz : (w1.alloc (.map #[] 0)).heap.size = w1.heap.size + 1 := by simp
  have hB := Blk.new (w1.alloc (.map #[] 0)) #[.pointer (some ⟨r, 0, none⟩), .map (some w1.heap.size), .pointer none, .pointer none, .int .i64 0, .int .i64 0] 58
  rw [hz] at hB
  have b3 := Below.then b1 b2
  have hs := hb.size
  have hR : ∀ b, R b → b < w1.heap.size := fun b hx => h.lt hx
  refine ⟨hB, ?_, (NM.new w1).only (Below.only b2 (D := fun _ => False)) id, fun q e => (by cases e), fun q e => (by cases e), fun b => by simp, fun b => by simp, fun i b hi => by omega, ⟨?_, ?_⟩, ?_, hb.trans (b3.mono hb.size)⟩
  · have h1 : (fun b => (1 = 0 ∧ b = w1.heap.size + 1) ∨ (1 = 1 ∧ R b) ∨ (1 = 2 ∧ b = w1.heap.size)) = R := by funext b; simp
    rw [h1]; exact h.below b3
  · rintro i j b (⟨hi, e1⟩ | ⟨hi, e1⟩ | ⟨hi, e1⟩) (⟨hj, e2⟩ | ⟨hj, e2⟩ | ⟨hj, e2⟩) <;> first | omega | (have := hR b e1; omega) | (have := hR b e2; omega)
  · have hz2 : ((w1.alloc (.map #[] 0)).alloc (.cells #[.pointer (some ⟨r, 0, none⟩), .map (some w1.heap.size), .pointer none, .pointer none, .int .i64 0, .int .i64 0] 58)).heap.size = w1.heap.size + 2 := by simp
    rw [hz2]
    rintro i b (⟨hi, e1⟩ | ⟨hi, e1⟩ | ⟨hi, e1⟩)
    · omega
    · have := hR b e1; omega
    · omega
  · rintro i b (⟨hi, e1⟩ | ⟨hi, e1⟩ | ⟨hi, e1⟩)
    · omega
    · exact hf b e1
    · omega
set_option maxRecDepth 100000 in
set_option maxHeartbeats 1000000 in
theorem ar_new (w : World) : Calls Try.prog 9 #[] w fun e w' => ∃ P F, e = .returned (.pointer (some ⟨P, 0, none⟩)) ∧ AR P F Ar.new w' ∧ Below w.heap.size w w' ∧ ∀ b, F b → w.heap.size ≤ b := by
  have hn := at_new 2 (by decide) (by decide) w
  have hmm := @run_makeMap Try.prog
  go_enter Try.func9, Try.ntmps9
  go_wp2_with fail
  refine hn.mono ?_
  rintro e w1 ⟨r, R, rfl, h, hb, hf⟩
  have HF := hid (NW.begin h hb hf)
  clear h hb hf hn
  go_wp2_with fail
  have h0 := HF.out _ rfl
  clear HF hmm
  generalize (w1.alloc (.map #[] 0)).alloc (.cells #[.pointer (some ⟨r, 0, none⟩), .map (some w1.heap.size), .pointer none, .pointer none, .int .i64 0, .int .i64 0] 58) = W0 at *
  generalize (fun i b => i = 0 ∧ b = w1.heap.size + 1 ∨ i = 1 ∧ R b ∨ i = 2 ∧ b = w1.heap.size) = F0 at *
  generalize w1.heap.size + 1 = P at *
  generalize w1.heap.size = m at *
  have h0 := hid h0
  go_loopw [7] (fun i wr => ∃ (k : Nat) (q1 q2 : Option Nat) (F : Nat → Nat → Prop), i = .int .i64 k ∧ ((k = 0 ∧ q1 = none ∧ q2 = none) ∨ (k = 1 ∧ q1.isSome = true ∧ q2 = none) ∨ (k = 2 ∧ q1.isSome = true ∧ q2.isSome = true)) ∧ Hid (NW w P r m q1 q2 F wr)) (fun i _ => 2 - (RowKit.intOf i).toNat)
  case atStart => exact ⟨0, none, none, F0, rfl, .inl ⟨rfl, rfl, rfl⟩, h0⟩
  case round =>
    obtain ⟨k, q1, q2, F, rfl, hc, hN⟩ := hrel
    clear h0
    rcases hc with ⟨rfl, rfl, rfl⟩ | ⟨rfl, e1, rfl⟩ | ⟨rfl, e1, e2⟩
    · have hz : Below wr.heap.size wr wr.drew := (Below.refl _ _).drew
      have hG : Hid (∀ q X W, Gh.GAt q X 0 [] W → Below wr.heap.size wr W → (∀ b, X b → wr.heap.size ≤ b) → NW w P r m (some q) none (setF F 3 X) (W.setCell ⟨P, 2, none⟩ (.pointer (some ⟨q, 0, none⟩))) ∧ W.frozen? ⟨P, 2, none⟩ = false ∧ W.cell? ⟨P, 2, none⟩ = some (.pointer none)) := hid (fun q X W k b f => hN.out.goA k b f)
      have hn := Gh.at_new 0 wr.drew
      clear hN
      go_upto_region 5 with fail
      go_region_held3 (fun _ => True) (trivial) (first
        | (go_at_call 26; refine hn.mono ?_; rintro e w6 ⟨q, X, rfl, k1, k2, k3⟩; obtain ⟨hN, hx1, hx2⟩ := hG.out q X _ k1 (hz.trans k2) k3))
      have HN := hid hN
      clear k1 k2 k3 hx1 hx2 hn hG hN
      go_wp2_with fail
      go_roundw
      case rel => exact ⟨1, some q, none, _, by first | rfl | go_num, .inr (.inl ⟨rfl, rfl, rfl⟩), HN⟩
      case measure => simp [RowKit.intOf]
    · obtain ⟨q1, rfl⟩ := Option.isSome_iff_exists.1 e1
      have hz : Below wr.heap.size wr wr.drew := (Below.refl _ _).drew
      have hG : Hid (∀ q X W, Gh.GAt q X 0 [] W → Below wr.heap.size wr W → (∀ b, X b → wr.heap.size ≤ b) → NW w P r m (some q1) (some q) (setF F 4 X) (W.setCell ⟨P, 3, none⟩ (.pointer (some ⟨q, 0, none⟩))) ∧ W.frozen? ⟨P, 3, none⟩ = false ∧ W.cell? ⟨P, 3, none⟩ = some (.pointer none)) := hid (fun q X W k b f => hN.out.goB k b f)
      have hn := Gh.at_new 0 wr.drew
      clear hN
      go_upto_region 5 with fail
      go_region_held3 (fun _ => True) (trivial) (first
        | (go_at_call 26; refine hn.mono ?_; rintro e w6 ⟨q, X, rfl, k1, k2, k3⟩; obtain ⟨hN, hx1, hx2⟩ := hG.out q X _ k1 (hz.trans k2) k3))
      have HN := hid hN
      clear k1 k2 k3 hx1 hx2 hn hG hN
      go_wp2_with fail
      go_roundw
      case rel => exact ⟨2, some q1, some q, _, by first | rfl | go_num, .inr (.inr ⟨rfl, rfl, rfl⟩), HN⟩
      case measure => simp [RowKit.intOf]
    · obtain ⟨q1, rfl⟩ := Option.isSome_iff_exists.1 e1
      obtain ⟨q2, rfl⟩ := Option.isSome_iff_exists.1 e2
      have HR := hid hN.out.done
      clear hN
      go_wp2_with fail
      go_ret
      obtain ⟨G, h1, h2, h3⟩ := HR.out
      exact ⟨P, G, rfl, h1, h2, h3⟩
end Go.Proofs.Ytklmgmkeaipppaa.Ac

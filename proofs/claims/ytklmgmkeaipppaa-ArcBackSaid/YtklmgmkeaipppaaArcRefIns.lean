/-
  The contracts of the document's own adaptive replacement's New and Insert. Conditions: it lies in memory.
-/
import Derived.Test.YtklmgmkeaipppaaArcRefMore
namespace Go.Proofs.Ytklmgmkeaipppaa.Ac
open Go Go.RowKit Go.Lib

theorem only_grown2 {w w' : World} {v : Value} (h : w.grownBy w' v.ownBlock) : Only (fun b => v.ownBlock = some b) w w' := ⟨h.os, h.tape, h.output, h.size, fun k hk hd => h.block k hk (fun e => hd e.symm)⟩
/-- One more at the end of the row of numbers. -/
theorem Qr.snoc {P Q Q1 Q2 : Nat} {v : Value} {hs : List (Int × Int)} {F : Nat → Nat → Prop} {L : List (List Int)} {m m1 m2 : Nat} {b1 b2 : List Int} {p : Int} {w : World} (h : Qr P Q Q1 Q2 v hs F L m m1 m2 b1 b2 p w) (z x : Int) (hlen : hs.length + 1 ≤ 4194304) :
    ∀ v6 w6, w6.ownsRow 0 88 2 v6 (hs.length + 1) (nc hs ++ [.int .i64 z, .int .u64 x]) → (w.alloc (.cells #[.int .i64 z, .int .u64 x] 88)).grownBy w6 v.ownBlock → (v6.ownBlock = v.ownBlock ∨ v6.ownBlock = some (w.alloc (.cells #[.int .i64 z, .int .u64 x] 88)).heap.size) →
      (∃ F', Qr P Q Q1 Q2 v6 (hs ++ [(z, x)]) F' L m m1 m2 b1 b2 p (w6.setCell ⟨P, 5, none⟩ v6) ∧ Stp (allF F) (allF F') w (w6.setCell ⟨P, 5, none⟩ v6)) ∧ w6.frozen? ⟨P, 5, none⟩ = false ∧ w6.cell? ⟨P, 5, none⟩ = some v := by
  intro v6 w6 o6 g6 l6
  have bA : Below w.heap.size w (w.alloc (.cells #[.int .i64 z, .int .u64 x] 88)) := (Below.refl _ _).alloc (Nat.le_refl _) _
  have ho : Only (F 4) w w6 := (Below.only bA).trans ((only_grown2 g6).mono (fun b hb => (h.f4 b).2 hb)) (fun b hb => .inl hb)
  have hB : Blk w6 P 37 [.pointer (some ⟨Q, 0, none⟩), .pointer (some ⟨Q1, 0, none⟩), .pointer (some ⟨Q2, 0, none⟩), .int .i64 m, .int .i64 p, v] := h.head.only ho (h.dj.out (i := 0) (by decide) P ((h.f0 P).2 rfl))
  refine ⟨?_, hB.frozen 5, hB.cell (i := 5) rfl⟩
  obtain ⟨X, k1, k2⟩ := h.goH (v' := v6) (hs' := hs ++ [(z, x)]) ho (by rw [List.length_append, List.length_singleton, nc_app]; exact o6) (fun b hb => by
    rcases l6 with e | e
    · exact .inl (e ▸ hb)
    · right
      rw [e] at hb
      injection hb with hb
      rw [← hb]; simp) (by rw [List.length_append, List.length_singleton]; exact hlen)
  exact ⟨_, k1, k2⟩

set_option maxRecDepth 100000 in
theorem qr_new (w : World) : Calls Try.prog 10 #[] w fun e w' => ∃ P G, e = .returned (.pointer (some ⟨P, 0, none⟩)) ∧ QR P G Ar.new w' ∧ Below w.heap.size w w' ∧ ∀ b, G b → w.heap.size ≤ b := by
  have hn := rq_new 2 (by decide) (by decide) w
  have hgn := fun W => gq_new 0 (by decide) W
  go_enter Try.func10, Try.ntmps10
  go_wp2_with fail
  refine hn.mono ?_
  rintro e w1 ⟨Q, F1, rfl, k1, d1, f1⟩
  have K1 := hid k1
  have hg1 := hgn w1
  clear hn k1
  go_wp2_with fail
  refine hg1.mono ?_
  rintro e w2 ⟨Q1, F2, rfl, k2, d2, f2⟩
  have K2 := hid k2
  have hg2 := hgn w2
  clear hg1 k2 hgn
  go_wp2_with fail
  refine hg2.mono ?_
  rintro e w3 ⟨Q2, F3, rfl, k3, d3, f3⟩
  have HF : Hid (∀ w4, w3.alloc (.cells #[.pointer (some ⟨Q, 0, none⟩), .pointer (some ⟨Q1, 0, none⟩), .pointer (some ⟨Q2, 0, none⟩), .int .i64 0, .int .i64 0, .slice none 0 0] 37) = w4 → ∃ G, QR w3.heap.size G Ar.new w4 ∧ Below w.heap.size w w4 ∧ ∀ b, G b → w.heap.size ≤ b) := hid (by
    rintro w4 rfl
    have d4 : Below w3.heap.size w3 (w3.alloc (.cells #[.pointer (some ⟨Q, 0, none⟩), .pointer (some ⟨Q1, 0, none⟩), .pointer (some ⟨Q2, 0, none⟩), .int .i64 0, .int .i64 0, .slice none 0 0] 37)) := (Below.refl _ _).alloc (Nat.le_refl _) _
    have l1 : ∀ b, F1 b → b < w1.heap.size := fun b hb => K1.out.lt hb
    have l2 : ∀ b, F2 b → b < w2.heap.size := fun b hb => K2.out.lt hb
    have l3 : ∀ b, F3 b → b < w3.heap.size := fun b hb => k3.lt hb
    have s1 := d1.size
    have s2 := d2.size
    have s3 := d3.size
    let F : Nat → Nat → Prop := fun i b => if i = 0 then b = w3.heap.size else if i = 1 then F1 b else if i = 2 then F2 b else if i = 3 then F3 b else False
    have dj : Dj F (w3.alloc (.cells #[.pointer (some ⟨Q, 0, none⟩), .pointer (some ⟨Q1, 0, none⟩), .pointer (some ⟨Q2, 0, none⟩), .int .i64 0, .int .i64 0, .slice none 0 0] 37)) := by
      have hin : ∀ i b, F i b → (i = 0 ∧ b = w3.heap.size) ∨ (i = 1 ∧ w.heap.size ≤ b ∧ b < w1.heap.size) ∨ (i = 2 ∧ w1.heap.size ≤ b ∧ b < w2.heap.size) ∨ (i = 3 ∧ w2.heap.size ≤ b ∧ b < w3.heap.size) := fun i b hb => by
        by_cases e0 : i = 0
        · subst e0; exact .inl ⟨rfl, by simpa [F] using hb⟩
        · by_cases e1 : i = 1
          · subst e1
            have hb' : F1 b := by simpa [F] using hb
            exact .inr (.inl ⟨rfl, f1 b hb', l1 b hb'⟩)
          · by_cases e2 : i = 2
            · subst e2
              have hb' : F2 b := by simpa [F] using hb
              exact .inr (.inr (.inl ⟨rfl, f2 b hb', l2 b hb'⟩))
            · by_cases e3 : i = 3
              · subst e3
                have hb' : F3 b := by simpa [F] using hb
                exact .inr (.inr (.inr ⟨rfl, f3 b hb', l3 b hb'⟩))
              · simp [F, e0, e1, e2, e3] at hb
      refine ⟨fun i j b hi hj => ?_, fun i b hi => ?_⟩
      · have := hin i b hi
        have := hin j b hj
        omega
      · have := hin i b hi
        have := d4.size
        have hs : (w3.alloc (.cells #[.pointer (some ⟨Q, 0, none⟩), .pointer (some ⟨Q1, 0, none⟩), .pointer (some ⟨Q2, 0, none⟩), .int .i64 0, .int .i64 0, .slice none 0 0] 37)).heap.size = w3.heap.size + 1 := by simp
        omega
    refine ⟨allF F, ⟨Ar.new_ok, Q, Q1, Q2, .slice none 0 0, [], F, ⟨Blk.new w3 #[.pointer (some ⟨Q, 0, none⟩), .pointer (some ⟨Q1, 0, none⟩), .pointer (some ⟨Q2, 0, none⟩), .int .i64 0, .int .i64 0, .slice none 0 0] 37, ?_, ?_, ?_, World.ownsRow_nil _ _ _ _, by simp, fun b => by simp [F], fun b => by simp [F, Value.ownBlock], fun i b hi hb => ?_, dj⟩, ⟨by simp, fun z => by simp [Ar.new], fun e he => by simp at he⟩, fun _ => Iff.rfl⟩, d1.trans ((d2.trans ((d3.trans (d4.mono d3.size)).mono d2.size)).mono d1.size), fun b hb => ?_⟩
    · exact (((K1.out.below d2).below d3).below d4)
    · exact ((K2.out.below d3).below d4)
    · exact k3.below d4
    · have h0 : i ≠ 0 := by omega
      have h1 : i ≠ 1 := by omega
      have h2 : i ≠ 2 := by omega
      have h3 : i ≠ 3 := by omega
      simp [F, h0, h1, h2, h3] at hb
    · obtain ⟨i, hb⟩ := hb
      by_cases e0 : i = 0
      · subst e0
        have : b = w3.heap.size := by simpa [F] using hb
        omega
      · by_cases e1 : i = 1
        · subst e1; exact f1 b (by simpa [F] using hb)
        · by_cases e2 : i = 2
          · subst e2; exact Nat.le_trans s1 (f2 b (by simpa [F] using hb))
          · by_cases e3 : i = 3
            · subst e3; exact Nat.le_trans (Nat.le_trans s1 s2) (f3 b (by simpa [F] using hb))
            · simp [F, e0, e1, e2, e3] at hb)
  clear k3 hg2 K1 K2 d1 d2 d3 f1 f2 f3
  go_wp2_with fail
  go_ret
  obtain ⟨G, k1, k2, k3⟩ := HF.out _ rfl
  exact ⟨_, G, rfl, k1, k2, k3⟩
end Go.Proofs.Ytklmgmkeaipppaa.Ac

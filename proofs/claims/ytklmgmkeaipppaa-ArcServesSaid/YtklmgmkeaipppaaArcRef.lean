/-
  The document's own adaptive replacement: how it lies in memory; the contract of number. Conditions: it lies in memory.
-/
import Derived.Test.YtklmgmkeaipppaaArcMath
namespace Go.Proofs.Ytklmgmkeaipppaa.Ac
open Go Go.RowKit Go.Lib

/-- It lies at P: a head, rows, two ghosts, a row of numbers: five parts. -/
structure Qr (P Q Q1 Q2 : Nat) (v : Value) (hs : List (Int × Int)) (F : Nat → Nat → Prop) (L : List (List Int)) (m m1 m2 : Nat) (b1 b2 : List Int) (p : Int) (w : World) : Prop where
  head : Blk w P 37 [.pointer (some ⟨Q, 0, none⟩), .pointer (some ⟨Q1, 0, none⟩), .pointer (some ⟨Q2, 0, none⟩), .int .i64 m, .int .i64 p, v]
  rows : RQ Q (F 1) L w
  g1 : GQ Q1 (F 2) m1 b1 w
  g2 : GQ Q2 (F 3) m2 b2 w
  row : w.ownsRow 0 88 2 v hs.length (nc hs)
  len : hs.length ≤ 4194304
  f0 : ∀ b, F 0 b ↔ b = P
  f4 : ∀ b, F 4 b ↔ v.ownBlock = some b
  f5 : ∀ i b, 5 ≤ i → ¬ F i b
  dj : Dj F w
theorem row2_form {w : World} {base : Nat} {e : TypeId} {size : Nat} {v : Value} {n : Nat} {xs : List Value} (h : w.ownsRow base e size v n xs) : ∃ a c, v = .slice a n c := by
  rcases h.2 with ⟨rfl, h0⟩ | ⟨g, cap, cur, rfl, _⟩
  · exact ⟨none, 0, by rw [h0]⟩
  · exact ⟨_, _, rfl⟩
theorem own2_only {D : Nat → Prop} {w w' : World} {base : Nat} {e : TypeId} {size : Nat} {v : Value} {n : Nat} {xs : List Value} (h : w.ownsRow base e size v n xs) (ho : Only D w w') (hd : ∀ b, v.ownBlock = some b → ¬ D b) : w'.ownsRow base e size v n xs := by
  refine ⟨h.1, h.2.imp id (fun ⟨g, cap, cur, hv, h0, hg, r⟩ => ⟨g, cap, cur, hv, h0, ?_, r⟩)⟩
  have hlt : g < w.heap.size := (Array.getElem?_eq_some_iff.1 hg).1
  exact (ho.block g hlt (hd g (by rw [hv]; simp [Value.ownBlock]))).trans hg
theorem own2_le {w : World} {base : Nat} {e : TypeId} {size : Nat} {v : Value} {n : Nat} {xs : List Value} (h : w.ownsRow base e size v n xs) {b : Nat} (hb : v.ownBlock = some b) : base ≤ b ∧ b < w.heap.size := by
  rcases h.2 with ⟨rfl, _⟩ | ⟨g, cap, cur, rfl, h0, hg, _⟩
  · simp [Value.ownBlock] at hb
  · obtain rfl : g = b := by simpa [Value.ownBlock] using hb
    exact ⟨h0, (Array.getElem?_eq_some_iff.1 hg).1⟩
theorem own2_zero {w : World} {b : Nat} {e : TypeId} {size : Nat} {v : Value} {n : Nat} {xs : List Value} (h : w.ownsRow b e size v n xs) : w.ownsRow 0 e size v n xs := ⟨h.1, h.2.imp id (fun ⟨g, cap, cur, e, _, r⟩ => ⟨g, cap, cur, e, Nat.zero_le _, r⟩)⟩
theorem row2_pos {w : World} {base : Nat} {e : TypeId} {size : Nat} {v : Value} {n : Nat} {xs : List Value} (h : w.ownsRow base e size v n xs) (hn : 0 < n) : ∃ g cap, v = .slice (some ⟨g, 0, none⟩) n cap ∧ base ≤ g ∧ g < w.heap.size := by
  rcases h.2 with ⟨_, h0⟩ | ⟨g, cap, cur, rfl, hb, hg, _⟩
  · omega
  · exact ⟨g, cap, rfl, hb, (Array.getElem?_eq_some_iff.1 hg).1⟩
section
variable {P Q Q1 Q2 : Nat} {v : Value} {hs : List (Int × Int)} {F : Nat → Nat → Prop} {L : List (List Int)} {m m1 m2 : Nat} {b1 b2 : List Int} {p : Int} {w w' : World}
theorem Qr.only {D : Nat → Prop} (h : Qr P Q Q1 Q2 v hs F L m m1 m2 b1 b2 p w) (ho : Only D w w') (hd : ∀ b, allF F b → ¬ D b) : Qr P Q Q1 Q2 v hs F L m m1 m2 b1 b2 p w' :=
  ⟨h.head.only ho (hd P ⟨0, (h.f0 P).2 rfl⟩), h.rows.only ho (fun b hb => hd b ⟨1, hb⟩), h.g1.only ho (fun b hb => hd b ⟨2, hb⟩), h.g2.only ho (fun b hb => hd b ⟨3, hb⟩), own2_only h.row ho (fun b hb => hd b ⟨4, (h.f4 b).2 hb⟩), h.len, h.f0, h.f4, h.f5, h.dj.keep ho.size⟩
theorem Qr.below (h : Qr P Q Q1 Q2 v hs F L m m1 m2 b1 b2 p w) (hb : Below w.heap.size w w') : Qr P Q Q1 Q2 v hs F L m m1 m2 b1 b2 p w' := h.only (D := fun _ => False) (Below.only hb) (fun _ _ => id)
/-- The rows turned. -/
theorem Qr.goR {X : Nat → Prop} {L' : List (List Int)} (h : Qr P Q Q1 Q2 v hs F L m m1 m2 b1 b2 p w) (k : RQ Q X L' w') (g : Stp (F 1) X w w') : Qr P Q Q1 Q2 v hs (setF F 1 X) L' m m1 m2 b1 b2 p w' ∧ Stp (allF F) (allF (setF F 1 X)) w w' :=
  ⟨⟨h.head.only g.only (h.dj.out (i := 0) (by decide) P ((h.f0 P).2 rfl)), by rw [setF_same]; exact k, by rw [setF_other (by decide)]; exact h.g1.only g.only (h.dj.out (by decide)), by rw [setF_other (by decide)]; exact h.g2.only g.only (h.dj.out (by decide)),
    own2_only h.row g.only (fun b hb => h.dj.out (i := 4) (by decide) b ((h.f4 b).2 hb)), h.len, by rw [setF_other (by decide)]; exact h.f0, by rw [setF_other (by decide)]; exact h.f4, fun i b hi => by rw [setF_other (by omega)]; exact h.f5 i b hi, h.dj.step g (fun b hb => k.lt hb)⟩, g.part⟩
/-- The first ghost turned. -/
theorem Qr.goA {X : Nat → Prop} {b1' : List Int} {m1' : Nat} (h : Qr P Q Q1 Q2 v hs F L m m1 m2 b1 b2 p w) (k : GQ Q1 X m1' b1' w') (g : Stp (F 2) X w w') : Qr P Q Q1 Q2 v hs (setF F 2 X) L m m1' m2 b1' b2 p w' ∧ Stp (allF F) (allF (setF F 2 X)) w w' :=
  ⟨⟨h.head.only g.only (h.dj.out (i := 0) (by decide) P ((h.f0 P).2 rfl)), by rw [setF_other (by decide)]; exact h.rows.only g.only (h.dj.out (by decide)), by rw [setF_same]; exact k, by rw [setF_other (by decide)]; exact h.g2.only g.only (h.dj.out (by decide)),
    own2_only h.row g.only (fun b hb => h.dj.out (i := 4) (by decide) b ((h.f4 b).2 hb)), h.len, by rw [setF_other (by decide)]; exact h.f0, by rw [setF_other (by decide)]; exact h.f4, fun i b hi => by rw [setF_other (by omega)]; exact h.f5 i b hi, h.dj.step g (fun b hb => k.lt hb)⟩, g.part⟩
/-- The second ghost turned. -/
theorem Qr.goB {X : Nat → Prop} {b2' : List Int} {m2' : Nat} (h : Qr P Q Q1 Q2 v hs F L m m1 m2 b1 b2 p w) (k : GQ Q2 X m2' b2' w') (g : Stp (F 3) X w w') : Qr P Q Q1 Q2 v hs (setF F 3 X) L m m1 m2' b1 b2' p w' ∧ Stp (allF F) (allF (setF F 3 X)) w w' :=
  ⟨⟨h.head.only g.only (h.dj.out (i := 0) (by decide) P ((h.f0 P).2 rfl)), by rw [setF_other (by decide)]; exact h.rows.only g.only (h.dj.out (by decide)), by rw [setF_other (by decide)]; exact h.g1.only g.only (h.dj.out (by decide)), by rw [setF_same]; exact k,
    own2_only h.row g.only (fun b hb => h.dj.out (i := 4) (by decide) b ((h.f4 b).2 hb)), h.len, by rw [setF_other (by decide)]; exact h.f0, by rw [setF_other (by decide)]; exact h.f4, fun i b hi => by rw [setF_other (by omega)]; exact h.f5 i b hi, h.dj.step g (fun b hb => k.lt hb)⟩, g.part⟩
theorem Qr.hdOnly (h : Qr P Q Q1 Q2 v hs F L m m1 m2 b1 b2 p w) (k : Nat) (u : Value) : Only (F 0) w (w.setCell ⟨P, k, none⟩ u) := (Only.refl _ _).setCell (p := ⟨P, k, none⟩) (.inl ((h.f0 P).2 rfl)) u
/-- The target turned. -/
theorem Qr.goP (h : Qr P Q Q1 Q2 v hs F L m m1 m2 b1 b2 p w) (p' : Int) : Qr P Q Q1 Q2 v hs F L m m1 m2 b1 b2 p' (w.setCell ⟨P, 4, none⟩ (.int .i64 p')) ∧ Stp (allF F) (allF F) w (w.setCell ⟨P, 4, none⟩ (.int .i64 p')) := by
  have ho := h.hdOnly 4 (.int .i64 p')
  exact ⟨⟨h.head.set 4 (.int .i64 p'), h.rows.only ho (h.dj.out (by decide)), h.g1.only ho (h.dj.out (by decide)), h.g2.only ho (h.dj.out (by decide)), own2_only h.row ho (fun b hb => h.dj.out (i := 4) (by decide) b ((h.f4 b).2 hb)), h.len, h.f0, h.f4, h.f5, h.dj.keep ho.size⟩, ho.mono (fun b hb => ⟨0, hb⟩), fun b hb => .inl hb⟩
/-- The bound turned. -/
theorem Qr.goM (h : Qr P Q Q1 Q2 v hs F L m m1 m2 b1 b2 p w) (m' : Nat) : Qr P Q Q1 Q2 v hs F L m' m1 m2 b1 b2 p (w.setCell ⟨P, 3, none⟩ (.int .i64 m')) ∧ Stp (allF F) (allF F) w (w.setCell ⟨P, 3, none⟩ (.int .i64 m')) := by
  have ho := h.hdOnly 3 (.int .i64 m')
  exact ⟨⟨h.head.set 3 (.int .i64 m'), h.rows.only ho (h.dj.out (by decide)), h.g1.only ho (h.dj.out (by decide)), h.g2.only ho (h.dj.out (by decide)), own2_only h.row ho (fun b hb => h.dj.out (i := 4) (by decide) b ((h.f4 b).2 hb)), h.len, h.f0, h.f4, h.f5, h.dj.keep ho.size⟩, ho.mono (fun b hb => ⟨0, hb⟩), fun b hb => .inl hb⟩
/-- Another row of numbers. -/
theorem Qr.goH {v' : Value} {hs' : List (Int × Int)} {w1 : World} (h : Qr P Q Q1 Q2 v hs F L m m1 m2 b1 b2 p w) (ho : Only (F 4) w w1) (hv : w1.ownsRow 0 88 2 v' hs'.length (nc hs')) (hf : ∀ b, v'.ownBlock = some b → v.ownBlock = some b ∨ w.heap.size ≤ b) (hl : hs'.length ≤ 4194304) :
    ∃ X, Qr P Q Q1 Q2 v' hs' (setF F 4 X) L m m1 m2 b1 b2 p (w1.setCell ⟨P, 5, none⟩ v') ∧ Stp (allF F) (allF (setF F 4 X)) w (w1.setCell ⟨P, 5, none⟩ v') := by
  have g : Stp (F 4) (fun b => v'.ownBlock = some b) w w1 := ⟨ho, fun b hb => (hf b hb).imp (h.f4 b).2 id⟩
  have hP : P < w.heap.size := h.head.lt
  have d1 := h.dj.step g (fun b hb => (own2_le hv hb).2)
  have hB : Blk w1 P 37 [.pointer (some ⟨Q, 0, none⟩), .pointer (some ⟨Q1, 0, none⟩), .pointer (some ⟨Q2, 0, none⟩), .int .i64 m, .int .i64 p, v] := h.head.only ho (h.dj.out (i := 0) (by decide) P ((h.f0 P).2 rfl))
  have ho2 : Only (fun b => b = P) w1 (w1.setCell ⟨P, 5, none⟩ v') := Only.setCell (D := fun b => b = P) (Only.refl _ _) (p := ⟨P, 5, none⟩) (.inl rfl) v'
  have hno : ∀ i b, i ≠ 0 → setF F 4 (fun b => v'.ownBlock = some b) i b → ¬ b = P := fun i b hi hb e => by
    have h0 : setF F 4 (fun b => v'.ownBlock = some b) 0 P := by rw [setF_other (by decide)]; exact (h.f0 P).2 rfl
    rw [e] at hb
    exact hi (d1.one i 0 P hb h0)
  refine ⟨fun b => v'.ownBlock = some b, ⟨hB.set 5 v', ?_, ?_, ?_, own2_only hv ho2 (fun b hb => hno 4 b (by decide) (by rw [setF_same]; exact hb)), hl, by rw [setF_other (by decide)]; exact h.f0, fun b => by rw [setF_same], fun i b hi => by rw [setF_other (by omega)]; exact h.f5 i b hi, d1.keep ho2.size⟩, ?_⟩
  · rw [setF_other (by decide)]
    exact (h.rows.only ho (h.dj.out (by decide))).only ho2 (fun b hb => hno 1 b (by decide) (by rw [setF_other (by decide)]; exact hb))
  · rw [setF_other (by decide)]
    exact (h.g1.only ho (h.dj.out (by decide))).only ho2 (fun b hb => hno 2 b (by decide) (by rw [setF_other (by decide)]; exact hb))
  · rw [setF_other (by decide)]
    exact (h.g2.only ho (h.dj.out (by decide))).only ho2 (fun b hb => hno 3 b (by decide) (by rw [setF_other (by decide)]; exact hb))
  · have gp := g.part
    exact ⟨gp.only.trans (ho2.mono (fun b hb => show allF F b from hb ▸ ⟨0, (h.f0 P).2 rfl⟩)) (fun b hb => .inl hb), gp.foot⟩
end

set_option maxRecDepth 100000 in
set_option maxHeartbeats 1000000 in
theorem qr_number {P Q Q1 Q2 : Nat} {v : Value} {hs : List (Int × Int)} {F : Nat → Nat → Prop} {L : List (List Int)} {m m1 m2 : Nat} {b1 b2 : List Int} {p : Int} {w : World} {num : Int → Int} (h : Qr P Q Q1 Q2 v hs F L m m1 m2 b1 b2 p w) (hsay : Says hs L num) (hz0 : ∀ y, y ∉ L.flatten → num y = 0) (z : Int) :
    Calls Try.prog 52 #[.pointer (some ⟨P, 0, none⟩), .int .i64 z] w fun e w' => e = .returned (.int .u64 (num z)) ∧ w = w' := by
  have c5 := h.head.cell (i := 5) rfl
  have hlb := h.len
  have HO := hid h.row
  obtain ⟨a, c, rfl⟩ := row2_form h.row
  obtain ⟨K, hK⟩ : ∃ K, K = hs.length := ⟨_, rfl⟩
  have hval : Hid (∀ e ∈ hs, num e.1 = e.2) := hid hsay.val
  have hend : Hid ((∀ (j : Nat) e, j < hs.length → hs[j]? = some e → e.1 ≠ z) → num z = 0) := hid (fun hno => hz0 z (fun hm => by
    obtain ⟨e, he, hez⟩ := List.mem_map.1 ((hsay.mem z).2 hm)
    obtain ⟨j, hj⟩ := List.mem_iff_getElem?.1 he
    exact hno j e (List.getElem?_eq_some_iff.1 hj).1 hj hez))
  rw [← hK] at hlb HO c5 hend
  have HK := hid hK
  clear h hK hsay hz0
  go_enter Try.func52, Try.ntmps52
  go_wp2_with fail
  go_loopw [5] (fun p wr => ∃ k : Nat, p = .int .i64 k ∧ k ≤ K ∧ w = wr ∧ Hid (∀ (j : Nat) e, j < k → hs[j]? = some e → e.1 ≠ z)) (fun p _ => K - (RowKit.intOf p).toNat)
  case atStart => exact ⟨0, rfl, Nat.zero_le _, rfl, hid (fun j y hj => absurd hj (Nat.not_lt_zero j))⟩
  case round =>
    obtain ⟨k, rfl, hk, rfl, hno2⟩ := hrel
    by_cases hlt2 : k < K
    · obtain ⟨⟨y, x⟩, hy⟩ : ∃ y, hs[k]? = some y := ⟨_, List.getElem?_eq_getElem (by rw [← HK.out]; exact hlt2)⟩
      obtain ⟨g, cap, hv, _, _⟩ := row2_pos HO.out (by omega)
      cases hv
      have hc0 := World.ownsRow.cellAt HO.out (k * 2) (by omega)
      have hc1 := World.ownsRow.cellAt HO.out (k * 2 + 1) (by omega)
      rw [(nc_at hy).1] at hc0
      rw [(nc_at hy).2] at hc1
      by_cases e : y = z
      · have hr : Hid (num z = x) := hid (by rw [← e]; exact hval.out (y, x) (List.mem_of_getElem? hy))
        subst e
        clear hy
        go_wp2_with fail
        go_ret
        exact ⟨by rw [hr.out]; rfl, rfl⟩
      · have hno3 : Hid (∀ (j : Nat) e, j < k + 1 → hs[j]? = some e → e.1 ≠ z) := hid (fun j e' hj hx => by
          by_cases e1 : j = k
          · subst e1; rw [hy] at hx; cases hx; exact e
          · exact hno2.out j e' (by omega) hx)
        have hne : (y == z) = false := beq_eq_false_iff_ne.2 e
        clear hy e
        go_wp2_with fail
        go_roundw
        case rel => exact ⟨k + 1, by go_num, by omega, by first | rfl | trivial, hno3⟩
        case measure => simp [RowKit.intOf] <;> omega
    · obtain rfl : k = K := by omega
      have hr : Hid (num z = 0) := hid (hend.out hno2.out)
      go_wp2_with fail
      go_ret
      exact ⟨by rw [hr.out]; rfl, rfl⟩
end Go.Proofs.Ytklmgmkeaipppaa.Ac

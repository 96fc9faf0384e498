/-
  The contracts of the document's own ghost's Add, Limit and of Same. Conditions: the ghost lies in memory.
  The document's ghosts as parts whose blocks are hidden. No conditions but those of the calls.
-/
import Derived.Test.YtkhmgigllcgpnaaGhostRefCut
import Derived.Test.YtkhmgigllcgpnaaM3
namespace Go.Proofs.Ytkhmgigllcgpnaa.Gh
open Go Go.RowKit Go.Lib

theorem only_grown {w w' : World} {v : Value} (h : w.grownBy w' v.ownBlock) : Only (fun b => v.ownBlock = some b) w w' := ⟨h.os, h.tape, h.output, h.size, fun k hk hd => h.block k hk (fun e => hd e.symm)⟩
theorem QM.most {Q m : Nat} {v : Value} {l : List Int} {w : World} (h : QM Q m v l w) (k : Nat) (hk : (k : Int) ≤ 9223372036854775807) : QGo Q v w k v l (w.setCell ⟨Q, 0, none⟩ (.int .i64 k)) := by
  have h2 := h.head.set 0 (.int .i64 k)
  have ho2 : Only (fun b => b = Q) w (w.setCell ⟨Q, 0, none⟩ (.int .i64 k)) := Only.setCell (D := fun b => b = Q) (Only.refl _ _) (p := ⟨Q, 0, none⟩) (.inl rfl) _
  exact ⟨⟨h.len, hk, h2, own_only h.row ho2 (fun b hb => own_ne h.row h.head (by decide) b hb)⟩, (Only.refl _ _).setCell (p := ⟨Q, 0, none⟩) (.inl (.inl rfl)) _, fun b hb => .inl hb⟩
/-- One number more at its row's end. -/
theorem QM.snoc {Q m : Nat} {v : Value} {l : List Int} {w : World} (h : QM Q m v l w) (hlen : l.length < 4194304) (z : Int) :
    ∀ v6 w6, w6.ownsRow 0 29 1 v6 (l.length + 1) (uc l ++ [.int .u64 z]) → (w.alloc (.cells #[.int .u64 z] 29)).grownBy w6 v.ownBlock → (v6.ownBlock = v.ownBlock ∨ v6.ownBlock = some (w.alloc (.cells #[.int .u64 z] 29)).heap.size) →
      QGo Q v w m v6 (l ++ [z]) (w6.setCell ⟨Q, 1, none⟩ v6) ∧ w6.frozen? ⟨Q, 1, none⟩ = false ∧ w6.cell? ⟨Q, 1, none⟩ = some v := by
  intro v6 w6 o6 g6 l6
  have bA : Below w.heap.size w (w.alloc (.cells #[.int .u64 z] 29)) := (Below.refl _ _).alloc (Nat.le_refl _) _
  have ho : Only (fun b => v.ownBlock = some b) w w6 := (Below.only bA).trans (only_grown g6) (fun b hb => .inl hb)
  have hq := own_ne h.row h.head (by decide)
  have hB : Blk w6 Q 36 [.int .i64 m, v] := h.head.only ho (fun e => hq Q e rfl)
  refine ⟨h.store ho (by rw [List.length_append, List.length_singleton, uc_snoc]; exact o6) (fun b hb => ?_) (by rw [List.length_append, List.length_singleton]; omega), hB.frozen 1, hB.cell (i := 1) rfl⟩
  rcases l6 with e | e
  · exact .inl (e ▸ hb)
  · right
    rw [e] at hb
    injection hb with hb
    rw [← hb]; simp

set_option maxRecDepth 100000 in
set_option maxHeartbeats 1000000 in
theorem qadd_any {Q m : Nat} {v : Value} {l : List Int} {w : World} (h : QM Q m v l w) (z : Int) (hlen : l.length < 4194304) :
    Calls Try.prog 51 #[.pointer (some ⟨Q, 0, none⟩), .int .u64 z] w fun e w' => e = .returned (.tuple #[]) ∧ ∃ v', QGo Q v w m v' (addL m l z) w' := by
  have hr := qremove_any h z
  have hll := rm_len l z
  obtain ⟨i0, hi0, hz0, hz1, hz2⟩ := info_parts infoU64
  unfold addL
  generalize rmL l z = l1 at *
  generalize decide (z ∈ l) = A at *
  clear h
  go_enter Try.func51, Try.ntmps51
  go_wp2_with fail
  refine hr.mono ?_
  rintro e w1 ⟨rfl, v1, g1⟩
  have c1 := g1.qm.head.cell (i := 1) rfl
  have hown := g1.qm.row
  have HS := hid (g1.qm.snoc (by omega) z)
  have G1 := hid g1
  have hlb := g1.qm.len
  clear hr g1
  obtain ⟨K, hK⟩ : ∃ K, K = l1.length := ⟨_, rfl⟩
  rw [← hK] at hlb hown HS
  clear hK
  go_wp2_with (at_builtin; refine wpList_append_own_at _ rfl _ _ 32 rfl 0 29 i0 (.int .u64 0) 1 8 Try.underlying32 hi0 hz0 hz1 hz2 rfl (by decide) v1 _ _ rfl (hown.alloc _) ⟨w1.heap.size, 0, none⟩ 1 1 [.int .u64 z] rfl rfl (one_cell _ _ _) (one_u64 _) (by unfold maxLen; omega) (by omega) (by simp) ?_; intro v6 w6 hown6 hgrow6 hnil6 hloc6; obtain ⟨a6, d6, rfl⟩ := row_form hown6; obtain ⟨hg6, hf6, hc6⟩ := HS.out _ w6 hown6 hgrow6 hloc6; have HC := hid (qcut_any hg6.qm); have HG := hid hg6; clear hg6 hown6 hgrow6 hnil6 hloc6 hown HS c1)
  refine HC.out.mono ?_
  rintro e w7 ⟨rfl, v7, g7⟩
  have HF := hid ((G1.out.trans HG.out).trans g7)
  clear g7 HC HG G1
  go_wp2_with fail
  go_end0
  exact ⟨rfl, v7, HF.out⟩

set_option maxRecDepth 100000 in
set_option maxHeartbeats 1000000 in
theorem qlimit_any {Q m : Nat} {v : Value} {l : List Int} {w : World} (h : QM Q m v l w) (mo : Int) (q : -9223372036854775808 ≤ mo ∧ mo ≤ 9223372036854775807) :
    Calls Try.prog 52 #[.pointer (some ⟨Q, 0, none⟩), .int .i64 mo] w fun e w' => e = .returned (.tuple #[]) ∧ ∃ v', QGo Q v w mo.toNat v' (cutL mo.toNat l) w' := by
  obtain ⟨k, hk⟩ : ∃ k, k = mo.toNat := ⟨_, rfl⟩
  have hkb : (k : Int) ≤ 9223372036854775807 := by omega
  have c0 := h.head.cell (i := 0) rfl
  have f0 := h.head.frozen 0
  have g1 := h.most k hkb
  have hc := qcut_any g1.qm
  have G1 := hid g1
  clear h g1 q
  rw [← hk]
  rcases Int.lt_or_le mo 0 with h0 | h0
  · have e0 : k = 0 := by omega
    subst e0
    clear hk
    go_enter Try.func52, Try.ntmps52
    go_wp2_with fail
    refine hc.mono ?_
    rintro e w7 ⟨rfl, v7, g7⟩
    have HF := hid (G1.out.trans g7)
    clear g7 G1 hc
    go_wp2_with fail
    go_end0
    exact ⟨rfl, v7, HF.out⟩
  · obtain rfl : mo = (k : Int) := by omega
    clear hk
    go_enter Try.func52, Try.ntmps52
    go_wp2_with fail
    refine hc.mono ?_
    rintro e w7 ⟨rfl, v7, g7⟩
    have HF := hid (G1.out.trans g7)
    clear g7 G1 hc
    go_wp2_with fail
    go_end0
    exact ⟨rfl, v7, HF.out⟩

set_option maxRecDepth 100000 in
theorem same_any {a1 a2 : Option Addr} {c1 c2 n b1 b2 : Nat} {xs : List Int} (hn : n ≤ 4194304) {w : World} (h1 : w.ownsRow b1 29 1 (.slice a1 n c1) n (uc xs)) (h2 : w.ownsRow b2 29 1 (.slice a2 n c2) n (uc xs)) :
    Calls Try.prog 13 #[.slice a1 n c1, .slice a2 n c2] w fun e w' => e = .returned (.bool true) ∧ Below w.heap.size w w' := by
  have hl : xs.length = n := by have := h1.1; rw [uc_len] at this; omega
  have H1 := hid h1
  have H2 := hid h2
  have HL := hid hl
  clear h1 h2 hl
  go_enter Try.func13, Try.ntmps13
  go_wp2_with fail
  go_loopw [5] (fun p wr => ∃ i : Nat, p = .int .i64 i ∧ i ≤ n ∧ Hid (Below w.heap.size w wr)) (fun p _ => n - (RowKit.intOf p).toNat)
  case atStart => exact ⟨0, rfl, Nat.zero_le _, hid (Below.refl _ _)⟩
  case round =>
    obtain ⟨i, rfl, hi, hB⟩ := hrel
    by_cases hlt : i < n
    · obtain ⟨z, hz⟩ : ∃ z, xs[i]? = some z := ⟨_, List.getElem?_eq_getElem (by rw [HL.out]; exact hlt)⟩
      obtain ⟨g1, cap1, hv1, _, _, l1⟩ := row_pos H1.out (by omega)
      obtain ⟨g2, cap2, hv2, _, _, l2⟩ := row_pos H2.out (by omega)
      cases hv1
      cases hv2
      have e1 := (hB.out.cell (p := ⟨g1, i, none⟩) l1).trans (cel_of H1.out i z hz)
      have e2 := (hB.out.cell (p := ⟨g2, i, none⟩) l2).trans (cel_of H2.out i z hz)
      have i1 : 0 ≤ (i : Int) := by omega
      have i2 : (i : Int) < (n : Int) := by omega
      clear hz
      go_wp2_with fail
      go_quiet (fail)
      go_wp2_with fail
      go_roundw
      case rel => exact ⟨i + 1, by go_num, by omega, hid (drewn_below hB.out _)⟩
      case measure => simp [RowKit.intOf] <;> omega
    · obtain rfl : i = n := by omega
      go_wp2_with fail
      go_ret
      exact ⟨rfl, hB.out⟩
end Go.Proofs.Ytkhmgigllcgpnaa.Gh
namespace Go.Proofs.Ytkhmgigllcgpnaa
open Go Go.RowKit Go.Lib

theorem Gh.Stp.up {F F' : Nat → Prop} {w w' : World} (h : Gh.Stp F F' w w') : Stp F F' w w' := ⟨h.only, h.foot⟩
/-! The document's ghosts, blocks hidden -/
def GQ (Q : Nat) (F : Nat → Prop) (m : Nat) (l : List Int) (w : World) : Prop := ∃ v, Gh.QM Q m v l w ∧ ∀ b, F b ↔ Gh.QF Q v b
theorem GQ.lt {Q m : Nat} {F : Nat → Prop} {l : List Int} {w : World} (h : GQ Q F m l w) {b : Nat} (hb : F b) : b < w.heap.size := by obtain ⟨v, h, e⟩ := h; exact h.lt ((e b).1 hb)
theorem GQ.len {Q m : Nat} {F : Nat → Prop} {l : List Int} {w : World} (h : GQ Q F m l w) : l.length ≤ 4194304 := by obtain ⟨v, h, _⟩ := h; exact h.len
theorem GQ.only {Q m : Nat} {F D : Nat → Prop} {l : List Int} {w w' : World} (h : GQ Q F m l w) (ho : Only D w w') (hd : ∀ b, F b → ¬ D b) : GQ Q F m l w' := by
  obtain ⟨v, h, e⟩ := h
  exact ⟨v, h.only ho (fun b hb => hd b ((e b).2 hb)), e⟩
theorem GQ.below {Q m : Nat} {F : Nat → Prop} {l : List Int} {w w' : World} (h : GQ Q F m l w) (hb : Below w.heap.size w w') : GQ Q F m l w' := h.only (D := fun _ => False) (Below.only hb) (fun _ _ => id)
theorem gq_go {Q m : Nat} {v v' : Value} {F : Nat → Prop} {l' : List Int} {w w' : World} (e : ∀ b, F b ↔ Gh.QF Q v b) (g : Gh.QGo Q v w m v' l' w') : GQ Q (Gh.QF Q v') m l' w' ∧ Stp F (Gh.QF Q v') w w' :=
  ⟨⟨v', g.qm, fun _ => Iff.rfl⟩, ⟨g.only.mono (fun b hb => (e b).2 hb), fun b hb => (g.foot b hb).imp (e b).2 id⟩⟩
/-- Its row, as it can be read. -/
theorem GQ.row {Q m : Nat} {F : Nat → Prop} {l : List Int} {w : World} (h : GQ Q F m l w) : ∃ a c, w.cell? ⟨Q, 1, none⟩ = some (.slice a l.length c) ∧ w.ownsRow 0 29 1 (.slice a l.length c) l.length (Gh.uc l) := by
  obtain ⟨v, h2, _⟩ := h
  have hr := h2.row
  have hc := h2.head.cell (i := 1) rfl
  obtain ⟨a, c, rfl⟩ := row_form hr
  exact ⟨a, c, hc, hr⟩
theorem gq_add {Q m : Nat} {F : Nat → Prop} {l : List Int} {w : World} (h : GQ Q F m l w) (z : Int) (hlen : l.length < 4194304) :
    Calls Try.prog 51 #[.pointer (some ⟨Q, 0, none⟩), .int .u64 z] w fun e w' => e = .returned (.tuple #[]) ∧ ∃ F', GQ Q F' m (Gh.addL m l z) w' ∧ Stp F F' w w' := by
  obtain ⟨v, h, e⟩ := h
  refine (Gh.qadd_any h z hlen).mono ?_
  rintro x w' ⟨hx, v', g⟩
  exact ⟨hx, _, gq_go e g⟩
theorem gq_remove {Q m : Nat} {F : Nat → Prop} {l : List Int} {w : World} (h : GQ Q F m l w) (z : Int) :
    Calls Try.prog 46 #[.pointer (some ⟨Q, 0, none⟩), .int .u64 z] w fun e w' => e = .returned (.bool (decide (z ∈ l))) ∧ ∃ F', GQ Q F' m (Gh.rmL l z) w' ∧ Stp F F' w w' := by
  obtain ⟨v, h, e⟩ := h
  refine (Gh.qremove_any h z).mono ?_
  rintro x w' ⟨hx, v', g⟩
  exact ⟨hx, _, gq_go e g⟩
theorem gq_limit {Q m : Nat} {F : Nat → Prop} {l : List Int} {w : World} (h : GQ Q F m l w) (mo : Int) (q : -9223372036854775808 ≤ mo ∧ mo ≤ 9223372036854775807) :
    Calls Try.prog 52 #[.pointer (some ⟨Q, 0, none⟩), .int .i64 mo] w fun e w' => e = .returned (.tuple #[]) ∧ ∃ F', GQ Q F' mo.toNat (Gh.cutL mo.toNat l) w' ∧ Stp F F' w w' := by
  obtain ⟨v, h, e⟩ := h
  refine (Gh.qlimit_any h mo q).mono ?_
  rintro x w' ⟨hx, v', g⟩
  exact ⟨hx, _, gq_go e g⟩
theorem gq_has {Q m : Nat} {F : Nat → Prop} {l : List Int} {w : World} (h : GQ Q F m l w) (z : Int) :
    Calls Try.prog 60 #[.pointer (some ⟨Q, 0, none⟩), .int .u64 z] w fun e w' => e = .returned (.bool (decide (z ∈ l))) ∧ w = w' := by obtain ⟨v, h, _⟩ := h; exact Gh.qhas_any h z
theorem gq_new (mo : Int) (q : -9223372036854775808 ≤ mo ∧ mo ≤ 9223372036854775807) (w : World) : Calls Try.prog 27 #[.int .i64 mo] w fun e w' => ∃ Q F, e = .returned (.pointer (some ⟨Q, 0, none⟩)) ∧ GQ Q F mo.toNat [] w' ∧ Below w.heap.size w w' ∧ ∀ b, F b → w.heap.size ≤ b :=
  (Gh.qnew_any mo q w).mono fun _ _ ⟨Q, v, he, k1, k2, k3⟩ => ⟨Q, _, he, ⟨v, k1, fun _ => Iff.rfl⟩, k2, k3⟩
end Go.Proofs.Ytkhmgigllcgpnaa

/-
  The document's own New and Same; the program's rows and the document's, side by side. No conditions but those of the calls.
-/
import Derived.Test.YtkhmgigllcgpnaaRowsRefPut

namespace Go.Proofs.Ytkhmgigllcgpnaa
open Go Go.RowKit Go.Lib

theorem infoRow : (Try.prog.info? 43).map (fun i => (i.zero, i.size, i.bytes)) = some (some (.slice none 0 0), 1, 24) := by kernel_rfl
theorem make_rows (n : Nat) (h1 : n ≤ 8) (W : World) : (Instr.makeSlice 68 (.int .i64 (n : Int)) (.int .i64 (n : Int))).run Try.prog W = .ok (.slice (some ⟨W.heap.size, 0, none⟩) n n) (W.alloc (.cells (List.replicate n (Value.slice none 0 0)).toArray 43)) := by
  obtain ⟨i0, hi, hz0, hz1, hz2⟩ := info_parts infoRow
  have := run_make (P := Try.prog) W 68 43 i0 (.slice none 0 0) Try.underlying68 hi hz0 .i64 .i64 (n : Int) (n : Int) (by omega) (by omega) (by rw [hz2]; omega) (by omega)
  rw [hz1, Int.toNat_natCast] at this
  rw [this, ← made_cells _ _ rfl]
theorem good_rep {n : Nat} (h1 : 1 ≤ n) (h2 : n ≤ 8) : GoodL (List.replicate n []) := by rw [← ids_none]; exact good_none h1 h2
set_option maxRecDepth 100000 in
theorem qnew_any (n : Nat) (h1 : 1 ≤ n) (h2 : n ≤ 8) (w : World) : Calls Try.prog 26 #[.int .i64 n] w fun e w' => ∃ Q R vs, e = .returned (.pointer (some ⟨Q, 0, none⟩)) ∧ QM Q R vs (List.replicate n []) w' ∧ Below w.heap.size w w' ∧ ∀ b, QF Q R vs b → w.heap.size ≤ b := by
  have hml := make_rows n h2 w
  have hfin : Hid (∀ w2, (w.alloc (.cells (List.replicate n (Value.slice none 0 0)).toArray 43)).alloc (.cells #[.slice (some ⟨w.heap.size, 0, none⟩) n n] 70) = w2 →
      QM (w.heap.size + 1) w.heap.size (List.replicate n (.slice none 0 0)) (List.replicate n []) w2 ∧ Below w.heap.size w w2) := hid (by
    rintro w2 rfl
    have hz : (w.alloc (.cells (List.replicate n (Value.slice none 0 0)).toArray 43)).heap.size = w.heap.size + 1 := by simp
    have hB := Blk.new w (List.replicate n (Value.slice none 0 0)).toArray 43
    have hQ := Blk.new (w.alloc (.cells (List.replicate n (Value.slice none 0 0)).toArray 43)) #[.slice (some ⟨w.heap.size, 0, none⟩) n n] 70
    rw [hz] at hQ
    refine ⟨⟨good_rep h1 h2, by rw [List.length_replicate]; exact hQ, hB.alloc _, by simp, fun i v l hv hl => ?_⟩, ((Below.refl _ _).alloc (Nat.le_refl _) _).alloc (by omega) _⟩
    have e1 := (List.getElem?_eq_some_iff.1 hv).2
    have e2 := (List.getElem?_eq_some_iff.1 hl).2
    rw [List.getElem_replicate] at e1 e2
    subst e1; subst e2
    exact World.ownsRow_nil _ _ _ _)
  go_enter Try.func26, Try.ntmps26
  go_wp2_with fail
  go_ret
  obtain ⟨k1, k2⟩ := hfin.out _ rfl
  refine ⟨w.heap.size + 1, w.heap.size, _, rfl, k1, k2, fun b hb => ?_⟩
  rcases hb with rfl | rfl | ⟨v, hv, hb⟩
  · omega
  · omega
  · rw [(List.mem_replicate.1 hv).2] at hb; simp [Value.ownBlock] at hb
set_option maxRecDepth 100000 in
theorem same_any {a1 a2 : Option Addr} {c1 c2 n b1 b2 : Nat} {xs : List Int} (hn : n ≤ 4194304) {w : World} (h1 : w.ownsRow b1 3 1 (.slice a1 n c1) n (ic xs)) (h2 : w.ownsRow b2 3 1 (.slice a2 n c2) n (ic xs)) :
    Calls Try.prog 17 #[.slice a1 n c1, .slice a2 n c2] w fun e w' => e = .returned (.bool true) ∧ Below w.heap.size w w' := by
  have hl : xs.length = n := by have := h1.1; rw [ic_len] at this; omega
  have H1 := hid h1
  have H2 := hid h2
  have HL := hid hl
  clear h1 h2 hl
  go_enter Try.func17, Try.ntmps17
  go_wp2_with fail
  go_loopw [5] (fun p wr => ∃ i : Nat, p = .int .i64 i ∧ i ≤ n ∧ Hid (Below w.heap.size w wr)) (fun p _ => n - (RowKit.intOf p).toNat)
  case atStart => exact ⟨0, rfl, Nat.zero_le _, hid (Below.refl _ _)⟩
  case round =>
    obtain ⟨i, rfl, hi, hB⟩ := hrel
    by_cases hlt : i < n
    · obtain ⟨z, hz⟩ : ∃ z, xs[i]? = some z := ⟨_, List.getElem?_eq_getElem (by rw [HL.out]; exact hlt)⟩
      obtain ⟨g1, cap1, hv1, _, _, l1⟩ := row_pos H1.out (by omega)
      obtain ⟨g2, cap2, hv2, _, _, l2⟩ := row_pos H2.out (by omega)
      cases hv1
      cases hv2
      have e1 := (hB.out.cell (p := ⟨g1, i, none⟩) l1).trans (cel_of H1.out i z hz)
      have e2 := (hB.out.cell (p := ⟨g2, i, none⟩) l2).trans (cel_of H2.out i z hz)
      have i1 : 0 ≤ (i : Int) := by omega
      have i2 : (i : Int) < (n : Int) := by omega
      clear hz
      go_wp2_with fail
      go_quiet (fail)
      go_wp2_with fail
      go_roundw
      case rel => exact ⟨i + 1, by go_num, by omega, hid (drewn_below hB.out _)⟩
      case measure => simp [RowKit.intOf] <;> omega
    · obtain rfl : i = n := by omega
      go_wp2_with fail
      go_ret
      exact ⟨rfl, hB.out⟩

/-! Side by side -/
structure Two (w0 : World) (P Q : Nat) (L M : List (List Int)) (H : Nat → Prop) (w : World) : Prop where
  rows : ∃ (F : Nat → Prop) (R : Nat) (vs : List Value), RAt P F L w ∧ QM Q R vs M w ∧ (∀ b, F b → w0.heap.size ≤ b) ∧ (∀ b, QF Q R vs b → w0.heap.size ≤ b) ∧ (∀ b, F b → ¬ QF Q R vs b) ∧ (∀ b, H b → ¬ F b ∧ ¬ QF Q R vs b)
  below : Below w0.heap.size w0 w
  lt : ∀ x, H x → x < w.heap.size
theorem Two.good {w0 : World} {P Q : Nat} {L M : List (List Int)} {H : Nat → Prop} {w : World} (h : Two w0 P Q L M H w) : GoodL L := by obtain ⟨F, R, vs, h, _⟩ := h.rows; exact h.good
theorem Two.after {w0 : World} {P Q : Nat} {L M : List (List Int)} {H : Nat → Prop} {w w' : World} (h : Two w0 P Q L M H w) (hb : Below w.heap.size w w') : Two w0 P Q L M H w' := by
  obtain ⟨⟨F, R, vs, h1, h2, h3, h4, h5, h6⟩, h7, h8⟩ := h
  exact ⟨⟨F, R, vs, h1.below hb, h2.below hb, h3, h4, h5, h6⟩, h7.trans (hb.mono h7.size), fun x hx => Nat.lt_of_lt_of_le (h8 x hx) hb.size⟩
/-- Other blocks of the call's own beside. -/
theorem Two.more {w0 : World} {P Q : Nat} {L M : List (List Int)} {H H' : Nat → Prop} {w w' : World} (h : Two w0 P Q L M H w) (hb : Below w.heap.size w w') (hH : ∀ x, H' x → H x ∨ (w.heap.size ≤ x ∧ x < w'.heap.size)) : Two w0 P Q L M H' w' := by
  obtain ⟨⟨F, R, vs, h1, h2, h3, h4, h5, h6⟩, h7, h8⟩ := h
  refine ⟨⟨F, R, vs, h1.below hb, h2.below hb, h3, h4, h5, fun x hx => ?_⟩, h7.trans (hb.mono h7.size), fun x hx => (hH x hx).elim (fun g => Nat.lt_of_lt_of_le (h8 x g) hb.size) (fun g => g.2)⟩
  rcases hH x hx with g | g
  · exact h6 x g
  · exact ⟨fun hf => absurd (h1.lt hf) (Nat.not_lt.2 g.1), fun hf => absurd (h2.lt hf) (Nat.not_lt.2 g.1)⟩
theorem Two.turn {w0 : World} {P Q : Nat} {L M : List (List Int)} {H : Nat → Prop} {w w' : World} (h : Two w0 P Q L M H w) (ho : Only H w w') (hH : ∀ x, H x → w0.heap.size ≤ x) : Two w0 P Q L M H w' := by
  obtain ⟨⟨F, R, vs, h1, h2, h3, h4, h5, h6⟩, h7, h8⟩ := h
  exact ⟨⟨F, R, vs, h1.only ho (fun b hb hg => (h6 b hg).1 hb), h2.only ho (fun b hb hg => (h6 b hg).2 hb), h3, h4, h5, h6⟩, h7.trans (ho.below h7.size hH), fun x hx => Nat.lt_of_lt_of_le (h8 x hx) ho.size⟩
theorem two_l {w0 : World} {P Q R : Nat} {vs : List Value} {L' M : List (List Int)} {H F F' : Nat → Prop} {w w' : World} (h2 : QM Q R vs M w) (h3 : ∀ b, F b → w0.heap.size ≤ b) (h4 : ∀ b, QF Q R vs b → w0.heap.size ≤ b) (h5 : ∀ b, F b → ¬ QF Q R vs b) (h6 : ∀ b, H b → ¬ F b ∧ ¬ QF Q R vs b)
    (h7 : Below w0.heap.size w0 w) (h8 : ∀ x, H x → x < w.heap.size) (k1 : RAt P F' L' w') (k2 : Stp F F' w w') : Two w0 P Q L' M H w' ∧ ∃ D, Only D w w' ∧ ∀ x, H x → ¬ D x :=
  ⟨⟨⟨F', R, vs, k1, h2.only k2.only (fun b hb hf => h5 b hf hb), fun b hb => (k2.foot b hb).elim (h3 b) (Nat.le_trans h7.size), h4, fun b hb hq => (k2.foot b hb).elim (fun e => h5 b e hq) (fun e => absurd (h2.lt hq) (Nat.not_lt.2 e)), fun b hb => ⟨fun hf => (k2.foot b hf).elim (h6 b hb).1 (fun e => absurd (h8 b hb) (Nat.not_lt.2 e)), (h6 b hb).2⟩⟩,
    h7.trans (k2.only.below h7.size h3), fun x hx => Nat.lt_of_lt_of_le (h8 x hx) k2.only.size⟩, F, k2.only, fun x hx => (h6 x hx).1⟩
theorem two_r {w0 : World} {P Q R : Nat} {vs vs' : List Value} {L M' : List (List Int)} {H F : Nat → Prop} {w w' : World} (h1 : RAt P F L w) (h3 : ∀ b, F b → w0.heap.size ≤ b) (h4 : ∀ b, QF Q R vs b → w0.heap.size ≤ b) (h5 : ∀ b, F b → ¬ QF Q R vs b) (h6 : ∀ b, H b → ¬ F b ∧ ¬ QF Q R vs b)
    (h7 : Below w0.heap.size w0 w) (h8 : ∀ x, H x → x < w.heap.size) (k : QGo Q R vs w vs' M' w') : Two w0 P Q L M' H w' ∧ ∃ D, Only D w w' ∧ ∀ x, H x → ¬ D x :=
  ⟨⟨⟨F, R, vs', h1.only k.only h5, k.qm, h3, fun b hb => (k.foot b hb).elim (h4 b) (Nat.le_trans h7.size), fun b hb hq => (k.foot b hq).elim (h5 b hb) (fun e => absurd (h1.lt hb) (Nat.not_lt.2 e)), fun b hb => ⟨(h6 b hb).1, fun hq => (k.foot b hq).elim (h6 b hb).2 (fun e => absurd (h8 b hb) (Nat.not_lt.2 e))⟩⟩,
    h7.trans (k.only.below h7.size h4), fun x hx => Nat.lt_of_lt_of_le (h8 x hx) k.only.size⟩, QF Q R vs, k.only, fun x hx => (h6 x hx).2⟩
theorem two_front_l {w0 : World} {P Q : Nat} {L M : List (List Int)} {H : Nat → Prop} {w : World} (h : Two w0 P Q L M H w) (r z : Int) (hz : i64ok z) :
    Calls Try.prog 40 #[.pointer (some ⟨P, 0, none⟩), .int .i64 r, .int .i64 z] w fun e w' => e = .returned (.bool (decide (May L.length r z))) ∧ Two w0 P Q (opFront L r z) M H w' ∧ ∃ D, Only D w w' ∧ ∀ x, H x → ¬ D x := by
  obtain ⟨⟨F, R, vs, h1, h2, h3, h4, h5, h6⟩, h7, h8⟩ := h
  refine (at_front h1 r z hz).mono ?_
  rintro e w' ⟨he, F', k1, k2⟩
  exact ⟨he, two_l h2 h3 h4 h5 h6 h7 h8 k1 k2⟩
theorem two_front_r {w0 : World} {P Q : Nat} {L M : List (List Int)} {H : Nat → Prop} {w : World} (h : Two w0 P Q L M H w) (r z : Int) :
    Calls Try.prog 47 #[.pointer (some ⟨Q, 0, none⟩), .int .i64 r, .int .i64 z] w fun e w' => e = .returned (.bool (decide (May M.length r z))) ∧ Two w0 P Q L (opFront M r z) H w' ∧ ∃ D, Only D w w' ∧ ∀ x, H x → ¬ D x := by
  obtain ⟨⟨F, R, vs, h1, h2, h3, h4, h5, h6⟩, h7, h8⟩ := h
  refine (qfront_any h2 r z).mono ?_
  rintro e w' ⟨he, vs', k⟩
  exact ⟨he, two_r h1 h3 h4 h5 h6 h7 h8 k⟩
theorem two_take_l {w0 : World} {P Q : Nat} {L M : List (List Int)} {H : Nat → Prop} {w : World} (h : Two w0 P Q L M H w) (z : Int) (hz : i64ok z) :
    Calls Try.prog 48 #[.pointer (some ⟨P, 0, none⟩), .int .i64 z] w fun e w' => e = .returned (.bool (rowOf L z).isSome) ∧ Two w0 P Q (takeL L z) M H w' ∧ ∃ D, Only D w w' ∧ ∀ x, H x → ¬ D x := by
  obtain ⟨⟨F, R, vs, h1, h2, h3, h4, h5, h6⟩, h7, h8⟩ := h
  refine (at_take h1 z hz).mono ?_
  rintro e w' ⟨he, F', k1, k2⟩
  exact ⟨he, two_l h2 h3 h4 h5 h6 h7 h8 k1 k2⟩
theorem two_take_r {w0 : World} {P Q : Nat} {L M : List (List Int)} {H : Nat → Prop} {w : World} (h : Two w0 P Q L M H w) (z : Int) :
    Calls Try.prog 49 #[.pointer (some ⟨Q, 0, none⟩), .int .i64 z] w fun e w' => e = .returned (.bool (rowOf M z).isSome) ∧ Two w0 P Q L (takeL M z) H w' ∧ ∃ D, Only D w w' ∧ ∀ x, H x → ¬ D x := by
  obtain ⟨⟨F, R, vs, h1, h2, h3, h4, h5, h6⟩, h7, h8⟩ := h
  refine (qtake_any h2 z).mono ?_
  rintro e w' ⟨he, vs', k⟩
  exact ⟨he, two_r h1 h3 h4 h5 h6 h7 h8 k⟩
theorem two_row_l {w0 : World} {P Q : Nat} {L M : List (List Int)} {H : Nat → Prop} {w : World} (h : Two w0 P Q L M H w) (z : Int) (hz : i64ok z) :
    Calls Try.prog 39 #[.pointer (some ⟨P, 0, none⟩), .int .i64 z] w fun e w' => e = .returned (.int .i64 (rv (rowOf L z))) ∧ w = w' := by obtain ⟨F, R, vs, h1, _⟩ := h.rows; exact at_row h1 z hz
theorem two_row_r {w0 : World} {P Q : Nat} {L M : List (List Int)} {H : Nat → Prop} {w : World} (h : Two w0 P Q L M H w) (z : Int) :
    Calls Try.prog 50 #[.pointer (some ⟨Q, 0, none⟩), .int .i64 z] w fun e w' => e = .returned (.int .i64 (rv (rowOf M z))) ∧ w = w' := by obtain ⟨F, R, vs, _, h2, _⟩ := h.rows; exact qrow_any h2 z
theorem two_len_l {w0 : World} {P Q : Nat} {L M : List (List Int)} {H : Nat → Prop} {w : World} (h : Two w0 P Q L M H w) (r : Int) :
    Calls Try.prog 59 #[.pointer (some ⟨P, 0, none⟩), .int .i64 r] w fun e w' => e = .returned (.int .i64 ((rowAt L r).length)) ∧ w = w' := by obtain ⟨F, R, vs, h1, _⟩ := h.rows; exact at_len h1 r
theorem two_len_r {w0 : World} {P Q : Nat} {L M : List (List Int)} {H : Nat → Prop} {w : World} (h : Two w0 P Q L M H w) (r : Int) :
    Calls Try.prog 53 #[.pointer (some ⟨Q, 0, none⟩), .int .i64 r] w fun e w' => e = .returned (.int .i64 ((rowAt M r).length)) ∧ w = w' := by obtain ⟨F, R, vs, _, h2, _⟩ := h.rows; exact qlen_any h2 r
theorem two_last_l {w0 : World} {P Q : Nat} {L M : List (List Int)} {H : Nat → Prop} {w : World} (h : Two w0 P Q L M H w) (r : Int) :
    Calls Try.prog 43 #[.pointer (some ⟨P, 0, none⟩), .int .i64 r] w fun e w' => e = .returned (.int .i64 (lastOf (rowAt L r))) ∧ w = w' := by obtain ⟨F, R, vs, h1, _⟩ := h.rows; exact at_last h1 r
theorem two_last_r {w0 : World} {P Q : Nat} {L M : List (List Int)} {H : Nat → Prop} {w : World} (h : Two w0 P Q L M H w) (r : Int) :
    Calls Try.prog 54 #[.pointer (some ⟨Q, 0, none⟩), .int .i64 r] w fun e w' => e = .returned (.int .i64 (lastOf (rowAt M r))) ∧ w = w' := by obtain ⟨F, R, vs, _, h2, _⟩ := h.rows; exact qlast_any h2 r
theorem two_all_l {w0 : World} {P Q : Nat} {L M : List (List Int)} {H : Nat → Prop} {w : World} (h : Two w0 P Q L M H w) (r : Int) :
    Calls Try.prog 37 #[.pointer (some ⟨P, 0, none⟩), .int .i64 r] w fun e w' => ∃ v, e = .returned v ∧ w'.ownsRow w.heap.size 3 1 v (rowAt L r).length (ic (rowAt L r)) ∧ Below w.heap.size w w' := by obtain ⟨F, R, vs, h1, _⟩ := h.rows; exact at_all h1 r
theorem two_all_r {w0 : World} {P Q : Nat} {L M : List (List Int)} {H : Nat → Prop} {w : World} (h : Two w0 P Q L M H w) (r : Int) :
    Calls Try.prog 18 #[.pointer (some ⟨Q, 0, none⟩), .int .i64 r] w fun e w' => ∃ v, e = .returned v ∧ w.ownsRow 0 3 1 v (rowAt M r).length (ic (rowAt M r)) ∧ w = w' := by obtain ⟨F, R, vs, _, h2, _⟩ := h.rows; exact qall_any h2 r
theorem two_new {w0 w1 w2 : World} {P Q R n : Nat} {F : Nat → Prop} {vs : List Value} (h1 : RAt P F (List.replicate n []) w1) (b1 : Below w0.heap.size w0 w1) (f1 : ∀ b, F b → w0.heap.size ≤ b) (h2 : QM Q R vs (List.replicate n []) w2) (b2 : Below w1.heap.size w1 w2) (f2 : ∀ b, QF Q R vs b → w1.heap.size ≤ b) :
    Two w0 P Q (List.replicate n []) (List.replicate n []) (fun _ => False) w2 :=
  ⟨⟨F, R, vs, h1.below b2, h2, f1, fun b hb => Nat.le_trans b1.size (f2 b hb), fun b hb hq => absurd (h1.lt hb) (Nat.not_lt.2 (f2 b hq)), fun _ hx => hx.elim⟩, b1.trans (b2.mono b1.size), fun _ hx => hx.elim⟩
theorem row_le {L : List (List Int)} (h : GoodL L) (r : Int) : (rowAt L r).length ≤ 4194304 := by
  by_cases hr : 0 ≤ r ∧ r < L.length
  · obtain ⟨i, rfl⟩ : ∃ i : Nat, r = i := ⟨r.toNat, by omega⟩
    obtain ⟨l, hl⟩ : ∃ l, L[i]? = some l := ⟨_, List.getElem?_eq_getElem (by omega)⟩
    rw [rowAt_nat hl]; exact h.len hl
  · rw [rowAt_no hr]; exact Nat.zero_le _
end Go.Proofs.Ytkhmgigllcgpnaa

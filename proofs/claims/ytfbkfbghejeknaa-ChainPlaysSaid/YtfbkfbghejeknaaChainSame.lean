/-
  The law ChainSame at this program: two tables that are set and cleared alike tell the same, however one of them is stepped. Conditions: the texts and the bools lie in memory; a text takes at most 2^63 - 1 bytes.
-/
import Derived.Test.YtfbkfbghejeknaaChainFront
namespace Go.Proofs.Ytfbkfbghejeknaa
open Go Go.Shelf Go.RowKit Go.Lib

structure Pair9 (w0 : World) (P : Nat) (s : Tb) (Q : Nat) (u : Tb) (w : World) : Prop where
  a : HasT w0 P s (fun _ => False) w
  b : HasT w0 Q u (fun _ => False) w
  ne : ∀ x, Ft P s x → ¬ Ft Q u x
theorem HasT.beside {w0 : World} {P Q : Nat} {s s' u : Tb} {w w' : World} (h : HasT w0 P s (fun _ => False) w) (k : HasT w0 Q u (fun _ => False) w) (hn : ∀ x, Ft P s x → ¬ Ft Q u x) (g : Go9 Q u w s' w') : HasT w0 P s (fun _ => False) w' :=
  ⟨h.tm.only g.only hn, h.ok, h.sm, h.base, h.below.trans (g.only.below h.below.size k.base), fun _ hx => hx.elim⟩
theorem Pair9.left {w0 : World} {P Q : Nat} {s s' u : Tb} {w w' : World} (h : Pair9 w0 P s Q u w) (g : Go9 P s w s' w') (sm : s'.sm) : Pair9 w0 P s' Q u w' :=
  ⟨h.a.go g sm, h.b.beside h.a (fun x h1 h2 => h.ne x h2 h1) g, fun x h1 h2 => (g.foot x h1).elim (fun e => h.ne x e h2) (fun e => absurd (h.b.tm.lt x h2) (Nat.not_lt.2 e))⟩
theorem Pair9.right {w0 : World} {P Q : Nat} {s u u' : Tb} {w w' : World} (h : Pair9 w0 P s Q u w) (g : Go9 Q u w u' w') (sm : u'.sm) : Pair9 w0 P s Q u' w' :=
  ⟨h.a.beside h.b h.ne g, h.b.go g sm, fun x h1 h2 => (g.foot x h2).elim (fun e => h.ne x h1 e) (fun e => absurd (h.a.tm.lt x h1) (Nat.not_lt.2 e))⟩
theorem Pair9.after {w0 : World} {P Q : Nat} {s u : Tb} {w w' : World} (h : Pair9 w0 P s Q u w) (hb : Below w.heap.size w w') : Pair9 w0 P s Q u w' := ⟨h.a.after hb, h.b.after hb, h.ne⟩

/-- What the two tell. -/
structure Al (s u : Tb) (i : Nat) : Prop where
  get : ∀ x, s.get x = u.get x
  cnt : s.cnt = u.cnt
  le : s.cnt ≤ i
theorem Al.set {s u : Tb} {i : Nat} (h : Al s u i) (o : Ok s) (p : Ok u) (b c b' c' : Nat) (k : ByteArray) (n : Int) : Al (s.set b c k n) (u.set b' c' k n) (i + 1) := by
  refine ⟨fun x => by rw [o.get_set, p.get_set, h.get], by rw [o.cnt_set, p.cnt_set, h.get, h.cnt], ?_⟩
  rw [o.cnt_set]
  have := h.le
  split <;> omega
theorem Al.del {s u : Tb} {i : Nat} (h : Al s u i) (o : Ok s) (p : Ok u) (k : ByteArray) : Al (s.del k) (u.del k) (i + 1) := by
  refine ⟨fun x => by rw [o.get_del, p.get_del, h.get], by rw [o.cnt_del, p.cnt_del, h.get, h.cnt], ?_⟩
  rw [o.cnt_del]
  have := h.le
  split <;> omega
theorem Al.step {s u : Tb} {i : Nat} (h : Al s u i) (p : Ok u) : Al s u.step i := ⟨fun x => by rw [p.get_step, h.get], by rw [p.cnt_step, h.cnt], h.le⟩

def Bools (w : World) (a : Option Addr) (n : Nat) (B : Nat → Bool) : Prop := ∀ j, j < n → ∃ b o, a = some ⟨b, o, none⟩ ∧ b < w.heap.size ∧ w.cell? ⟨b, o + j, none⟩ = some (.bool (B j))

set_option maxRecDepth 100000 in
set_option maxHeartbeats 4000000 in
theorem same_law (a : Option Addr) (n c0 : Nat) (xs : List ByteArray) (d : Option Addr) (m c1 : Nat) (D : Nat → Bool) (w : World) (hx : Strs w a n xs) (hd : Bools w d m D) (hs : ∀ x ∈ xs, x.size ≤ 9223372036854775807) :
    Calls Try.prog 7 #[.slice a n c0, .slice d m c1] w fun e w' => e = .returned (.bool true) ∧ Below w.heap.size w w' := by
  go_enter Try.func7, Try.ntmps7
  go_wp2_with fail
  refine (shown_any w).mono ?_
  rintro e w1 ⟨rfl, b1⟩
  go_wp2_with fail
  refine (has_new w1).mono ?_
  rintro e w2 ⟨P, c, rfl, hT⟩
  go_wp2_with fail
  refine (has_new w2).mono ?_
  rintro e w3 ⟨Q, c', rfl, hU⟩
  have hP0 : Pair9 w1 P (Tb.first c) Q (Tb.first c') w3 := ⟨hT.after hU.below, ⟨hU.tm, hU.ok, hU.sm, fun x hx => Nat.le_trans hT.below.size (hU.base x hx), hT.below.trans (hU.below.mono hT.below.size), fun _ hx => hx.elim⟩,
    fun x h1 h2 => absurd (hT.tm.lt x h1) (Nat.not_lt.2 (hU.base x h2))⟩
  have HP := hid hP0
  have hA0 : Hid (Al (Tb.first c) (Tb.first c') 0) := hid ⟨fun x => by rw [get_first, get_first], rfl, Nat.le_refl _⟩
  clear hT hU hP0
  go_wp2_with fail
  go_loopw [8] (fun p wr => ∃ (i : Nat) (s u : Tb), p = .int .i64 i ∧ i ≤ 200 ∧ i ≤ n ∧ Hid (Al s u i) ∧ Hid (Pair9 w1 P s Q u wr)) (fun p _ => 200 - (RowKit.intOf p).toNat)
  case atStart => exact ⟨0, _, _, rfl, Nat.zero_le _, Nat.zero_le _, hA0, HP⟩
  case round =>
    obtain ⟨i, s, u, rfl, hi, hin, hA, hP⟩ := hrel
    clear HP hA0
    by_cases hlt : i < n ∧ i < 200
    · obtain ⟨l1, l2⟩ := hlt
      obtain ⟨x, hxi⟩ : ∃ x, xs[i]? = some x := ⟨_, List.getElem?_eq_getElem (by rw [hx.1]; exact l1)⟩
      obtain ⟨B, o, rfl, hB, hc⟩ := hx.2 i x hxi
      have hcw := ((Below.then b1 hP.out.a.below).cell (p := ⟨B, o + i, none⟩) hB).trans hc
      clear hxi
      by_cases hsz : x.size ≤ 1000
      · by_cases hm : i < m ∧ D i = true
        · obtain ⟨hm1, hm2⟩ := hm
          obtain ⟨B', o', rfl, hB', hc'⟩ := hd i hm1
          rw [hm2] at hc'
          have hcd := ((Below.then b1 hP.out.a.below).cell (p := ⟨B', o' + i, none⟩) hB').trans hc'
          clear hm2 hc'
          have hd1 := del_any (hP.out.a.after (Below.refl _ wr).drew).tm hP.out.a.ok x (by omega) (by have := hA.out.le; omega)
          have hP1 : ∀ w5, Go9 P s wr.drew (s.del x) w5 → Hid (Pair9 w1 P (s.del x) Q u w5) := fun w5 g => hid ((hP.out.after (Below.refl _ wr).drew).left g (del_sm hP.out.a.ok hP.out.a.sm x))
          have hgu := hA.out.get x
          have hcu : u.cnt ≤ 1000000000 := by rw [← hA.out.cnt]; have := hA.out.le; omega
          rw [hgu] at hd1
          have hd2 : ∀ w5, Hid (Pair9 w1 P (s.del x) Q u w5) → Hid (Calls Try.prog 20 #[.pointer (some ⟨Q, 0, none⟩), .string x] w5 fun e w' => e = .returned (.bool (u.get x).isSome) ∧ Hid (Pair9 w1 P (s.del x) Q (u.del x) w')) := fun w5 h5 => hid ((del_any h5.out.b.tm h5.out.b.ok x (by omega) hcu).mono fun _ _ ⟨he, g6⟩ => ⟨he, hid (h5.out.right g6 (del_sm h5.out.b.ok h5.out.b.sm x))⟩)
          have hcell : ∀ w5 t v, Hid (Pair9 w1 P t Q v w5) → w5.cell? ⟨B, o + i, none⟩ = some (.string x) := fun w5 t v h5 => ((Below.then b1 h5.out.a.below).cell (p := ⟨B, o + i, none⟩) hB).trans hc
          have HA := hid (hA.out.del hP.out.a.ok hP.out.b.ok x)
          generalize (u.get x).isSome = g at *
          have l1i : (i : Int) < (n : Int) := by omega
          have i0 : (0 : Int) ≤ (i : Int) := by omega
          have hcd' : wr.drew.cell? ⟨B, o + i, none⟩ = some (.string x) := hcw
          clear hA hP hgu hcu
          go_wp2_with fail
          go_region_held3 (fun w' => w'.cell? ⟨B, o + i, none⟩ = some (.string x)) (first | exact hc6 | exact hc5 | exact hcd') (first | (have hz := HD; go_at_call 20; refine HD.out.mono ?_; rintro e w6 ⟨rfl, hP6⟩; have hc6 := hcell _ _ _ hP6) | (go_at_call 20; refine hd1.mono ?_; rintro e w5 ⟨rfl, g5⟩; have hP5 := hP1 w5 g5; have hc5 := hcell _ _ _ hP5; have HD := hd2 _ hP5; clear g5 hP5))
          clear HD hz hd1 hd2 hP1 hcell hc5 hcd hcd' hB'
          have hst := step_any hP6.out.b.tm hP6.out.b.ok hP6.out.b.sm
          have hr7 : ∀ w7, Go9 Q (u.del x) w6 (u.del x).step w7 → Hid (Pair9 w1 P (s.del x) Q (u.del x).step w7) := fun w7 g => hid (hP6.out.right g (step_sm hP6.out.b.ok hP6.out.b.sm))
          have HA7 := hid (HA.out.step hP6.out.b.ok)
          generalize (u.del x).step = u7 at *
          generalize s.del x = s7 at *
          clear HA hP6 hc6
          go_wp2_with fail
          refine hst.mono ?_
          rintro e w7 ⟨rfl, g7⟩
          have hP7 := hr7 w7 g7
          clear hst hr7 g7
          have hst := step_any hP7.out.b.tm hP7.out.b.ok hP7.out.b.sm
          have hr8 : ∀ w8, Go9 Q u7 w7 u7.step w8 → Hid (Pair9 w1 P s7 Q u7.step w8) := fun w8 g => hid (hP7.out.right g (step_sm hP7.out.b.ok hP7.out.b.sm))
          have HA8 := hid (HA7.out.step hP7.out.b.ok)
          generalize u7.step = u8 at *
          clear HA7
          go_wp2_with fail
          refine hst.mono ?_
          rintro e w8 ⟨rfl, g8⟩
          have hP8 := hr8 w8 g8
          clear hst hr8 g8
          have hl1 := len_any hP8.out.a.tm
          have hl2 := len_any hP8.out.b.tm
          rw [← HA8.out.cnt] at hl2
          go_wp2_with fail
          refine hl1.mono ?_
          rintro e w9 ⟨rfl, rfl⟩
          go_wp2_with fail
          refine hl2.mono ?_
          rintro e w9 ⟨rfl, rfl⟩
          go_wp2_with fail
          go_roundw
          case rel => exact ⟨i + 1, s7, u8, by go_num, by omega, by omega, HA8, hP8⟩
          case measure => simp [RowKit.intOf] <;> omega
        · rcases (show m ≤ i ∨ (i < m ∧ D i = false) by
            by_cases h : i < m
            · exact .inr ⟨h, Bool.eq_false_iff.2 (fun e => hm ⟨h, e⟩)⟩
            · exact .inl (by omega)) with hm0 | ⟨hm1, hm2⟩
          · have hm0i : (m : Int) ≤ (i : Int) := by omega
            have hs1 := set_any hP.out.a.tm hP.out.a.ok x (by omega) (i : Int) (by have := hA.out.le; omega)
            have hr1 : ∀ b c w5, Go9 P s wr (s.set b c x (i : Int)) w5 → Hid (Pair9 w1 P (s.set b c x (i : Int)) Q u w5) := fun b c w5 g => hid (hP.out.left g (set_sm hP.out.a.ok hP.out.a.sm b c (by omega) (i : Int)))
            have hs2 : ∀ s' w5, Hid (Pair9 w1 P s' Q u w5) → Hid (Calls Try.prog 19 #[.pointer (some ⟨Q, 0, none⟩), .string x, .int .i64 i] w5 fun e w' => e = .returned (.tuple #[]) ∧ ∃ b c, Hid (Pair9 w1 P s' Q (u.set b c x (i : Int)) w')) := fun s' w5 h5 => hid ((set_any h5.out.b.tm h5.out.b.ok x (by omega) (i : Int) (by rw [← hA.out.cnt]; have := hA.out.le; omega)).mono fun _ _ ⟨he, b, c, g6⟩ => ⟨he, b, c, hid (h5.out.right g6 (set_sm h5.out.b.ok h5.out.b.sm b c (by omega) (i : Int)))⟩)
            have hcell : ∀ w5 t v, Hid (Pair9 w1 P t Q v w5) → w5.cell? ⟨B, o + i, none⟩ = some (.string x) := fun w5 t v h5 => ((Below.then b1 h5.out.a.below).cell (p := ⟨B, o + i, none⟩) hB).trans hc
            have HA := fun b c b' c' => hid (hA.out.set hP.out.a.ok hP.out.b.ok b c b' c' x (i : Int))
            clear hA hP
            go_wp2_with fail
            refine hs1.mono ?_
            rintro e w5 ⟨rfl, b, c5, g5⟩
            have hP5 := hr1 b c5 w5 g5
            have hc5 := hcell _ _ _ hP5
            have hs2' := hs2 _ _ hP5
            clear hs1 hr1 g5 hs2
            go_wp2_with fail
            refine hs2'.out.mono ?_
            rintro e w6 ⟨rfl, b', c6, hP6⟩
            have HA6 := HA b c5 b' c6
            clear hs2' hP5 hc5 HA hcell
            have hst := step_any hP6.out.b.tm hP6.out.b.ok hP6.out.b.sm
            have hr7 : ∀ w7, Go9 Q (u.set b' c6 x (i : Int)) w6 (u.set b' c6 x (i : Int)).step w7 → Hid (Pair9 w1 P (s.set b c5 x (i : Int)) Q (u.set b' c6 x (i : Int)).step w7) := fun w7 g => hid (hP6.out.right g (step_sm hP6.out.b.ok hP6.out.b.sm))
            have HA7 := hid (HA6.out.step hP6.out.b.ok)
            generalize (u.set b' c6 x (i : Int)).step = u7 at *
            generalize s.set b c5 x (i : Int) = s7 at *
            clear HA6 hP6
            go_wp2_with fail
            refine hst.mono ?_
            rintro e w7 ⟨rfl, g7⟩
            have hP7 := hr7 w7 g7
            clear hst hr7 g7
            have hst := step_any hP7.out.b.tm hP7.out.b.ok hP7.out.b.sm
            have hr8 : ∀ w8, Go9 Q u7 w7 u7.step w8 → Hid (Pair9 w1 P s7 Q u7.step w8) := fun w8 g => hid (hP7.out.right g (step_sm hP7.out.b.ok hP7.out.b.sm))
            have HA8 := hid (HA7.out.step hP7.out.b.ok)
            generalize u7.step = u8 at *
            clear HA7
            go_wp2_with fail
            refine hst.mono ?_
            rintro e w8 ⟨rfl, g8⟩
            have hP8 := hr8 w8 g8
            clear hst hr8 g8
            have hl1 := len_any hP8.out.a.tm
            have hl2 := len_any hP8.out.b.tm
            rw [← HA8.out.cnt] at hl2
            go_wp2_with fail
            refine hl1.mono ?_
            rintro e w9 ⟨rfl, rfl⟩
            go_wp2_with fail
            refine hl2.mono ?_
            rintro e w9 ⟨rfl, rfl⟩
            go_wp2_with fail
            go_roundw
            case rel => exact ⟨i + 1, s7, u8, by go_num, by omega, by omega, HA8, hP8⟩
            case measure => simp [RowKit.intOf] <;> omega
          · obtain ⟨B', o', rfl, hB', hc'⟩ := hd i hm1
            rw [hm2] at hc'
            have hcd := ((Below.then b1 hP.out.a.below).cell (p := ⟨B', o' + i, none⟩) hB').trans hc'
            clear hm2 hc' hm
            have hs1 := set_any hP.out.a.tm hP.out.a.ok x (by omega) (i : Int) (by have := hA.out.le; omega)
            have hr1 : ∀ b c w5, Go9 P s wr (s.set b c x (i : Int)) w5 → Hid (Pair9 w1 P (s.set b c x (i : Int)) Q u w5) := fun b c w5 g => hid (hP.out.left g (set_sm hP.out.a.ok hP.out.a.sm b c (by omega) (i : Int)))
            have hs2 : ∀ s' w5, Hid (Pair9 w1 P s' Q u w5) → Hid (Calls Try.prog 19 #[.pointer (some ⟨Q, 0, none⟩), .string x, .int .i64 i] w5 fun e w' => e = .returned (.tuple #[]) ∧ ∃ b c, Hid (Pair9 w1 P s' Q (u.set b c x (i : Int)) w')) := fun s' w5 h5 => hid ((set_any h5.out.b.tm h5.out.b.ok x (by omega) (i : Int) (by rw [← hA.out.cnt]; have := hA.out.le; omega)).mono fun _ _ ⟨he, b, c, g6⟩ => ⟨he, b, c, hid (h5.out.right g6 (set_sm h5.out.b.ok h5.out.b.sm b c (by omega) (i : Int)))⟩)
            have hcell : ∀ w5 t v, Hid (Pair9 w1 P t Q v w5) → w5.cell? ⟨B, o + i, none⟩ = some (.string x) := fun w5 t v h5 => ((Below.then b1 h5.out.a.below).cell (p := ⟨B, o + i, none⟩) hB).trans hc
            have HA := fun b c b' c' => hid (hA.out.set hP.out.a.ok hP.out.b.ok b c b' c' x (i : Int))
            clear hA hP
            go_wp2_with fail
            refine hs1.mono ?_
            rintro e w5 ⟨rfl, b, c5, g5⟩
            have hP5 := hr1 b c5 w5 g5
            have hc5 := hcell _ _ _ hP5
            have hs2' := hs2 _ _ hP5
            clear hs1 hr1 g5 hs2
            go_wp2_with fail
            refine hs2'.out.mono ?_
            rintro e w6 ⟨rfl, b', c6, hP6⟩
            have HA6 := HA b c5 b' c6
            clear hs2' hP5 hc5 HA hcell
            have hst := step_any hP6.out.b.tm hP6.out.b.ok hP6.out.b.sm
            have hr7 : ∀ w7, Go9 Q (u.set b' c6 x (i : Int)) w6 (u.set b' c6 x (i : Int)).step w7 → Hid (Pair9 w1 P (s.set b c5 x (i : Int)) Q (u.set b' c6 x (i : Int)).step w7) := fun w7 g => hid (hP6.out.right g (step_sm hP6.out.b.ok hP6.out.b.sm))
            have HA7 := hid (HA6.out.step hP6.out.b.ok)
            generalize (u.set b' c6 x (i : Int)).step = u7 at *
            generalize s.set b c5 x (i : Int) = s7 at *
            clear HA6 hP6
            go_wp2_with fail
            refine hst.mono ?_
            rintro e w7 ⟨rfl, g7⟩
            have hP7 := hr7 w7 g7
            clear hst hr7 g7
            have hst := step_any hP7.out.b.tm hP7.out.b.ok hP7.out.b.sm
            have hr8 : ∀ w8, Go9 Q u7 w7 u7.step w8 → Hid (Pair9 w1 P s7 Q u7.step w8) := fun w8 g => hid (hP7.out.right g (step_sm hP7.out.b.ok hP7.out.b.sm))
            have HA8 := hid (HA7.out.step hP7.out.b.ok)
            generalize u7.step = u8 at *
            clear HA7
            go_wp2_with fail
            refine hst.mono ?_
            rintro e w8 ⟨rfl, g8⟩
            have hP8 := hr8 w8 g8
            clear hst hr8 g8
            have hl1 := len_any hP8.out.a.tm
            have hl2 := len_any hP8.out.b.tm
            rw [← HA8.out.cnt] at hl2
            go_wp2_with fail
            refine hl1.mono ?_
            rintro e w9 ⟨rfl, rfl⟩
            go_wp2_with fail
            refine hl2.mono ?_
            rintro e w9 ⟨rfl, rfl⟩
            go_wp2_with fail
            go_roundw
            case rel => exact ⟨i + 1, s7, u8, by go_num, by omega, by omega, HA8, hP8⟩
            case measure => simp [RowKit.intOf] <;> omega
      · have HA' : Hid (Al s u (i + 1)) := hid ⟨hA.out.get, hA.out.cnt, by have := hA.out.le; omega⟩
        go_wp2_with fail
        go_roundw
        case rel => exact ⟨i + 1, s, u, by go_num, by omega, by omega, HA', hP⟩
        case measure => simp [RowKit.intOf] <;> omega
    · have hcase : i = n ∨ (i < n ∧ i = 200) := by omega
      clear hlt
      rcases hcase with h0 | ⟨h0, h1⟩
      · have h0' : (n : Int) ≤ (i : Int) := by omega
        clear h0 hi hin
        go_wp2_with fail
        go_loopw [9] (fun p wr => ∃ j : Nat, p = .int .i64 j ∧ j ≤ 200 ∧ j ≤ n ∧ Hid (Pair9 w1 P s Q u wr)) (fun p _ => 200 - (RowKit.intOf p).toNat)
        case atStart => exact ⟨0, rfl, Nat.zero_le _, Nat.zero_le _, hP⟩
        case round =>
          clear hP
          obtain ⟨j, rfl, hj, hjn, hP⟩ := hrel
          by_cases hlt : j < n ∧ j < 200
          · obtain ⟨l1, l2⟩ := hlt
            obtain ⟨x, hxi⟩ : ∃ x, xs[j]? = some x := ⟨_, List.getElem?_eq_getElem (by rw [hx.1]; exact l1)⟩
            obtain ⟨B, o, rfl, hB, hc⟩ := hx.2 j x hxi
            have hcell : ∀ w5, Hid (Pair9 w1 P s Q u w5) → w5.cell? ⟨B, o + j, none⟩ = some (.string x) := fun w5 h5 => ((Below.then b1 h5.out.a.below).cell (p := ⟨B, o + j, none⟩) hB).trans hc
            have hcw := hcell _ hP
            have hxs := hs x (List.mem_of_getElem? hxi)
            have hg1 := get_any hP.out.a.tm hP.out.a.ok.mid x hxs
            have hg2 : ∀ w5, Hid (Pair9 w1 P s Q u w5) → Hid (Calls Try.prog 22 #[.pointer (some ⟨Q, 0, none⟩), .string x] w5 fun e w' => e = .returned (.tuple #[.int .i64 ((s.get x).getD 0), .bool (s.get x).isSome]) ∧ Below w5.heap.size w5 w') := fun w5 h5 => hid (by rw [hA.out.get x]; exact get_any h5.out.b.tm h5.out.b.ok.mid x hxs)
            have hr : ∀ w5, Below wr.heap.size wr w5 → Hid (Pair9 w1 P s Q u w5) := fun w5 b5 => hid (hP.out.after b5)
            generalize (s.get x).getD 0 = V at *
            generalize (s.get x).isSome = G at *
            clear hP hxi
            go_wp2_with fail
            refine hg1.mono ?_
            rintro e w5 ⟨rfl, b5⟩
            have hP5 := hr w5 b5
            have hc5 := hcell _ hP5
            have hg2' := hg2 _ hP5
            clear hg1 hg2 hr
            go_wp2_with fail
            refine hg2'.out.mono ?_
            rintro e w6 ⟨rfl, b6⟩
            have hP6 := hid (hP5.out.after b6)
            clear hg2' hP5
            go_wp2_with fail
            go_roundw
            case rel => exact ⟨j + 1, by go_num, by omega, by omega, hP6⟩
            case measure => simp [RowKit.intOf] <;> omega
          · have hcase : j = n ∨ (j < n ∧ j = 200) := by omega
            clear hlt
            rcases hcase with h0 | ⟨h0, h1⟩
            · have h0' : (n : Int) ≤ (j : Int) := by omega
              clear h0
              go_wp2_with fail
              go_ret
              exact ⟨rfl, Below.then b1 hP.out.a.below⟩
            · have h0' : (j : Int) < (n : Int) := by omega
              have h1' : (200 : Int) ≤ (j : Int) := by omega
              clear h0 h1
              go_wp2_with fail
              go_ret
              exact ⟨rfl, Below.then b1 hP.out.a.below⟩
      · have h0' : (i : Int) < (n : Int) := by omega
        have h1' : (200 : Int) ≤ (i : Int) := by omega
        clear h0 h1 hi hin
        go_wp2_with fail
        go_loopw [9] (fun p wr => ∃ j : Nat, p = .int .i64 j ∧ j ≤ 200 ∧ j ≤ n ∧ Hid (Pair9 w1 P s Q u wr)) (fun p _ => 200 - (RowKit.intOf p).toNat)
        case atStart => exact ⟨0, rfl, Nat.zero_le _, Nat.zero_le _, hP⟩
        case round =>
          clear hP
          obtain ⟨j, rfl, hj, hjn, hP⟩ := hrel
          by_cases hlt : j < n ∧ j < 200
          · obtain ⟨l1, l2⟩ := hlt
            obtain ⟨x, hxi⟩ : ∃ x, xs[j]? = some x := ⟨_, List.getElem?_eq_getElem (by rw [hx.1]; exact l1)⟩
            obtain ⟨B, o, rfl, hB, hc⟩ := hx.2 j x hxi
            have hcell : ∀ w5, Hid (Pair9 w1 P s Q u w5) → w5.cell? ⟨B, o + j, none⟩ = some (.string x) := fun w5 h5 => ((Below.then b1 h5.out.a.below).cell (p := ⟨B, o + j, none⟩) hB).trans hc
            have hcw := hcell _ hP
            have hxs := hs x (List.mem_of_getElem? hxi)
            have hg1 := get_any hP.out.a.tm hP.out.a.ok.mid x hxs
            have hg2 : ∀ w5, Hid (Pair9 w1 P s Q u w5) → Hid (Calls Try.prog 22 #[.pointer (some ⟨Q, 0, none⟩), .string x] w5 fun e w' => e = .returned (.tuple #[.int .i64 ((s.get x).getD 0), .bool (s.get x).isSome]) ∧ Below w5.heap.size w5 w') := fun w5 h5 => hid (by rw [hA.out.get x]; exact get_any h5.out.b.tm h5.out.b.ok.mid x hxs)
            have hr : ∀ w5, Below wr.heap.size wr w5 → Hid (Pair9 w1 P s Q u w5) := fun w5 b5 => hid (hP.out.after b5)
            generalize (s.get x).getD 0 = V at *
            generalize (s.get x).isSome = G at *
            clear hP hxi
            go_wp2_with fail
            refine hg1.mono ?_
            rintro e w5 ⟨rfl, b5⟩
            have hP5 := hr w5 b5
            have hc5 := hcell _ hP5
            have hg2' := hg2 _ hP5
            clear hg1 hg2 hr
            go_wp2_with fail
            refine hg2'.out.mono ?_
            rintro e w6 ⟨rfl, b6⟩
            have hP6 := hid (hP5.out.after b6)
            clear hg2' hP5
            go_wp2_with fail
            go_roundw
            case rel => exact ⟨j + 1, by go_num, by omega, by omega, hP6⟩
            case measure => simp [RowKit.intOf] <;> omega
          · have hcase : j = n ∨ (j < n ∧ j = 200) := by omega
            clear hlt
            rcases hcase with h0 | ⟨h0, h1⟩
            · exfalso; omega
            · have h0' : (j : Int) < (n : Int) := by omega
              have h1' : (200 : Int) ≤ (j : Int) := by omega
              clear h0 h1
              go_wp2_with fail
              go_ret
              exact ⟨rfl, Below.then b1 hP.out.a.below⟩
end Go.Proofs.Ytfbkfbghejeknaa

/-
  What the statements of this layer ask first: seven keys set, a move, a look and two deletes answer as they must. No conditions.
-/
import Derived.Test.YtfbkfbghejeknaaChainHas
namespace Go.Proofs.Ytfbkfbghejeknaa
open Go Go.Shelf Go.RowKit Go.Lib

/-- The letters a to g. -/
def letter : Nat → ByteArray
  | 0 => ⟨#[97]⟩ | 1 => ⟨#[98]⟩ | 2 => ⟨#[99]⟩ | 3 => ⟨#[100]⟩ | 4 => ⟨#[101]⟩ | 5 => ⟨#[102]⟩ | _ => ⟨#[103]⟩
theorem letter_size (i : Nat) : (letter i).size = 1 := by unfold letter; split <;> rfl
theorem letter_data (i : Nat) : (letter i).data = #[(letter i).data[0]?.getD 0] := by unfold letter; split <;> rfl
theorem letter_inj : ∀ i < 7, ∀ j < 7, (letter i).data[0]? = (letter j).data[0]? → i = j := by decide
theorem letter_ne {i j : Nat} (hi : i < 7) (hj : j < 7) (h : letter i = letter j) : i = j := letter_inj i hi j hj (by rw [h])
abbrev six : List Value := [.string ⟨#[97]⟩, .string ⟨#[98]⟩, .string ⟨#[99]⟩, .string ⟨#[100]⟩, .string ⟨#[101]⟩, .string ⟨#[102]⟩]
theorem six_at {i : Nat} (h : i < 6) : six[i]? = some (.string (letter i)) := by
  have : i = 0 ∨ i = 1 ∨ i = 2 ∨ i = 3 ∨ i = 4 ∨ i = 5 := by omega
  rcases this with rfl | rfl | rfl | rfl | rfl | rfl <;> rfl

/-- Behind j letters. -/
structure Sh (s : Tb) (j : Nat) : Prop where
  cnt : s.cnt = j
  old : s.old = []
  pow : s.pow = 2
  get : ∀ x, s.get x ≠ none → ∃ i, i < j ∧ x = letter i
  num : ∀ i, i < j → s.get (letter i) = some (i : Int)
theorem get_first (c : Nat) (x : ByteArray) : (Tb.first c).get x = none := by
  rw [get_nil (first_ok c)]
  intro e he
  cases he
theorem sh_first (c : Nat) : Sh (Tb.first c) 0 := ⟨rfl, rfl, rfl, fun x hx => (hx (get_first c x)).elim, fun i hi => absurd hi (Nat.not_lt_zero i)⟩
theorem Sh.not_in {s : Tb} {j : Nat} (h : Sh s j) (hj : j < 7) : s.get (letter j) = none := by
  cases hg : s.get (letter j) with
  | none => rfl
  | some v =>
    obtain ⟨i, hi, he⟩ := h.get (letter j) (by rw [hg]; simp)
    have := letter_ne hj (by omega) he
    omega
theorem Sh.set {s : Tb} {j : Nat} (h : Sh s j) (o : Ok s) (hj : j < 6) (b c : Nat) : Sh (s.set b c (letter j) (j : Int)) (j + 1) := by
  have hn := h.not_in (by omega)
  have hw : ¬ s.will := fun hw => by
    have h1 := hw.2.1
    rw [o.mid.lenN, h.pow, h.cnt] at h1
    omega
  obtain ⟨p1, p2, p3, p4⟩ := (set_nums b c (j : Int) hn).2 hw
  refine ⟨by rw [p4, h.cnt], len0.1 (by rw [p2, h.old]; rfl), by rw [p1, h.pow], fun x hx => ?_, fun i hi => ?_⟩
  · rw [o.get_set] at hx
    split at hx
    · rename_i e; exact ⟨j, by omega, e⟩
    · obtain ⟨i, hi, e⟩ := h.get x hx; exact ⟨i, by omega, e⟩
  · rw [o.get_set]
    split
    · rename_i e
      rw [letter_ne (by omega) (by omega) e]
    · rename_i e
      have : i ≠ j := fun e1 => e (by rw [e1])
      exact h.num i (by omega)
theorem Sh.seventh {s : Tb} (h : Sh s 6) (o : Ok s) (b c : Nat) : (s.set b c (letter 6) 6).pow = 3 ∧ (s.set b c (letter 6) 6).old.length = 4 ∧ (s.set b c (letter 6) 6).moved = 0 ∧ (s.set b c (letter 6) 6).cnt = 7 ∧ (s.set b c (letter 6) 6).get (letter 2) = some 2 := by
  have hn := h.not_in (by omega)
  have hl : s.new.length = 4 := by rw [o.mid.lenN, h.pow]
  have hw : s.will := ⟨h.old, by rw [hl, h.cnt]; omega, by rw [h.pow]; omega⟩
  obtain ⟨p1, p2, p3, p4⟩ := (set_nums b c 6 hn).1 hw
  refine ⟨by rw [p1, h.pow], by rw [p2, hl], p3, by rw [p4, h.cnt], ?_⟩
  rw [o.get_set, if_neg (fun e => by have := letter_ne (by omega) (by omega) e; omega)]
  exact h.num 2 (by omega)

set_option maxRecDepth 100000 in
set_option maxHeartbeats 2000000 in
theorem shown_any (w : World) : Calls Try.prog 8 #[] w fun e w' => e = .returned (.bool true) ∧ Below w.heap.size w w' := by
  have hnew := has_new w
  go_enter Try.func8, Try.ntmps8
  go_wp2_with fail
  refine hnew.mono ?_
  rintro e w1 ⟨P, c, rfl, hT⟩
  clear hnew
  go_wp2_with fail
  have hB := Blk.new w1 six.toArray 9
  have hbb : Below w1.heap.size w1 (w1.alloc (.cells six.toArray 9)) := (Below.refl _ _).alloc (Nat.le_refl _) _
  have hT2 : HasT w P (Tb.first c) (fun x => x = w1.heap.size) (w1.alloc (.cells six.toArray 9)) := hT.more hbb (fun x hx => .inr (by rw [hx]; simp))
  generalize hL : w1.heap.size = L at *
  generalize hw2 : w1.alloc (.cells six.toArray 9) = w2 at *
  have HB := hid hB
  have HT := hid hT2
  have hS0 := hid (sh_first c)
  clear hB hT2 hT hbb hL hw2
  go_loopw [3] (fun p wr => ∃ (i : Nat) (s : Tb), p = .int .i64 i ∧ i ≤ 6 ∧ Hid (Sh s i) ∧ Hid (Blk wr L 9 six) ∧ Hid (HasT w P s (fun x => x = L) wr)) (fun p _ => 6 - (RowKit.intOf p).toNat)
  case atStart => exact ⟨0, _, rfl, Nat.zero_le _, hS0, HB, HT⟩
  case round =>
    obtain ⟨i, s, rfl, hi, hS, hBr, hTr⟩ := hrel
    clear HB HT hS0
    by_cases hlt : i < 6
    · have hc := hBr.out.cell (six_at hlt)
      have hset := has_set hTr.out (letter i) (by rw [letter_size]; omega) (i : Int) (by rw [hS.out.cnt]; omega)
      have HK := hid (fun b c => hS.out.set hTr.out.ok hlt b c)
      generalize letter i = K at *
      go_wp2_with fail
      refine hset.mono ?_
      rintro e w5 ⟨rfl, b, c', hT5, o5⟩
      have HT5 := hid hT5
      have HB5 := hid (hBr.out.only o5 (hTr.out.apart L rfl).2)
      clear hT5 hset o5
      go_wp2_with fail
      go_roundw
      case rel => exact ⟨i + 1, _, by go_num, by omega, hid (HK.out b c'), HB5, HT5⟩
      case measure => simp [RowKit.intOf] <;> omega
    · obtain rfl : i = 6 := by omega
      have hp := power_any hTr.out.tm
      have hl := len_any hTr.out.tm
      have hmv := moved_any hTr.out.tm
      rw [hS.out.pow] at hp
      rw [hS.out.cnt] at hl
      rw [show s.mv = -1 from if_pos hS.out.old] at hmv
      have hset := has_set hTr.out (letter 6) (by rw [letter_size]; omega) 6 (by rw [hS.out.cnt]; omega)
      clear hBr
      go_wp2_with fail
      refine hp.mono ?_
      rintro e w5 ⟨rfl, rfl⟩
      clear hp
      go_wp2_with fail
      refine hl.mono ?_
      rintro e w5 ⟨rfl, rfl⟩
      clear hl
      go_wp2_with fail
      refine hmv.mono ?_
      rintro e w5 ⟨rfl, rfl⟩
      clear hmv
      go_wp2_with fail
      refine hset.mono ?_
      rintro e w5 ⟨rfl, b, c', hT5, o5⟩
      clear hset
      obtain ⟨q1, q2, q3, q4, q5⟩ := hS.out.seventh hTr.out.ok b c'
      have hge : s.set b c' (letter 6) 6 = s.set b c' (letter 6) 6 := rfl
      generalize s.set b c' (letter 6) 6 = t at *
      have hg := has_get hT5 (letter 2) (by rw [letter_size]; omega)
      rw [q5] at hg
      clear hge hS hTr o5
      go_wp2_with fail
      refine hg.mono ?_
      rintro e w6 ⟨rfl, hT6, b6⟩
      clear hg hT5 b6
      have hp := power_any hT6.tm
      have hmv := moved_any hT6.tm
      have hold : t.old ≠ [] := fun e => by rw [e] at q2; simp at q2
      rw [q1] at hp
      rw [show t.mv = (t.moved : Int) from if_neg hold, q3] at hmv
      have hst := has_step hT6
      obtain ⟨s1, s2, s3, s4, s5⟩ := step_nums hold
      rw [q3, q2] at s5
      have hso : t.step.old ≠ [] := fun e => by rw [e] at s5; simp at s5
      rw [decide_eq_true hso] at hst
      have hg7 : t.step.get (letter 2) = some 2 := by rw [hT6.ok.get_step]; exact q5
      have hcnt7 : t.step.cnt ≤ 1000000000 := by rw [s2, q4]; omega
      have HT6 := hid hT6
      clear q5 hold q1 q2 q3 q4 s1 s2 s3 s4 s5 hso hT6
      go_wp2_with fail
      refine hp.mono ?_
      rintro e w7 ⟨rfl, rfl⟩
      clear hp
      go_wp2_with fail
      refine hmv.mono ?_
      rintro e w7 ⟨rfl, rfl⟩
      clear hmv
      go_wp2_with fail
      refine hst.mono ?_
      rintro e w7 ⟨rfl, hT7, o7⟩
      clear hst o7
      generalize t.step = u at *
      have hd := has_del hT7 (letter 2) (by rw [letter_size]; omega) hcnt7
      rw [hg7] at hd
      go_wp2_with fail
      refine hd.mono ?_
      rintro e w8 ⟨rfl, hT8, o8⟩
      clear hd o8
      have hg8 : (u.del (letter 2)).get (letter 2) = none := by rw [hT7.ok.get_del, if_pos rfl]
      have hc8 : (u.del (letter 2)).cnt ≤ 1000000000 := by rw [hT7.ok.cnt_del]; split <;> omega
      have hd := has_del hT8 (letter 2) (by rw [letter_size]; omega) hc8
      rw [hg8] at hd
      clear hg8 hc8 hT7 hg7 hcnt7 HT6
      go_wp2_with fail
      refine hd.mono ?_
      rintro e w9 ⟨rfl, hT9, o9⟩
      go_wp2_with fail
      go_ret
      exact ⟨rfl, hT9.below⟩
end Go.Proofs.Ytfbkfbghejeknaa

/-
  The law ChainFront at this program: who came last stands at the front of its bucket. Condition: the texts lie in memory.
-/
import Derived.Test.YtfbkfbghejeknaaChainShown
namespace Go.Proofs.Ytfbkfbghejeknaa
open Go Go.Shelf Go.RowKit Go.Lib

/-- A slice of texts that came in. -/
def Strs (w : World) (a : Option Addr) (n : Nat) (xs : List ByteArray) : Prop := xs.length = n ∧ ∀ j x, xs[j]? = some x → ∃ b o, a = some ⟨b, o, none⟩ ∧ b < w.heap.size ∧ w.cell? ⟨b, o + j, none⟩ = some (.string x)
theorem Strs.below {w w' : World} {a : Option Addr} {n : Nat} {xs : List ByteArray} (h : Strs w a n xs) (hb : Below w.heap.size w w') : Strs w' a n xs :=
  ⟨h.1, fun j x hj => by
    obtain ⟨b, o, h1, h2, h3⟩ := h.2 j x hj
    exact ⟨b, o, h1, Nat.lt_of_lt_of_le h2 hb.size, (hb.cell (p := ⟨b, o + j, none⟩) h2).trans h3⟩⟩

theorem set_row_ne {s : Tb} (o : Ok s) (b c : Nat) (k : ByteArray) (n : Int) (hw : s.old = []) (hw2 : ¬ s.will) :
    ∃ e r, (s.set b c k n).new[hb k s.pow]? = some (e :: r) ∧ (s.get k = none → e.k = k) := by
  have m := o.mid
  have hi := inOld_false (k := k) hw
  have hlt := hb_lt k s.pow
  rw [← m.lenN] at hlt
  cases hf : fnd k (s.row k) with
  | none =>
    refine ⟨⟨b, k, n⟩, s.row k, ?_, fun _ => rfl⟩
    rw [set_new_eq b c k n hf]
    have hg : ¬ (s.old = [] ∧ (s.add ⟨b, k, n⟩).full = true) := fun e => hw2 (by
      obtain ⟨a1, a2, a3, a4, a5, a6, a7⟩ := add_same s ⟨b, k, n⟩
      have := of_decide_eq_true e.2
      rw [a1, a3, a6] at this
      exact ⟨hw, this.1, this.2⟩)
    rw [if_neg hg]
    show (s.upd k (⟨b, k, n⟩ :: s.row k)).new[hb k s.pow]? = _
    rw [((upd_rowsOf (s := s) (k := k)).2 hi).2, List.getElem?_set, if_pos rfl, if_pos hlt]
  | some x =>
    rw [set_old_eq b c k n hf, ((upd_rowsOf (s := s) (k := k)).2 hi).2, List.getElem?_set, if_pos rfl, if_pos hlt]
    cases hr : s.row k with
    | nil => rw [hr] at hf; cases hf
    | cons y r =>
      have : ∃ e r', setN k n (y :: r) = e :: r' := by unfold setN; split <;> exact ⟨_, _, rfl⟩
      obtain ⟨e, r', he⟩ := this
      exact ⟨e, r', by rw [he], fun hg => by rw [Tb.get_none, hf] at hg; cases hg⟩
structure Fr (s : Tb) (i : Nat) : Prop where
  cnt : s.cnt ≤ i
  old : s.old = []
  pow : s.pow = 2
theorem Fr.will {s : Tb} {i : Nat} (h : Fr s i) (o : Ok s) (hi : i < 6) : ¬ s.will := fun hw => by
  have h1 := hw.2.1
  rw [o.mid.lenN, h.pow] at h1
  have := h.cnt
  omega
theorem Fr.set {s : Tb} {i : Nat} (h : Fr s i) (o : Ok s) (hi : i < 6) (b c : Nat) (k : ByteArray) (n : Int) : Fr (s.set b c k n) (i + 1) := by
  have hw := h.will o hi
  cases hf : fnd k (s.row k) with
  | none =>
    obtain ⟨p1, p2, p3, p4⟩ := (set_nums b c n (Tb.get_none.2 hf)).2 hw
    exact ⟨by rw [p4]; have := h.cnt; omega, len0.1 (by rw [p2, h.old]; rfl), by rw [p1, h.pow]⟩
  | some x =>
    rw [set_old_eq b c k n hf]
    obtain ⟨h1, h2, h3, h4, h5, h6, h7⟩ := upd_pow s k (setN k n (s.row k))
    exact ⟨by rw [h3]; have := h.cnt; omega, len0.1 (by rw [h7, h.old]; rfl), by rw [h1, h.pow]⟩

set_option maxRecDepth 100000 in
set_option maxHeartbeats 2000000 in
theorem front_law (a : Option Addr) (n c0 : Nat) (xs : List ByteArray) (w : World) (hx : Strs w a n xs) :
    Calls Try.prog 6 #[.slice a n c0] w fun e w' => e = .returned (.bool true) ∧ Below w.heap.size w w' := by
  go_enter Try.func6, Try.ntmps6
  go_wp2_with fail
  refine (shown_any w).mono ?_
  rintro e w1 ⟨rfl, b1⟩
  go_wp2_with fail
  refine (has_new w1).mono ?_
  rintro e w2 ⟨P, c, rfl, hT⟩
  have HT := hid hT
  have hF0 : Hid (Fr (Tb.first c) 0) := hid ⟨Nat.le_refl _, rfl, rfl⟩
  clear hT
  go_wp2_with fail
  go_loopw [5] (fun p wr => ∃ (i : Nat) (s : Tb), p = .int .i64 i ∧ i ≤ 6 ∧ i ≤ n ∧ Hid (Fr s i) ∧ Hid (HasT w1 P s (fun _ => False) wr)) (fun p _ => 6 - (RowKit.intOf p).toNat)
  case atStart => exact ⟨0, _, rfl, Nat.zero_le _, Nat.zero_le _, hF0, HT⟩
  case round =>
    obtain ⟨i, s, rfl, hi, hin, hF, hTr⟩ := hrel
    clear HT hF0
    by_cases hlt : i < n ∧ i < 6
    · obtain ⟨l1, l2⟩ := hlt
      obtain ⟨x, hxi⟩ : ∃ x, xs[i]? = some x := ⟨_, List.getElem?_eq_getElem (by rw [hx.1]; exact l1)⟩
      obtain ⟨B, o, rfl, hB, hc⟩ := hx.2 i x hxi
      have hcw := ((Below.then b1 hTr.out.below).cell (p := ⟨B, o + i, none⟩) hB).trans hc
      clear hxi
      by_cases hsz : x.size ≤ 1000
      · have hg := has_get hTr.out x (by omega)
        have hset := fun w (h : HasT w1 P s (fun _ => False) w) => has_set h x (by omega) (i : Int) (by have := hF.out.cnt; omega)
        have hHK := fun b c' => hid (And.intro (hF.out.set hTr.out.ok l2 b c' x (i : Int)) (set_row_ne hTr.out.ok b c' x (i : Int) hF.out.old (hF.out.will hTr.out.ok l2)))
        have hpw : s.pow = 2 := hF.out.pow
        rw [hpw] at hHK
        have hof := fun w => of_any x (by omega) w
        have hlt2 := fnv_lt x.data.toList
        have hbk : ∀ w, Calls Try.prog 24 #[.int .u64 (fnv x.data.toList), .int .i64 2] w fun e w' => e = .returned (.int .i64 (hb x 2 : Nat)) ∧ w = w' := fun w => bucket_any _ 2 hlt2 (by omega) w
        have hx4 := hb_lt x 2
        have hlen : ∀ t : Tb, t.cnt ≤ 6 → Ok t → t.ents.length ≤ 1073741824 := fun t h1 h2 => by rw [← h2.cnt]; omega
        generalize fnv x.data.toList = H at *
        generalize hb x 2 = K at *
        cases hgx : s.get x with
        | none =>
          rw [hgx] at hg hHK
          clear hgx hTr hF
          go_wp2_with fail
          refine hg.mono ?_
          rintro e w5 ⟨rfl, hT5, b5⟩
          have hc5 := (b5.cell (p := ⟨B, o + i, none⟩) (cell_lt hcw)).trans hcw
          go_wp2_with fail
          refine (hset w5 hT5).mono ?_
          rintro e w6 ⟨rfl, b, c', hT6, o6⟩
          obtain ⟨hF6, e6, r6, hr6, hk6⟩ := (hHK b c').out
          generalize s.set b c' x (i : Int) = s1 at *
          have hc6 := ((Below.then b1 hT6.below).cell (p := ⟨B, o + i, none⟩) hB).trans hc
          have hb7 := bucket_see hT6.tm hT6.ok.mid (hlen _ (by have := hF6.cnt; omega) hT6.ok) (K : Int) (by omega) (by omega)
          rw [if_pos (by omega), show ((K : Int)).toNat = K from rfl, hr6, Option.getD_some, List.map_cons, List.length_cons] at hb7
          have HT6 := hid hT6
          have HF6 := hid hF6
          clear hHK hset hg hT5 hT6 o6 hr6 hF6 hc5
          go_wp2_with fail
          refine (hof w6).mono ?_
          rintro e w7 ⟨rfl, rfl⟩
          go_wp2_with fail
          refine (hbk _).mono ?_
          rintro e w7 ⟨rfl, rfl⟩
          go_wp2_with fail
          refine hb7.mono ?_
          rintro e w7 ⟨v7, rfl, o7, b7⟩
          clear hb7 hof hbk
          obtain ⟨g, cap, rfl⟩ := ownsRow_succ o7
          have hc7 := o7.cellAt 0 (by omega)
          replace hc7 : w7.cell? ⟨g, 0, none⟩ = some (.string e6.k) := hc7
          rw [hk6 trivial] at hc7
          have hx7 := (b7.cell (p := ⟨B, o + i, none⟩) (cell_lt hc6)).trans hc6
          have HT7 := hid (HT6.out.after b7)
          generalize (r6.map En.k).length = m at *
          have hm : ((m : Int) + 1 == 0) = false := by rw [beq_eq_false_iff_ne]; omega
          clear o7 hc6 hc hcw hlen hk6
          go_wp2_with fail
          go_region
          go_wp2_with fail
          go_roundw
          case rel => exact ⟨i + 1, s1, by go_num, by omega, by omega, HF6, hid (HT7.out.after (Below.refl _ _).drew)⟩
          case measure => simp [RowKit.intOf] <;> omega
        | some v =>
          rw [hgx] at hg hHK
          clear hgx hTr hF
          go_wp2_with fail
          refine hg.mono ?_
          rintro e w5 ⟨rfl, hT5, b5⟩
          have hc5 := (b5.cell (p := ⟨B, o + i, none⟩) (cell_lt hcw)).trans hcw
          go_wp2_with fail
          refine (hset w5 hT5).mono ?_
          rintro e w6 ⟨rfl, b, c', hT6, o6⟩
          obtain ⟨hF6, e6, r6, hr6, hk6⟩ := (hHK b c').out
          generalize s.set b c' x (i : Int) = s1 at *
          have hc6 := ((Below.then b1 hT6.below).cell (p := ⟨B, o + i, none⟩) hB).trans hc
          have hb7 := bucket_see hT6.tm hT6.ok.mid (hlen _ (by have := hF6.cnt; omega) hT6.ok) (K : Int) (by omega) (by omega)
          rw [if_pos (by omega), show ((K : Int)).toNat = K from rfl, hr6, Option.getD_some, List.map_cons, List.length_cons] at hb7
          have HT6 := hid hT6
          have HF6 := hid hF6
          clear hHK hset hg hT5 hT6 o6 hr6 hF6 hc5
          go_wp2_with fail
          refine (hof w6).mono ?_
          rintro e w7 ⟨rfl, rfl⟩
          go_wp2_with fail
          refine (hbk _).mono ?_
          rintro e w7 ⟨rfl, rfl⟩
          go_wp2_with fail
          refine hb7.mono ?_
          rintro e w7 ⟨v7, rfl, o7, b7⟩
          clear hb7 hof hbk
          obtain ⟨g, cap, rfl⟩ := ownsRow_succ o7
          have hc7 := o7.cellAt 0 (by omega)
          replace hc7 : w7.cell? ⟨g, 0, none⟩ = some (.string e6.k) := hc7
          have hx7 := (b7.cell (p := ⟨B, o + i, none⟩) (cell_lt hc6)).trans hc6
          have HT7 := hid (HT6.out.after b7)
          generalize (r6.map En.k).length = m at *
          have hm : ((m : Int) + 1 == 0) = false := by rw [beq_eq_false_iff_ne]; omega
          clear o7 hc6 hc hcw hlen hk6
          go_wp2_with fail
          go_region
          go_wp2_with fail
          go_roundw
          case rel => exact ⟨i + 1, s1, by go_num, by omega, by omega, HF6, hid (HT7.out.after (Below.refl _ _).drew)⟩
          case measure => simp [RowKit.intOf] <;> omega
      · have hF' : Hid (Fr s (i + 1)) := hid ⟨by have := hF.out.cnt; omega, hF.out.old, hF.out.pow⟩
        go_wp2_with fail
        go_roundw
        case rel => exact ⟨i + 1, s, by go_num, by omega, by omega, hF', hTr⟩
        case measure => simp [RowKit.intOf] <;> omega
    · have hp := power_any hTr.out.tm
      have hmv := moved_any hTr.out.tm
      rw [hF.out.pow] at hp
      rw [show s.mv = -1 from if_pos hF.out.old] at hmv
      have hcase : i = n ∨ (i < n ∧ i = 6) := by omega
      clear hlt
      rcases hcase with h0 | ⟨h0, h1⟩
      · have h0' : (n : Int) ≤ (i : Int) := by omega
        clear h0
        go_wp2_with fail
        refine hp.mono ?_
        rintro e w7 ⟨rfl, rfl⟩
        go_wp2_with fail
        refine hmv.mono ?_
        rintro e w7 ⟨rfl, rfl⟩
        go_wp2_with fail
        go_ret
        exact ⟨rfl, Below.then b1 hTr.out.below⟩
      · have h0' : (i : Int) < (n : Int) := by omega
        have h1' : (6 : Int) ≤ (i : Int) := by omega
        clear h0 h1
        go_wp2_with fail
        refine hp.mono ?_
        rintro e w7 ⟨rfl, rfl⟩
        go_wp2_with fail
        refine hmv.mono ?_
        rintro e w7 ⟨rfl, rfl⟩
        go_wp2_with fail
        go_ret
        exact ⟨rfl, Below.then b1 hTr.out.below⟩
end Go.Proofs.Ytfbkfbghejeknaa

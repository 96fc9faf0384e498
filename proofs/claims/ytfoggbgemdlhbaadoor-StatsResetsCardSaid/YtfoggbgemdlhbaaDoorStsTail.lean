/-
  A region that draws its order: its first operations only read, or call what lays blocks of its own alone; the last ones come up one by one when all others have. No program in it. No conditions.
-/
import Derived.Test.YtfoggbgemdlhbaaDoorStsCountB
import Derived.StillTail
import Derived.Lib.QuietBelow
namespace Go.Proofs.YtfoggbgemdlhbaaDoor.Sc
open Go

section
variable {P : Program} {ops : Array Oper} {md : Region.Mode} {C : World → Prop} {n : Nat} {E : Array Bool → Act → Prop}
/-- So many operations of the first n come up, in whatever order, each quiet in C; then E. -/
def rounds (P : Program) (md : Region.Mode) (ops : Array Oper) (C : World → Prop) (n : Nat) (E : Array Bool → Act → Prop) : Nat → Array Bool → Act → Prop
  | 0 => E
  | k + 1 => fun on a => Region.ready md ops on ≠ [] ∧ ∀ i, i ∈ Region.ready md ops on → i < n ∧ qOp P ops C i (rounds P md ops C n E k (on.setIfInBounds i true)) a
theorem any_of_rounds {m : Nat} {R : Exit → Act → World → Prop} (h : ∀ on a w, C w → E on a → wpAny P md ops R m on a w) :
    ∀ k on a w, C w → rounds P md ops C n E k on a → wpAny P md ops R (k + m) on a w := by
  intro k
  induction k with
  | zero => intro on a w hw hE; rw [Nat.zero_add]; exact h on a w hw hE
  | succ k ih =>
    intro on a w hw hr
    have e : k + 1 + m = k + m + 1 := by omega
    rw [e]
    exact ⟨fun h0 => absurd h0 hr.1, fun i hi => wpOp_of_qOp hw (fun a' w' hw' => ih _ a' w' hw') (hr.2 i hi).2⟩
/-- Each of those from m up to n has one behind it, at most n, that waits for it. -/
def sinkFrom (md : Region.Mode) (ops : Array Oper) (m n : Nat) : Bool := (List.range n).all fun i => decide (i < m) || (List.range (n + 1)).any fun j => decide (i < j) && Region.waitsFor md ops j i
theorem late_waits {m : Nat} {on : Array Bool} (hs : sinkFrom md ops m n = true) (hc : Region.chainB md ops n = true) (inv : HeadInv md ops n on) :
    ∀ (d i : Nat), n - i ≤ d → m ≤ i → i < n → on.getD i true = false → ∀ t, n ≤ t → t ∉ Region.ready md ops on := by
  intro d
  induction d with
  | zero => intro i hd _ hi; omega
  | succ d ih =>
    intro i hd hm hi hun t ht hr
    obtain ⟨_, ot, hot, hall⟩ := mem_ready.1 hr
    have hts : t < ops.size := (Array.getElem?_eq_some_iff.1 hot).1
    rcases Nat.eq_or_lt_of_le ht with e | hlt
    · have h1 := List.all_eq_true.1 hs i (List.mem_range.2 hi)
      simp only [Bool.or_eq_true, decide_eq_true_eq] at h1
      rcases h1 with h1 | h1
      · omega
      · obtain ⟨j, hj, hj2⟩ := List.any_eq_true.1 h1
        simp only [Bool.and_eq_true, decide_eq_true_eq] at hj2
        have hjn := List.mem_range.1 hj
        obtain ⟨oj, hoj, x, hx, hb, hon⟩ := Region.waitsFor_spec hj2.2
        by_cases hjt : j = t
        · rw [hjt, hot] at hoj
          cases hoj
          have h2 := hall x hx hb
          rw [hon, getD_both hun] at h2
          cases h2
        · cases hl : on.getD j false with
          | true =>
            have h2 := inv.closed j oj hoj hl x hx hb
            rw [hon, getD_both hun] at h2
            cases h2
          | false =>
            have hjs : j < on.size := by rw [inv.size]; omega
            exact ih j (by omega) (by omega) (by omega) (getD_in hjs hl) t ht hr
    · have h1 := List.all_eq_true.1 hc t (List.mem_range.2 hts)
      simp only [Bool.or_eq_true, decide_eq_true_eq] at h1
      rcases h1 with h1 | h1
      · omega
      · obtain ⟨o', ho', x, hx, hb, hon⟩ := Region.waitsFor_spec h1
        rw [hot] at ho'
        cases ho'
        have h2 := hall x hx hb
        rw [hon, getD_both (inv.tail (t - 1) (by omega) (by omega))] at h2
        cases h2
/-- One that may come up may be taken first. -/
theorem rounds_first {m i : Nat} {o : Oper} {v : Value} (hmi : m ≤ i) (ho : ops[i]? = some o) (hsel : ∀ (j : Nat) (o : Oper) cs b, ops[j]? = some o → o.op ≠ .select cs b)
    (hs : sinkFrom md ops m n = true) (hc : Region.chainB md ops n = true) (hi : i < n) (hE : ∀ on a, E on a → ∀ j ∈ Region.ready md ops on, n ≤ j) :
    ∀ k on a, HeadInv md ops n on → (∀ j oj, ops[j]? = some oj → j ≠ i → on.getD j true = false → (∀ e ∈ oj.after, Region.binds md e = true → e.on ≠ i) → o.apart ops oj = true) →
      i ∈ Region.ready md ops on → YieldsIn P ops C o v a → rounds P md ops C n E k (on.setIfInBounds i true) (a.put o.dst v) → rounds P md ops C n E (k + 1) on a := by
  intro k
  induction k with
  | zero =>
    intro on a inv _ hr hy H
    refine ⟨fun h0 => (by rw [h0] at hr; cases hr), fun j hj => ?_⟩
    have hjn : j < n := Nat.lt_of_not_le fun hle => late_waits hs hc inv _ i (Nat.le_refl _) hmi hi (mem_ready.1 hr).1 j hle hj
    by_cases e : j = i
    · rw [e]; exact ⟨hi, hy.qOp ho H⟩
    · exact absurd (hE _ _ H j (ready_mono hj e)) (by omega)
  | succ k ih =>
    intro on a inv hap hr hy H
    have hun := (mem_ready.1 hr).1
    refine ⟨fun h0 => (by rw [h0] at hr; cases hr), fun j hj => ?_⟩
    have hjn : j < n := Nat.lt_of_not_le fun hle => late_waits hs hc inv _ i (Nat.le_refl _) hmi hi hun j hle hj
    refine ⟨hjn, ?_⟩
    by_cases e : j = i
    · rw [e]; exact hy.qOp ho H
    · obtain ⟨hju, oj, hoj, hall⟩ := mem_ready.1 hj
      have hno : ∀ e ∈ oj.after, Region.binds md e = true → e.on ≠ i := fun x hx hb hon => by
        have h1 := hall x hx hb
        rw [hon, getD_both hun] at h1
        cases h1
      have hq := qOp_put hoj (hap j oj hoj e hju hno) (fun cs b => hsel i o cs b ho) (fun cs b => hsel j oj cs b hoj) hy (H.2 j (ready_mono hj e)).2
      refine qOp_mono (fun a' h3 => ?_) hq
      refine ih _ a' (inv.set hj hjn) (fun k ok hok hki hku hkn => ?_) (ready_mono hr (Ne.symm e)) h3.1 ?_
      · refine hap k ok hok hki ?_ hkn
        by_cases ek : j = k
        · rw [← ek]; exact hju
        · rw [getD_set_ne true ek] at hku; exact hku
      · rw [Array.setIfInBounds_comm _ _ e]; exact h3.2
/-- Just the first k are on. -/
structure Upto (ops : Array Oper) (k : Nat) (on : Array Bool) : Prop where
  size : on.size = ops.size
  at_ : ∀ i, i < ops.size → on[i]? = some (decide (i < k))
theorem Upto.false_ {k : Nat} {on : Array Bool} (h : Upto ops k on) {i : Nat} (hi : i < ops.size) : on.getD i false = decide (i < k) := by
  simp [h.at_ i hi]
theorem Upto.true_ {k : Nat} {on : Array Bool} (h : Upto ops k on) {i : Nat} (hi : i < ops.size) : on.getD i true = decide (i < k) := by
  simp [h.at_ i hi]
theorem Upto.zero : Upto ops 0 (Array.replicate ops.size false) := ⟨by simp, fun i hi => by simp [hi]⟩
theorem Upto.next {k : Nat} {on : Array Bool} (h : Upto ops k on) : Upto ops (k + 1) (on.setIfInBounds k true) := by
  refine ⟨by simp [h.size], fun i hi => ?_⟩
  by_cases e : k = i
  · rw [← e] at hi ⊢
    have hk : k < on.size := by rw [h.size]; exact hi
    simp [hk]
  · rw [Array.getElem?_setIfInBounds_ne e, h.at_ i hi]
    congr 1
    by_cases hik : i < k
    · simp [hik]; omega
    · simp [hik]; omega
def backB (md : Region.Mode) : Nat → List Oper → Bool
  | _, [] => true
  | k, o :: r => o.after.toList.all (fun e => !Region.binds md e || decide (e.on < k)) && backB md (k + 1) r
def partB (md : Region.Mode) (ops : Array Oper) (k : Nat) (o o' : Oper) : Bool := o'.after.toList.any (fun e => Region.binds md e && e.on == k) || o.apart ops o'
def partsB (md : Region.Mode) (ops : Array Oper) : Nat → Nat → List Oper → Bool
  | 0, _, _ => true
  | _ + 1, _, [] => true
  | m + 1, k, o :: r => r.all (partB md ops k o) && partsB md ops m (k + 1) r
theorem backB_spec : ∀ {l : List Oper} {k : Nat}, backB md k l = true → ∀ j o, l[j]? = some o → ∀ e ∈ o.after, Region.binds md e = true → e.on < k + j
  | [], _, _, j, o, h => by simp at h
  | x :: l, k, hb, 0, o, h => fun e he hx => by
    simp only [backB, Bool.and_eq_true] at hb
    rw [List.getElem?_cons_zero] at h
    cases h
    have := List.all_eq_true.1 hb.1 e (by simpa using he)
    rw [hx] at this
    simpa using this
  | x :: l, k, hb, j + 1, o, h => fun e he hx => by
    simp only [backB, Bool.and_eq_true] at hb
    rw [List.getElem?_cons_succ] at h
    have := backB_spec hb.2 j o h e he hx
    omega
theorem partsB_spec : ∀ {m : Nat} {l : List Oper} {k : Nat}, partsB md ops m k l = true → ∀ i j o o', i < m → i < j → l[i]? = some o → l[j]? = some o' → partB md ops (k + i) o o' = true
  | 0, _, _, _, i, _, _, _, hi, _, _, _ => by omega
  | m + 1, [], _, _, i, j, o, o', _, _, h, _ => by simp at h
  | m + 1, x :: l, k, hb, 0, j, o, o', _, hj, h, h' => by
    simp only [partsB, Bool.and_eq_true] at hb
    rw [List.getElem?_cons_zero] at h
    cases h
    obtain ⟨j, rfl⟩ : ∃ n, j = n + 1 := ⟨j - 1, by omega⟩
    rw [List.getElem?_cons_succ] at h'
    exact List.all_eq_true.1 hb.1 o' (List.mem_of_getElem? h')
  | m + 1, x :: l, k, hb, i + 1, j, o, o', hi, hj, h, h' => by
    simp only [partsB, Bool.and_eq_true] at hb
    obtain ⟨j, rfl⟩ : ∃ n, j = n + 1 := ⟨j - 1, by omega⟩
    rw [List.getElem?_cons_succ] at h h'
    have := partsB_spec hb.2 i j o o' (by omega) (by omega) h h'
    have e : k + (i + 1) = k + 1 + i := by omega
    rw [e]; exact this
/-- The text's order serves every order. -/
theorem rounds_text {m : Nat} {L : Act → Prop} (hsel : Region.noSelect ops = true) (hs : sinkFrom md ops m n = true) (hc : Region.chainB md ops n = true) (hn : n < ops.size)
    (hb : backB md 0 ops.toList = true) (hp : partsB md ops n 0 ops.toList = true) (hE : ∀ on a, Upto ops n on → L a → E on a) (hD : ∀ on a, E on a → ∀ j ∈ Region.ready md ops on, n ≤ j) :
    ∀ (l : List Oper) (k : Nat) (on : Array Bool) (a : Act), (∀ j, j < l.length → l[j]? = ops[k + j]?) → m ≤ k → k + l.length = n → HeadInv md ops n on → Upto ops k on →
      wpQuiet P ops C L l a → rounds P md ops C n E l.length on a := by
  intro l
  induction l with
  | nil =>
    intro k on a _ _ hk _ hU h
    have e : k = n := by simpa using hk
    rw [e] at hU
    exact hE _ _ hU h
  | cons o l ih =>
    intro k on a hl hmk hk inv hU h
    have h0 : ops[k]? = some o := by have := hl 0 (by simp); simpa using this.symm
    rw [List.length_cons] at hk
    have hks : k < ops.size := by omega
    have h0l : ops.toList[k]? = some o := by simpa using h0
    have hr : k ∈ Region.ready md ops on := mem_ready.2 ⟨by rw [hU.true_ hks]; simp, o, h0, fun e he hx => by
      have hlt := backB_spec hb k o h0l e he hx
      rw [hU.false_ (by omega)]
      simp; omega⟩
    obtain ⟨v, hy, hK⟩ := yieldsIn_of_qOp (P := P) (C := C) (K := wpQuiet P ops C L l) h0 (by unfold qOp; rw [h0]; exact h)
    refine rounds_first hmk h0 (Region.noSelect_spec hsel) hs hc (by omega) hD l.length on a inv (fun j oj hj hjk hju hno => ?_) hr hy ?_
    · have hjs : j < ops.size := (Array.getElem?_eq_some_iff.1 hj).1
      rw [hU.true_ hjs] at hju
      have hkj : k < j := by
        have : ¬ j < k := by simpa using hju
        omega
      have := partsB_spec hp k j o oj (by omega) hkj h0l (by simpa using hj)
      unfold partB at this
      rw [Bool.or_eq_true] at this
      rcases this with h1 | h1
      · obtain ⟨e, he, hx⟩ := List.any_eq_true.1 h1
        rw [Bool.and_eq_true] at hx
        exact absurd (by simpa using hx.2) (hno e (by simpa using he) hx.1)
      · exact h1
    · refine ih (k + 1) _ _ (fun j hj => ?_) (by omega) (by omega) (inv.set hr (by omega)) hU.next hK
      have := hl (j + 1) (by rw [List.length_cons]; omega)
      rw [List.getElem?_cons_succ] at this
      rw [this]
      congr 1
      omega
/-- Behind n one alone may come up, the next one. -/
theorem next_ready (hc : Region.chainB md ops n = true) (hb : backB md 0 ops.toList = true) {t : Nat} {on : Array Bool} (ht : n ≤ t) (hU : Upto ops t on) :
    (∀ j ∈ Region.ready md ops on, j = t) ∧ (t < ops.size → t ∈ Region.ready md ops on) := by
  refine ⟨fun j hj => ?_, fun hts => ?_⟩
  · obtain ⟨hju, oj, hoj, hall⟩ := mem_ready.1 hj
    have hjs : j < ops.size := (Array.getElem?_eq_some_iff.1 hoj).1
    rw [hU.true_ hjs] at hju
    have h1 : ¬ j < t := by simpa using hju
    by_cases e : j = t
    · exact e
    · have h2 := List.all_eq_true.1 hc j (List.mem_range.2 hjs)
      simp only [Bool.or_eq_true, decide_eq_true_eq] at h2
      rcases h2 with h2 | h2
      · omega
      · obtain ⟨o', ho', x, hx, hb', hon⟩ := Region.waitsFor_spec h2
        have : o' = oj := Option.some.inj (ho'.symm.trans hoj)
        rw [this] at hx
        have h3 := hall x hx hb'
        rw [hon, hU.false_ (by omega)] at h3
        have : j - 1 < t := by simpa using h3
        omega
  · obtain ⟨o, ho⟩ : ∃ o, ops[t]? = some o := ⟨ops[t], by simp [hts]⟩
    refine mem_ready.2 ⟨by rw [hU.true_ hts]; simp, o, ho, fun e he hx => ?_⟩
    have hlt := backB_spec hb t o (by simpa using ho) e he hx
    rw [hU.false_ (by omega)]
    simp; omega
theorem any_of_last {R : Exit → Act → World → Prop} (hc : Region.chainB md ops n = true) (hb : backB md 0 ops.toList = true) :
    ∀ (l : List Oper) (t : Nat) (on : Array Bool) (a : Act) (w : World), n ≤ t → t + l.length = ops.size → (∀ j, l[j]? = ops[t + j]?) → Upto ops t on → wpList P ops R l a w → wpAny P md ops R l.length on a w := by
  intro l
  induction l with
  | nil =>
    intro t on a w ht hl _ hU h
    refine ⟨?_, h⟩
    refine List.eq_nil_iff_forall_not_mem.2 fun j hj => ?_
    have h1 := (next_ready hc hb ht hU).1 j hj
    obtain ⟨_, oj, hoj, _⟩ := mem_ready.1 hj
    have := (Array.getElem?_eq_some_iff.1 hoj).1
    simp at hl
    omega
  | cons o l ih =>
    intro t on a w ht hl hg hU h
    rw [List.length_cons] at hl
    have hr := next_ready hc hb ht hU
    have hm := hr.2 (by omega)
    refine ⟨fun h0 => (by rw [h0] at hm; cases hm), fun j hj => ?_⟩
    rw [hr.1 j hj]
    have h0 : ops[t]? = some o := by have := hg 0; simpa using this.symm
    refine wpOp_mono (fun a' w' h' => ih (t + 1) _ a' w' (by omega) (by omega) (fun j => ?_) hU.next h') (by unfold wpOp; rw [h0]; exact h)
    have := hg (j + 1)
    rw [List.getElem?_cons_succ] at this
    rw [this]; congr 1; omega
end
def tailB (m : Nat) (l : List Oper) (n : Nat) : Bool :=
  Region.noSelect l.toArray && (decide (n < l.length) && (sinkFrom .any l.toArray m n && (Region.chainB .any l.toArray n && (backB .any 0 l && partsB .any l.toArray n 0 l))))
abbrev Own (w w' : World) : Prop := ∃ p : Regrown, w' = Sort.grow (redrawn w p.d) p.os
theorem own_start (w : World) : Own w w.drew := ⟨⟨w.drawn + 1, #[]⟩, by rw [Sort.grow_empty]; rfl⟩
/-- From where the first m are on. -/
theorem rest_own {P : Program} {Q : Exit → Act → World → Prop} {a : Act} {w w0 : World} {l : List Oper} (m n : Nat) (hmn : m ≤ n) (hB : tailB m l n = true) {on : Array Bool} (hU : Upto l.toArray m on) (inv : HeadInv .any l.toArray n on) (hw : Own w w0)
    (h : wpQuiet P l.toArray (Own w) (fun a' => ∀ w', Own w w' → wpList P l.toArray Q (l.drop n) a' w') ((l.take n).drop m) a) : wpAny P .any l.toArray Q (l.length - m) on a w0 := by
  simp only [tailB, Bool.and_eq_true, decide_eq_true_eq] at hB
  obtain ⟨hsel, hnl, hs, hc, hb, hp⟩ := hB
  have hn : n < l.toArray.size := by simpa using hnl
  have ht : ((l.take n).drop m).length = n - m := by rw [List.length_drop, List.length_take]; omega
  have hd : (l.drop n).length = l.toArray.size - n := by simp
  have H := rounds_text (md := .any) (P := P) (C := Own w) (m := m)
    (E := fun on a' => Upto l.toArray n on ∧ ∀ w', Own w w' → wpList P l.toArray Q (l.drop n) a' w') hsel hs hc hn hb hp (fun on a' hU hL => ⟨hU, hL⟩)
    (fun on a' hE j hj => by rw [(next_ready hc hb (Nat.le_refl n) hE.1).1 j hj]; exact Nat.le_refl n) ((l.take n).drop m) m _ a (fun j hj => by
      rw [ht] at hj
      rw [List.getElem?_drop, List.getElem?_take_of_lt (by omega)]
      simp) (Nat.le_refl m) (by omega) inv hU h
  have K := any_of_rounds (R := Q) (m := l.toArray.size - n) (fun on a' w' hw' hE => by
    have := any_of_last (md := .any) (R := Q) (P := P) hc hb (l.drop n) n on a' w' (Nat.le_refl n) (by rw [hd]; omega) (fun j => by rw [List.getElem?_drop]; simp) hE.1 (hE.2 w' hw')
    rw [hd] at this; exact this) _ _ _ w0 hw H
  have e0 : l.toArray.size = l.length := by simp
  have e : ((l.take n).drop m).length + (l.toArray.size - n) = l.length - m := by omega
  rw [e] at K
  exact K
theorem inv_zero (ops : Array Oper) (n : Nat) : HeadInv .any ops n (Array.replicate ops.size false) :=
  ⟨by simp, fun j oj _ hl => (by rw [getD_replicate_false] at hl; cases hl), fun t _ ht' => getD_in (by simpa using ht') (getD_replicate_false _ _)⟩
/-- The region: its first n operations quiet in 'what was there has not turned', the rest one by one. -/
theorem region_own {P : Program} {id : Nat} {Q : Exit → Act → World → Prop} {a : Act} {w : World} {l : List Oper} (n : Nat) (hm : P.follows .mixedOrders = true) (hB : tailB 0 l n = true)
    (h : wpQuiet P l.toArray (Own w) (fun a' => ∀ w', Own w w' → wpList P l.toArray Q (l.drop n) a' w') (l.take n) a) : (Code.region id l.toArray true).wp P Q a w := by
  refine wp_region_any hm ?_
  have := rest_own (Q := Q) (w0 := w.drew) 0 n (Nat.zero_le _) hB Upto.zero (inv_zero _ n) (own_start w) h
  simpa using this
/-- Likewise; the first operation, which looks at no memory, is taken first, whoever waits for it. -/
theorem region_own1 {P : Program} {id : Nat} {Q : Exit → Act → World → Prop} {a : Act} {w : World} {o : Oper} {l : List Oper} {v : Value} (n : Nat) (hm : P.follows .mixedOrders = true) (hn : 1 ≤ n) (hB : tailB 1 (o :: l) n = true)
    (hf : Region.free .any (o :: l).toArray (Array.replicate (o :: l).toArray.size false) 0 = true) (hr : (Region.ready .any (o :: l).toArray (Array.replicate (o :: l).toArray.size false)).contains 0 = true)
    (hQ : ∀ c a w, Q (.panic c) (a.put o.dst v) w → Q (.panic c) a w) (hy : Yields P (o :: l).toArray o v a)
    (h : wpQuiet P (o :: l).toArray (Own w) (fun a' => ∀ w', Own w w' → wpList P (o :: l).toArray Q ((o :: l).drop n) a' w') (((o :: l).take n).drop 1) (a.put o.dst v)) : (Code.region id (o :: l).toArray true).wp P Q a w := by
  refine wp_region_any hm ?_
  have hB' := hB
  simp only [tailB, Bool.and_eq_true, decide_eq_true_eq] at hB'
  have h0 : 0 ∈ Region.ready .any (o :: l).toArray (Array.replicate (o :: l).toArray.size false) := by simpa using hr
  have K := rest_own (Q := Q) (w0 := w.drew) 1 n hn hB (Upto.zero (ops := (o :: l).toArray)).next ((inv_zero _ n).set h0 (by omega)) (own_start w) h
  have e : (o :: l).toArray.size = ((o :: l).length - 1) + 1 := by simp
  have T := wpAny_take (P := P) (md := .any) (ops := (o :: l).toArray) (Q := Q) (i := 0) (oi := o) (v := v) (fuel := (o :: l).length - 1) (listed := Array.replicate (o :: l).toArray.size false) (a := a) (w := w.drew) (by simp) hB'.1 hf hr hQ hy K
  rw [← e] at T
  exact T
end Go.Proofs.YtfoggbgemdlhbaaDoor.Sc

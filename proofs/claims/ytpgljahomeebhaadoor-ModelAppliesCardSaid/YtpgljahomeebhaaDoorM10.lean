/-
  ModelApplies: which states are right, as the document's own function tells. Conditions: the state's items can be read, their keys and values are no longer than the machine's words.
  ModelApplies: a state that is right is fit for Apply. Conditions: its numbers are in their types' ranges, its items are no more than two hundred.
  ModelApplies: what Apply makes of a keyed state is keyed, and has at most one item more; a store into a list's own block. No conditions.
-/
import Derived.Test.YtpgljahomeebhaaDoorM8
import Derived.BigRegion
import Derived.BigQuiet
import Derived.Test.YtpgljahomeebhaaDoorRfSeven
namespace Go.Proofs.YtpgljahomeebhaaDoor.Md
open Go Go.RowKit Go.Lib

theorem its_key {w : World} {b o N c k : Nat} {l : List It} {x : It} (h : Its w (.slice (some ⟨b, o, none⟩) N c) l) (hk : l[k]? = some x) : w.cell? ⟨b, o + k * 8, none⟩ = some (.string x.key) := by
  obtain ⟨b', o', he, d0, -⟩ := h.at hk
  obtain rfl : b = b' := by injection he with h; injection h
  obtain rfl : o = o' := by injection he with h; injection h
  exact d0
def GoodTo (l : List It) (j : Nat) : Prop := (∀ i x, i < j → l[i]? = some x → x.right = true) ∧ ∀ i x y, i + 1 < j → l[i]? = some x → l[i + 1]? = some y → klt x.key y.key = true
theorem GoodTo.one {l : List It} {x : It} (hx : l[0]? = some x) (hr : x.right = true) : GoodTo l 1 := ⟨fun i y hi hy => by
    obtain rfl : i = 0 := by omega
    rw [hx] at hy; injection hy with h; rw [← h]; exact hr, fun i y z hi => by omega⟩
theorem GoodTo.next {l : List It} {i : Nat} {x y : It} (h : GoodTo l (i + 1)) (hy : l[i]? = some y) (hx : l[i + 1]? = some x) (hr : x.right = true) (hk : klt y.key x.key = true) : GoodTo l (i + 1 + 1) := ⟨fun k z hi hz => by
    rcases Nat.lt_or_ge k (i + 1) with h1 | h1
    · exact h.1 k z h1 hz
    · obtain rfl : k = i + 1 := by omega
      rw [hx] at hz; injection hz with e; rw [← e]; exact hr, fun k u z hi hu hz => by
    rcases Nat.lt_or_ge (k + 1) (i + 1) with h1 | h1
    · exact h.2 k u z h1 hu hz
    · obtain rfl : k = i := by omega
      rw [hx] at hz; rw [hy] at hu; injection hz with e; injection hu with e'; rw [← e, ← e']; exact hk⟩
def RightP (w : World) (s : Ms) (e : Ending) (w' : World) : Prop := ∃ b : Bool, e = .returned (.bool b) ∧ (b = true → GoodTo s.its s.its.length ∧ 0 ≤ s.fl) ∧ Below w.heap.size w w'

set_option maxRecDepth 100000 in
set_option maxHeartbeats 16000000 in
theorem right_state {s : Ms} {w : World} {V : Value} (HS : Sv w V s) (hlen : s.its.length ≤ 281474976710656) (hks : ∀ x ∈ s.its, x.key.size < 9223372036854775807) : Calls Tryd.prog 14 #[V] w fun e w' => RightP w s e w' := by
  obtain ⟨v, rfl, HI0⟩ := HS
  obtain ⟨a, c, rfl⟩ := HI0.form
  have HI := hid HI0
  clear HI0
  unfold msv
  obtain ⟨N, hN⟩ : ∃ N, N = s.its.length := ⟨_, rfl⟩
  rw [← hN] at HI hlen ⊢
  have HN := hid hN
  clear hN
  have HK := hid hks
  clear hks
  have HB : Hid (∀ W, W = w.alloc (.cells #[.slice a N c, .int .u64 s.cas, .int .i64 s.fl] 25) → W.cell? ⟨w.heap.size, 0, none⟩ = some (.slice a N c) ∧ W.cell? ⟨w.heap.size, 2, none⟩ = some (.int .i64 s.fl) ∧ Below w.heap.size w W) := hid (by
    rintro W rfl
    have h := Blk.new w #[.slice a N c, .int .u64 s.cas, .int .i64 s.fl] 25
    exact ⟨h.cell (i := 0) rfl, h.cell (i := 2) rfl, abelow _ _⟩)
  go_enter Tryd.func14, Tryd.ntmps14
  go_wp2_with fail
  obtain ⟨c0, c2, hb⟩ := HB.out _ rfl
  have HB2 := hid hb
  generalize w.alloc (.cells #[.slice a N c, .int .u64 s.cas, .int .i64 s.fl] 25) = W0 at *
  clear HB hb
  go_loopw [3] (fun i wr => ∃ (j : Nat), i = .int .i64 j ∧ j ≤ N ∧ Hid (GoodTo s.its j) ∧ Hid (Below w.heap.size w wr) ∧ wr.cell? ⟨w.heap.size, 0, none⟩ = some (.slice a N c) ∧ wr.cell? ⟨w.heap.size, 2, none⟩ = some (.int .i64 s.fl)) (fun i _ => N - (RowKit.intOf i).toNat)
  case atStart => exact ⟨0, rfl, Nat.zero_le _, hid ⟨fun i x h => by omega, fun i x y h => by omega⟩, HB2, c0, c2⟩
  case round =>
    obtain ⟨j, rfl, hj, hgd, hbd, c0d, c2d⟩ := hrel
    have hI2 := HI.out.below hbd.out
    clear c0 c2 HB2
    rename World => W1
    have j0 : (0 : Int) ≤ (j : Int) := by omega
    by_cases hlt : j < N
    · have hlt1 : (j : Int) < (N : Int) := by omega
      obtain ⟨x, hx⟩ : ∃ x, s.its[j]? = some x := ⟨_, List.getElem?_eq_getElem (by rw [← HN.out]; omega)⟩
      have hkx := HK.out x (List.mem_of_getElem? hx)
      obtain ⟨b, o, rfl, d0, d1, d2, d3, d4, d5, d6, d7⟩ := hI2.at hx
      have HI3 := hid hI2
      have HX := hid hx
      have HR : Hid (∀ W, Calls Tryd.prog 20 #[.agg #[.string x.key, .int .u32 x.flags, .string x.val, .int .i64 x.exp, .int .u64 x.cas, .int .i64 x.last, .bool x.stale, .bool x.won]] W fun e w' => e = .returned (.bool x.right) ∧ Below W.heap.size W w') := hid (fun W => ref_right x W hkx)
      clear hx hI2 HI hkx
      go_wp2_with fail
      refine (HR.out _).mono ?_
      rintro e1 w1 ⟨rfl, b1⟩
      have hbe : Hid (Below w.heap.size w w1) := hid (Below.then hbd.out b1)
      have c0e := (b1.cell (p := ⟨w.heap.size, 0, none⟩) (cell_lt c0d)).trans c0d
      have c2e := (b1.cell (p := ⟨w.heap.size, 2, none⟩) (cell_lt c2d)).trans c2d
      have HI4 := hid (HI3.out.below b1)
      clear c0d c2d d0 d1 d2 d3 d4 d5 d6 d7 HI3 HR b1 hbd
      have d0 := its_key HI4.out HX.out
      generalize hr : x.right = r
      have hre := hid hr
      clear hr
      rcases Nat.eq_zero_or_pos j with rfl | hj1
      · cases r with
        | false =>
          clear HX HI4 HK
          rename World => W2
          go_wp2_with fail
          go_quiet (fail)
          go_wp2_with fail
          go_ret
          exact ⟨false, rfl, by simp, Below.trans hbe.out (below_drewN _ _ _)⟩
        | true =>
          have hg1 := hid (GoodTo.one HX.out hre.out)
          clear HX HI4 HK hgd
          rename World => W2
          go_wp2_with fail
          go_quiet (fail)
          go_wp2_with fail
          go_roundw
          case rel => exact ⟨1, by go_num, by omega, hg1, hid (Below.trans hbe.out (below_drewN _ _ _)), c0e, c2e⟩
          case measure => simp [RowKit.intOf] <;> omega
      · obtain ⟨i, rfl⟩ : ∃ i, j = i + 1 := ⟨j - 1, by omega⟩
        obtain ⟨y, hy⟩ : ∃ y, s.its[i]? = some y := ⟨_, List.getElem?_eq_getElem (by rw [← HN.out]; omega)⟩
        have HY := hid hy
        have d1 := its_key HI4.out hy
        clear hy
        have i0 : (0 : Int) ≤ (i : Int) := by omega
        have i1 : (i : Int) < (N : Int) := by omega
        have i2 : (0 : Int) < (i : Int) + 1 := by omega
        have i3 : wrap64 ((i : Int) + 1 - 1) = (i : Int) := by unfold wrap64; omega
        have i4 : wrap64 ((i : Int)) = (i : Int) := by unfold wrap64; omega
        cases r with
        | false =>
          clear HX HI4 HK
          rename World => W2
          go_wp2_with fail
          go_quiet (fail)
          go_wp2_with fail
          go_ret
          exact ⟨false, rfl, by simp, Below.trans hbe.out (below_drewN _ _ _)⟩
        | true =>
          obtain ⟨t, ht⟩ : ∃ t, Op.bytesLess y.key.toList x.key.toList = t := ⟨_, rfl⟩
          cases t with
          | false =>
            clear HX HI4 HK
            rename World => W2
            go_wp2_with fail
            go_quiet (fail)
            go_wp2_with fail
            go_ret
            exact ⟨false, rfl, by simp, Below.trans hbe.out (below_drewN _ _ _)⟩
          | true =>
            have hg1 := hid (GoodTo.next hgd.out HY.out HX.out hre.out ht)
            clear HX HI4 HK hgd
            rename World => W2
            go_wp2_with fail
            go_quiet (fail)
            go_wp2_with fail
            go_roundw
            case rel => exact ⟨i + 1 + 1, by go_num, by omega, hg1, hid (Below.trans hbe.out (below_drewN _ _ _)), c0e, c2e⟩
            case measure => simp [RowKit.intOf] <;> omega
    · have hlt1 : ¬ (j : Int) < (N : Int) := by omega
      have hd : decide ((j : Int) < (N : Int)) = false := decide_eq_false hlt1
      have hn : j = N := by omega
      obtain ⟨r, hr⟩ : ∃ r, decide ((0 : Int) ≤ s.fl) = r := ⟨_, rfl⟩
      have hz : Hid (r = true → GoodTo s.its s.its.length ∧ 0 ≤ s.fl) := hid (fun h => by rw [h] at hr; exact ⟨by rw [← HN.out, ← hn]; exact hgd.out, of_decide_eq_true hr⟩)
      clear HI hI2
      go_wp2_with fail
      go_ret
      exact ⟨r, rfl, hz.out, hbd.out⟩
end Go.Proofs.YtpgljahomeebhaaDoor.Md
namespace Go.Proofs.YtpgljahomeebhaaDoor.Md
open Go Go.RowKit Go.Lib

theorem GoodTo.lt {l : List It} (h : GoodTo l l.length) : ∀ (d i : Nat) (x y : It), l[i]? = some x → l[i + d + 1]? = some y → klt x.key y.key = true
  | 0, i, x, y, hx, hy => h.2 i x y (by have := (List.getElem?_eq_some_iff.1 hy).1; omega) hx hy
  | d + 1, i, x, y, hx, hy => by
    have hl := (List.getElem?_eq_some_iff.1 hy).1
    obtain ⟨z, hz⟩ : ∃ z, l[i + d + 1]? = some z := ⟨_, List.getElem?_eq_getElem (by omega)⟩
    have h1 := GoodTo.lt h d i x z hx hz
    have h2 := h.2 (i + d + 1) z y (by omega) hz (by rw [show i + d + 1 + 1 = i + (d + 1) + 1 by omega]; exact hy)
    exact klt_trans h1 h2
theorem GoodTo.sorted {l : List It} (h : GoodTo l l.length) : Sorted l := by
  unfold Sorted
  rw [List.pairwise_iff_getElem]
  intro i j hi hj hij
  exact h.lt (j - i - 1) i _ _ (List.getElem?_eq_getElem hi) (by rw [show i + (j - i - 1) + 1 = j by omega]; exact List.getElem?_eq_getElem hj)
theorem GoodTo.right {l : List It} (h : GoodTo l l.length) : ∀ x ∈ l, x.right = true := fun x hx => by
  obtain ⟨i, hi⟩ := List.getElem?_of_mem hx
  exact h.1 i x (List.getElem?_eq_some_iff.1 hi).1 hi
theorem GoodTo.keyed {l : List It} (h : GoodTo l l.length) : Keyed l := fun x hx => by
  have := (It.right_parts (h.right x hx)).1
  omega
theorem GoodTo.fit {s : Ms} (h : GoodTo s.its s.its.length) (hok : ∀ x ∈ s.its, x.Ok) (hc : s.cas ≤ 18446744073709551615) (f0 : 0 ≤ s.fl) (f1 : s.fl ≤ 9223372036854775807) (hl : s.its.length ≤ 200) : Fit 200 65536 s :=
  ⟨h.sorted, fun x hx => by
    obtain ⟨_, h2, _, h4, h5, _⟩ := It.right_parts (h.right x hx)
    exact ⟨hok x hx, h5, h2, h4⟩, hc, f0, f1, hl⟩
end Go.Proofs.YtpgljahomeebhaaDoor.Md
namespace Go.Proofs.YtpgljahomeebhaaDoor.Md
open Go Go.RowKit Go.Lib

theorem keyed_live {s : Ms} (h : Keyed s.its) (now : Int) : Keyed (live s now).its := fun x hx => h x (by
  unfold live at hx
  split at hx
  · cases hx
  · exact (List.mem_filter.1 hx).1)
theorem len_live (s : Ms) (now : Int) : (live s now).its.length ≤ s.its.length := by
  unfold live
  split
  · exact Nat.zero_le _
  · exact List.length_filter_le _ _
theorem keyed_apply {N B : Nat} {s : Ms} (hF : Fit N B s) (h : Keyed s.its) (now : Int) (c : Cm) (most : Int) : Keyed (apply s now c most).1.its := by
  unfold apply
  split
  · exact fun x hx => (by cases hx)
  · rename_i hf
    have hf : fine now c = true := by simpa using hf
    split
    · show Keyed (if now < moment now c.exp then (⟨(live s now).its, (live s now).cas, moment now c.exp⟩ : Ms) else ⟨[], (live s now).cas, 0⟩).its
      split
      · exact keyed_live h now
      · exact fun x hx => (by cases hx)
    · rename_i h6
      have hkp : 0 < c.key.size := by
        obtain ⟨_, _, hk, _⟩ := fine_parts hf
        have := keyB_parts (hk.resolve_right h6)
        rw [size_len]; exact this.1
      exact keyed_on (core_for (o := find (live s now).its c.key) (fun x hx => (find_fit (hF.live now) c.key x hx).2)) hkp (keyed_live h now)
theorem len_apply (s : Ms) (now : Int) (c : Cm) (most : Int) : (apply s now c most).1.its.length ≤ s.its.length + 1 := by
  unfold apply
  split
  · exact Nat.zero_le _
  · split
    · show (if now < moment now c.exp then (⟨(live s now).its, (live s now).cas, moment now c.exp⟩ : Ms) else ⟨[], (live s now).cas, 0⟩).its.length ≤ _
      have := len_live s now
      split
      · show (live s now).its.length ≤ _
        omega
      · exact Nat.zero_le _
    · have := len_live s now
      generalize core now c most (live s now).cas (find (live s now).its c.key) = o
      obtain ⟨e, cas, a⟩ := o
      show (e.on (live s now).its c.key).length ≤ _
      cases e with
      | keep => show (live s now).its.length ≤ _; omega
      | put y => exact Nat.le_trans (put_len _ _) (by omega)
      | drp => exact Nat.le_trans (List.length_filter_le _ _) (by omega)
theorem there_at {w : World} {b o n : Nat} {t : TypeId} {cs : List Value} (h : Blk w b t cs) (hn : o + n ≤ cs.length) : w.there b o n := fun j hj => by
  obtain ⟨v, hv⟩ : ∃ v, cs[o + j]? = some v := ⟨_, List.getElem?_eq_getElem (by omega)⟩
  exact ⟨by rw [h.cell hv]; rfl, h.frozen (o + j)⟩
end Go.Proofs.YtpgljahomeebhaaDoor.Md

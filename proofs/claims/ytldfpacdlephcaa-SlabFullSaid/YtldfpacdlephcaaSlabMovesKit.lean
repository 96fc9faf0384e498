/-
  What the laws SlabMoves and SlabFull say of a slab, as plain facts. No conditions.
-/
import Derived.Test.YtldfpacdlephcaaSlabApartKit
import Derived.Test.YtldfpacdlephcaaSlabCounts
namespace Go.Proofs.Ytldfpacdlephcaa
open Go Go.RowKit Go.Lib

/-- Page 0 is class 0's, cut into eight; nothing else is granted. -/
structure Mv (u : List Bool) (cl : Bool) (s : Sl) : Prop where
  ok : s.Ok
  sz : s.sz = [64, 128, 512]
  ow : s.a.ow = [0]
  size : s.a.size = 512
  cut : s.cut 0 = some ⟨0, u, cl⟩
  len : u.length = 8
theorem Mv.zero {u : List Bool} {cl : Bool} {s : Sl} (h : Mv u cl s) {p : Nat} {k : Ct} (hk : s.cut p = some k) : p = 0 := by
  have := h.ok.cut_lt hk
  rw [h.ow] at this
  exact Nat.lt_one_iff.1 this
theorem Mv.cls {u : List Bool} {cl : Bool} {s : Sl} (h : Mv u cl s) (c : Nat) (hc : c < 3) : s.classB (c : Int) = true := by
  unfold Sl.classB; rw [h.sz, decide_eq_true_iff]
  show (0 : Int) ≤ c ∧ (c : Int) < 3
  omega
theorem Mv.row1 {u : List Bool} {cl : Bool} {s : Sl} (h : Mv u cl s) : s.rows 1 = [] := by
  cases e : s.rows 1 with
  | nil => rfl
  | cons x l =>
    obtain ⟨k, hk, hc, _⟩ := h.ok.rw 1 x (by rw [h.sz]; decide) (by rw [e]; simp)
    have e0 := h.zero hk
    rw [e0, h.cut] at hk
    cases hk
    exact absurd hc (fun h : (0 : Nat) = 1 => by omega)
theorem Mv.row0 {u : List Bool} {s : Sl} (h : Mv u true s) : s.rows 0 = [] := by
  cases e : s.rows 0 with
  | nil => rfl
  | cons x l =>
    obtain ⟨k, hk, _, hc, _⟩ := h.ok.rw 0 x (by rw [h.sz]; decide) (by rw [e]; simp)
    have e0 := h.zero hk
    rw [e0, h.cut] at hk
    cases hk
    exact absurd hc (fun h : true = false => by cases h)
theorem Mv.at {u : List Bool} {cl : Bool} {s : Sl} (h : Mv u cl s) : s.atP 0 = some ⟨0, u, cl⟩ := by
  have := s.atP_nat 0
  rw [h.cut] at this
  exact this
theorem Mv.used {u : List Bool} {cl : Bool} {s : Sl} (h : Mv u cl s) {k : Nat} (hk : k < 8) {b : Bool} (hb : u[k]? = some b) : s.usedN k = b := by
  have e1 : k / 4096 = 0 := by omega
  have e2 : k % 4096 = k := by omega
  refine Sl.usedN_of (k := ⟨0, u, cl⟩) ?_ ?_
  · rw [e1]; exact h.cut
  · rw [e2]; exact hb
theorem Mv.free_no {u : List Bool} {cl : Bool} {s : Sl} (h : Mv u cl s) {k : Nat} (hk : k < 8) (hb : u[k]? = some false) : s.free (k : Int) = (8, s) := Sl.free_no (by rw [s.usedB_nat]; exact h.used hk hb)
theorem Mv.free_yes {u : List Bool} {cl : Bool} {s : Sl} (h : Mv u cl s) {k : Nat} (hk : k < 8) (hb : u[k]? = some true) : (s.free (k : Int)).1 = 0 ∧ Mv (u.set k false) cl (s.free (k : Int)).2 := by
  have e1 : k / 4096 = 0 := by omega
  have e2 : k % 4096 = k := by omega
  have hc : s.cut (k / 4096) = some ⟨0, u, cl⟩ := by rw [e1]; exact h.cut
  have e := Sl.free_yes (h.used hk hb) hc
  have em : s.mark k false = s.setCut 0 (Ct.mark ⟨0, u, cl⟩ k false) := by rw [Sl.mark_at false hc, e1, e2]
  have hok := h.ok.freeOk (k : Int)
  rw [e] at hok ⊢
  refine ⟨rfl, hok, ?_, ?_, ?_, ?_, by rw [List.length_set]; exact h.len⟩
  · cases cl <;> (show (s.mark k false).sz = _; rw [em]; exact h.sz)
  · cases cl <;> (show (s.mark k false).a.ow = _; rw [em]; exact h.ow)
  · cases cl <;> (show (s.mark k false).a.size = _; rw [em]; exact h.size)
  · cases cl <;> (show (s.mark k false).cut 0 = _; rw [em]; exact upd_same s.cut 0 (some _))
theorem Mv.close {u : List Bool} {s : Sl} (h : Mv u false s) : (s.close 0).1 = 0 ∧ Mv u true (s.close 0).2 := by
  have e : s.close 0 = (0, s.shut 0 ⟨0, u, false⟩) := Sl.close_open (p := 0) h.cut rfl
  have hok := h.ok.closeOk 0
  rw [e] at hok ⊢
  exact ⟨rfl, hok, h.sz, h.ow, h.size, upd_same s.cut 0 (some _), h.len⟩
theorem Mv.close2 {u : List Bool} {s : Sl} (h : Mv u true s) : s.close 0 = (7, s) := Sl.close_shut h.at rfl
theorem Mv.full {u : List Bool} {s : Sl} (h : Mv u true s) : s.alloc 0 = (-1, 5, s) := Sl.alloc_full (c := 0) (h.cls 0 (by omega)) h.row0 (by rw [h.ow]; decide)
theorem Mv.busy {u : List Bool} {s : Sl} (h : Mv u true s) (ht : 0 < tru u) : s.move 0 1 = (10, s) := Sl.move_busy h.at rfl (h.cls 1 (by omega)) ht
theorem Mv.chunks {u : List Bool} {s : Sl} (h : Mv u true s) : (s.chunks 0).length = tru u := by
  unfold Sl.chunks
  rw [h.at]
  show (chTo u _ u.length).length = _
  rw [chTo_tru u _ _ (Nat.le_refl _), List.take_length]
theorem none_true {u : List Bool} (h : ¬ 0 < tru u) : u = List.replicate u.length false := by
  rw [List.eq_replicate_iff]
  refine ⟨rfl, fun b hb => ?_⟩
  cases b with
  | false => rfl
  | true =>
    have : 0 < u.count true := List.count_pos_iff.2 hb
    exact absurd this h
/-- Behind the move: class 1's page. -/
structure Mo (u : List Bool) (r : List Nat) (s : Sl) : Prop where
  ok : s.Ok
  sz : s.sz = [64, 128, 512]
  ow : s.a.ow = [1]
  cut : s.cut 0 = some ⟨1, u, false⟩
  row : s.rows 1 = r
theorem Mv.move {u : List Bool} {s : Sl} (h : Mv u true s) (ht : ¬ 0 < tru u) : (s.move 0 1).1 = 0 ∧ Mo (List.replicate 8 false) [3, 2, 1, 0] (s.move 0 1).2 := by
  have hu := none_true ht
  rw [h.len] at hu
  subst hu
  have e : s.move 0 1 = (0, s.moved 0 ⟨0, List.replicate 8 false, true⟩ 1) := Sl.move_ok (p := 0) (c := 1) h.cut rfl (h.cls 1 (by omega)) ht
  have hok := h.ok.moveOk 0 1
  rw [e] at hok ⊢
  refine ⟨rfl, hok, h.sz, ?_, ?_, ?_⟩
  · show s.a.ow.set 0 (1 : Int) = _
    rw [h.ow]; rfl
  · exact upd_same (upd s.cut 0 (some ⟨1, List.replicate 8 false, true⟩)) 0 (some ⟨1, List.replicate 8 false, false⟩)
  · have hp : (s.passed 0 ⟨0, List.replicate 8 false, true⟩ 1).per 1 = 4 := by
      show s.a.size / s.sz.getD 1 1 = 4
      rw [h.size, h.sz]; rfl
    show upd s.rows 1 (s.rows 1 ++ layRow 0 (List.replicate 8 false) ((s.passed 0 ⟨0, List.replicate 8 false, true⟩ 1).per 1)) 1 = _
    rw [upd_same, h.row1, hp]; decide
theorem Mo.zero {u : List Bool} {r : List Nat} {s : Sl} (h : Mo u r s) (p : Nat) (hp : 0 < p) : s.cut p = none := by
  cases hk : s.cut p with
  | none => rfl
  | some k =>
    have := h.ok.cut_lt hk
    rw [h.ow] at this
    have : p < 1 := this
    omega
theorem Mo.cls {u : List Bool} {r : List Nat} {s : Sl} (h : Mo u r s) (c : Nat) (hc : c < 3) : s.classB (c : Int) = true := by
  unfold Sl.classB; rw [h.sz, decide_eq_true_iff]
  show (0 : Int) ≤ c ∧ (c : Int) < 3
  omega
theorem cntP_one {s : Sl} (h : ∀ p, 0 < p → s.cut p = none) (c : Nat) : ∀ k, s.cntP c (k + 1) = isOf c (s.cut 0)
  | 0 => Nat.zero_add _
  | k + 1 => by rw [(Sl.cnt_none (h (k + 1) (by omega))).1]; exact cntP_one h c k
theorem cntU_one {s : Sl} (h : ∀ p, 0 < p → s.cut p = none) (c : Nat) : ∀ k, s.cntU c (k + 1) = usedOf c (s.cut 0)
  | 0 => Nat.zero_add _
  | k + 1 => by rw [(Sl.cnt_none (h (k + 1) (by omega))).2]; exact cntU_one h c k
theorem Mo.counts {s : Sl} (h : Mo (List.replicate 8 false) [3, 2, 1, 0] s) : s.counts 1 = (1, 0, 4) := by
  have e : s.counts ((1 : Nat) : Int) = (((s.cntP 1 1024 : Nat) : Int), ((s.cntU 1 1024 : Nat) : Int), (((s.rows 1).length : Nat) : Int)) := by
    unfold Sl.counts
    rw [h.cls 1 (by omega), if_pos rfl, Int.toNat_natCast]
  have e' : s.counts 1 = (((s.cntP 1 1024 : Nat) : Int), ((s.cntU 1 1024 : Nat) : Int), (((s.rows 1).length : Nat) : Int)) := e
  rw [e', cntP_one h.zero 1 1023, cntU_one h.zero 1 1023, h.cut, h.row]
  decide
theorem Mo.alloc {s : Sl} (h : Mo (List.replicate 8 false) [3, 2, 1, 0] s) : (s.alloc 1).1 = 0 ∧ (s.alloc 1).2.1 = 0 ∧ Mo ((List.replicate 8 false).set 0 true) [3, 2, 1] (s.alloc 1).2.2 := by
  have e : s.alloc 1 = (0, 0, (s.setRow 1 [3, 2, 1]).mark 0 true) := Sl.alloc_row (c := 1) (x := 0) (h.cls 1 (by omega)) h.row
  have hc : (s.setRow 1 [3, 2, 1]).cut (0 / 4096) = some ⟨1, List.replicate 8 false, false⟩ := h.cut
  have hok := h.ok.allocOk 1
  rw [e] at hok ⊢
  rw [Sl.mark_at true hc] at hok ⊢
  exact ⟨rfl, rfl, hok, h.sz, h.ow, upd_same s.cut 0 (some _), upd_same s.rows 1 _⟩
theorem Mo.wher {s : Sl} (h : Mo ((List.replicate 8 false).set 0 true) [3, 2, 1] s) : s.wher 0 = (0, 0, 128) := by
  have hu : s.usedN 0 = true := Sl.usedN_of (k := ⟨1, _, false⟩) h.cut rfl
  have e : s.wher ((0 : Nat) : Int) = _ := wher_yes hu h.cut
  have e' : s.wher 0 = _ := e
  rw [e']
  show (((0 / 4096 : Nat) : Int), ((0 % 4096 * s.sz.getD 1 1 : Nat) : Int), ((s.sz.getD 1 1 : Nat) : Int)) = _
  rw [h.sz]; rfl
theorem Mo.opn {u : List Bool} {r : List Nat} {s : Sl} (h : Mo u r s) : s.openP 0 = (7, s) := by
  have := s.atP_nat 0
  rw [h.cut] at this
  exact Sl.open_open this rfl

/-- The slab behind k allocations. -/
def mv : Nat → Sl
  | 0 => newSl (newSt 1 512) [64, 128, 512]
  | k + 1 => ((mv k).alloc 0).2.2
theorem mv_step : ∀ k, k < 8 → ((mv k).alloc 0).1 = (k : Int) ∧ ((mv k).alloc 0).2.1 = 0 := by decide
theorem mv_full (ok : (mv 8).Ok) : Mv (List.replicate 8 true) false (mv 8) := ⟨ok, by decide, by decide, by decide, by rfl, rfl⟩

theorem hasX_close {w0 : World} {P : Nat} {s : Sl} {G : Nat → Prop} {w : World} (h : HasX w0 P s G w) (hG : ∀ b, G b → b < w.heap.size) (z : Int) :
    Calls Try.prog 22 #[.pointer (some ⟨P, 0, none⟩), .int .i64 z] w fun e w' => e = .returned (.int .i64 (s.close z).1) ∧ HasX w0 P (s.close z).2 G w' ∧ Only (fun b => ¬ G b) w w' :=
  h.call hG (R := fun e => e = .returned (.int .i64 (s.close z).1)) (h.1.closeOk z) (fun d hd hm => by subst hd; exact close_any hm h.1 z)
theorem has_counts {w0 : World} {P : Nat} {s : Sl} {w : World} (h : Has w0 P s w) (z : Int) :
    Calls Try.prog 25 #[.pointer (some ⟨P, 0, none⟩), .int .i64 z] w fun e w' => e = .returned (.tuple #[.int .i64 (s.counts z).1, .int .i64 (s.counts z).2.1, .int .i64 (s.counts z).2.2]) ∧ ∃ m, w' = w.drewN m := by
  obtain ⟨ho, hb, d, rfl, hm, hf⟩ := h
  exact counts_any hm ho z
theorem has_chunks {w0 : World} {P : Nat} {s : Sl} {w : World} (h : Has w0 P s w) (z : Int) :
    Calls Try.prog 24 #[.pointer (some ⟨P, 0, none⟩), .int .i64 z] w fun e w' => ∃ a c, e = .returned (.slice a (s.chunks z).length c) ∧ Has w0 P s w' := by
  have h0 := h
  obtain ⟨ho, hb, d, rfl, hm, hf⟩ := h
  refine (chunks_any hm ho z).mono ?_
  rintro e w' ⟨v, rfl, hown, hB⟩
  obtain ⟨a, c, rfl⟩ := row_form hown
  exact ⟨a, c, rfl, h0.more hB⟩
end Go.Proofs.Ytldfpacdlephcaa

/-
  The document's own counts (ambryref19): one more, in memory (S1). Conditions: the counts lie in one block, each below 2^64.
-/
import Derived.Test.YtfoggbgemdlhbaaDoorStsMem
import Derived.BigRegion
import Derived.StillTailTactics
import Derived.Deep.MidRow
namespace Go.Proofs.YtfoggbgemdlhbaaDoor.Sc
open Go Go.RowKit Go.Lib

theorem rc_at (f : Nat → Nat) {i : Nat} (h : i < 18) : (rc f)[i]? = some (u (f i)) := by
  have e : i = 0 ∨ i = 1 ∨ i = 2 ∨ i = 3 ∨ i = 4 ∨ i = 5 ∨ i = 6 ∨ i = 7 ∨ i = 8 ∨ i = 9 ∨ i = 10 ∨ i = 11 ∨ i = 12 ∨ i = 13 ∨ i = 14 ∨ i = 15 ∨ i = 16 ∨ i = 17 := by omega
  rcases e with rfl | rfl | rfl | rfl | rfl | rfl | rfl | rfl | rfl | rfl | rfl | rfl | rfl | rfl | rfl | rfl | rfl | rfl <;> rfl
theorem rc_set (f : Nat → Nat) {i : Nat} (h : i < 18) (v : Nat) : (rc f).set i (u v) = rc (up f i v) := by
  have e : i = 0 ∨ i = 1 ∨ i = 2 ∨ i = 3 ∨ i = 4 ∨ i = 5 ∨ i = 6 ∨ i = 7 ∨ i = 8 ∨ i = 9 ∨ i = 10 ∨ i = 11 ∨ i = 12 ∨ i = 13 ∨ i = 14 ∨ i = 15 ∨ i = 16 ∨ i = 17 := by omega
  rcases e with rfl | rfl | rfl | rfl | rfl | rfl | rfl | rfl | rfl | rfl | rfl | rfl | rfl | rfl | rfl | rfl | rfl | rfl <;> rfl
theorem SR.put {P : Nat} {f : Nat → Nat} {w : World} (h : SR P f w) {i : Nat} (hi : i < 18) {v : Nat} (hv : v < 18446744073709551616) :
    SR P (up f i v) (w.setCell ⟨P, i, none⟩ (u v)) ∧ Only (fun b => b = P) w (w.setCell ⟨P, i, none⟩ (u v)) := by
  obtain ⟨a, b⟩ := stored h.2 (rc_set f hi v)
  exact ⟨⟨h.1.up i hv, a⟩, b⟩
theorem SR.one {P : Nat} {f : Nat → Nat} {w : World} (h : SR P f w) {i : Nat} (hi : i < 18) :
    SR P (inc f i) (w.setCell ⟨P, i, none⟩ (.int .u64 (IntKind.u64.wrap ((f i : Int) + 1)))) ∧ Only (fun b => b = P) w (w.setCell ⟨P, i, none⟩ (.int .u64 (IntKind.u64.wrap ((f i : Int) + 1)))) := by
  rw [u_inc]
  exact h.put hi (Nat.mod_lt _ (by decide))
theorem SR.drew {P : Nat} {f : Nat → Nat} {w : World} (h : SR P f w) : SR P f w.drew := h
theorem SR.cell {P : Nat} {f : Nat → Nat} {w : World} (h : SR P f w) {i : Nat} (hi : i < 18) : w.cell? ⟨P, i, none⟩ = some (.int .u64 (f i : Int)) := h.2.cell (rc_at f hi)
theorem SR.still {P : Nat} {f : Nat → Nat} {w : World} (h : SR P f w) : SR P f w ∧ Only (fun b => b = P) w w := ⟨h, Only.refl _ w⟩
/-- A region whose operations but the last ones only read: the walk in the text's order. -/
theorem region_tail {P : Program} {id : Nat} {Q : Exit → Act → World → Prop} {a : Act} {w : World} {l : List Oper} (n : Nat) (hm : P.follows .mixedOrders = true) (hB : Region.lexTailB .any l.toArray n = true)
    (h : wpStill P l.toArray w.drew (fun a' => wpList P l.toArray Q (l.drop n) a' w.drew) (l.take n) a) : (Code.region id l.toArray true).wp P Q a w := wp_region_still_tail n hm hB h
theorem setc_blk {b : Nat} {t : TypeId} : ∀ (vs : List Value) (i : Nat) (W : World) (pre cs : List Value), Blk W b t (pre ++ cs) → pre.length = i → vs.length = cs.length → Blk (W.setCells b i vs) b t (pre ++ vs)
  | [], _, _, pre, cs, h, _, hl => by
    have : cs = [] := List.eq_nil_of_length_eq_zero hl.symm
    rw [this] at h; exact h
  | v :: vs, i, W, pre, cs, h, hp, hl => by
    cases cs with
    | nil => simp at hl
    | cons c cs =>
      have h1 := h.set i v
      rw [show (pre ++ c :: cs).set i v = (pre ++ [v]) ++ cs by subst hp; simp] at h1
      have h2 := setc_blk vs (i + 1) _ (pre ++ [v]) cs h1 (by simp [hp]) (by simpa using hl)
      rw [List.append_assoc] at h2
      exact h2
theorem setc_only {b : Nat} : ∀ (vs : List Value) (i : Nat) (w W : World), Only (fun x => x = b) w W → Only (fun x => x = b) w (W.setCells b i vs)
  | [], _, _, _, h => h
  | v :: vs, i, w, _, h => setc_only vs (i + 1) w _ (h.setCell (p := ⟨b, i, none⟩) (.inl rfl) v)
theorem blk_there {w : World} {b : Nat} {t : TypeId} {cs : List Value} (h : Blk w b t cs) : w.there b 0 cs.length := fun j hj => by
  have hc := h.cell (List.getElem?_eq_getElem hj)
  refine ⟨?_, ?_⟩
  · rw [Nat.zero_add, hc]; rfl
  · rw [Nat.zero_add]; exact h.frozen j
def zeros : List Value := [u 0, u 0, u 0, u 0, u 0, u 0, u 0, u 0, u 0, u 0, u 0, u 0, u 0, u 0, u 0, u 0, u 0, u 0]
theorem zeros_set {P : Nat} {t : TypeId} {cs : List Value} {w : World} (h : Blk w P t cs) (hl : cs.length = 18) : Blk (w.setCells P 0 zeros) P t zeros ∧ Only (fun b => b = P) w (w.setCells P 0 zeros) :=
  ⟨setc_blk zeros 0 w [] cs h rfl (by rw [hl]; rfl), setc_only _ _ _ _ (Only.refl _ w)⟩
theorem zeros_there {P : Nat} {t : TypeId} {cs : List Value} {w : World} (h : Blk w P t cs) (hl : cs.length = 18) : w.there P 0 zeros.toArray.size := by
  have ht := blk_there h
  rw [hl] at ht
  exact ht
theorem zeros_one : zeros.toArray.all (·.oneCell') = true := all_oneCell_toArray (fun v hv => by
  simp only [zeros, List.mem_cons, List.not_mem_nil, or_false, or_self] at hv
  rw [hv]; rfl)
def incIf (f : Nat → Nat) (i : Nat) (b : Bool) : Nat → Nat := if b = true then inc f i else f

theorem arr18 : Tryd.prog.arrayLen 29 = 18 := by kernel_rfl
set_option maxRecDepth 100000 in
theorem one_any {P : Nat} {f : Nat → Nat} {w : World} (h : SR P f w) {i : Nat} (hi : i < 18) (b : Bool) :
    Calls Tryd.prog 19 #[.pointer (some ⟨P, 0, none⟩), .int .i64 (i : Int), .bool b] w fun e w' => e = .returned (.tuple #[]) ∧ SR P (incIf f i b) w' ∧ Only (fun b => b = P) w w' := by
  cases b with
  | false =>
    have HS := hidc h.still
    clear h
    go_enter Tryd.func19, Tryd.ntmps19
    go_wp2_with fail
    go_end0
    exact ⟨rfl, HS.out⟩
  | true =>
    have ci := h.cell hi
    have fi := h.2.frozen i
    have HS := hidc (h.one hi)
    have i0 : (0 : Int) ≤ (i : Int) := by omega
    have i1 : (i : Int) < 18 := by omega
    have al := arr18
    clear h
    go_enter Tryd.func19, Tryd.ntmps19
    go_wp2_with fail
    refine region_tail 10 (by kernel_rfl) (by kernel_rfl) ?_
    simp only [List.take_succ_cons, List.take_zero, List.drop_succ_cons, List.drop_zero]
    repeat still_step
    refine wpStill_nil ?_
    go_wp2_with fail
    go_end0
    exact ⟨rfl, HS.out.1.drew, HS.out.2.drew⟩
end Go.Proofs.YtfoggbgemdlhbaaDoor.Sc

/-
  The document's own Lines (ambryref19): a row of the call's own that tells all eighteen counts in order (S1). Conditions: the counts lie in one block, each below 2^64.
-/
import Derived.Test.YtfoggbgemdlhbaaDoorStsRef
import Derived.Test.YtfoggbgemdlhbaaDoorStsShown
import Derived.Test.YtfoggbgemdlhbaaDoorWordsRef
namespace Go.Proofs.YtfoggbgemdlhbaaDoor.Sc
open Go Go.RowKit

set_option maxRecDepth 100000 in
theorem names_any (w : World) : Calls Tryd.prog 21 #[] w fun e w' => e = .returned (.slice (some ⟨w.heap.size, 0, none⟩) 18 18) ∧ Blk w' w.heap.size 9 (nm.map fun x => .string (S x)) ∧ Below w.heap.size w w' := by
  have HB := hidc (show Blk (w.alloc (.cells (nm.map fun x => Value.string (S x)).toArray 9)) w.heap.size 9 (nm.map fun x => Value.string (S x)) ∧ Below w.heap.size w (w.alloc (.cells (nm.map fun x => Value.string (S x)).toArray 9)) from
    ⟨Blk.new w _ _, (Below.refl _ w).alloc (Nat.le_refl _) _⟩)
  go_enter Tryd.func21, Tryd.ntmps21
  go_wp2_with fail
  go_ret
  exact ⟨rfl, HB.out⟩

theorem ownsRow_base' {w : World} {base base' : Nat} {e : TypeId} {size : Nat} {v : Value} {n : Nat} {xs : List Value} (h : w.ownsRow base e size v n xs) (hb : base' ≤ base) : w.ownsRow base' e size v n xs := by
  refine ⟨h.1, ?_⟩
  rcases h.2 with h2 | ⟨g, cap, cur, h1, h3, h4⟩
  · exact .inl h2
  · exact .inr ⟨g, cap, cur, h1, by omega, h4⟩
theorem rtext_any (n : Nat) (hn : n < 18446744073709551616) (w : World) : Calls Tryd.prog 22 #[.int .u64 n] w fun e w' => e = .returned (.string (S (Lib.decDigits n))) ∧ Below w.heap.size w w' := Nu.ref_text_any n hn w

set_option maxRecDepth 100000 in
set_option maxHeartbeats 2000000 in
theorem rlines_any {P : Nat} {f : Nat → Nat} {w : World} (h : SR P f w) :
    Calls Tryd.prog 13 #[.pointer (some ⟨P, 0, none⟩)] w fun e w' => ∃ v, e = .returned v ∧ w'.ownsRow w.heap.size 9 1 v 18 (cellsOf (lns f)) ∧ Below w.heap.size w w' := by
  obtain ⟨i0, hi, hz0, hz1, hz2⟩ := info_parts infoString
  have al := arr18
  have hok := h.1
  go_enter Tryd.func13, Tryd.ntmps13
  go_wp2_with fail
  refine (names_any _).mono ?_
  rintro e w1 ⟨rfl, hN, b1⟩
  have h1 := h.below b1
  have hQs : w.heap.size < w1.heap.size := hN.lt
  generalize hQ : w.heap.size = Q at *
  go_wp2_with fail
  go_loopw [3, 5] (fun v i wr => ∃ k : Nat, i = .int .i64 k ∧ k ≤ 18 ∧ wr.ownsRow w1.heap.size 9 1 v k (cellsOf ((lns f).take k)) ∧ Below w1.heap.size w1 wr)
    (fun _ i _ => 18 - (intOf i).toNat)
  case atStart => exact ⟨0, rfl, by omega, World.ownsRow_nil _ _ _ _, Below.refl _ _⟩
  case round =>
    obtain ⟨k, rfl, hk, hown, hb⟩ := hrel
    have hsz := hb.size
    by_cases hlt : k < 18
    · have ilt : (k : Int) < 18 := by omega
      have ige : (0 : Int) ≤ (k : Int) := by omega
      obtain ⟨x, hx, hxl⟩ := nm_at' hlt
      have hr := h1.below hb
      have cN := cell_regrown ((hN.below hb).cell (i := k) (v := .string (S x)) (by simp [hx]))
      have cF := cell_regrown (hr.cell hlt)
      have cT : ∀ d os, Calls Tryd.prog 22 #[.int .u64 (f k : Int)] (Sort.grow (redrawn wr d) os) fun e w'' => e = .returned (.string (S (Lib.decDigits (f k)))) ∧ ∃ p : Regrown, w'' = Sort.grow (redrawn wr p.d) p.os := fun d os => Calls.regrown_of (rtext_any (f k) (hok k) _)
      have hd := Nu.dd_len_le (hok k)
      have hE : Hid (S [83, 84, 65, 84, 32] ++ S x ++ S [32] ++ S (Lib.decDigits (f k)) = S (ln x (f k))) := hidc (by rw [S_app, S_app, S_app]; rfl)
      have n1 : ¬ 9223372036854775807 < 5 + (S x).size := by rw [S_size]; omega
      have n2 : ¬ 9223372036854775807 < 5 + (S x).size + 1 := by rw [S_size]; omega
      have n3 : ¬ 9223372036854775807 < 5 + (S x).size + 1 + (S (Lib.decDigits (f k))).size := by rw [S_size, S_size]; omega
      have hln : Hid (cellsOf ((lns f).take (k + 1)) = cellsOf ((lns f).take k) ++ [.string (S (ln x (f k)))]) := hidc (by
        rw [List.take_add_one, lns_at f hlt, hx]; simp [cellsOf])
      generalize S (Lib.decDigits (f k)) = D at *
      generalize S x = X at *
      generalize S (ln x (f k)) = R at *
      clear hd hx hxl hr
      unfold S at hE
      go_wp2_with fail
      obtain ⟨va, vc, rfl⟩ := row_form hown
      refine region_own1 (v := .slice va k vc) 15 (by kernel_rfl) (by decide) (by kernel_rfl) (by kernel_rfl) (by kernel_rfl) (fun _ _ _ h => h) (Or.inl ⟨by rfl, ?_⟩) ?_
      · intro W
        go_simp
      simp only [List.take_succ_cons, List.take_zero, List.drop_succ_cons, List.drop_zero]
      iterate 12 (quiet_step (fail))
      quiet_step (exact cT _ _)
      quiet_step (fail)
      refine wpQuiet_nil ?_
      intro _ hw'
      obtain ⟨⟨dq, osq⟩, hw''⟩ := hw'
      subst hw''
      have hb1 := below_regrown wr dq osq
      generalize Sort.grow (redrawn wr dq) osq = W at *
      have hown1 := hown.kept (grown_of_below hb1) (by by_cases e : (Value.slice va k vc).ownBlock = none; exact .inl e; exact .inr e)
      have hsz1 := Nat.le_trans hsz hb1.size
      have hb2 := hb.trans (hb1.mono hb.size)
      have hE2 := hE.out
      clear hown hb hb1 cN cF cT hE
      go_wp2_with (at_builtin; refine wpList_append_own _ rfl _ _ 40 rfl w1.heap.size 9 i0 (.string ByteArray.empty) 1 16 Tryd.underlying40 hi hz0 hz1 hz2 rfl (by decide) _ _ _ rfl (hown1.alloc _) ⟨W.heap.size, 0, none⟩ 1 1 [.string R] rfl rfl ?c1 ?c2 ?c3 ?c4 ?c5 ?_)
      case c1 =>
        intro j u hj
        match j, hj with
        | 0, hj => simp at hj; subst hj; simp [Addr.add]
      case c2 => intro u hu; simp at hu; subst hu; rfl
      case c3 => unfold maxLen; omega
      case c4 => omega
      case c5 => simp; omega
      · intro v' w3 hown' hgrow _
        have hb3 := hb2.trans (own_grown hown1 hsz1 hgrow)
        have ho : w3.ownsRow w1.heap.size 9 1 v' (k + 1) (cellsOf ((lns f).take (k + 1))) := by rw [hln.out]; exact hown'
        clear hown' hgrow hown1
        go_wp2_with fail
        go_roundw
        case rel => exact ⟨k + 1, by go_num, by omega, ho, hb3⟩
        case measure => simp [intOf] <;> omega
    · obtain rfl : k = 18 := by omega
      obtain ⟨va, vc, rfl⟩ := row_form hown
      have hs1 : Q ≤ w1.heap.size := by omega
      have hown2 : wr.ownsRow Q 9 1 (.slice va 18 vc) 18 (cellsOf (lns f)) := by
        have e : (lns f).take 18 = lns f := List.take_of_length_le (by rw [lns_len]; exact Nat.le_refl _)
        rw [e] at hown
        exact ownsRow_base' hown hs1
      have hbb := b1.trans (hb.mono hs1)
      clear hown hb
      go_wp2_with fail
      go_ret
      exact ⟨_, rfl, by rw [hQ]; exact hown2, by rw [hQ]; exact hbb⟩
end Go.Proofs.YtfoggbgemdlhbaaDoor.Sc

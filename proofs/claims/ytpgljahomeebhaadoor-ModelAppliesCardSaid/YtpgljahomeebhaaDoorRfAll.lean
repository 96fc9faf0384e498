/-
  The contracts of the document's own store and math, all ways together. Conditions: the state's items can be read, and stand in order; the moment may be; values are not over long.
-/
import Derived.Test.YtpgljahomeebhaaDoorRfStore
import Derived.Test.YtpgljahomeebhaaDoorRfMath
namespace Go.Proofs.YtpgljahomeebhaaDoor.Md
open Go Go.RowKit Go.Lib

theorem ref_store {s : Ms} {V : Value} {w : World} (h : Sv w V s) (hs : Sorted s.its) (hlen : s.its.length ≤ 4194304) (now : Int) (hn1 : 1 ≤ now) (hn2 : now ≤ 1099511627776) (c : Cm) (o : Option It) (most : Int) (hk : c.key.size ≤ 1099511627776) (hcv : c.val.size ≤ 1099511627776) (ho : ∀ x, o = some x → x.key.size ≤ 1099511627776 ∧ x.val.size ≤ 1099511627776) (hm4 : c.mode ≤ 4) :
    Calls Tryd.prog 25 #[V, .int .i64 now, c.v, (o.getD noIt).v, .bool o.isSome, .int .i64 most] w fun e w' => ∃ V', e = .returned (.tuple #[V', (stoO now c most s.cas o).a.v]) ∧ Sv w' V' ⟨(stoO now c most s.cas o).e.on s.its c.key, (stoO now c most s.cas o).cas, s.fl⟩ ∧ Below w.heap.size w w' := by
  obtain ⟨v, rfl, hI⟩ := h
  obtain ⟨a, ca, rfl⟩ := hI.form
  have HI := hid hI
  have HS := hid hs
  clear hI hs
  obtain ⟨op, mode, k, cv, fg, exp, hx, cs, hc, de, ini, dn, vv, vive, rc, iv⟩ := c
  dsimp only at hk hcv hm4
  have no : ∀ st, (stoO now ⟨op, mode, k, cv, fg, exp, hx, cs, hc, de, ini, dn, vv, vive, rc, iv⟩ most s.cas o) = Out.no s.cas st → ∀ {e : Ending} {w' : World}, (∃ V', e = .returned (.tuple #[V', (An.of st).v]) ∧ Sv w' V' s ∧ Below w.heap.size w w') → ∃ V', e = .returned (.tuple #[V', (stoO now ⟨op, mode, k, cv, fg, exp, hx, cs, hc, de, ini, dn, vv, vive, rc, iv⟩ most s.cas o).a.v]) ∧ Sv w' V' ⟨(stoO now ⟨op, mode, k, cv, fg, exp, hx, cs, hc, de, ini, dn, vv, vive, rc, iv⟩ most s.cas o).e.on s.its k, (stoO now ⟨op, mode, k, cv, fg, exp, hx, cs, hc, de, ini, dn, vv, vive, rc, iv⟩ most s.cas o).cas, s.fl⟩ ∧ Below w.heap.size w w' := fun st h e w' hh => by
    rw [h]; exact hh
  cases o with
  | none =>
    by_cases h2 : 2 ≤ mode
    · refine (store_a2 (xk := emp) (xf := 0) (xv := emp) (xe := 0) (xc := 0) (xl := 0) (xs := false) (xw := false) HI (now := now) (most := most) h2).mono fun e w' hh => no 3 ?_ hh
      unfold stoO
      rw [if_pos (.inr ⟨h2, rfl⟩)]
    · cases hc
      · refine (store_go (xk := emp) (xf := 0) (xv := emp) (xe := 0) (xc := 0) (xl := 0) (xs := false) (xw := false) HI HS hlen (most := most) hn1 hn2 hk (by decide) hcv (by decide) (.inr ⟨rfl, by omega⟩) (.inl ⟨rfl, rfl⟩) ⟨k, fg, cv, moment now exp, 0, 0, false, false⟩ (by rw [if_neg (by simp)]) hm4).mono fun e w' hh => ?_
        have e1 : stoO now ⟨op, mode, k, cv, fg, exp, hx, cs, false, de, ini, dn, vv, vive, rc, iv⟩ most s.cas none = stoE most s.cas ⟨k, fg, cv, moment now exp, 0, 0, false, false⟩ := by
          unfold stoO
          rw [if_neg (by simp; omega), if_neg (by simp)]; rfl
        rw [e1]; exact hh
      · refine (store_b (xk := emp) (xf := 0) (xv := emp) (xe := 0) (xc := 0) (xl := 0) (xs := false) (xw := false) HI (now := now) (most := most) (mode := mode) (by omega)).mono fun e w' hh => no 5 ?_ hh
        unfold stoO
        rw [if_neg (by simp; omega), if_pos rfl]
  | some x =>
    obtain ⟨xk, xf, xv, xe, xc, xl, xs, xw⟩ := x
    obtain ⟨hxk, hxv⟩ := ho _ rfl
    dsimp only at hxk hxv
    by_cases h1 : mode = 1
    · subst h1
      refine (store_a1 HI).mono fun e w' hh => no 3 ?_ hh
      unfold stoO
      rw [if_pos (.inl ⟨rfl, rfl⟩)]
    · have hf : ¬ ((mode = 1 ∧ (some (⟨xk, xf, xv, xe, xc, xl, xs, xw⟩ : It)).isSome = true) ∨ (2 ≤ mode ∧ (some (⟨xk, xf, xv, xe, xc, xl, xs, xw⟩ : It)).isSome = false)) := by simp [h1]
      have go : ∀ st : Bool, (hc = false ∧ st = false) ∨ (hc = true ∧ true = true ∧ xc = cs ∧ st = false) ∨ (hc = true ∧ true = true ∧ xc ≠ cs ∧ iv = true ∧ cs < xc ∧ st = true) → stoO now ⟨op, mode, k, cv, fg, exp, hx, cs, hc, de, ini, dn, vv, vive, rc, iv⟩ most s.cas (some ⟨xk, xf, xv, xe, xc, xl, xs, xw⟩) = stoE most s.cas (stoY now ⟨op, mode, k, cv, fg, exp, hx, cs, hc, de, ini, dn, vv, vive, rc, iv⟩ (some ⟨xk, xf, xv, xe, xc, xl, xs, xw⟩) st) →
          Calls Tryd.prog 25 #[msv (.slice a s.its.length ca) s.cas s.fl, .int .i64 now, Cm.v ⟨op, mode, k, cv, fg, exp, hx, cs, hc, de, ini, dn, vv, vive, rc, iv⟩, ((some (⟨xk, xf, xv, xe, xc, xl, xs, xw⟩ : It)).getD noIt).v, .bool (some (⟨xk, xf, xv, xe, xc, xl, xs, xw⟩ : It)).isSome, .int .i64 most] w fun e w' => ∃ V', e = .returned (.tuple #[V', (stoO now ⟨op, mode, k, cv, fg, exp, hx, cs, hc, de, ini, dn, vv, vive, rc, iv⟩ most s.cas (some ⟨xk, xf, xv, xe, xc, xl, xs, xw⟩)).a.v]) ∧ Sv w' V' ⟨(stoO now ⟨op, mode, k, cv, fg, exp, hx, cs, hc, de, ini, dn, vv, vive, rc, iv⟩ most s.cas (some ⟨xk, xf, xv, xe, xc, xl, xs, xw⟩)).e.on s.its k, (stoO now ⟨op, mode, k, cv, fg, exp, hx, cs, hc, de, ini, dn, vv, vive, rc, iv⟩ most s.cas (some ⟨xk, xf, xv, xe, xc, xl, xs, xw⟩)).cas, s.fl⟩ ∧ Below w.heap.size w w' := fun st hst e1 => by
        rw [e1]
        refine store_go HI HS hlen hn1 hn2 hk hxk hcv hxv (.inl ⟨rfl, h1⟩) hst _ ?_ hm4
        unfold stoY
        dsimp only
        by_cases h3 : 3 ≤ mode
        · rw [if_pos h3, if_pos (show (true = true ∧ 3 ≤ mode) from ⟨rfl, h3⟩)]; rfl
        · rw [if_neg h3, if_neg (show ¬ (true = true ∧ 3 ≤ mode) from fun e => h3 e.2)]
      cases hc
      · refine go false (.inl ⟨rfl, rfl⟩) ?_
        unfold stoO
        rw [if_neg hf, if_neg (by simp)]
      · by_cases hq : xc = cs
        · refine go false (.inr (.inl ⟨rfl, rfl, hq, rfl⟩)) ?_
          unfold stoO
          rw [if_neg hf, if_pos rfl]
          dsimp only
          rw [if_neg (fun e => e.1 hq), decide_eq_false (fun e => e hq)]
        · cases iv
          · refine (store_c_false HI h1 hq).mono fun e w' hh => no 4 ?_ hh
            unfold stoO
            rw [if_neg hf, if_pos rfl]
            dsimp only
            rw [if_pos ⟨hq, by simp⟩]
          · by_cases hl : cs < xc
            · refine go true (.inr (.inr ⟨rfl, rfl, hq, rfl, hl, rfl⟩)) ?_
              unfold stoO
              rw [if_neg hf, if_pos rfl]
              dsimp only
              rw [if_neg (fun e => e.2 ⟨rfl, hl⟩), decide_eq_true hq]
            · refine (store_c_true HI h1 hq hl).mono fun e w' hh => no 4 ?_ hh
              unfold stoO
              rw [if_neg hf, if_pos rfl]
              dsimp only
              rw [if_pos ⟨hq, fun e => hl e.2⟩]
theorem ref_math {s : Ms} {V : Value} {w : World} (h : Sv w V s) (hs : Sorted s.its) (hlen : s.its.length ≤ 4194304) (now : Int) (hn1 : 1 ≤ now) (hn2 : now ≤ 1099511627776) (c : Cm) (o : Option It) (most : Int) (hini : c.init ≤ 18446744073709551615) (hk : c.key.size ≤ 1099511627776) (ho : ∀ x, o = some x → x.key.size ≤ 1099511627776) :
    Calls Tryd.prog 26 #[V, .int .i64 now, c.v, (o.getD noIt).v, .bool o.isSome, .int .i64 most] w fun e w' => ∃ V', e = .returned (.tuple #[V', (matO now c most s.cas o).a.v]) ∧ Sv w' V' ⟨(matO now c most s.cas o).e.on s.its c.key, (matO now c most s.cas o).cas, s.fl⟩ ∧ Below w.heap.size w w' := by
  obtain ⟨v, rfl, hI⟩ := h
  obtain ⟨a, ca, rfl⟩ := hI.form
  have HI := hid hI
  have HS := hid hs
  clear hI hs
  obtain ⟨op, mode, k, cv, fg, exp, hx, cs, hc, de, ini, dn, vv, vive, rc, iv⟩ := c
  dsimp only at hk hini
  cases o with
  | none =>
    cases vv
    · exact math_no HI hini
    · exact math_viv HI HS hlen hn1 hn2 hini hk
  | some x =>
    obtain ⟨xk, xf, xv, xe, xc, xl, xs, xw⟩ := x
    exact math_go HI HS hlen hn1 hn2 hini (ho _ rfl)
end Go.Proofs.YtpgljahomeebhaaDoor.Md

/-
  The walk of item.Decode at this program where the lengths fit: all three ways, and the whole contract. Conditions: those of its numbers.
-/
import Derived.Test.YtdbaldkinjdeaaaItemDecWa
import Derived.Test.YtdbaldkinjdeaaaItemDecWb
import Derived.Test.YtdbaldkinjdeaaaItemDecWc
namespace Go.Proofs.Ytdbaldkinjdeaaa
open Go Go.RowKit Go.Lib

set_option maxHeartbeats 4000000 in
set_option maxRecDepth 100000 in
theorem dec_fits (w : World) (g o n c : Nat) (l : List UInt8) (hb : Byts w (.slice (some ⟨g, o, none⟩) n c) l) (hn : l.length = n) (hc : n ≤ c) (hf : fitsB l = true) (r : Bool) (hr : (theIt l).right = r) :
    Calls Try.prog 14 #[.slice (some ⟨g, o, none⟩) n c] w fun e w' => e = .returned (decV (if r = true then some (theIt l) else none)) ∧ Below w.heap.size w w' := by
  obtain ⟨h40, hM3, _, _, hV, hT⟩ := fits_parts hf
  have hh : headB l = true := by unfold fitsB at hf; simp only [Bool.and_eq_true] at hf; exact hf.2.1
  have hH := fun W h => head_any W g o n c l h h40 hn hc
  rw [hh] at hH
  have hN8 := dec_calls g o n c l h40 (o + 8) (c - 8) 8 12 4 rfl (by decide) (by decide) rfl rfl
  have hN4 := dec_calls g o n c l h40 (o + 4) (c - 4) 4 8 4 rfl (by decide) (by decide) rfl rfl
  have hN16 := dec_calls g o n c l h40 (o + 16) (c - 16) 16 24 8 rfl (by decide) (by decide) rfl rfl
  have hN24 := dec_calls g o n c l h40 (o + 24) (c - 24) 24 32 8 rfl (by decide) (by decide) rfl rfl
  have hN32 := dec_calls g o n c l h40 (o + 32) (c - 32) 32 40 8 rfl (by decide) (by decide) rfl rfl
  obtain ⟨hx0, hx1⟩ := dec_facts hb h40
  have hK := dK_lt l
  have hsi := fun w => size_any (dK l : Nat) (dV l : Nat) w
  rw [size_small hK hV] at hsi
  have hF : IntKind.u32.wrap (num (fld l 4 8) : Int) = (num (fld l 4 8) : Int) := by rw [IntKind.wrap_u32]; have : num (fld l 4 8) < 4294967296 := fld_num_lt (m := 4) (by decide); omega
  have hE : IntKind.i64.wrap (num (fld l 16 24) : Int) = toI (num (fld l 16 24)) := wrap_toI (fld_num_lt (m := 8) (by decide))
  have hL : IntKind.i64.wrap (num (fld l 32 40) : Int) = toI (num (fld l 32 40)) := wrap_toI (fld_num_lt (m := 8) (by decide))
  obtain ⟨hst, hwo⟩ := and_one (dM l) hM3
  obtain ⟨H, eH⟩ : ∃ H, H = 40 + dK l := ⟨_, rfl⟩
  obtain ⟨T, eT⟩ : ∃ T, T = 40 + dK l + dV l := ⟨_, rfl⟩
  have hit : theIt l = ⟨S (fld l 40 H), num (fld l 4 8), S (fld l H T), toI (num (fld l 16 24)), num (fld l 24 32), toI (num (fld l 32 40)), decide (dM l % 2 = 1), decide (dM l / 2 = 1)⟩ := by rw [eH, eT]; rfl
  have hcase : ∃ o1 o2, ((c = 40 ∧ H = 40 ∧ o1 = o ∧ o2 = o) ∨ (¬ c = 40 ∧ c = H ∧ o1 = o + 40 ∧ o2 = o) ∨ (¬ c = 40 ∧ ¬ c = H ∧ o1 = o + 40 ∧ o2 = o + H)) ∧
      (∀ W, Hid (Byts W (.slice (some ⟨g, o, none⟩) n c) l) → (convert 27 9 (.slice (some ⟨g, o1, none⟩) (H - 40) (c - 40))).run Try.prog W = .ok (.string (S (fld l 40 H))) W) ∧
      (∀ W, Hid (Byts W (.slice (some ⟨g, o, none⟩) n c) l) → (convert 27 9 (.slice (some ⟨g, o2, none⟩) (T - H) (c - H))).run Try.prog W = .ok (.string (S (fld l H T))) W) := by
    have none_ : ∀ (W : World) (i j cc : Nat), i = j → (convert 27 9 (.slice (some ⟨g, o, none⟩) (j - i) cc)).run Try.prog W = .ok (.string (S (fld l i j))) W := fun W i j cc e => by
      subst e
      have e0 : fld l i i = [] := by unfold fld; rw [Nat.sub_self, List.take_zero]
      rw [e0, Nat.sub_self]
      exact conv_byts (l := []) ⟨some ⟨g, o, none⟩, cc, rfl, fun j x hj => by simp at hj⟩ rfl
    by_cases h1 : c = 40
    · exact ⟨o, o, .inl ⟨h1, by omega, rfl, rfl⟩, fun W _ => none_ W 40 H _ (by omega), fun W _ => none_ W H T _ (by omega)⟩
    · by_cases h2 : c = H
      · exact ⟨o + 40, o, .inr (.inl ⟨h1, h2, rfl, rfl⟩), fun W hW => conv_byts (hW.out.sub (by omega) (by omega)) rfl, fun W _ => none_ W H T _ (by omega)⟩
      · exact ⟨o + 40, o + H, .inr (.inr ⟨h1, h2, rfl, rfl⟩), fun W hW => conv_byts (hW.out.sub (by omega) (by omega)) rfl, fun W hW => conv_byts (hW.out.sub (by omega) (by omega)) rfl⟩
  obtain ⟨o1, o2, hcase, hck, hcv⟩ := hcase
  have hDN := dn_of (n := n) (c := c) (by omega) hc hK hV (by omega)
  rw [← eT] at hsi hDN
  rw [← eH] at hDN
  have hDC : DC g o n c H T (dK l) (dV l) l (num (fld l 4 8)) (num (fld l 16 24)) (num (fld l 24 32)) (num (fld l 32 40)) (S (fld l 40 H)) (S (fld l H T)) o1 o2 := ⟨hH, hN8, hN4, hN16, hN24, hN32, hck, hcv, hsi⟩
  rw [hit] at hr ⊢
  rcases hcase with ⟨p1, p2, p3, p4⟩ | ⟨p1, p2, p3, p4⟩ | ⟨p1, p2, p3, p4⟩
  · exact dec_walk_a w g o n c H T _ _ _ l _ _ _ _ _ _ _ _ _ _ r hb hDN o1 o2 hDC (eq_true p1) (eq_true (p1.trans p2.symm)) p3.symm p4.symm hx0 hx1 hF hE hL hst hwo hr
  · exact dec_walk_b w g o n c H T _ _ _ l _ _ _ _ _ _ _ _ _ _ r hb hDN o1 o2 hDC p1 (eq_true p2) p3 p4.symm hx0 hx1 hF hE hL hst hwo hr
  · exact dec_walk_c w g o n c H T _ _ _ l _ _ _ _ _ _ _ _ _ _ r hb hDN o1 o2 hDC p1 p2 p3 p4 hx0 hx1 hF hE hL hst hwo hr

theorem dec_any (w : World) (a : Option Addr) (n c : Nat) (l : List UInt8) (hb : Byts w (.slice a n c) l) (hn : l.length = n) (hc : n ≤ c) :
    Calls Try.prog 14 #[.slice a n c] w fun e w' => e = .returned (decV (dec l)) ∧ Below w.heap.size w w' := by
  by_cases h40 : n < 40
  · have e : dec l = none := by
      unfold dec
      rw [if_neg]
      intro h
      have := (fits_parts h).1
      omega
    rw [e]; exact dec_short w a n c h40
  · obtain ⟨g, o, rfl⟩ : ∃ g o, a = some ⟨g, o, none⟩ := by
      obtain ⟨a', c', e, hx⟩ := hb
      cases e
      obtain ⟨g, o, ha, _⟩ := hx 0 (l[0]'(by omega)) (List.getElem?_eq_getElem _)
      exact ⟨g, o, ha⟩
    cases hf : fitsB l with
    | true =>
      have := dec_fits w g o n c l hb hn hc hf _ rfl
      unfold dec
      rw [if_pos hf]
      exact this
    | false =>
      have e : dec l = none := by unfold dec; rw [hf]; rfl
      rw [e]
      cases hh : headB l with
      | false => exact dec_head w g o n c l hb (by omega) hn hc hh
      | true => exact dec_long w g o n c l hb (by omega) hn hc hh hf
end Go.Proofs.Ytdbaldkinjdeaaa

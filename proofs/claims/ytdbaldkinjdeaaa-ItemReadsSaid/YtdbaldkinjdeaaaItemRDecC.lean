/-
  Contract of ambryref08.Decode at this program: the item with whose bytes these begin, or none. Conditions: the length is no more than the capacity, and below 2^63.
-/
import Derived.Test.YtdbaldkinjdeaaaItemRDecWa
import Derived.Test.YtdbaldkinjdeaaaItemRDecWb
import Derived.Test.YtdbaldkinjdeaaaItemRDecWc
namespace Go.Proofs.Ytdbaldkinjdeaaa
open Go Go.RowKit Go.Lib

theorem mod_two (M : Nat) (h : M ≤ 3) : ((M : Int).tmod 2 == 1) = decide (M % 2 = 1) ∧ (IntKind.u64.wrap ((M : Int) / 2) == 1) = decide (M / 2 = 1) := by
  rcases M with _ | _ | _ | _ | M
  · exact ⟨rfl, rfl⟩
  · exact ⟨rfl, rfl⟩
  · exact ⟨rfl, rfl⟩
  · exact ⟨rfl, rfl⟩
  · omega

set_option maxHeartbeats 4000000 in
set_option maxRecDepth 100000 in
theorem rdec_fits (w : World) (g o n c : Nat) (l : List UInt8) (hb : Byts w (.slice (some ⟨g, o, none⟩) n c) l) (hn : l.length = n) (hc : n ≤ c) (hn63 : n ≤ 9223372036854775807) (hf : fitsB l = true) (r : Bool) (hr : (theIt l).right = r) :
    Calls Try.prog 15 #[.slice (some ⟨g, o, none⟩) n c] w fun e w' => e = .returned (decV (if r = true then some (theIt l) else none)) ∧ Below w.heap.size w w' := by
  obtain ⟨h40, hM3, hMe, hVe, hV, hT⟩ := fits_parts hf
  have hN1 := rdec_calls g o n c l h40 (o + 1) (c - 1) 1 4 3 rfl (by decide) (by decide) rfl rfl
  have hN8 := rdec_calls g o n c l h40 (o + 8) (c - 8) 8 16 8 rfl (by decide) (by decide) rfl rfl
  rw [hMe] at hN1
  rw [hVe] at hN8
  have hN4 := rdec_calls g o n c l h40 (o + 4) (c - 4) 4 8 4 rfl (by decide) (by decide) rfl rfl
  have hN16 := rdec_calls g o n c l h40 (o + 16) (c - 16) 16 24 8 rfl (by decide) (by decide) rfl rfl
  have hN24 := rdec_calls g o n c l h40 (o + 24) (c - 24) 24 32 8 rfl (by decide) (by decide) rfl rfl
  have hN32 := rdec_calls g o n c l h40 (o + 32) (c - 32) 32 40 8 rfl (by decide) (by decide) rfl rfl
  obtain ⟨hx0, _⟩ := dec_facts hb h40
  have hK := dK_lt l
  have hF : IntKind.u32.wrap (num (fld l 4 8) : Int) = (num (fld l 4 8) : Int) := by rw [IntKind.wrap_u32]; have : num (fld l 4 8) < 4294967296 := fld_num_lt (m := 4) (by decide); omega
  have hE : IntKind.i64.wrap (num (fld l 16 24) : Int) = toI (num (fld l 16 24)) := wrap_toI (fld_num_lt (m := 8) (by decide))
  have hL : IntKind.i64.wrap (num (fld l 32 40) : Int) = toI (num (fld l 32 40)) := wrap_toI (fld_num_lt (m := 8) (by decide))
  obtain ⟨hst, hwo⟩ := mod_two (dM l) hM3
  obtain ⟨H, eH⟩ : ∃ H, H = 40 + dK l := ⟨_, rfl⟩
  obtain ⟨T, eT⟩ : ∃ T, T = 40 + dK l + dV l := ⟨_, rfl⟩
  have hit : theIt l = ⟨S (fld l 40 H), num (fld l 4 8), S (fld l H T), toI (num (fld l 16 24)), num (fld l 24 32), toI (num (fld l 32 40)), decide (dM l % 2 = 1), decide (dM l / 2 = 1)⟩ := by rw [eH, eT]; rfl
  have hcase : ∃ o1 o2, ((c = 40 ∧ H = 40 ∧ o1 = o ∧ o2 = o) ∨ (¬ c = 40 ∧ c = H ∧ o1 = o + 40 ∧ o2 = o) ∨ (¬ c = 40 ∧ ¬ c = H ∧ o1 = o + 40 ∧ o2 = o + H)) ∧
      (∀ W, Hid (Byts W (.slice (some ⟨g, o, none⟩) n c) l) → (convert 27 9 (.slice (some ⟨g, o1, none⟩) (H - 40) (c - 40))).run Try.prog W = .ok (.string (S (fld l 40 H))) W) ∧
      (∀ W, Hid (Byts W (.slice (some ⟨g, o, none⟩) n c) l) → (convert 27 9 (.slice (some ⟨g, o2, none⟩) (T - H) (c - H))).run Try.prog W = .ok (.string (S (fld l H T))) W) := by
    have none_ : ∀ (W : World) (i j cc : Nat), i = j → (convert 27 9 (.slice (some ⟨g, o, none⟩) (j - i) cc)).run Try.prog W = .ok (.string (S (fld l i j))) W := fun W i j cc e => by
      subst e
      have e0 : fld l i i = [] := by unfold fld; rw [Nat.sub_self, List.take_zero]
      rw [e0, Nat.sub_self]
      exact conv_byts (l := []) ⟨some ⟨g, o, none⟩, cc, rfl, fun j x hj => by simp at hj⟩ rfl
    by_cases h1 : c = 40
    · exact ⟨o, o, .inl ⟨h1, by omega, rfl, rfl⟩, fun W _ => none_ W 40 H _ (by omega), fun W _ => none_ W H T _ (by omega)⟩
    · by_cases h2 : c = H
      · exact ⟨o + 40, o, .inr (.inl ⟨h1, h2, rfl, rfl⟩), fun W hW => conv_byts (hW.out.sub (by omega) (by omega)) rfl, fun W _ => none_ W H T _ (by omega)⟩
      · exact ⟨o + 40, o + H, .inr (.inr ⟨h1, h2, rfl, rfl⟩), fun W hW => conv_byts (hW.out.sub (by omega) (by omega)) rfl, fun W hW => conv_byts (hW.out.sub (by omega) (by omega)) rfl⟩
  obtain ⟨o1, o2, hcase, hck, hcv⟩ := hcase
  have hRN := rn_of (n := n) (c := c) (by omega) hn63 hc hK hM3 hV (by omega)
  rw [← eT] at hRN
  rw [← eH] at hRN
  have hRC : RC g o n c H T (dV l) (dM l) l (num (fld l 4 8)) (num (fld l 16 24)) (num (fld l 24 32)) (num (fld l 32 40)) (S (fld l 40 H)) (S (fld l H T)) o1 o2 := ⟨hN1, hN8, hN4, hN16, hN24, hN32, hck, hcv⟩
  have hks : (S (fld l 40 H)).size < 9223372036854775807 := by rw [S_size, fld_len (by omega) (by omega)]; omega
  rw [hit] at hr ⊢
  rcases hcase with ⟨p1, p2, p3, p4⟩ | ⟨p1, p2, p3, p4⟩ | ⟨p1, p2, p3, p4⟩
  · exact rdec_walk_a w g o n c H T _ _ _ l _ _ _ _ _ _ _ _ _ _ r hb hRN o1 o2 hRC (eq_true p1) (eq_true (p1.trans p2.symm)) p3.symm p4.symm hx0 hF hE hL hst hwo hks hr
  · exact rdec_walk_b w g o n c H T _ _ _ l _ _ _ _ _ _ _ _ _ _ r hb hRN o1 o2 hRC p1 (eq_true p2) p3 p4.symm hx0 hF hE hL hst hwo hks hr
  · exact rdec_walk_c w g o n c H T _ _ _ l _ _ _ _ _ _ _ _ _ _ r hb hRN o1 o2 hRC p1 p2 p3 p4 hx0 hF hE hL hst hwo hks hr

theorem rdec_any (w : World) (a : Option Addr) (n c : Nat) (l : List UInt8) (hb : Byts w (.slice a n c) l) (hn : l.length = n) (hc : n ≤ c) (hn63 : n ≤ 9223372036854775807) :
    Calls Try.prog 15 #[.slice a n c] w fun e w' => e = .returned (decV (dec l)) ∧ Below w.heap.size w w' := by
  by_cases h40 : n < 40
  · have e : dec l = none := by
      unfold dec
      rw [if_neg]
      intro h
      have := (fits_parts h).1
      omega
    rw [e]; exact rdec_short w a n c h40
  · obtain ⟨g, o, rfl⟩ : ∃ g o, a = some ⟨g, o, none⟩ := by
      obtain ⟨a', c', e, hx⟩ := hb
      cases e
      obtain ⟨g, o, ha, _⟩ := hx 0 (l[0]'(by omega)) (List.getElem?_eq_getElem _)
      exact ⟨g, o, ha⟩
    cases hf : fitsB l with
    | true =>
      have := rdec_fits w g o n c l hb hn hc hn63 hf _ rfl
      unfold dec
      rw [if_pos hf]
      exact this
    | false =>
      have e : dec l = none := by unfold dec; rw [hf]; rfl
      rw [e]
      exact rdec_bad w g o n c l hb (by omega) hn hc hn63 hf
end Go.Proofs.Ytdbaldkinjdeaaa

/-
  The document's own answer for layer 6 (ambryref06) at this program, more: Read. No conditions but that the numbers are an int's.
-/
import Derived.Test.YtldfpacdlephcaaArenaRefC
namespace Go.Proofs.Ytldfpacdlephcaa
open Go Go.RowKit Go.Lib

theorem own_empty {w : World} {b base : Nat} {t : TypeId} (h : Blk w b t []) (hb : base ≤ b) : w.ownsRow base t 1 (.slice (some ⟨b, 0, none⟩) 0 0) 0 [] :=
  ⟨by simp, .inr ⟨b, 0, #[], rfl, hb, h, Nat.le_refl _, Nat.zero_le _, rfl, rfl⟩⟩
theorem RIs.alloc {P O B cO cB : Nat} {bl : Nat → Option Nat} {s : St} {w : World} (h : RIs P O B cO cB bl s w) (o : Obj) : RIs P O B cO cB bl s (w.alloc o) :=
  h.only (D := fun _ => False) ((Only.refl _ w).alloc o) (fun _ _ => id)
theorem ref_src {w : World} {g k i m : Nat} {s : St} (hb : Blk w g 5 (bc (s.pg k))) : ∀ j v, (bc (s.get k i m))[j]? = some v → w.cell? ((⟨g, i, none⟩ : Addr).add j) = some v := by
  intro j v hj
  unfold bc at hj
  rw [List.getElem?_map] at hj
  obtain ⟨b, hb', rfl⟩ := Option.map_eq_some_iff.1 hj
  unfold St.get at hb'
  rw [List.getElem?_take] at hb'
  split at hb'
  · rw [List.getElem?_drop] at hb'
    rw [addr_plain]
    exact hb.cell (bc_at hb')
  · cases hb'

set_option maxHeartbeats 2000000 in
set_option maxRecDepth 100000 in
theorem ref_read_bad {P O B cO cB : Nat} {bl : Nat → Option Nat} {s : St} {w : World} (h : RIs P O B cO cB bl s w) (p i m : Int) (hi : i ≤ 9223372036854775807) (c : Int) (hc : c = s.code p i m) (h0 : c ≠ 0) :
    Calls Try.prog 69 #[.pointer (some ⟨P, 0, none⟩), .int .i64 p, .int .i64 i, .int .i64 m] w fun e w' => e = .returned (.tuple #[.slice none 0 0, .int .i64 c]) ∧ w = w' := by
  have hco := ref_owner h p
  have hP0 : w.cell? ⟨P, 0, none⟩ = some (.int .i64 (s.size : Int)) := h.head.cell rfl
  have hs2 := h.ok.s2
  rcases code_cases s p i m with ⟨hd, hg⟩ | ⟨hd, hg, hx⟩ | ⟨hd, _⟩
  · rw [hd] at hc
    subst hc
    have ho : ownerOf s.ow p = -1 := by
      rcases owner_sign h.ok p with ⟨_, e⟩ | ⟨e, _⟩
      · exact e
      · rw [hg] at e; cases e
    rw [ho] at hco
    clear h hg hd h0 ho
    go_enter Try.func69, Try.ntmps69
    go_wp2_with fail
    refine hco.mono ?_
    rintro e w' ⟨rfl, rfl⟩
    clear hco
    go_wp2_with fail
    go_ret2
    exact ⟨rfl, rfl⟩
  · rw [hd] at hc
    subst hc
    have ho : 0 ≤ ownerOf s.ow p := by
      rcases owner_sign h.ok p with ⟨e, _⟩ | ⟨_, e⟩
      · rw [hg] at e; cases e
      · exact e
    generalize ownerOf s.ow p = y at *
    generalize s.size = z at *
    clear h hg hd h0
    have hcase : i < 0 ∨ (0 ≤ i ∧ m < 0) ∨ (0 ≤ i ∧ 0 ≤ m ∧ (z : Int) < i) ∨ (0 ≤ i ∧ 0 ≤ m ∧ i ≤ (z : Int) ∧ (z : Int) - i < m) := by omega
    clear hx
    rcases hcase with h1 | ⟨h1, h2⟩ | ⟨h1, h2, h3⟩ | ⟨h1, h2, h3, h4⟩
    all_goals
      go_enter Try.func69, Try.ntmps69
      go_wp2_with fail
      refine hco.mono ?_
      rintro e w' ⟨rfl, rfl⟩
      clear hco
      go_wp2_with fail
      go_ret2
      exact ⟨rfl, rfl⟩
  · exact (h0 (hc.trans hd)).elim

theorem grown_only {w w' : World} {b : Nat} {n c : Nat} (h : w.grownBy w' (Value.slice (some ⟨b, 0, none⟩) n c).ownBlock) : Only (fun x => x = b) w w' :=
  ⟨h.os, h.tape, h.output, h.size, fun k hk hne => h.block k hk (fun e => hne (Option.some.inj e))⟩
theorem read_close {P O B cO cB : Nat} {bl bl' : Nat → Option Nat} {s : St} {w w2 w3 : World} (h : RIs P O B cO cB bl' s w2) (hf : ∀ b, RFoot P O B bl b → b < w.heap.size) (hn : ∀ i b, bl' i = some b → bl i = some b ∨ (w.alloc (.cells #[] 5)).heap.size ≤ b)
    (h2 : Only (fun b => b = B) w w2) (h3 : Only (fun b => b = w.heap.size) w2 w3) : RIs P O B cO cB bl' s w3 ∧ (∀ i b, bl' i = some b → bl i = some b ∨ w.heap.size ≤ b) ∧ Only (fun b => b = B) w w3 := by
  have hn' : ∀ i b, bl' i = some b → bl i = some b ∨ w.heap.size + 1 ≤ b := fun i b hb => by
    rcases hn i b hb with h | h
    · exact .inl h
    · refine .inr ?_
      simpa using h
  refine ⟨h.only h3 (fun b hb e => ?_), fun i b hb => ?_, h2.trans h3 (fun x hx => by subst hx; exact .inr (Nat.le_refl _))⟩
  · subst e
    rcases hb with e | e | e | ⟨i, hi⟩
    · have := hf P (.inl rfl); omega
    · have := hf O (.inr (.inl rfl)); omega
    · have := hf B (.inr (.inr (.inl rfl))); omega
    · rcases hn' i _ hi with e | e
      · have := hf _ (.inr (.inr (.inr ⟨i, e⟩))); omega
      · omega
  · rcases hn' i b hb with e | e
    · exact .inl e
    · exact .inr (by omega)

set_option maxHeartbeats 2000000 in
set_option maxRecDepth 100000 in
theorem ref_read_ok {P O B cO cB : Nat} {bl : Nat → Option Nat} {s : St} {w : World} (h : RIs P O B cO cB bl s w) (k i m : Nat) (hg : grB s.ow (k : Int) = true) (hk : k < s.ow.length) (hi : i + m ≤ s.size) :
    Calls Try.prog 69 #[.pointer (some ⟨P, 0, none⟩), .int .i64 k, .int .i64 i, .int .i64 m] w fun e w' => ∃ v, e = .returned (.tuple #[v, .int .i64 0]) ∧ w'.ownsRow w.heap.size 5 1 v m (bc (s.get k i m)) ∧ ∃ bl', RIs P O B cO cB bl' s w' ∧ (∀ i b, bl' i = some b → bl i = some b ∨ w.heap.size ≤ b) ∧ Only (fun b => b = B) w w' := by
  have hco := ref_owner h k
  have hP0 : w.cell? ⟨P, 0, none⟩ = some (.int .i64 (s.size : Int)) := h.head.cell rfl
  have hs2 := h.ok.s2
  have hlB := h.lt B (.inr (.inr (.inl rfl)))
  have ho : 0 ≤ ownerOf s.ow (k : Int) := by
    rcases owner_sign h.ok (k : Int) with ⟨e, _⟩ | ⟨_, e⟩
    · rw [hg] at e; cases e
    · exact e
  have hp := ref_page (h.alloc (.cells #[] 5)) k hk
  have hE := Blk.new w #[] 5
  have hlen := St.get_len h.ok hk hi
  obtain ⟨i0, hii, hz0, hz1, hz2⟩ := info_parts infoByte
  obtain ⟨cl, hcl⟩ : ∃ cl, cl = bc (s.get k i m) := ⟨_, rfl⟩
  have hcn : cl.length = m := by rw [hcl, bc_len, hlen]
  have HO := hid (bc_ok (s.get k i m))
  rw [← hcl] at HO ⊢
  have HC := hid hcl
  have HE := hid hE
  have HF := hid h.lt
  clear h hg hk hcl hlen hE
  generalize ownerOf s.ow (k : Int) = y at *
  obtain ⟨z, hz⟩ : ∃ z, s.size = z := ⟨_, rfl⟩
  rw [hz] at hP0 hs2 hi hp
  clear hz
  have q1 : (i : Int) ≤ (i : Int) + (m : Int) := by omega
  have q2 : (i : Int) + (m : Int) ≤ (z : Int) := by omega
  have q3 : (m : Int) ≤ (z : Int) - (i : Int) := by omega
  have q4 : (i : Int) ≤ (z : Int) := by omega
  have q5 : i + m - i = m := by omega
  have hcase : (z = i ∧ m = 0) ∨ ¬ z = i := by omega
  rcases hcase with ⟨rfl, rfl⟩ | hzi
  · go_enter Try.func69, Try.ntmps69
    go_wp2_with fail
    refine hco.mono ?_
    rintro e w' ⟨rfl, rfl⟩
    clear hco
    go_wp2_with fail
    refine hp.mono ?_
    rintro e w2 ⟨g, rfl, bl', hR, hbk, hnew, ho2⟩
    have H := hid hR
    have HN := hid hnew
    have HB2 := hid (own_empty (base := w.heap.size) (HE.out.only ho2 (by omega)) (Nat.le_refl _))
    have HS := hid (fun (j : Nat) (v : Value) (hj : cl[j]? = some v) => (absurd hj (by rw [List.eq_nil_of_length_eq_zero hcn]; simp) : w2.cell? ((⟨g, 0, none⟩ : Addr).add j) = some v))
    have hb2 : Only (fun b => b = B) w w2 := ((Only.refl _ w).alloc (.cells #[] 5)).trans ho2 (fun x hx => .inl hx)
    have hsz2 := hb2.size
    clear hp hR hbk hnew ho2
    go_wp2_with (at_builtin; refine wpList_append_own _ rfl _ _ 39 rfl w.heap.size 5 i0 (.int .u8 0) 1 1 Try.underlying39 hii hz0 hz1 hz2 rfl (by decide) (.slice (some ⟨w.heap.size, 0, none⟩) 0 0) 0 [] rfl HB2.out ⟨g, 0, none⟩ 0 0 cl rfl (by rw [hcn]) HS.out HO.out (by unfold maxLen; omega) (by omega) hsz2 ?_; intro v' w3 hown hgrow _)
    rw [Nat.zero_add, List.nil_append] at hown
    obtain ⟨r1, r2, r3⟩ := read_close H.out HF.out HN.out hb2 (grown_only hgrow)
    clear hgrow H HN HF HB2 HS hb2
    obtain ⟨a', c', rfl⟩ := row_form hown
    go_wp2_with fail
    go_ret2
    exact ⟨_, rfl, hown, bl', r1, r2, r3⟩
  · go_enter Try.func69, Try.ntmps69
    go_wp2_with fail
    refine hco.mono ?_
    rintro e w' ⟨rfl, rfl⟩
    clear hco
    go_wp2_with fail
    refine hp.mono ?_
    rintro e w2 ⟨g, rfl, bl', hR, hbk, hnew, ho2⟩
    have H := hid hR
    have HN := hid hnew
    have HB2 := hid (own_empty (base := w.heap.size) (HE.out.only ho2 (by omega)) (Nat.le_refl _))
    have HS := hid (ref_src (i := i) (m := m) (hR.page k g hbk))
    rw [← HC.out] at HS
    have hb2 : Only (fun b => b = B) w w2 := ((Only.refl _ w).alloc (.cells #[] 5)).trans ho2 (fun x hx => .inl hx)
    have hsz2 := hb2.size
    clear hp hR hbk hnew ho2
    go_wp2_with (at_builtin; refine wpList_append_own _ rfl _ _ 39 rfl w.heap.size 5 i0 (.int .u8 0) 1 1 Try.underlying39 hii hz0 hz1 hz2 rfl (by decide) (.slice (some ⟨w.heap.size, 0, none⟩) 0 0) 0 [] rfl HB2.out ⟨g, i, none⟩ (i + m - i) (z - i) cl rfl (by rw [hcn, Nat.mul_one, Nat.add_sub_cancel_left]) HS.out HO.out (by unfold maxLen; omega) (by omega) hsz2 ?_; intro v' w3 hown hgrow _)
    rw [Nat.zero_add, Nat.add_sub_cancel_left, List.nil_append] at hown
    obtain ⟨r1, r2, r3⟩ := read_close H.out HF.out HN.out hb2 (grown_only hgrow)
    clear hgrow H HN HF HB2 HS hb2
    obtain ⟨a', c', rfl⟩ := row_form hown
    go_wp2_with fail
    go_ret2
    exact ⟨_, rfl, hown, bl', r1, r2, r3⟩
end Go.Proofs.Ytldfpacdlephcaa

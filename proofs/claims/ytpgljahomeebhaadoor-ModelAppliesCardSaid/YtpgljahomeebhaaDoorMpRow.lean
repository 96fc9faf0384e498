/-
  Rows of items of a call's own, whose blocks are hidden; the contract of slices.Clone over items. Conditions: items can be read, and are not over many.
-/
import Derived.Test.YtpgljahomeebhaaDoorMpFun
import Derived.Test.YtpgljahomeebhaaDoorM1
import Derived.Lib.SliceRun
import Derived.Laws.IdiomCopy
namespace Go.Proofs.YtpgljahomeebhaaDoor.Md
open Go Go.RowKit Go.Lib

/-- A row of items whose block is one of G. -/
def Rw (G : Nat → Prop) (w : World) (v : Value) (l : List It) : Prop := w.ownsRow 0 33 8 v l.length (ics l) ∧ ∀ b, v.ownBlock = some b → G b
theorem own_base {w : World} {b c : Nat} {e : TypeId} {size : Nat} {v : Value} {n : Nat} {xs : List Value} (h : w.ownsRow b e size v n xs) (hc : c ≤ b) : w.ownsRow c e size v n xs :=
  ⟨h.1, h.2.imp id (fun ⟨g, cap, cur, hv, h0, r⟩ => ⟨g, cap, cur, hv, Nat.le_trans hc h0, r⟩)⟩
theorem own_lt {w : World} {base : Nat} {e : TypeId} {size : Nat} {v : Value} {n : Nat} {xs : List Value} (h : w.ownsRow base e size v n xs) {b : Nat} (hb : v.ownBlock = some b) : base ≤ b ∧ b < w.heap.size := by
  obtain ⟨h1, cs, h2⟩ := own_blk h hb
  exact ⟨h1, h2.lt⟩
section
variable {G H D : Nat → Prop} {w w' : World} {v : Value} {l : List It}
theorem Rw.its (h : Rw G w v l) : Its w v l := its_of_row h.1 rfl
theorem Rw.form (h : Rw G w v l) : ∃ a c, v = .slice a l.length c := row_form h.1
theorem Rw.mono (h : Rw G w v l) (hg : ∀ b, G b → H b) : Rw H w v l := ⟨h.1, fun b hb => hg b (h.2 b hb)⟩
theorem Rw.lt (h : Rw G w v l) {b : Nat} (hb : v.ownBlock = some b) : b < w.heap.size := (own_lt h.1 hb).2
theorem Rw.only (h : Rw G w v l) (ho : Only D w w') (hd : ∀ b, G b → ¬ D b) : Rw G w' v l :=
  ⟨⟨h.1.1, h.1.2.imp id (fun ⟨g, cap, cur, hv, h0, hg, r⟩ => ⟨g, cap, cur, hv, h0, (ho.block g (Array.getElem?_eq_some_iff.1 hg).1 (hd g (h.2 g (by rw [hv]; rfl)))).trans hg, r⟩)⟩, h.2⟩
theorem Rw.below (h : Rw G w v l) (hb : Below w.heap.size w w') : Rw G w' v l := ⟨orow_below h.1 hb, h.2⟩
theorem rw_nil (G : Nat → Prop) (w : World) : Rw G w (.slice none 0 0) [] := ⟨⟨rfl, .inl ⟨rfl, rfl⟩⟩, fun b hb => by simp [Value.ownBlock] at hb⟩
theorem Rw.new {n₀ : Nat} (h : w.ownsRow n₀ 33 8 v l.length (ics l)) : Rw (fun b => n₀ ≤ b ∧ b < w.heap.size) w v l := ⟨own_base h (Nat.zero_le _), fun _ hb => own_lt h hb⟩
end
theorem its_cells {w : World} {ad : Addr} {n c : Nat} {l : List It} (h : Its w (.slice (some ad) n c) l) : ∀ j u, (ics l)[j]? = some u → w.cell? (ad.add j) = some u := by
  intro j u hj
  obtain ⟨a', c', hv, hc, hn, hx⟩ := h
  injection hv with h1 h2 h3
  subst h1 h2 h3
  have hjl : j < l.length * 8 := by rw [← ics_len]; exact (List.getElem?_eq_some_iff.1 hj).1
  have hk : j / 8 < l.length := by omega
  obtain ⟨y, hy⟩ : ∃ y, l[j / 8]? = some y := ⟨_, List.getElem?_eq_getElem hk⟩
  have hm8 : j % 8 < y.cells.length := by rw [cells_len]; omega
  obtain ⟨v, hv⟩ : ∃ v, y.cells[j % 8]? = some v := ⟨_, List.getElem?_eq_getElem hm8⟩
  have h1 := ics_at hy hv
  rw [show j / 8 * 8 + j % 8 = j by omega, hj] at h1
  cases h1
  obtain ⟨b, o, e, hz⟩ := hx (j / 8) y hy
  cases e
  have := hz (j % 8) u hv
  rw [addr_plain]
  rw [show o + j = o + j / 8 * 8 + j % 8 by omega]
  exact this
set_option maxRecDepth 100000 in
theorem clone_any {v : Value} {l : List It} {w : World} (hI : Its w v l) (hlen : l.length ≤ 4194304) :
    Calls Tryd.prog 45 #[v] w fun e w' => ∃ v', e = .returned v' ∧ Rw (fun b => w.heap.size ≤ b ∧ b < w'.heap.size) w' v' l ∧ Below w.heap.size w w' := by
  obtain ⟨a, c, rfl⟩ := hI.form
  have hq := fun (W : World) n => run_eql_slice_nil (P := Tryd.prog) W 22 33 a n c 0 0 Tryd.underlying22
  cases a with
  | none =>
    obtain ⟨a', c', hv, hc, hn, hx⟩ := hI
    injection hv with h1 h2 h3
    have hc0 : c = 0 := by rw [h3]; exact hn h1.symm
    subst h3
    have hl : l = [] := List.eq_nil_of_length_eq_zero (by omega)
    subst hl
    clear h1 h2 hx hn hc
    subst hc0
    go_enter Tryd.func45, Tryd.ntmps45
    go_wp2_with fail
    go_ret
    exact ⟨_, rfl, rw_nil _ _, Below.refl _ _⟩
  | some ad =>
    have HS := hid (fun W (hW : Below w.heap.size w W) => its_cells (hI.below hW))
    obtain ⟨N, hN⟩ : ∃ N, N = l.length := ⟨_, rfl⟩
    have HO := hid (own_none8 w w.heap.size 33 (Nat.le_refl _))
    have HB := hid (abelow w (.cells #[] 33))
    have hcl : (ics l).length = N * 8 := by rw [ics_len, hN]
    have hok := ics_ok l
    rw [← hN] at hlen ⊢
    have HN := hid hN
    obtain ⟨i0, hi0, hz0, hz1, hz2⟩ := info_parts infoItem
    have HSZ := hid (show (w.alloc (.cells #[] 33)).heap.size = w.heap.size + 1 by simp)
    clear hI hN
    have hfin : Hid (∀ v' w1, w1.ownsRow w.heap.size 33 8 v' (0 + N) ([] ++ ics l) → (w.alloc (.cells #[] 33)).grownBy w1 (some w.heap.size) → Rw (fun b => w.heap.size ≤ b ∧ b < w1.heap.size) w1 v' l ∧ Below w.heap.size w w1) := hid (fun v' w1 hown hgrow => by
      rw [List.nil_append, Nat.zero_add, HN.out] at hown
      exact ⟨Rw.new hown, below_app (v := .slice (some ⟨w.heap.size, 0, none⟩) 0 0) HB.out hgrow (fun b hb => by simp [Value.ownBlock] at hb; omega)⟩)
    go_enter Tryd.func45, Tryd.ntmps45
    go_wp2_with (at_builtin; refine wpList_append_own _ rfl _ _ 22 rfl w.heap.size 33 i0 _ 8 72 Tryd.underlying22 hi0 hz0 hz1 hz2 rfl (by decide) (.slice (some ⟨w.heap.size, 0, none⟩) 0 0) 0 [] rfl HO.out ad N c (ics l) rfl hcl (HS.out _ HB.out) hok (by unfold maxLen; omega) (by omega) (by simp) ?_; intro v' w1 hown hgrow _; obtain ⟨X1, X2⟩ := hfin.out v' w1 hown hgrow; obtain ⟨a', c', rfl⟩ := row_form hown)
    go_ret
    rw [Nat.zero_add] at X1
    exact ⟨_, rfl, X1, X2⟩
/-! Rows under way: so many places hold items, whatever the slice's length is -/
/-- Block g holds the items l, and spare cells behind them, c items' worth in all. -/
structure Pl (g : Nat) (c : Nat) (w : World) (l : List It) : Prop where
  blk : ∃ cur, Blk w g 33 cur ∧ cur.length = c * 8 ∧ cur.take (l.length * 8) = ics l
  le : l.length ≤ c
  top : c ≤ maxLen
theorem Rw.pl {G : Nat → Prop} {w : World} {v : Value} {l : List It} (h : Rw G w v l) : (v = .slice none 0 0 ∧ l = []) ∨ ∃ g c, v = .slice (some ⟨g, 0, none⟩) l.length c ∧ G g ∧ Pl g c w l := by
  rcases h.1.2 with ⟨e, h0⟩ | ⟨g, cap, cur, e, _, hg, hn, hm, hs, ht⟩
  · exact .inl ⟨e, List.eq_nil_of_length_eq_zero h0⟩
  · exact .inr ⟨g, cap, e, h.2 g (by rw [e]; rfl), ⟨⟨cur.toList, hg, by simpa using hs, ht⟩, hn, hm⟩⟩
section
variable {G D : Nat → Prop} {g c : Nat} {w w' : World} {l : List It}
theorem Pl.rw (h : Pl g c w l) (hg : G g) : Rw G w (.slice (some ⟨g, 0, none⟩) l.length c) l := by
  obtain ⟨⟨cur, hb, hl, ht⟩, hle, hm⟩ := h
  exact ⟨⟨ics_len l, .inr ⟨g, c, cur.toArray, rfl, Nat.zero_le _, hb, hle, hm, by simpa using hl, ht⟩⟩, fun b hb => by simp [Value.ownBlock] at hb; rw [← hb]; exact hg⟩
theorem Pl.lt (h : Pl g c w l) : g < w.heap.size := by obtain ⟨cur, hb, _⟩ := h.blk; exact hb.lt
theorem Pl.only (h : Pl g c w l) (ho : Only D w w') (hd : ¬ D g) : Pl g c w' l := by
  obtain ⟨cur, hb, h1, h2⟩ := h.blk
  exact ⟨⟨cur, hb.only ho hd, h1, h2⟩, h.le, h.top⟩
theorem Pl.below (h : Pl g c w l) (hb : Below w.heap.size w w') : Pl g c w' l := h.only (D := fun _ => False) (Below.only hb) (fun h => h)
/-- Fewer of them. -/
theorem Pl.cut (h : Pl g c w l) (k : Nat) : Pl g c w (l.take k) := by
  obtain ⟨cur, hb, h1, h2⟩ := h.blk
  by_cases hk : k ≤ l.length
  · refine ⟨⟨cur, hb, h1, ?_⟩, by rw [List.length_take]; have := h.le; omega, h.top⟩
    have e : (l.take k).length * 8 = min (k * 8) (l.length * 8) := by rw [List.length_take]; omega
    rw [e, ← List.take_take, h2]
    conv => lhs; rw [← List.take_append_drop k l, ics_app]
    rw [List.take_left' (by rw [ics_len, List.length_take]; omega)]
  · rw [List.take_of_length_le (by omega)]; exact h
theorem Pl.at (h : Pl g c w l) {k : Nat} {x : It} (hk : l[k]? = some x) {j : Nat} {u : Value} (hj : x.cells[j]? = some u) : w.cell? ⟨g, k * 8 + j, none⟩ = some u := by
  obtain ⟨cur, hb, h1, h2⟩ := h.blk
  have h3 := ics_at hk hj
  rw [← h2, List.getElem?_take] at h3
  split at h3
  · exact hb.cell h3
  · cases h3
theorem Pl.fro (h : Pl g c w l) (i : Nat) : w.frozen? ⟨g, i, none⟩ = false := by
  obtain ⟨cur, hb, _⟩ := h.blk
  exact hb.frozen i
theorem Pl.isS (h : Pl g c w l) {i : Nat} (hi : i < c * 8) : (w.cell? ⟨g, i, none⟩).isSome = true := by
  obtain ⟨cur, hb, h1, h2⟩ := h.blk
  rw [hb.cell (List.getElem?_eq_getElem (by omega))]; rfl
/-- The cells from one place on, laid anew. -/
theorem blk_setCells {b : Nat} {t : TypeId} : ∀ (vs : List Value) (o : Nat) (w : World) (cur : List Value), Blk w b t cur → o + vs.length ≤ cur.length → Blk (w.setCells b o vs) b t (splice cur o vs)
  | [], o, w, cur, h, _ => by simpa [splice, World.setCells] using h
  | v :: vs, o, w, cur, h, hl => by
    rw [List.length_cons] at hl
    have h1 := blk_setCells vs (o + 1) _ _ (h.set o v) (by rw [List.length_set]; omega)
    rw [World.setCells]
    have e : splice (cur.set o v) (o + 1) vs = splice cur o (v :: vs) := by
      apply List.ext_getElem?
      intro j
      rw [splice_at (by rw [List.length_set]; omega), splice_at (by rw [List.length_cons]; omega), List.getElem?_set, List.length_cons]
      by_cases h1 : j < o
      · rw [if_pos (by omega), if_pos h1, if_neg (by omega)]
      · rw [if_neg h1]
        by_cases h2 : j = o
        · subst h2
          rw [if_pos (by omega), if_pos rfl, if_pos (by omega), if_pos (by omega), Nat.sub_self]; rfl
        · rw [if_neg (by omega)]
          by_cases h3 : j < o + 1 + vs.length
          · rw [if_pos h3, if_pos (by omega), show j - o = (j - (o + 1)) + 1 by omega, List.getElem?_cons_succ]
          · rw [if_neg h3, if_neg (by omega), if_neg (by omega)]
    rw [← e]; exact h1
theorem only_setCells {b : Nat} : ∀ (vs : List Value) (o : Nat) (w : World), Only (fun x => x = b) w (w.setCells b o vs)
  | [], _, w => Only.refl _ _
  | v :: vs, o, w => by
    rw [World.setCells]
    exact (Only.setCell (D := fun x => x = b) (Only.refl _ _) (p := ⟨b, o, none⟩) (.inl rfl) v).trans (only_setCells vs (o + 1) _) (fun x hx => .inl hx)
theorem splice_len {α : Type} {L cs : List α} {o : Nat} (h : o + cs.length ≤ L.length) : (splice L o cs).length = L.length := by
  unfold splice
  rw [List.length_append, List.length_append, List.length_take, List.length_drop]; omega
/-- Items laid from place k on, where cells are. -/
theorem Pl.lay (h : Pl g c w l) (k : Nat) (m : List It) (hk : k ≤ l.length) (hm : k + m.length ≤ c) : Pl g c (w.setCells g (k * 8) (ics m)) (l.take k ++ m ++ l.drop (k + m.length)) := by
  obtain ⟨cur, hb, h1, h2⟩ := h.blk
  have hle := h.le
  have hl : k * 8 + (ics m).length ≤ cur.length := by rw [ics_len, h1]; omega
  obtain ⟨M, hL, hM⟩ : ∃ M, (l.take k ++ m ++ l.drop (k + m.length)).length = M ∧ ((M = l.length ∧ k + m.length ≤ l.length) ∨ (M = k + m.length ∧ l.length < k + m.length)) := by
    refine ⟨_, rfl, ?_⟩
    rw [List.length_append, List.length_append, List.length_take, List.length_drop]
    by_cases h : k + m.length ≤ l.length
    · exact .inl ⟨by omega, h⟩
    · exact .inr ⟨by omega, by omega⟩
  refine ⟨⟨_, blk_setCells (ics m) (k * 8) w cur hb hl, by rw [splice_len hl]; exact h1, ?_⟩, by rw [hL]; omega, h.top⟩
  apply List.ext_getElem?
  intro j
  have e1 : min k l.length = k := by omega
  rw [List.getElem?_take, splice_at hl, hL, ics_app, ics_app, List.append_assoc, List.getElem?_append, List.getElem?_append]
  simp only [ics_len, List.length_take, e1]
  have hcur : ∀ i, i < l.length * 8 → cur[i]? = (ics l)[i]? := fun i hi => by
    rw [← h2, List.getElem?_take, if_pos hi]
  have htk : ∀ i, i < k * 8 → (ics l)[i]? = (ics (l.take k))[i]? := fun i hi => by
    conv => lhs; rw [← List.take_append_drop k l, ics_app, List.getElem?_append_left (by rw [ics_len, List.length_take]; omega)]
  have hdr : ∀ i, (k + m.length) * 8 ≤ i → (ics l)[i]? = (ics (l.drop (k + m.length)))[i - (k + m.length) * 8]? := fun i hi => by
    by_cases hd : k + m.length ≤ l.length
    · conv => lhs; rw [← List.take_append_drop (k + m.length) l, ics_app, List.getElem?_append_right (by rw [ics_len, List.length_take]; omega), ics_len, List.length_take]
      congr 1; omega
    · rw [List.drop_eq_nil_of_le (by omega), List.getElem?_eq_none (by rw [ics_len]; omega)]; rfl
  by_cases h3 : j < k * 8
  · rw [if_pos (by omega), if_pos h3, if_pos h3, hcur j (by omega), htk j h3]
  · rw [if_neg h3, if_neg h3]
    by_cases h4 : j < k * 8 + m.length * 8
    · rw [if_pos h4, if_pos (by omega), if_pos (by omega)]
    · rw [if_neg h4, if_neg (show ¬ j - k * 8 < m.length * 8 by omega)]
      by_cases h5 : j < l.length * 8
      · rw [if_pos (by omega), hcur j h5, hdr j (by omega)]
        congr 1; omega
      · rw [if_neg (by omega), List.getElem?_eq_none (by rw [ics_len, List.length_drop]; omega)]
end
end Go.Proofs.YtpgljahomeebhaaDoor.Md

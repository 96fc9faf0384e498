/-
  The contract of chain.find at this program: where the key's entry hangs, or nil. Conditions: the table lies in memory; the key has at most 2^48 bytes.
-/
import Derived.Test.YtfbkfbghejeknaaChainRound
import Derived.RangeFuncFrom
namespace Go.Proofs.Ytfbkfbghejeknaa
open Go Go.Shelf Go.RowKit Go.Lib

attribute [local go_sem] Oper.semAt_some

theorem lnk_no {k : ByteArray} : ∀ {a : Addr} {l : List En}, (∀ y ∈ lks a l, y.2.k ≠ k) → lnk k a l = none
  | _, [], _ => rfl
  | a, e :: l, h => by
    unfold lnk
    rw [if_neg (h (a, e) (List.mem_cons_self ..))]
    exact lnk_no (fun y hy => h y (List.mem_cons_of_mem _ hy))
theorem lnk_yes {k : ByteArray} {x : Addr × En} (hx : x.2.k = k) : ∀ {a : Addr} {l : List En} {init : List (Addr × En)}, (∀ y ∈ init, y.2.k ≠ k) → (init ++ [x]) <+: lks a l → lnk k a l = some x.1
  | _, [], init, _, hp => by
    have := hp.length_le
    simp [lks] at this
  | a, e :: l, [], _, hp => by
    obtain ⟨r, hr⟩ := hp
    have h1 : x = (a, e) := (List.cons.inj hr).1
    unfold lnk
    rw [if_pos (by rw [← hx, h1]), h1]
  | a, e :: l, y :: init, hn, hp => by
    obtain ⟨r, hr⟩ := hp
    have h1 : y = (a, e) := (List.cons.inj hr).1
    unfold lnk
    rw [if_neg (by have := hn y (List.mem_cons_self ..); rw [h1] at this; exact this)]
    exact lnk_yes hx (fun z hz => hn z (List.mem_cons_of_mem _ hz)) ⟨r, (List.cons.inj hr).2⟩

theorem chn_of {n₀ : Nat} {w : World} (hw : w.heap.size ≤ n₀) : ∀ {a : Addr} {l : List En}, a.block < n₀ → w.cell? a = some (ptr l) → Ents w l → Chn n₀ w a l
  | _, [], ha, hc, _ => ⟨ha, hc⟩
  | _, e :: _, ha, hc, ⟨h, k⟩ => ⟨ha, hc, Nat.lt_of_lt_of_le h.lt hw, h.cell (i := 0) rfl, chn_of hw (a := ⟨e.b, 2, none⟩) (Nat.lt_of_lt_of_le h.lt hw) (h.cell (i := 2) rfl) k⟩

/-- The row that home hands out. -/
def hrw (s : Tb) (k : ByteArray) : Rw := ⟨some (s.hd k), s.cp k, s.hblk k, s.hix k, [s.row k]⟩
theorem hrw_v (s : Tb) (k : ByteArray) : (hrw s k).v = s.homeV k := rfl
theorem hrw_alls (s : Tb) (k : ByteArray) : alls [hrw s k] = lks (s.hd k) (s.row k) := by
  unfold alls hrw
  rw [hd_eq]
  simp [bucks]
theorem TM.chn {P : Nat} {s : Tb} {w : World} (h : TM P s w) (m : Mid s) (k : ByteArray) : Chn w.heap.size w (s.hd k) (s.row k) :=
  chn_of (Nat.le_refl _) (h.lt _ (by rw [hd_eq]; exact hblk_ft P s k)) (h.hd_cell m k) (h.ents _ (row_in m k))
theorem Chn.below {n₀ n₁ : Nat} {w w' : World} (hb : Below n₀ w w') (hn : n₀ ≤ n₁) : ∀ {a : Addr} {l : List En}, Chn n₀ w a l → Chn n₁ w' a l
  | _, [], ⟨h1, h2⟩ => ⟨Nat.lt_of_lt_of_le h1 hn, (hb.cell h1).trans h2⟩
  | _, e :: _, ⟨h1, h2, h3, h4, h5⟩ => ⟨Nat.lt_of_lt_of_le h1 hn, (hb.cell h1).trans h2, Nat.lt_of_lt_of_le h3 hn, (hb.cell (p := ⟨e.b, 0, none⟩) h3).trans h4, Chn.below hb hn h5⟩

theorem str_eq (a b : ByteArray) : (a.toList == b.toList) = true ↔ a = b := by
  rw [beq_iff_eq, Lib.toList_data, Lib.toList_data]
  exact ⟨fun e => by cases a; cases b; congr 1; exact Array.toList_inj.1 e, fun e => by rw [e]⟩
theorem frame_done {Q : Exit → Act → World → Prop} {a a' : Act} {w : World} (h : a = a') (k : Q .normal a' w) : Q .normal a w := h ▸ k
def FindS (xa : Addr) (xe : En) (n : Nat) (k : ByteArray) (W : World) : Prop :=
  W.cell? xa = some (.pointer (some ⟨xe.b, 0, none⟩)) ∧ W.cell? ⟨xe.b, 0, none⟩ = some (.string xe.k) ∧ W.cell? ⟨n, 0, none⟩ = some (.string k)

set_option maxRecDepth 100000 in
set_option maxHeartbeats 2000000 in
theorem find_any {P : Nat} {s : Tb} {w : World} (h : TM P s w) (m : Mid s) (k : ByteArray) (hk : k.size ≤ 9223372036854775807) :
    Calls Try.prog 34 #[.pointer (some ⟨P, 0, none⟩), .string k] w fun e W' => e = .returned (.pointer (lnk k (s.hd k) (s.row k))) ∧ Below w.heap.size w W' := by
  refine (callsIn_wide (n := 5)).1 ?_
  have hB2 : Below w.heap.size w ((w.alloc (.cells #[.string k] 9)).alloc (.cells #[.pointer none] 62)) := ((Below.refl _ w).alloc (Nat.le_refl _) _).alloc (by simp) _
  have hh := home_any (h.below hB2) m k hk
  have hch := Chn.below hB2 (Nat.le_refl _) (h.chn m k)
  have b0 := (Boxed.new w 9 (.string k)).alloc (.cells #[.pointer none] 62)
  have b1 := Boxed.new (w.alloc (.cells #[.string k] 9)) 62 (.pointer none)
  rw [World.size_alloc] at b1
  refine callsIn_of_wp_marks Try.func34 rfl trivial ?_ rfl
  simp only [Try.ntmps34, List.size_toArray, List.length_cons, List.length_nil, Nat.reduceAdd, Nat.reduceSub, Array.replicate_succ, Array.replicate_zero, List.push_toArray, List.append_toArray, List.nil_append, List.cons_append]
  have c0 := b0.cell
  have hsz : ((w.alloc (.cells #[.string k] 9)).alloc (.cells #[.pointer none] 62)).heap.size = w.heap.size + 2 := by simp
  unfold Tb.homeV at hh
  gi_wp2_with fail
  refine ⟨trivial, (callsIn_wide.2 hh).mono ?_⟩
  rintro e W1 ⟨rfl, hW1⟩
  rw [hW1] at hB2 hch b0 b1 c0 hsz
  clear hh hW1
  gi_wp2_with fail
  refine ⟨trivial, (links_in _ _ _ _ _).mono ?_⟩
  rintro e W2 ⟨rfl, hW2⟩
  have bR := (Boxed.new W1 56 (s.homeV k)).alloc (.cells #[.slice (some ⟨w.heap.size + 2, 0, none⟩) 1 1] 74)
  have bL := Boxed.new (W1.alloc (.cells #[s.homeV k] 56)) 74 (.slice (some ⟨w.heap.size + 2, 0, none⟩) 1 1)
  have hB4 : Below W1.heap.size W1 W2 := by rw [hW2]; exact ((Below.refl _ _).alloc (Nat.le_refl _) _).alloc (by simp) _
  have hz4 : W2.heap.size = w.heap.size + 4 := by rw [hW2]; simp [hsz]
  have b0 := (b0.alloc (.cells #[s.homeV k] 56)).alloc (.cells #[.slice (some ⟨w.heap.size + 2, 0, none⟩) 1 1] 74)
  have b1 := (b1.alloc (.cells #[s.homeV k] 56)).alloc (.cells #[.slice (some ⟨w.heap.size + 2, 0, none⟩) 1 1] 74)
  rw [World.size_alloc] at bL
  rw [hsz] at bR bL
  have hbk : (W1.alloc (.cells #[.slice (some (s.hd k)) 1 (s.cp k)] 56)).heap.size = w.heap.size + 3 := by simp [hsz]
  unfold Tb.homeV at bR bL b0 b1
  rw [← hW2] at bR bL b0 b1
  clear hW2
  rw [hbk]
  have hBw : Below w.heap.size w W2 := hB2.trans (hB4.mono (by omega))
  have hch : Chn W2.heap.size W2 (s.hd k) (s.row k) := Chn.below (hB4.mono (by omega)) (by omega) hch
  have hR : RowsAt W2.heap.size W2 (w.heap.size + 2) [hrw s k] := by
    refine ⟨by omega, fun j r hj => ?_, fun r hr hne => ?_, fun r hr i l hi => ?_, ⟨by simp, fun r hr => ?_⟩⟩
    · match j, hj with
      | 0, hj => cases hj; exact bR.cell
    · rw [List.mem_singleton] at hr; subst hr; unfold hrw; rw [hd_eq]
    · rw [List.mem_singleton] at hr; subst hr
      match i, hi with
      | 0, hi => cases hi; have := hch; rw [hd_eq] at this; exact this
    · rw [List.mem_singleton] at hr; subst hr; simp [hrw]
  have c1 := b1.cell
  have f1 := b1.frozen
  have c0 := b0.cell
  have hAll := hrw_alls s k
  clear hB4 hbk b0 hch
  dsimp only
  gi_wp2_with fail
  refine wpIn_rangeFunc_ownF rfl (by omega) (gf := 48) (lb := #[.pointer (some ⟨w.heap.size + 3, 0, none⟩)]) rfl trivial (enters_of Try.func48 (by kernel_rfl) rfl)
    (links_stops _ (w.heap.size + 3) W2.heap.size (w.heap.size + 2) 1 [hrw s k] W2 (Nat.le_refl _) (by omega) bL.cell hR) belowK_t (belowK_b (by simp)) (Below.refl _ _) (fun _ => rfl)
    (fun pre W => (∀ x ∈ vals pre, x.2.k ≠ k) ∧ Below W2.heap.size W2 W)
    (fun c pre W => ∃ init x, c = .ret ∧ vals pre = init ++ [x] ∧ (∀ y ∈ init, y.2.k ≠ k) ∧ x.2.k = k ∧ W.cell? ⟨w.heap.size + 1, 0, none⟩ = some (.pointer (some x.1)) ∧ Below w.heap.size W2 W)
    ?hI ?hIx ⟨fun _ hx => (by cases hx), Below.refl _ _⟩
    (fun x => { tmps := #[.pointer (some ⟨P, 0, none⟩), .string k, undef, .pointer (some ⟨w.heap.size, 0, none⟩), .pointer (some ⟨w.heap.size + 1, 0, none⟩), .pointer (some x.1.1), .pointer (some ⟨P, 0, none⟩), .string k, .slice (some (s.hd k)) 1 (s.cp k), .slice (some ⟨w.heap.size + 2, 0, none⟩) 1 1, .func (.func 48) #[] #[.pointer (some ⟨w.heap.size + 3, 0, none⟩)], .pointer (some x.1.1), undef, undef, undef, undef, undef, undef, undef, undef, undef], defers := [] }) ?assign ?body ?done ?stop
  case hI => exact OwnFrom.and (ownFrom_pure _ (fun pre => ∀ x ∈ vals pre, x.2.k ≠ k)) (ownFrom_below (Nat.le_refl _) (by simp))
  case hIx =>
    intro c
    rintro pre A B row ⟨init, x, h1, h2, h3, h4, h5, h6⟩ hg hr
    exact ⟨init, x, h1, h2, h3, h4, cell_kept h5 hg (fun r e => (hr r e).2), h6.grown hg (Nat.le_trans (by omega) h6.size) (fun k e => Nat.le_trans (by omega) (hr k e).1)⟩
  case assign =>
    intro l x W K hK
    gi_wp2
    exact hK
  case body =>
    rintro l pre x W ⟨hp, hB⟩ hlt
    obtain ⟨⟨xa, xe⟩, hx⟩ := x
    have g1 := (hB.cell hx.la).trans hx.ca
    have g2 := (hB.cell (p := ⟨xe.b, 0, none⟩) hx.le).trans hx.ce
    have g3 := (hB.cell (p := ⟨w.heap.size, 0, none⟩) (by show w.heap.size < _; omega)).trans c0
    have g4 := (hB.cell (p := ⟨w.heap.size + 1, 0, none⟩) (by show w.heap.size + 1 < _; omega)).trans c1
    have g5 := (hB.frozen (p := ⟨w.heap.size + 1, 0, none⟩) (by show w.heap.size + 1 < _; omega)).trans f1
    dsimp only at g1 g2
    obtain ⟨q, hq⟩ : ∃ q, (xe.k.toList == k.toList) = q := ⟨_, rfl⟩
    have hQ : Hid (q = true ↔ xe.k = k) := hid (by rw [← hq]; exact str_eq _ _)
    have hS : FindS xa xe w.heap.size k W.drew := ⟨g1, g2, g3⟩
    gi_wp2
    refine wpIn_region_round (FindS xa xe w.heap.size k) (by kernel_rfl) (fun ⟨_, _, h⟩ => h) (by kernel_rfl) ?_
    --TAKES wpAnyH_take | 3 | 0=.pointer (some xa) ; 1=.pointer (some xa) ; 2=.pointer (some ⟨xe.b, 0, none⟩) ; 3=.pointer (some ⟨xe.b, 0, none⟩) ; 4=.pointer (some ⟨xe.b, 0, none⟩) ; 5=.string xe.k ; 6=.string k ; 7=.bool q
    refine wpAnyH_take (i := 0) (v := .pointer (some xa)) rfl (by kernel_rfl) (by kernel_rfl) (by kernel_rfl) (fun _ _ _ h => h) (Or.inl ⟨by rfl, ?_⟩) hS ?_
    · intro w' hw'
      obtain ⟨s0, s1, s2⟩ := hw'
      go_simp
    refine wpAnyH_take (i := 1) (v := .pointer (some xa)) rfl (by kernel_rfl) (by kernel_rfl) (by kernel_rfl) (fun _ _ _ h => h) (Or.inl ⟨by rfl, ?_⟩) hS ?_
    · intro w' hw'
      obtain ⟨s0, s1, s2⟩ := hw'
      go_simp
    refine wpAnyH_take (i := 2) (v := .pointer (some ⟨xe.b, 0, none⟩)) rfl (by kernel_rfl) (by kernel_rfl) (by kernel_rfl) (fun _ _ _ h => h) (Or.inl ⟨by rfl, ?_⟩) hS ?_
    · intro w' hw'
      obtain ⟨s0, s1, s2⟩ := hw'
      go_simp
    refine wpAnyH_take (i := 3) (v := .pointer (some ⟨xe.b, 0, none⟩)) rfl (by kernel_rfl) (by kernel_rfl) (by kernel_rfl) (fun _ _ _ h => h) (Or.inl ⟨by rfl, ?_⟩) hS ?_
    · intro w' hw'
      obtain ⟨s0, s1, s2⟩ := hw'
      go_simp
    refine wpAnyH_take (i := 4) (v := .pointer (some ⟨xe.b, 0, none⟩)) rfl (by kernel_rfl) (by kernel_rfl) (by kernel_rfl) (fun _ _ _ h => h) (Or.inl ⟨by rfl, ?_⟩) hS ?_
    · intro w' hw'
      obtain ⟨s0, s1, s2⟩ := hw'
      go_simp
    refine wpAnyH_take (i := 5) (v := .string xe.k) rfl (by kernel_rfl) (by kernel_rfl) (by kernel_rfl) (fun _ _ _ h => h) (Or.inl ⟨by rfl, ?_⟩) hS ?_
    · intro w' hw'
      obtain ⟨s0, s1, s2⟩ := hw'
      go_simp
    refine wpAnyH_take (i := 6) (v := .string k) rfl (by kernel_rfl) (by kernel_rfl) (by kernel_rfl) (fun _ _ _ h => h) (Or.inl ⟨by rfl, ?_⟩) hS ?_
    · intro w' hw'
      obtain ⟨s0, s1, s2⟩ := hw'
      go_simp
    refine wpAnyH_take (i := 7) (v := .bool q) rfl (by kernel_rfl) (by kernel_rfl) (by kernel_rfl) (fun _ _ _ h => h) (Or.inl ⟨by rfl, ?_⟩) hS ?_
    · intro w' hw'
      obtain ⟨s0, s1, s2⟩ := hw'
      go_simp
    --END
    refine wpAnyH_done (by kernel_rfl) ?_ _
    clear hS hq
    refine frame_done (a' := { tmps := #[.pointer (some ⟨P, 0, none⟩), .string k, undef, .pointer (some ⟨w.heap.size, 0, none⟩), .pointer (some ⟨w.heap.size + 1, 0, none⟩), .pointer (some xa), .pointer (some ⟨P, 0, none⟩), .string k, .slice (some (s.hd k)) 1 (s.cp k), .slice (some ⟨w.heap.size + 2, 0, none⟩) 1 1, .func (.func 48) #[] #[.pointer (some ⟨w.heap.size + 3, 0, none⟩)], .pointer (some xa), .pointer (some xa), .pointer (some xa), .pointer (some ⟨xe.b, 0, none⟩), .pointer (some ⟨xe.b, 0, none⟩), .pointer (some ⟨xe.b, 0, none⟩), .string xe.k, .string k, .bool q, undef], defers := [] }) (by kernel_rfl) ?_
    obtain ⟨W5, hW5⟩ : ∃ W5, W5 = W.drew := ⟨_, rfl⟩
    rw [← hW5]
    cases q with
    | true =>
      have hkk : Hid (xe.k = k) := hid (hQ.out.1 rfl)
      clear hQ
      gi_wp2
      refine ⟨(KeepsOthers.setCell _ _ _).trans (KeepsOthers.drew _), vals pre, (xa, xe), rfl, vals_snoc _ _, hp, hkk.out, World.cell?_setCell_same' _ _ _ (by rw [g4]; rfl), ?_⟩
      exact ((hB.mono (by omega)).setCell (p := ⟨w.heap.size + 1, 0, none⟩) (by simp) _).drew
    | false =>
      have hkk : Hid (xe.k ≠ k) := hid (fun e => by cases hQ.out.2 e)
      clear hQ
      gi_wp2
      subst hW5
      refine ⟨KeepsOthers.drew _, (Below.refl _ _).drew, fun y hy => ?_, hB.drew⟩
      rw [vals_snoc] at hy
      rcases List.mem_append.1 hy with hy | hy
      · exact hp y hy
      · rw [List.mem_singleton] at hy; rw [hy]; exact hkk.out
  case done =>
    rintro D ys W hD hys ⟨hp, hB⟩ hK
    have g4 := (hB.cell (p := ⟨w.heap.size + 1, 0, none⟩) (by show w.heap.size + 1 < _; omega)).trans c1
    have g5 := (hB.frozen (p := ⟨w.heap.size + 1, 0, none⟩) (by show w.heap.size + 1 < _; omega)).trans f1
    gi_wp2
    have hK' := (KeepsOthers.setCell W ⟨w.heap.size + 1, 0, none⟩ (.pointer none)).same D _ hK rfl
    refine ⟨by simp, .inl ⟨_, _, rfl, run_takeDeferred hK', ?_⟩⟩
    have hc5 := cell_kept (World.cell?_setCell_same' W ⟨w.heap.size + 1, 0, none⟩ (.pointer none) (by rw [g4]; rfl)) (grownBy_putObj' _ D (.deferred none)) (fun r e => by cases e; exact ⟨_, hK', rfl⟩)
    have hB5 : Below w.heap.size w (W.setCell ⟨w.heap.size + 1, 0, none⟩ (.pointer none)) := (hBw.trans (hB.mono (by omega))).setCell (p := ⟨w.heap.size + 1, 0, none⟩) (by simp) _
    refine ⟨.pointer none, ?_, by rw [lnk_no (k := k) (a := s.hd k) (l := s.row k) (by rw [← hAll, ← hys]; exact hp)], hB5.trans (belowK_b (w := w) (Nat.le_refl _) _ D _ _ (by omega) hK' rfl rfl)⟩
    simp [results, Try.f34, go_sem, hc5]
  case stop =>
    rintro D c pre W hD hpre ⟨init, x, rfl, hv, hi, hx, hc, hB⟩ hK
    gi_wp2
    refine ⟨by simp, .inl ⟨_, _, rfl, run_takeDeferred hK, ?_⟩⟩
    have hc5 := cell_kept hc (grownBy_putObj' _ D (.deferred none)) (fun r e => by cases e; exact ⟨_, hK, rfl⟩)
    refine ⟨.pointer (some x.1), ?_, by rw [lnk_yes hx hi (by rw [← hv, ← hAll]; exact hpre)], (hBw.trans hB).trans (belowK_b (w := w) (Nat.le_refl _) W D _ _ (by omega) hK rfl rfl)⟩
    simp [results, Try.f34, go_sem, hc5]
end Go.Proofs.Ytfbkfbghejeknaa

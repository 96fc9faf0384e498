/-
  The contracts of New, Get, Set and Delete of a table at this program, and of what they call. Conditions: the table lies in memory, keys have at most 2^48 bytes, there are fewer than 10^9 entries.
-/
import Derived.Test.YtfbkfbghejeknaaChainOps
import Derived.Test.YtfbkfbghejeknaaShelf
namespace Go.Proofs.Ytfbkfbghejeknaa
open Go Go.Shelf Go.RowKit Go.Lib

theorem below_of_grown {w w1 : World} (h : w.grownBy w1 none) : Below w.heap.size w w1 := ⟨h.os, h.tape, h.output, h.size, fun k hk => h.block k hk (by simp)⟩
theorem blk_of_full {w : World} {base g n : Nat} {e : TypeId} {xs : List Value} (h : w.ownsRow base e 1 (.slice (some ⟨g, 0, none⟩) n n) n xs) : Blk w g e xs := by
  rcases h.2 with ⟨h1, _⟩ | ⟨g', cap, cur, hv, hb, hg, h1, h2, h3, h4⟩
  · cases h1
  · cases hv
    unfold Blk
    rw [Nat.mul_one] at h3 h4
    rw [List.take_of_length_le (by simp [h3])] at h4
    rw [← h4]; simpa using hg
theorem clone_any (s : ByteArray) (hs : s.size ≤ 281474976710656) (w : World) : Calls Try.prog 36 #[.string s] w fun e w' => e = .returned (.string s) ∧ Below w.heap.size w w' := by
  have hc : Calls Try.prog 46 #[.string s] w fun e w' => e = .returned (.string s) ∧ Below w.heap.size w w' := AnyPu.stringslite_Clone Try.laysClone s w hs
  go_enter Try.func36, Try.ntmps36
  go_wp2_with fail
  refine hc.mono ?_
  rintro e w1 ⟨rfl, b1⟩
  go_wp2_with fail
  go_ret
  exact ⟨rfl, b1⟩

theorem infoEntry : (Try.prog.info? 64).map (fun i => (i.zero, i.size, i.bytes)) = some (some (.pointer none), 1, 8) := by kernel_rfl
theorem heads_nil (n : Nat) : heads (List.replicate n []) = List.replicate n (.pointer none) := by simp [heads, ptr]

set_option maxRecDepth 100000 in
theorem new_any (w : World) : Calls Try.prog 9 #[] w fun e w' => ∃ P c, e = .returned (.pointer (some ⟨P, 0, none⟩)) ∧ TM P (Tb.first c) w' ∧ Below w.heap.size w w' ∧ w.heap.size ≤ P ∧ w.heap.size ≤ c := by
  obtain ⟨i0, hi, hz0, hz1, hz2⟩ := info_parts infoEntry
  go_enter Try.func9, Try.ntmps9
  go_wp2_with (at_make; refine wpList_make_full _ rfl _ _ 56 rfl w.heap.size 64 i0 (.pointer none) 1 Try.underlying56 hi hz0 hz1 .i64 .i64 _ _ 4 rfl rfl (by omega) (by omega) (by rw [hz2]; omega) (by unfold maxLen; omega) (Nat.le_refl _) ?_; intro w2 hown hgrow)
  rw [made_cells _ _ rfl] at hown
  have hB0 := blk_of_full hown
  have hb0 := below_of_grown hgrow
  go_ret
  have hP := Blk.new w2 #[.int .i64 0, .int .i64 2, .slice (some ⟨w.heap.size, 0, none⟩) 4 4, .slice none 0 0, .int .i64 0] 58
  refine ⟨w2.heap.size, w.heap.size, rfl, ⟨hP, (hB0.alloc _), fun h => (h rfl).elim, fun h => (h rfl).elim, fun l hl => ?_, List.nodup_nil⟩, hb0.alloc hb0.size _, hb0.size, Nat.le_refl _⟩
  have hl' : l ∈ List.replicate 4 ([] : List En) := hl
  rw [(List.mem_replicate.1 hl').2]
  trivial

theorem pow_int' (p : Nat) (hp : p ≤ 20) : ∃ X : Nat, 2 ^ p = X ∧ 1 ≤ X ∧ X ≤ 1048576 ∧ bits .and .i64 0 0 = 0 := ⟨_, rfl, Nat.two_pow_pos p, Nat.pow_le_pow_right (by decide) hp, by decide⟩
set_option maxRecDepth 100000 in
theorem grow_any {P : Nat} {s : Tb} {w : World} (h : TM P s w) (m : Mid s) (hold : s.old = []) (hp : s.pow < 20) :
    Calls Try.prog 38 #[.pointer (some ⟨P, 0, none⟩)] w fun e w' => e = .returned (.tuple #[]) ∧ ∃ c, TM P (s.grow c) w' ∧ Only (fun b => b = P) w w' ∧ w.heap.size ≤ c := by
  obtain ⟨i0, hi, hz0, hz1, hz2⟩ := info_parts infoEntry
  have hB := h.head
  have c1 := h.c1
  have c2 := h.c2 m
  have hp2 := m.p2
  obtain ⟨X, hX, hX1, hX2, -⟩ := pow_int' (s.pow + 1) (by omega)
  have hs0 : headc s = [.int .i64 s.cnt, .int .i64 s.pow, sl s.N s.new, .slice none 0 0, .int .i64 s.moved] := by unfold headc; rw [hold, sl_nil]
  rw [hs0, sl_some m.new_ne] at hB
  have hq : (1 : Int) * 2 ^ (s.pow + 1) = (X : Int) := by rw [← hX, Int.natCast_pow]; simp
  obtain ⟨N, hN⟩ : ∃ N, N = s.N := ⟨_, rfl⟩
  obtain ⟨L, hL⟩ : ∃ L, L = s.new.length := ⟨_, rfl⟩
  obtain ⟨p, hpp⟩ : ∃ p, p = s.pow := ⟨_, rfl⟩
  obtain ⟨C, hC⟩ : ∃ C, C = s.cnt := ⟨_, rfl⟩
  obtain ⟨M, hM⟩ : ∃ M, M = s.moved := ⟨_, rfl⟩
  rw [← hN, ← hL, ← hpp, ← hC, ← hM] at hB
  rw [← hpp] at c1 hq hp hp2
  rw [← hN, ← hL] at c2
  have HG : Hid (∀ w3, (((w.setCell ⟨P, 1, none⟩ (.int .i64 ((p : Int) + 1))).setCell ⟨P, 3, none⟩ (.slice (some ⟨N, 0, none⟩) L L)).setCell ⟨P, 4, none⟩ (.int .i64 0)) = w3 →
      Hid (Blk w3 P 58 [.int .i64 C, .int .i64 ((p : Int) + 1), .slice (some ⟨N, 0, none⟩) L L, .slice (some ⟨N, 0, none⟩) L L, .int .i64 0]) ∧ w3.heap.size = w.heap.size ∧ Only (fun b => b = P) w w3) := hid (fun w3 hw3 => by
    refine ⟨hid ?_, by rw [← hw3]; simp [World.setCell], ?_⟩
    · rw [← hw3]; exact ((hB.set 1 _).set 3 _).set 4 _
    · rw [← hw3]
      exact (((Only.refl (fun b => b = P) w).setCell (p := ⟨P, 1, none⟩) (.inl rfl) _).setCell (p := ⟨P, 3, none⟩) (.inl rfl) _).setCell (p := ⟨P, 4, none⟩) (.inl rfl) _)
  have f1 := hB.frozen 1
  have f3 := hB.frozen 3
  have f4 := hB.frozen 4
  have f2 := hB.frozen 2
  have c3 := hB.cell (i := 3) rfl
  have c4 := hB.cell (i := 4) rfl
  have hlt : P < w.heap.size := hB.lt
  have H := hid h
  have HX := hid hX
  have HN := hid hN
  have HL := hid hL
  have HP := hid hpp
  have HC := hid hC
  have HM := hid hM
  clear h hB hs0 hX hN hL hpp hC hM
  go_enter Try.func38, Try.ntmps38
  go_wp2_with (at_make; generalize hw3 : (((w.setCell ⟨P, 1, none⟩ (.int .i64 ((p : Int) + 1))).setCell ⟨P, 3, none⟩ (.slice (some ⟨N, 0, none⟩) L L)).setCell ⟨P, 4, none⟩ (.int .i64 0)) = w3; obtain ⟨HB3, hz3, ho3⟩ := HG.out w3 hw3; have d2 := HB3.out.cell (i := 2) rfl; have e2 := HB3.out.frozen 2; clear hw3; refine wpList_make_full _ rfl _ _ 56 rfl w3.heap.size 64 i0 (.pointer none) 1 Try.underlying56 hi hz0 hz1 .i64 .i64 _ _ X rfl rfl (by omega) (by omega) (by rw [hz2]; omega) (by unfold maxLen; omega) (Nat.le_refl _) ?_; intro w4 hown hgrow; rw [made_cells _ _ rfl] at hown; have hB0 := hid (blk_of_full hown); have hb0 := below_of_grown hgrow; clear hown hgrow; have g2 := (hb0.cell (p := ⟨P, 2, none⟩) (by show P < w3.heap.size; omega)).trans d2; have g3 := (hb0.frozen (p := ⟨P, 2, none⟩) (by show P < w3.heap.size; omega)).trans e2)
  go_end0
  rw [← hz3]
  have hPN : P ≠ w3.heap.size := by omega
  have ho : Only (fun b => b = P) w (w4.setCell ⟨P, 2, none⟩ (.slice (some ⟨w3.heap.size, 0, none⟩) X X)) :=
    (ho3.trans (Below.only (D := fun _ => False) hb0) (fun _ e => e.elim)).setCell (p := ⟨P, 2, none⟩) (.inl rfl) _
  refine ⟨rfl, w3.heap.size, ?_, ho, by omega⟩
  have h := H.out
  have hnew := h.new
  have hPne : s.N ≠ P := hnew.ne h.head (by decide)
  have hn : (s.grow w3.heap.size).new = List.replicate X [] := by unfold Tb.grow; rw [HX.out]
  have hents : (s.grow w3.heap.size).ents = s.ents := grow_ents _ hold
  refine ⟨?_, ?_, fun _ => ?_, fun _ => ?_, fun l hl => ?_, by rw [hents]; exact h.nd⟩
  · have hH := (HB3.out.below hb0).set 2 (.slice (some ⟨w3.heap.size, 0, none⟩) X X)
    have he : headc (s.grow w3.heap.size) = [.int .i64 C, .int .i64 ((p : Int) + 1), .slice (some ⟨w3.heap.size, 0, none⟩) X X, .slice (some ⟨N, 0, none⟩) L L, .int .i64 0] := by
      unfold headc
      rw [hn, sl_some (by rw [Ne, List.replicate_eq_nil_iff]; omega), List.length_replicate]
      show [_, Value.int .i64 ((s.pow + 1 : Nat) : Int), _, sl s.N s.new, _] = _
      rw [sl_some m.new_ne, HN.out, HL.out, HP.out, HC.out]; rfl
    rw [he]; exact hH
  · rw [hn, heads_nil]
    exact hB0.out.setOther (p := ⟨P, 2, none⟩) (fun e => hPN e.symm) _
  · exact hnew.only ho hPne
  · show w3.heap.size ≠ s.N
    have := hnew.lt; omega
  · have hl' : l ∈ s.new ++ (s.grow w3.heap.size).new := hl
    rw [hn] at hl'
    rcases List.mem_append.1 hl' with hl' | hl'
    · have hin : l ∈ s.rows := by unfold Tb.rows; exact List.mem_append_right _ hl'
      refine (h.ents l hin).only ho (fun e he => ?_)
      obtain ⟨r, hr⟩ := (h.ents l hin).blk e he
      exact hr.ne h.head (by decide)
    · rw [(List.mem_replicate.1 hl').2]; trivial

theorem ent_one {P : Nat} {s : Tb} {w : World} (h : TM P s w) {e : En} {k : ByteArray} (m : Mid s) (hf : fnd k (s.row k) = some e) : w.cell? ⟨e.b, 1, none⟩ = some (.int .i64 e.n) ∧ w.frozen? ⟨e.b, 1, none⟩ = false ∧ Ft P s e.b ∧ e.b ≠ P := by
  have he := m.row_mem (fnd_key hf).2
  obtain ⟨r, hr⟩ := h.blk he
  exact ⟨hr.cell (i := 1) rfl, hr.frozen 1, .inr (.inr (.inr ⟨e, he, rfl⟩)), hr.ne h.head (by decide)⟩
theorem lnk_of {P : Nat} {s : Tb} {w : World} (h : TM P s w) (m : Mid s) (k : ByteArray) : (fnd k (s.row k) = none ∧ lnk k (s.hd k) (s.row k) = none) ∨ ∃ e p, fnd k (s.row k) = some e ∧ lnk k (s.hd k) (s.row k) = some p ∧ w.cell? p = some (.pointer (some ⟨e.b, 0, none⟩)) := by
  cases hf : fnd k (s.row k) with
  | none => exact .inl ⟨rfl, lnk_none.2 hf⟩
  | some e =>
    obtain ⟨p, h1, h2, _⟩ := lnk_cell (h.hd_cell m k) (h.ents _ (row_in m k)) hf
    exact .inr ⟨e, p, rfl, h1, h2⟩

set_option maxRecDepth 100000 in
theorem get_any {P : Nat} {s : Tb} {w : World} (h : TM P s w) (m : Mid s) (k : ByteArray) (hk : k.size ≤ 9223372036854775807) :
    Calls Try.prog 22 #[.pointer (some ⟨P, 0, none⟩), .string k] w fun e w' => e = .returned (.tuple #[.int .i64 ((s.get k).getD 0), .bool (s.get k).isSome]) ∧ Below w.heap.size w w' := by
  have hF := find_any h m k hk
  rcases lnk_of h m k with ⟨h1, h2⟩ | ⟨e, p, h1, h2, h3⟩
  · have hg := hid (Tb.get_none.2 h1)
    rw [h2] at hF
    clear h h1 h2
    go_enter Try.func22, Try.ntmps22
    go_wp2_with fail
    refine hF.mono ?_
    rintro e w1 ⟨rfl, b1⟩
    go_wp2_with fail
    go_ret2
    exact ⟨by rw [hg.out]; rfl, b1⟩
  · have hg : Hid (s.get k = some e.n) := hid (by unfold Tb.get; rw [h1]; rfl)
    obtain ⟨c1, -, -, -⟩ := ent_one h m h1
    have l1 := cell_lt c1
    have l3 := cell_lt h3
    rw [h2] at hF
    clear h h1 h2
    go_enter Try.func22, Try.ntmps22
    go_wp2_with fail
    refine hF.mono ?_
    rintro e' w1 ⟨rfl, b1⟩
    have d1 := (b1.cell l1).trans c1
    have d3 := (b1.cell l3).trans h3
    go_wp2_with fail
    go_ret2
    exact ⟨by rw [hg.out]; rfl, b1⟩
end Go.Proofs.Ytfbkfbghejeknaa

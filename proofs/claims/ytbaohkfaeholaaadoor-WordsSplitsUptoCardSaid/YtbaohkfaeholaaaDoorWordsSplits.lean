/-
  The law WordsSplits at this program: words.Split answers what the document's own answer does, twice, though what came out was written over between. Condition: the line has at most 2^43 bytes.
-/
import Derived.Test.YtbaohkfaeholaaaDoorWordsShown
namespace Go.Proofs.YtbaohkfaeholaaaDoor
open Go Go.Shelf Go.RowKit

theorem splits_facts (s : ByteArray) (hs : s.size ≤ 8796093022208) :
    ∃ ks : List (List UInt8), ks.length < 9223372036854775807 ∧
      (∀ W, Calls Tryd.prog 14 #[.string s] W fun e w' => ∃ u, e = .returned u ∧ w'.ownsRow W.heap.size 9 1 u ks.length (cellsOf ks) ∧ Below W.heap.size W w') ∧
      (∀ W, Calls Tryd.prog 16 #[.string s] W fun e w' => ∃ u, e = .returned u ∧ Texts w' u ks ∧ Below W.heap.size W w') ∧
      (∀ W v u, Texts W v ks → Texts W u ks → Calls Tryd.prog 15 #[v, u] W fun e w' => e = .returned (.bool true) ∧ Below W.heap.size W w') := by
  have hl := splitS_le s.data.toList
  rw [← size_len] at hl
  have hl2 := Nat.le_trans hl hs
  have h16 : (splitS s.data.toList).length * 16 ≤ 140737488355328 := Nat.le_trans (Nat.mul_le_mul_right 16 hl2) (by decide)
  have hsl : s.size < 9223372036854775806 := Nat.lt_of_le_of_lt hs (by decide)
  refine ⟨splitS s.data.toList, Nat.lt_of_le_of_lt hl2 (by decide), fun W => split_any s (Nat.le_of_lt (Nat.lt_trans hsl (by decide))) h16 W, fun W => (ref_split s hsl h16 W).mono fun e w' ⟨u, he, ho, hb⟩ => ⟨u, he, texts_of_row ho, hb⟩, fun W v u hv hu => same_texts v u _ (Nat.lt_of_le_of_lt hl2 (by decide)) W hv hu⟩

/-- A row of our own, whatever its cells hold: n cells that may be written. -/
def Slots (w : World) (v : Value) (n base : Nat) : Prop := ∃ cs, w.ownsRow base 9 1 v n cs
theorem Slots.at {w : World} {v : Value} {n base k : Nat} (h : Slots w v n base) (hk : k < n) :
    ∃ g c x, v = .slice (some ⟨g, 0, none⟩) n c ∧ n ≤ c ∧ w.cell? ⟨g, k, none⟩ = some x ∧ w.frozen? ⟨g, k, none⟩ = false ∧ base ≤ g ∧ ∀ u, Slots (w.setCell ⟨g, k, none⟩ u) v n base := by
  obtain ⟨cs, ho⟩ := h
  have hlt := ho.lt
  have ho' := ho
  rcases ho.2 with ⟨_, h0⟩ | ⟨g, c, cur, rfl, hb, _, hnc, _⟩
  · omega
  · have hl := ho'.1
    have hkc : k < cs.length := by omega
    refine ⟨g, c, cs[k], rfl, hnc, ?_, ho'.frozenAt k, hb, fun u => ⟨_, (ho'.stored k u).1⟩⟩
    rw [ho'.cellAt k (by omega), List.getElem?_eq_getElem hkc]
theorem Slots.form {w : World} {v : Value} {n base : Nat} (h : Slots w v n base) : ∃ a c, v = .slice a n c := by
  obtain ⟨cs, ho⟩ := h
  rcases ho.2 with ⟨rfl, rfl⟩ | ⟨g, c, cur, rfl, _⟩
  · exact ⟨none, 0, rfl⟩
  · exact ⟨_, _, rfl⟩

set_option maxHeartbeats 2000000 in
set_option maxRecDepth 100000 in
theorem splits_law (s : ByteArray) (hs : s.size ≤ 8796093022208) (w : World) :
    Calls Tryd.prog 4 #[.string s] w fun e w' => e = .returned (.bool true) ∧ Below w.heap.size w w' := by
  obtain ⟨ks, hkl, hsp, hrf, hsame⟩ := splits_facts s hs
  clear hs
  have HSP := hid hsp
  have HRF := hid hrf
  have HSM := hid hsame
  clear hsp hrf hsame
  go_enter Tryd.func4, Tryd.ntmps4
  go_wp2_with fail
  refine (shown_any _).mono ?_
  rintro e w1 ⟨rfl, b1⟩
  go_wp2_with fail
  go_loopw [4] (fun i wr => ∃ k : Nat, k ≤ 2 ∧ i = .int .i64 k ∧ Below w.heap.size w wr) (fun i _ => 2 - (intOf i).toNat)
  case atStart => exact ⟨0, by omega, rfl, b1⟩
  case round =>
    obtain ⟨k, hk, rfl, hb⟩ := hrel
    have hsz := hb.size
    by_cases hlt : k < 2
    · have ilt : (k : Int) < 2 := by omega
      go_wp2_with fail
      refine (HSP.out _).mono ?_
      rintro e w2 ⟨v, rfl, ho, b2⟩
      have hv := texts_of_row ho
      have hS : Slots w2 v ks.length wr.heap.size := ⟨_, ho⟩
      clear ho
      go_wp2_with fail
      refine (HRF.out _).mono ?_
      rintro e w3 ⟨u, rfl, hu, b3⟩
      have hv3 := hv.below b3
      have hS3 : Slots w3 v ks.length wr.heap.size := by
        obtain ⟨cs, ho⟩ := hS
        exact ⟨cs, ho.kept (grown_of_below b3) (by cases hb0 : v.ownBlock <;> simp)⟩
      clear hS hv
      go_wp2_with fail
      refine (HSM.out _ _ _ hv3 hu).mono ?_
      rintro e w4 ⟨rfl, b4⟩
      have hS4 : Slots w4 v ks.length wr.heap.size := by
        obtain ⟨cs, ho⟩ := hS3
        exact ⟨cs, ho.kept (grown_of_below b4) (by cases hb0 : v.ownBlock <;> simp)⟩
      have hb4 : Below w.heap.size w w4 := hb.trans (Below.mono (Below.then (Below.then b2 b3) b4) hsz)
      obtain ⟨a0, c0, hform⟩ := hS4.form
      clear hS3 hv3 hu b2 b3 b4 HSP HRF HSM
      generalize ks.length = n at *
      subst hform
      go_wp2_with fail
      go_loopw [7] (fun i wq => ∃ j : Nat, j ≤ n ∧ i = .int .i64 j ∧ Slots wq (.slice a0 n c0) n wr.heap.size ∧ Below w.heap.size w wq) (fun i _ => n - (intOf i).toNat)
      case atStart => exact ⟨0, by omega, rfl, hS4, hb4⟩
      case round =>
        obtain ⟨j, hj, rfl, hS, hbq⟩ := hrel
        clear hS4 hb4
        by_cases hjl : j < n
        · obtain ⟨g, c, x, e, hnc, hce, hfr, hbg, hst⟩ := hS.at hjl
          cases e
          have hS' := hst (.string ⟨#[63]⟩)
          have hb' : Below w.heap.size w _ := hbq.setCell (p := ⟨g, j, none⟩) (Nat.le_trans hsz hbg) (.string ⟨#[63]⟩)
          clear hS hst hbq
          go_wp2_with fail
          go_roundw
          case rel => exact ⟨j + 1, by omega, by go_num, hS', hb'⟩
          case measure => simp [intOf] <;> omega
        · go_wp2_with fail
          go_roundw
          case rel => exact ⟨k + 1, by omega, by go_num, hbq⟩
          case measure => simp [intOf] <;> omega
    · go_wp2_with fail
      go_ret
      exact ⟨rfl, hb⟩
end Go.Proofs.YtbaohkfaeholaaaDoor

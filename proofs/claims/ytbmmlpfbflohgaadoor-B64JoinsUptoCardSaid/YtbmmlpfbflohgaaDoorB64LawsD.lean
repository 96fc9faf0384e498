/-
  The law B64Spoils at this program. Condition: what is written takes at most 2^46 bytes.
-/
import Derived.Test.YtbmmlpfbflohgaaDoorB64LawsB
import Derived.Lib.ConvBytes
namespace Go.Proofs.YtbmmlpfbflohgaaDoor
open Go Go.Shelf Go.RowKit

theorem decS_spoilt {t : List UInt8} {x : UInt8} (hx : x ∈ t) (h1 : isN x.toNat = false) (h2 : x ≠ 61) : decS t = none :=
  decS_none fun b e => by
    rcases enc_bytes b x (by rw [e]; exact hx) with h | h
    · rw [h1] at h; cases h
    · exact h2 h
/-- What '[]byte(E)' leaves: a new row of E's bytes. -/
theorem bytes_conv (E : ByteArray) (w : World) :
    ∃ (cap : Nat) (W : World), (convert 9 29 (.string E)).run Tryd.prog w = .ok (.slice (some ⟨w.heap.size, 0, none⟩) E.size cap) W ∧ Below w.heap.size w W
      ∧ (∀ (j : Nat) (h : j < E.size), W.cell? ⟨w.heap.size, j, none⟩ = some (.int .u8 (E[j].toNat : Nat))) ∧ ∀ j, j < E.size → W.frozen? ⟨w.heap.size, j, none⟩ = false := by
  refine ⟨_, _, Lib.run_convert_string_bytes w 9 29 5 E Tryd.underlying9 Tryd.underlying29 Tryd.underlying5, ?_, ?_, ?_⟩
  · exact ⟨rfl, rfl, rfl, by rw [Lib.bytesWorld_size]; omega, fun k hk => Lib.bytesWorld_at_old w _ E k hk⟩
  · intro j hj
    rw [Lib.bytesWorld_cell w _ E j hj]
    have hl : j < E.data.toList.length := by rw [← size_len]; exact hj
    rw [List.getD_eq_getElem?_getD, List.getElem?_eq_getElem hl]; rfl
  · intro j hj
    have hn := Lib.bytesWorld_at_new w 5 E
    have hsz : E.size ≤ (Lib.bytesCells w 5 E).size := by unfold Lib.bytesCells; rw [Array.size_append, Array.size_map]; show E.data.size ≤ _; omega
    simp only [World.frozen?, hn]
    simp; omega
/-- What 'string(b)' gives behind 'b[r] = c'. -/
theorem bytes_back {E : ByteArray} {W : World} {g cap r : Nat} {c : UInt8} (hr : r < E.size) (hce : ∀ (j : Nat) (h : j < E.size), W.cell? ⟨g, j, none⟩ = some (.int .u8 (E[j].toNat : Nat))) :
    (convert 29 9 (.slice (some ⟨g, 0, none⟩) E.size cap)).run Tryd.prog (W.setCell ⟨g, r, none⟩ (.int .u8 (c.toNat : Nat))) = .ok (.string (S (E.data.toList.set r c))) (W.setCell ⟨g, r, none⟩ (.int .u8 (c.toNat : Nat))) := by
  have hl : (E.data.toList.set r c).length = E.size := by rw [List.length_set, ← size_len]
  have := run_convert_bytes_back (P := Tryd.prog) (W.setCell ⟨g, r, none⟩ (.int .u8 (c.toNat : Nat))) 29 9 5 ⟨g, 0, none⟩ cap (E.data.toList.set r c) Tryd.underlying29 Tryd.underlying5 Tryd.underlying9 (fun j hj0 => by
    have hj : j < E.size := by rw [← hl]; exact hj0
    rw [addr_plain0]
    by_cases e : j = r
    · subst e
      rw [World.cell?_setCell_same _ _ _ (hce j hj), List.getElem_set_self]
    · rw [World.cell?_setCell_other _ _ _ _ (by simp), hce j hj, List.getElem_set_ne (fun q => e q.symm)]; rfl)
  rw [hl] at this
  exact this

set_option maxHeartbeats 1000000 in
set_option maxRecDepth 100000 in
theorem spoils_letter (s : ByteArray) (at0 : Int) (c : Nat)
    (hc : (65 ≤ (c : Int) ∧ (c : Int) ≤ 90) ∨ (97 ≤ (c : Int) ∧ (c : Int) ≤ 122) ∨ (48 ≤ (c : Int) ∧ (c : Int) ≤ 57) ∨ c = 43 ∨ c = 47 ∨ c = 61) (hs : s.size ≤ 70368744177664) (w : World) :
    Calls Tryd.prog 8 #[.string s, .int .i64 at0, .int .u8 c] w fun e w' => e = .returned (.bool true) ∧ Below w.heap.size w w' := by
  have h1 := fun w => encode_any s (by omega) w
  generalize S (enc s.data.toList) = E at *
  clear hs
  rcases hc with ⟨c1, c2⟩ | ⟨c1, c2⟩ | ⟨c1, c2⟩ | rfl | rfl | rfl
  all_goals
    go_enter Tryd.func8, Tryd.ntmps8
    go_wp2_with fail
    refine (shown_any _).mono ?_
    rintro e w1 ⟨rfl, b1⟩
    go_wp2_with fail
    refine (h1 _).mono ?_
    rintro e w2 ⟨rfl, b2⟩
    have b2' := Below.then b1 b2
    obtain ⟨cap, W, hcv, hbW, hce, hfr⟩ := bytes_conv E w2
    have b3 := Below.then b2' hbW
    generalize w2.heap.size = g at hcv hce hfr
    clear h1 b1 b2 b2' hbW hce hfr
    go_wp2_with fail
    all_goals
      go_ret
      exact ⟨rfl, b3⟩
set_option maxHeartbeats 1000000 in
set_option maxRecDepth 100000 in
theorem spoils_none (at0 : Int) (c : Nat)
    (hc : (c : Int) ≤ 42 ∨ (44 ≤ (c : Int) ∧ (c : Int) ≤ 46) ∨ (58 ≤ (c : Int) ∧ (c : Int) ≤ 60) ∨ (62 ≤ (c : Int) ∧ (c : Int) ≤ 64) ∨ (91 ≤ (c : Int) ∧ (c : Int) ≤ 96) ∨ 123 ≤ (c : Int)) (w : World) :
    Calls Tryd.prog 8 #[.string ⟨#[]⟩, .int .i64 at0, .int .u8 c] w fun e w' => e = .returned (.bool true) ∧ Below w.heap.size w w' := by
  have h1 : ∀ w, Calls Tryd.prog 10 #[.string ⟨#[]⟩] w fun e w' => e = .returned (.string ⟨#[]⟩) ∧ Below w.heap.size w w' := fun w => encode_any ⟨#[]⟩ (by decide) w
  rcases hc with c1 | ⟨c1, c2⟩ | ⟨c1, c2⟩ | ⟨c1, c2⟩ | ⟨c1, c2⟩ | c1
  all_goals
    go_enter Tryd.func8, Tryd.ntmps8
    go_wp2_with fail
    refine (shown_any _).mono ?_
    rintro e w1 ⟨rfl, b1⟩
    go_wp2_with fail
    refine (h1 _).mono ?_
    rintro e w2 ⟨rfl, b2⟩
    have b2' := Below.then b1 b2
    obtain ⟨cap, W, hcv, hbW, hce, hfr⟩ := bytes_conv ⟨#[]⟩ w2
    have b3 := Below.then b2' hbW
    generalize w2.heap.size = g at hcv hce hfr
    clear h1 b1 b2 b2' hbW hce hfr
    go_wp2_with fail
    all_goals
      go_ret
      exact ⟨rfl, b3⟩

set_option maxHeartbeats 2000000 in
set_option maxRecDepth 100000 in
theorem spoils_main (s : ByteArray) (at0 : Int) (a0 : -9223372036854775808 ≤ at0) (a1 : at0 ≤ 9223372036854775807) (c : Nat) (hc8 : c < 256) (h0 : 0 < s.size)
    (hc : (c : Int) ≤ 42 ∨ (44 ≤ (c : Int) ∧ (c : Int) ≤ 46) ∨ (58 ≤ (c : Int) ∧ (c : Int) ≤ 60) ∨ (62 ≤ (c : Int) ∧ (c : Int) ≤ 64) ∨ (91 ≤ (c : Int) ∧ (c : Int) ≤ 96) ∨ 123 ≤ (c : Int)) (hs : s.size ≤ 70368744177664) (w : World) :
    Calls Tryd.prog 8 #[.string s, .int .i64 at0, .int .u8 c] w fun e w' => e = .returned (.bool true) ∧ Below w.heap.size w w' := by
  have h1 := fun w => encode_any s (by omega) w
  have hz : (S (enc s.data.toList)).size = (s.size + 2) / 3 * 4 := by rw [S_size, enc_len, ← size_len]
  generalize S (enc s.data.toList) = E at *
  have hE0 : 0 < E.size := by omega
  have hEb : E.size ≤ 140737488355320 := by omega
  obtain ⟨r, hr, hat⟩ := fold_mod at0 E.size
  have hr := hr hE0
  obtain ⟨cb, hcb⟩ : ∃ cb : UInt8, cb.toNat = c := ⟨UInt8.ofNat c, by rw [UInt8.toNat_ofNat']; exact Nat.mod_eq_of_lt hc8⟩
  subst hcb
  have hdec : ∀ w, Calls Tryd.prog 12 #[.string (S (E.data.toList.set r cb))] w fun e w' => e = .returned (.tuple #[.string ⟨#[]⟩, .bool false]) ∧ Below w.heap.size w w' := fun w => by
    have h := decode_any (S (E.data.toList.set r cb)) (by rw [S_size, List.length_set, ← size_len]; exact hEb) w
    have hn : isN cb.toNat = false := (isN_no (by omega)).symm
    have h61 : cb ≠ 61 := fun e => by subst e; revert hc; decide
    rw [S_list, decS_spoilt (List.mem_set (by rw [← size_len]; exact hr) _) hn h61] at h
    exact h
  have HB : Hid (∀ (W : World) (g cap : Nat), (∀ (j : Nat) (h : j < E.size), W.cell? ⟨g, j, none⟩ = some (.int .u8 (E[j].toNat : Nat))) →
    (convert 29 9 (.slice (some ⟨g, 0, none⟩) E.size cap)).run Tryd.prog (W.setCell ⟨g, r, none⟩ (.int .u8 (cb.toNat : Nat))) = .ok (.string (S (E.data.toList.set r cb))) (W.setCell ⟨g, r, none⟩ (.int .u8 (cb.toNat : Nat)))) :=
    hid fun W g cap h => bytes_back hr h
  generalize S (E.data.toList.set r cb) = Y at *
  clear hs hz h0
  have hr2 : (r : Int) < (E.size : Int) := by omega
  have hEe : ¬ E = ByteArray.empty := fun e => by subst e; exact absurd hE0 (by decide)
  have e43 : ((cb.toNat : Int) == 43) = false := beq_eq_false_iff_ne.2 (by omega)
  have e47 : ((cb.toNat : Int) == 47) = false := beq_eq_false_iff_ne.2 (by omega)
  have e61 : ((cb.toNat : Int) == 61) = false := beq_eq_false_iff_ne.2 (by omega)
  rcases hc with c1 | ⟨c1, c2⟩ | ⟨c1, c2⟩ | ⟨c1, c2⟩ | ⟨c1, c2⟩ | c1
  all_goals
    try (have d57 : decide ((cb.toNat : Int) ≤ 57) = false := decide_eq_false (by omega))
    try (have d90 : decide ((cb.toNat : Int) ≤ 90) = false := decide_eq_false (by omega))
    try (have d122 : decide ((cb.toNat : Int) ≤ 122) = false := decide_eq_false (by omega))
    rcases hat with ⟨t0, t1⟩ | ⟨t0, t1⟩
    all_goals
      go_enter Tryd.func8, Tryd.ntmps8
      go_wp2_with fail
      refine (shown_any _).mono ?_
      rintro e w1 ⟨rfl, b1⟩
      go_wp2_with fail
      refine (h1 _).mono ?_
      rintro e w2 ⟨rfl, b2⟩
      have b2' := Below.then b1 b2
      obtain ⟨cap, W, hcv, hbW, hce, hfr⟩ := bytes_conv E w2
      have hb2 := HB.out W w2.heap.size cap hce
      have hce' := hce r hr
      have hfr' := hfr r hr
      have b3 := Below.then b2' hbW
      have b4 : Below w.heap.size w (W.setCell ⟨w2.heap.size, r, none⟩ (.int .u8 (cb.toNat : Nat))) := b3.setCell (p := ⟨w2.heap.size, r, none⟩) b2'.size _
      clear hce hfr h1 b1 b2 b2' hbW b3
      generalize w2.heap.size = g at *
      go_wp2_with fail
      refine (hdec _).mono ?_
      rintro e w3 ⟨rfl, b5⟩
      go_wp2_with fail
      go_ret
      exact ⟨rfl, b4.trans (b5.mono b4.size)⟩

theorem spoils_law (s : ByteArray) (at0 : Int) (a0 : -9223372036854775808 ≤ at0) (a1 : at0 ≤ 9223372036854775807) (c : Nat) (hc : c < 256) (hs : s.size ≤ 70368744177664) (w : World) :
    Calls Tryd.prog 8 #[.string s, .int .i64 at0, .int .u8 c] w fun e w' => e = .returned (.bool true) ∧ Below w.heap.size w w' := by
  by_cases hl : (65 ≤ (c : Int) ∧ (c : Int) ≤ 90) ∨ (97 ≤ (c : Int) ∧ (c : Int) ≤ 122) ∨ (48 ≤ (c : Int) ∧ (c : Int) ≤ 57) ∨ c = 43 ∨ c = 47 ∨ c = 61
  · exact spoils_letter s at0 c hl hs w
  · have hn : (c : Int) ≤ 42 ∨ (44 ≤ (c : Int) ∧ (c : Int) ≤ 46) ∨ (58 ≤ (c : Int) ∧ (c : Int) ≤ 60) ∨ (62 ≤ (c : Int) ∧ (c : Int) ≤ 64) ∨ (91 ≤ (c : Int) ∧ (c : Int) ≤ 96) ∨ 123 ≤ (c : Int) := by omega
    by_cases h0 : s.size = 0
    · have e0 : s.data.toList = [] := List.eq_nil_of_length_eq_zero (by rw [← size_len]; exact h0)
      have e : s = ⟨#[]⟩ := by rw [← S_of s, e0]; rfl
      subst e
      exact spoils_none at0 c hn w
    · exact spoils_main s at0 a0 a1 c hc (by omega) hn hs w
end Go.Proofs.YtbmmlpfbflohgaaDoor

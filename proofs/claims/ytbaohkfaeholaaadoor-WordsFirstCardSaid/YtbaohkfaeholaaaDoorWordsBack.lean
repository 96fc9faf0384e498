/-
  The law WordsBack at this program: keys that are joined are split as they were, as a line too. Condition: what stands behind the line has at most 2^47 bytes (the reach).
-/
import Derived.Test.YtbaohkfaeholaaaDoorWordsShown
namespace Go.Proofs.YtbaohkfaeholaaaDoor
open Go Go.Shelf Go.RowKit

/-- The keys among the first k texts. -/
def keysOf (xs : List (List UInt8)) (k : Nat) : List (List UInt8) := (xs.take k).filter keyB
theorem keysOf_hit {xs : List (List UInt8)} {k : Nat} {x : List UInt8} (h : xs[k]? = some x) (hk : keyB x = true) : keysOf xs (k + 1) = keysOf xs k ++ [x] := by
  unfold keysOf; rw [List.take_add_one, h]; simp [hk]
theorem keysOf_miss {xs : List (List UInt8)} {k : Nat} {x : List UInt8} (h : xs[k]? = some x) (hk : keyB x = false) : keysOf xs (k + 1) = keysOf xs k := by
  unfold keysOf; rw [List.take_add_one, h]; simp [hk]
theorem keysOf_le (xs : List (List UInt8)) (k : Nat) : (keysOf xs k).length ≤ k := by
  unfold keysOf
  have := List.length_filter_le keyB (xs.take k)
  rw [List.length_take] at this; omega
theorem keysOf_key {xs : List (List UInt8)} {k : Nat} : ∀ x ∈ keysOf xs k, keyB x = true := fun _ hx => (List.mem_filter.1 hx).2
theorem key_le {ks : List (List UInt8)} (h : ∀ x ∈ ks, keyB x = true) : ∀ x ∈ ks, x.length ≤ 250 := fun x hx => (keyB_parts (h x hx)).2.1

theorem back_facts (ks : List (List UInt8)) (hkk : ∀ x ∈ ks, keyB x = true) (hkl : ks.length ≤ 50) (behind : ByteArray) (hbs : behind.size ≤ 140737488355328) :
    ∃ R : ByteArray, R.size + 2 ≤ 9223372036854775807 ∧ R.size + 2 + behind.size ≤ 9223372036854775807 ∧ wrap64 ((R.size : Int) + 1) = (R.size : Int) + 1 ∧ wrap64 ((R.size : Int) + 2) = (R.size : Int) + 2 ∧
      (∀ W v, Texts W v ks → Calls Tryd.prog 19 #[v] W fun e w' => e = .returned (.string R) ∧ Below W.heap.size W w') ∧
      (∀ W, Calls Tryd.prog 14 #[.string R] W fun e w' => ∃ u, e = .returned u ∧ Texts w' u ks ∧ Below W.heap.size W w') ∧
      (∀ W, Calls Tryd.prog 12 #[.string (R ++ ⟨#[10]⟩ ++ behind)] W fun e w' => e = .returned (.tuple #[.string R, .int .i64 ((R.size + 1 : Nat) : Int)]) ∧ Below W.heap.size W w') ∧
      (∀ W, Calls Tryd.prog 12 #[.string (R ++ ⟨#[13, 10]⟩ ++ behind)] W fun e w' => e = .returned (.tuple #[.string R, .int .i64 ((R.size + 2 : Nat) : Int)]) ∧ Below W.heap.size W w') ∧
      (∀ W v u, Texts W v ks → Texts W u ks → Calls Tryd.prog 15 #[v, u] W fun e w' => e = .returned (.bool true) ∧ Below W.heap.size W w') := by
  have hjl := join_len_le 250 (key_le hkk)
  have hjm : ks.length * (250 + 1) ≤ 50 * 251 := Nat.mul_le_mul_right _ hkl
  have hjs : (Lib.join ks [32]).length ≤ 12550 := Nat.le_trans hjl hjm
  clear hjl hjm
  have hz := S_size (Lib.join ks [32])
  have hR : (S (Lib.join ks [32])).size ≤ 12550 := by rw [hz]; exact hjs
  refine ⟨S (Lib.join ks [32]), ?_, ?_, ?_, ?_, ?_, ?_, ?_, ?_, ?_⟩
  · exact Nat.le_trans (Nat.add_le_add_right hR 2) (by decide)
  · exact Nat.le_trans (Nat.add_le_add (Nat.add_le_add_right hR 2) hbs) (by decide)
  · clear hkk hbs hjs hz; unfold wrap64; omega
  · clear hkk hbs hjs hz; unfold wrap64; omega
  · intro W v hv
    exact join_texts v ks (Nat.le_trans hkl (by decide)) (Nat.le_trans hjs (by decide)) W hv
  · intro W
    have h := split_any (S (Lib.join ks [32])) (Nat.le_trans hR (by decide)) (by rw [S_list, splitS_join hkk]; exact Nat.le_trans (Nat.mul_le_mul_right _ hkl) (by decide)) W
    rw [S_list, splitS_join hkk] at h
    exact h.mono fun e w' ⟨u, he, ho, hb⟩ => ⟨u, he, texts_of_row ho, hb⟩
  · intro W
    have h := line_any (S (Lib.join ks [32]) ++ ⟨#[10]⟩ ++ behind) (by rw [ByteArray.size_append, ByteArray.size_append]; exact Nat.le_trans (Nat.add_le_add (Nat.add_le_add_right hR 1) hbs) (by decide)) W
    rw [show (S (Lib.join ks [32]) ++ ⟨#[10]⟩ ++ behind).data.toList = Lib.join ks [32] ++ [10] ++ behind.data.toList by simp [ByteArray.data_append, S], (line_join hkk _).1, (line_join hkk _).2, ← hz] at h
    exact h
  · intro W
    have h := line_any (S (Lib.join ks [32]) ++ ⟨#[13, 10]⟩ ++ behind) (by rw [ByteArray.size_append, ByteArray.size_append]; exact Nat.le_trans (Nat.add_le_add (Nat.add_le_add_right hR 2) hbs) (by decide)) W
    rw [show (S (Lib.join ks [32]) ++ ⟨#[13, 10]⟩ ++ behind).data.toList = Lib.join ks [32] ++ [13, 10] ++ behind.data.toList by simp [ByteArray.data_append, S], (line_join_cr hkk _).1, (line_join_cr hkk _).2, ← hz] at h
    exact h
  · intro W v u hv hu
    exact same_texts v u ks (Nat.lt_of_le_of_lt hkl (by decide)) W hv hu

set_option maxHeartbeats 2000000 in
set_option maxRecDepth 100000 in
theorem back_walk (a : Option Addr) (c : Nat) (xs : List (List UInt8)) (behind : ByteArray) (cr : Bool) (w : World) (hT : Texts w (.slice a xs.length c) xs) (hxl : xs.length ≤ 9223372036854775807) (hbs : behind.size ≤ 140737488355328) :
    Calls Tryd.prog 7 #[.slice a xs.length c, .string behind, .bool cr] w fun e w' => e = .returned (.bool true) ∧ Below w.heap.size w w' := by
  obtain ⟨i0, hi, hz0, hz1, hz2⟩ := info_parts infoString
  go_enter Tryd.func7, Tryd.ntmps7
  go_wp2_with fail
  refine (shown_any _).mono ?_
  rintro e w1 ⟨rfl, b1⟩
  have hA : Hid (∀ j x, xs[j]? = some x → ∃ b o, a = some ⟨b, o, none⟩ ∧ b < w.heap.size ∧ w.cell? ⟨b, o + j, none⟩ = some (.string (S x))) := by
    obtain ⟨a', c', e, _, hx⟩ := hT
    cases e
    exact hid hx
  clear hT
  go_wp2_with fail
  go_loopw [8, 9] (fun v i wr => ∃ k : Nat, k ≤ xs.length ∧ k ≤ 50 ∧ i = .int .i64 k ∧ wr.ownsRow w.heap.size 9 1 v (keysOf xs k).length (cellsOf (keysOf xs k)) ∧ Below w.heap.size w wr) (fun _ i _ => xs.length - (intOf i).toNat)
  case atStart => exact ⟨0, by omega, by omega, rfl, World.ownsRow_nil _ _ _ _, b1⟩
  case round =>
    obtain ⟨k, hk, hk5, rfl, hown, hb⟩ := hrel
    have hsz := hb.size
    by_cases hgo : k < xs.length ∧ k < 50
    · obtain ⟨hlt, hl5⟩ := hgo
      have il5 : (k : Int) < 50 := by omega
      obtain ⟨x, hxk⟩ : ∃ x, xs[k]? = some x := ⟨_, List.getElem?_eq_getElem hlt⟩
      obtain ⟨b, o, rfl, hbl, hcell⟩ := hA.out k x hxk
      have g1 : wr.cell? ⟨b, o + k, none⟩ = some (.string (S x)) := (hb.cell (p := ⟨b, o + k, none⟩) hbl).trans hcell
      have hkey := fun W => key_any (S x) W
      rw [S_list] at hkey
      have hkl := keysOf_le xs k
      clear hA hcell
      by_cases hkb : keyB x = true
      · rw [hkb] at hkey
        have HK : Hid (keysOf xs (k + 1) = keysOf xs k ++ [x]) := hid (keysOf_hit hxk hkb)
        generalize hks : keysOf xs k = ks at *
        generalize hX : S x = X at *
        clear hks
        go_wp2_with fail
        refine (hkey _).mono ?_
        rintro e w3 ⟨rfl, rfl⟩
        clear hkey
        go_wp2_with (at_builtin; refine wpList_append_own _ rfl _ _ 26 rfl w.heap.size 9 i0 (.string ByteArray.empty) 1 16 Tryd.underlying26 hi hz0 hz1 hz2 rfl (by decide) _ _ _ rfl (hown.alloc _) ⟨wr.heap.size, 0, none⟩ 1 1 [.string X] rfl rfl ?c1 ?c2 ?c3 ?c4 ?c5 ?_)
        case c1 =>
          intro j u hj
          match j, hj with
          | 0, hj => simp at hj; subst hj; simp [Addr.add]
        case c2 => intro u hu; simp at hu; subst hu; rfl
        case c3 => unfold maxLen; omega
        case c4 => omega
        case c5 => simp; omega
        · intro v' w2 hown' hgrow _
          have hb2 := hb.trans (own_grown hown hsz hgrow)
          have ho : w2.ownsRow w.heap.size 9 1 v' (keysOf xs (k + 1)).length (cellsOf (keysOf xs (k + 1))) := by rw [HK.out]; subst hX; simpa [cellsOf] using hown'
          clear hown' hgrow hown hb
          go_wp2_with fail
          go_roundw
          case rel => exact ⟨k + 1, by omega, by omega, by go_num, ho, hb2⟩
          case measure => simp [intOf] <;> omega
      · rw [Bool.not_eq_true] at hkb
        rw [hkb] at hkey
        have HK : Hid (keysOf xs (k + 1) = keysOf xs k) := hid (keysOf_miss hxk hkb)
        generalize S x = X at *
        go_wp2_with fail
        refine (hkey _).mono ?_
        rintro e w3 ⟨rfl, rfl⟩
        clear hkey
        go_wp2_with fail
        go_roundw
        case rel => exact ⟨k + 1, by omega, by omega, by go_num, by rw [HK.out]; exact hown, hb⟩
        case measure => simp [intOf] <;> omega
    · obtain ⟨R, r1, r2, c1, c2, hj0, hsp, hl1, hl2, hsame⟩ := back_facts (keysOf xs k) keysOf_key (by have := keysOf_le xs k; omega) behind hbs
      have hj := hj0 wr _ (texts_of_row hown)
      clear hj0
      have hv := texts_of_row hown
      generalize keysOf xs k = ks at *
      clear hA hown hi hz0 hz1 hz2 hbs
      have hcase : (k < xs.length ∧ ¬ (k : Int) < 50) ∨ ¬ k < xs.length := by omega
      clear hgo
      rcases hcase with ⟨hlt, il5⟩ | hlt
      all_goals
        cases cr
        · clear hl2
          go_wp2_with fail
          refine hj.mono ?_
          rintro e w2 ⟨rfl, b2⟩
          have hv2 := hv.below b2
          clear hj hv
          go_wp2_with fail
          refine (hl1 _).mono ?_
          rintro e w3 ⟨rfl, b3⟩
          have hv3 := hv2.below b3
          clear hl1 hv2
          go_wp2_with fail
          refine (hsp _).mono ?_
          rintro e w4 ⟨u, rfl, hu, b4⟩
          have hv4 := hv3.below b4
          clear hsp hv3
          go_wp2_with fail
          refine (hsame _ _ _ hu hv4).mono ?_
          rintro e w5 ⟨rfl, b5⟩
          clear hsame hv4 hu
          go_wp2_with fail
          go_ret
          exact ⟨rfl, hb.trans (Below.mono (Below.then (Below.then (Below.then b2 b3) b4) b5) hsz)⟩
        · clear hl1
          go_wp2_with fail
          refine hj.mono ?_
          rintro e w2 ⟨rfl, b2⟩
          have hv2 := hv.below b2
          clear hj hv
          go_wp2_with fail
          refine (hl2 _).mono ?_
          rintro e w3 ⟨rfl, b3⟩
          have hv3 := hv2.below b3
          clear hl2 hv2
          go_wp2_with fail
          refine (hsp _).mono ?_
          rintro e w4 ⟨u, rfl, hu, b4⟩
          have hv4 := hv3.below b4
          clear hsp hv3
          go_wp2_with fail
          refine (hsame _ _ _ hu hv4).mono ?_
          rintro e w5 ⟨rfl, b5⟩
          clear hsame hv4 hu
          go_wp2_with fail
          go_ret
          exact ⟨rfl, hb.trans (Below.mono (Below.then (Below.then (Below.then b2 b3) b4) b5) hsz)⟩
end Go.Proofs.YtbaohkfaeholaaaDoor

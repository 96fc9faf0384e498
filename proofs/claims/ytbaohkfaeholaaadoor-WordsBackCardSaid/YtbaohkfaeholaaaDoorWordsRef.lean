/-
  Contracts of the document's own answers for layer 2 (ambryref02.Split, Join, Same) and of words.Join at this program. Conditions: a split line has at most 2^43 words, joined texts take at most 2^47 bytes.
-/
import Derived.Test.YtbaohkfaeholaaaDoorWordsSplit
import Derived.OwnWalk
import Derived.Laws.OwnMore
import Derived.Deep.AppendLies
namespace Go.Proofs.YtbaohkfaeholaaaDoor
open Go Go.Shelf Go.RowKit

theorem own_grown {W w1 : World} {n₀ : Nat} {e : TypeId} {size : Nat} {v : Value} {k : Nat} {xs : List Value} {tmp : Obj} (hrow : W.ownsRow n₀ e size v k xs) (hn₀ : n₀ ≤ W.heap.size)
    (hgrow : (W.alloc tmp).grownBy w1 v.ownBlock) : Below n₀ W w1 := by
  refine ((Below.refl n₀ W).alloc hn₀ tmp).grown hgrow (by simp; omega) fun j ej => ?_
  rcases hrow.2 with ⟨rfl, _⟩ | ⟨g, cap, cur, rfl, hb, _, _⟩
  · simp [Value.ownBlock] at ej
  · obtain rfl : g = j := by simpa [Value.ownBlock] using ej
    exact hb

/-- The word that has begun at fr, seen at k. -/
def run (s : ByteArray) (fr k : Nat) : List UInt8 := (s.data.toList.drop fr).take (k - fr)
theorem run_len {s : ByteArray} {fr k : Nat} (hk : k ≤ s.size) : (run s fr k).length = k - fr := by
  unfold run; rw [size_len] at hk
  rw [List.length_take, List.length_drop]; omega
theorem run_nil (s : ByteArray) (k : Nat) : run s k k = [] := by unfold run; simp
theorem run_extract (s : ByteArray) (fr k : Nat) : s.extract fr k = S (run s fr k) := by rw [Lib.extract_eq]; rfl
theorem run_more {s : ByteArray} {fr k : Nat} (hf : fr ≤ k) (hk : k < s.size) : run s fr (k + 1) = run s fr k ++ [s[k]] := by
  unfold run
  have hl : k < s.data.toList.length := by rw [← size_len]; exact hk
  rw [show k + 1 - fr = (k - fr) + 1 by omega, List.take_add_one, List.getElem?_drop, show fr + (k - fr) = k by omega, List.getElem?_eq_getElem hl]; rfl
theorem drop_at (s : ByteArray) (k : Nat) (h : k < s.size) : s.data.toList.drop k = s[k] :: s.data.toList.drop (k + 1) := by
  rw [List.drop_eq_getElem_cons (by rw [← size_len]; exact h)]; rfl
theorem drop_end {s : ByteArray} {k : Nat} (h : s.size ≤ k) : s.data.toList.drop k = [] := List.drop_eq_nil_of_le (by rw [← size_len]; exact h)

/-- What is to come at k. -/
def Todo (s : ByteArray) (pre : List (List UInt8)) (fr k : Nat) : Prop := splitS s.data.toList = pre ++ wordsFrom (run s fr k) (s.data.toList.drop k)
theorem todo_start (s : ByteArray) : Todo s [] 0 0 := by unfold Todo; rw [run_nil]; rfl
theorem Todo.other {s : ByteArray} {pre : List (List UInt8)} {fr k : Nat} (h : Todo s pre fr k) (hf : fr ≤ k) (hk : k < s.size) (hc : s[k].toNat ≠ 32) : Todo s pre fr (k + 1) := by
  unfold Todo at *
  rw [h, drop_at s k hk, wordsFrom_other (fun e => hc (by rw [e]; rfl)), run_more hf hk]
theorem run_ne {s : ByteArray} {fr k : Nat} (hf : fr < k) (hk : k ≤ s.size) : run s fr k ≠ [] := by
  intro e; have := run_len (s := s) (fr := fr) hk; rw [e] at this; simp at this; omega
theorem byte_blank {s : ByteArray} {k : Nat} (hk : k < s.size) (hc : s[k].toNat = 32) : s[k] = 32 := UInt8.toNat_inj.1 hc
theorem Todo.word {s : ByteArray} {pre : List (List UInt8)} {fr k : Nat} (h : Todo s pre fr k) (hf : fr < k) (hk : k < s.size) (hc : s[k].toNat = 32) : Todo s (pre ++ [run s fr k]) (k + 1) (k + 1) := by
  unfold Todo at *
  rw [h, drop_at s k hk, byte_blank hk hc, wordsFrom_blank (run_ne hf (by omega)), run_nil]; simp
theorem Todo.blank {s : ByteArray} {pre : List (List UInt8)} {k : Nat} (h : Todo s pre k k) (hk : k < s.size) (hc : s[k].toNat = 32) : Todo s pre (k + 1) (k + 1) := by
  unfold Todo at *
  rw [h, run_nil, drop_at s k hk, byte_blank hk hc, wordsFrom_blank_nil, run_nil]
theorem Todo.last {s : ByteArray} {pre : List (List UInt8)} {fr : Nat} (h : Todo s pre fr s.size) (hf : fr < s.size) : Todo s (pre ++ [run s fr s.size]) (s.size + 1) (s.size + 1) := by
  unfold Todo at *
  rw [h, drop_end (Nat.le_refl _), wordsFrom_nil (run_ne hf (Nat.le_refl _)), drop_end (by omega), run_nil, wordsFrom_nil_nil]; simp
theorem Todo.none {s : ByteArray} {pre : List (List UInt8)} (h : Todo s pre s.size s.size) : Todo s pre (s.size + 1) (s.size + 1) := by
  unfold Todo at *
  rw [h, drop_end (Nat.le_refl _), run_nil, drop_end (by omega), run_nil]
theorem Todo.all {s : ByteArray} {pre : List (List UInt8)} (h : Todo s pre (s.size + 1) (s.size + 1)) : splitS s.data.toList = pre := by
  unfold Todo at *
  rw [h, run_nil, drop_end (by omega), wordsFrom_nil_nil, List.append_nil]
theorem Todo.le {s : ByteArray} {pre : List (List UInt8)} {fr k : Nat} (h : Todo s pre fr k) : pre.length ≤ (splitS s.data.toList).length := by
  unfold Todo at *; rw [h]; simp
theorem Todo.lt {s : ByteArray} {pre : List (List UInt8)} {fr k : Nat} {x : List UInt8} (h : Todo s (pre ++ [x]) fr k) : pre.length < (splitS s.data.toList).length := by
  have := h.le; simp at this; omega

set_option maxRecDepth 100000 in
set_option maxHeartbeats 2000000 in
theorem ref_split (s : ByteArray) (hs : s.size < 9223372036854775806) (hN : (splitS s.data.toList).length * 16 ≤ 140737488355328) (w : World) :
    Calls Tryd.prog 16 #[.string s] w fun e W' => ∃ v, e = .returned v ∧ W'.ownsRow w.heap.size 9 1 v (splitS s.data.toList).length (cellsOf (splitS s.data.toList)) ∧ Below w.heap.size w W' := by
  obtain ⟨i0, hi, hz0, hz1, hz2⟩ := info_parts infoString
  go_enter Tryd.func16, Tryd.ntmps16
  go_wp2_with fail
  go_loopw [3, 4, 5] (fun v f i wr => ∃ (pre : List (List UInt8)) (fr k : Nat), f = .int .i64 fr ∧ i = .int .i64 k ∧ k ≤ s.size + 1 ∧ fr ≤ k ∧ (k = s.size + 1 → fr = k) ∧ Hid (Todo s pre fr k) ∧ wr.ownsRow w.heap.size 9 1 v pre.length (cellsOf pre) ∧ Below w.heap.size w wr)
    (fun _ _ i _ => s.size + 1 - (intOf i).toNat)
  case atStart => exact ⟨[], 0, 0, rfl, rfl, by omega, by omega, by omega, hid (todo_start s), World.ownsRow_nil _ _ _ _, Below.refl _ _⟩
  case round =>
    obtain ⟨pre, fr, k, rfl, rfl, hk, hf, hq, HT, hown, hb⟩ := hrel
    have hsz := hb.size
    by_cases hlt : k < s.size
    · by_cases hc : s[k].toNat = 32
      · have ic : (s[k].toNat : Int) = 32 := by omega
        by_cases hfk : fr < k
        · have ifk : (fr : Int) < (k : Int) := by omega
          have HT' : Hid (Todo s (pre ++ [run s fr k]) (k + 1) (k + 1)) := hid (HT.out.word hfk hlt hc)
          have hpl := HT'.out.lt
          have hre := run_extract s fr k
          go_wp2_with (at_builtin; refine wpList_append_own _ rfl _ _ 26 rfl w.heap.size 9 i0 (.string ByteArray.empty) 1 16 Tryd.underlying26 hi hz0 hz1 hz2 rfl (by decide) _ _ _ rfl (hown.alloc _) ⟨wr.heap.size, 0, none⟩ 1 1 [.string (S (run s fr k))] rfl rfl ?c1 ?c2 ?c3 ?c4 ?c5 ?_)
          case c1 =>
            intro j u hj
            match j, hj with
            | 0, hj => simp at hj; subst hj; simp [Addr.add]
          case c2 => intro u hu; simp at hu; subst hu; rfl
          case c3 => unfold maxLen; omega
          case c4 => omega
          case c5 => simp; omega
          · intro v' w1 hown' hgrow _
            have hb2 := hb.trans (own_grown hown hsz hgrow)
            have ho : w1.ownsRow w.heap.size 9 1 v' (pre ++ [run s fr k]).length (cellsOf (pre ++ [run s fr k])) := by simpa [cellsOf] using hown'
            clear hown' hgrow hown hb
            go_wp2_with fail
            go_roundw
            case rel => exact ⟨_, k + 1, k + 1, by go_num, by go_num, by omega, by omega, by omega, HT', ho, hb2⟩
            case measure => simp [intOf] <;> omega
        · obtain rfl : fr = k := by omega
          have ifk : ¬ (fr : Int) < (fr : Int) := by omega
          have HT' : Hid (Todo s pre (fr + 1) (fr + 1)) := hid (HT.out.blank hlt hc)
          go_wp2_with fail
          go_roundw
          case rel => exact ⟨_, fr + 1, fr + 1, by go_num, by go_num, by omega, by omega, by omega, HT', hown, hb⟩
          case measure => simp [intOf] <;> omega
      · have ic : ¬ (s[k].toNat : Int) = 32 := by omega
        have HT' : Hid (Todo s pre fr (k + 1)) := hid (HT.out.other hf hlt hc)
        go_wp2_with fail
        go_roundw
        case rel => exact ⟨_, fr, k + 1, rfl, by go_num, by omega, by omega, by omega, HT', hown, hb⟩
        case measure => simp [intOf] <;> omega
    · by_cases he : k = s.size
      · subst he
        by_cases hfk : fr < s.size
        · have ifk : (fr : Int) < (s.size : Int) := by omega
          have HT' : Hid (Todo s (pre ++ [run s fr s.size]) (s.size + 1) (s.size + 1)) := hid (HT.out.last hfk)
          have hpl := HT'.out.lt
          have hre := run_extract s fr s.size
          go_wp2_with (at_builtin; refine wpList_append_own _ rfl _ _ 26 rfl w.heap.size 9 i0 (.string ByteArray.empty) 1 16 Tryd.underlying26 hi hz0 hz1 hz2 rfl (by decide) _ _ _ rfl (hown.alloc _) ⟨wr.heap.size, 0, none⟩ 1 1 [.string (S (run s fr s.size))] rfl rfl ?c1 ?c2 ?c3 ?c4 ?c5 ?_)
          case c1 =>
            intro j u hj
            match j, hj with
            | 0, hj => simp at hj; subst hj; simp [Addr.add]
          case c2 => intro u hu; simp at hu; subst hu; rfl
          case c3 => unfold maxLen; omega
          case c4 => omega
          case c5 => simp; omega
          · intro v' w1 hown' hgrow _
            have hb2 := hb.trans (own_grown hown hsz hgrow)
            have ho : w1.ownsRow w.heap.size 9 1 v' (pre ++ [run s fr s.size]).length (cellsOf (pre ++ [run s fr s.size])) := by simpa [cellsOf] using hown'
            clear hown' hgrow hown hb
            go_wp2_with fail
            go_roundw
            case rel => exact ⟨_, s.size + 1, s.size + 1, by go_num, by go_num, by omega, by omega, by omega, HT', ho, hb2⟩
            case measure => simp [intOf] <;> omega
        · obtain rfl : fr = s.size := by omega
          have HT' : Hid (Todo s pre (s.size + 1) (s.size + 1)) := hid HT.out.none
          go_wp2_with fail
          go_roundw
          case rel => exact ⟨_, s.size + 1, s.size + 1, by go_num, by go_num, by omega, by omega, by omega, HT', hown, hb⟩
          case measure => simp [intOf] <;> omega
      · obtain rfl : k = s.size + 1 := by omega
        have hgt : ¬ ((s.size + 1 : Nat) : Int) ≤ (s.size : Int) := by omega
        obtain rfl : fr = s.size + 1 := hq rfl
        have HE : Hid (splitS s.data.toList = pre) := hid HT.out.all
        clear hq HT
        go_wp2_with fail
        go_ret
        exact ⟨_, rfl, by rw [HE.out]; exact hown, hb⟩

theorem addr_plain (b o j : Nat) : (⟨b, o, none⟩ : Addr).add j = ⟨b, o + j, none⟩ := by simp [Addr.add]
/-- A slice of texts, read through its cells. -/
def Texts (w : World) (v : Value) (xs : List (List UInt8)) : Prop :=
  ∃ a c, v = .slice a xs.length c ∧ xs.length ≤ c ∧ ∀ j x, xs[j]? = some x → ∃ b o, a = some ⟨b, o, none⟩ ∧ b < w.heap.size ∧ w.cell? ⟨b, o + j, none⟩ = some (.string (S x))
theorem Texts.below {w w' : World} {v : Value} {xs : List (List UInt8)} (h : Texts w v xs) (hb : Below w.heap.size w w') : Texts w' v xs := by
  obtain ⟨a, c, hv, hcap, hx⟩ := h
  refine ⟨a, c, hv, hcap, fun j x hj => ?_⟩
  obtain ⟨b, o, ha, hlt, hc⟩ := hx j x hj
  exact ⟨b, o, ha, Nat.lt_of_lt_of_le hlt hb.size, (hb.cell (p := ⟨b, o + j, none⟩) hlt).trans hc⟩
theorem texts_of_row {w : World} {n₀ : Nat} {v : Value} {xs : List (List UInt8)} (h : w.ownsRow n₀ 9 1 v xs.length (cellsOf xs)) : Texts w v xs := by
  have hlt := h.lt
  have hcs := @World.ownsRow.cells _ _ _ _ _ _ _ h
  rcases h.2 with ⟨rfl, h0⟩ | ⟨g, cap, cur, rfl, hb, hg, hcap, _⟩
  · refine ⟨none, 0, by rw [h0], by omega, fun j x hj => ?_⟩
    rw [List.eq_nil_of_length_eq_zero h0] at hj; simp at hj
  · refine ⟨some ⟨g, 0, none⟩, cap, rfl, hcap, fun j x hj => ⟨g, 0, rfl, (hlt g rfl).2, ?_⟩⟩
    have := hcs rfl j (.string (S x)) (by simp [cellsOf, hj])
    rw [addr_plain] at this; exact this

set_option maxHeartbeats 1000000 in
set_option maxRecDepth 100000 in
theorem same_sizes (a b : Option Addr) (ca cb n m : Nat) (hne : n ≠ m) (w : World) :
    Calls Tryd.prog 15 #[.slice a n ca, .slice b m cb] w fun e w' => e = .returned (.bool false) ∧ w = w' := by
  have i0 : ¬ (n : Int) = (m : Int) := by omega
  go_enter Tryd.func15, Tryd.ntmps15
  go_wp2_with fail
  go_ret
  exact ⟨rfl, rfl⟩

set_option maxHeartbeats 1000000 in
set_option maxRecDepth 100000 in
theorem same_texts (v : Value) (u : Value) (xs : List (List UInt8)) (hn : xs.length < 9223372036854775807) (w : World) (hv : Texts w v xs) (hu : Texts w u xs) :
    Calls Tryd.prog 15 #[v, u] w fun e w' => e = .returned (.bool true) ∧ Below w.heap.size w w' := by
  obtain ⟨a, ca, rfl, _, ha⟩ := hv
  obtain ⟨b, cb, rfl, _, hb⟩ := hu
  have HA := hid ha
  have HB := hid hb
  clear ha hb
  go_enter Tryd.func15, Tryd.ntmps15
  go_wp2_with fail
  go_loopw [5] (fun i wr => ∃ k : Nat, k ≤ xs.length ∧ i = .int .i64 k ∧ Below w.heap.size w wr) (fun i _ => xs.length - (intOf i).toNat)
  case atStart => exact ⟨0, by omega, rfl, Below.refl _ _⟩
  case round =>
    obtain ⟨k, hk, rfl, hbw⟩ := hrel
    by_cases hlt : k < xs.length
    · obtain ⟨x, hx⟩ : ∃ x, xs[k]? = some x := ⟨_, List.getElem?_eq_getElem hlt⟩
      obtain ⟨ba, oa, rfl, l1, h1⟩ := HA.out k x hx
      obtain ⟨bb, ob, rfl, l2, h2⟩ := HB.out k x hx
      have g1 : wr.cell? ⟨ba, oa + k, none⟩ = some (.string (S x)) := (hbw.cell (p := ⟨ba, oa + k, none⟩) l1).trans h1
      have g2 : wr.cell? ⟨bb, ob + k, none⟩ = some (.string (S x)) := (hbw.cell (p := ⟨bb, ob + k, none⟩) l2).trans h2
      clear HA HB hx h1 h2 l1 l2
      generalize S x = X at g1 g2
      go_wp2_with fail
      go_region
      go_wp2_with fail
      go_roundw
      case rel => exact ⟨k + 1, by omega, by go_num, hbw.drew⟩
      case measure => simp [intOf] <;> omega
    · clear HA HB
      go_wp2_with fail
      go_ret
      exact ⟨rfl, hbw⟩
end Go.Proofs.YtbaohkfaeholaaaDoor

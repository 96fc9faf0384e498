/-
  The law TextKeys at this program: the plain mathematics of its lines, and what it leans on. Conditions: the package variables hold what they were laid with.
-/
import Derived.Test.YtggeccndmmmnjaaDoorTxShown
import Derived.BigQuiet
import Derived.OwnWalk
namespace Go.Proofs.YtggeccndmmmnjaaDoor.Tx
open Go Go.RowKit Go.Lib Md

/-- The keys among the first k texts. -/
def keysOf (xs : List (List UInt8)) (k : Nat) : List (List UInt8) := (xs.take k).filter keyB
theorem keysOf_hit {xs : List (List UInt8)} {k : Nat} {x : List UInt8} (h : xs[k]? = some x) (hk : keyB x = true) : keysOf xs (k + 1) = keysOf xs k ++ [x] := by
  unfold keysOf; rw [List.take_add_one, h]; simp [hk]
theorem keysOf_miss {xs : List (List UInt8)} {k : Nat} {x : List UInt8} (h : xs[k]? = some x) (hk : keyB x = false) : keysOf xs (k + 1) = keysOf xs k := by
  unfold keysOf; rw [List.take_add_one, h]; simp [hk]
theorem keysOf_le (xs : List (List UInt8)) (k : Nat) : (keysOf xs k).length ≤ k := by
  unfold keysOf
  have := List.length_filter_le keyB (xs.take k)
  rw [List.length_take] at this; omega
theorem keysOf_key {xs : List (List UInt8)} {k : Nat} : ∀ x ∈ keysOf xs k, keyB x = true := fun _ hx => (List.mem_filter.1 hx).2
theorem key_le {ks : List (List UInt8)} (h : ∀ x ∈ ks, keyB x = true) : ∀ x ∈ ks, x.length ≤ 250 := fun x hx => (keyB_parts (h x hx)).2.1

theorem cm_equal (x : Cm) (W : World) : (Op.equalIn 10000 35 (cv x) (cv x)).run Tryd.prog W = .ok true W := by
  obtain ⟨x0, x1, x2, x3, x4, x5, x6, x7, x8, x9, x10, x11, x12, x13, x14, x15⟩ := x
  simp only [cv, cc]
  rw [run_equalIn_agg W 9999 35 _ _ (by kernel_rfl) (by kernel_rfl)]
  simp only [Program.fieldsOf, Tryd.underlying35]
  simp [go_sem, Tryd.underlying3, Tryd.underlying9, Tryd.underlying32, Tryd.underlying33, Tryd.underlying2, Tryd.underlying4]
theorem cm_neq (x : Cm) (W : World) : (binOp .neq 35 (cv x) (cv x)).run Tryd.prog W = .ok (.bool false) W := by
  have h := cm_equal x W
  unfold cv at h ⊢
  rw [run_neq_struct, h]; rfl
theorem cm_eql (x : Cm) (W : World) : (binOp .eql 35 (cv x) (cv x)).run Tryd.prog W = .ok (.bool true) W := by
  have h := cm_equal x W
  unfold cv at h ⊢
  rw [run_eql_struct, h]; rfl
theorem cms_at {n₀ : Nat} {w : World} {a : Option Addr} {n c : Nat} {l : List Cm} (h : Cms n₀ w (.slice a n c) l) {i : Nat} {x : Cm} (hi : l[i]? = some x) : ∃ b o, a = some ⟨b, o, none⟩ ∧ ∀ j u, (cc x)[j]? = some u → w.cell? ⟨b, o + i * 16 + j, none⟩ = some u := by
  obtain ⟨a', c', hv, -, -, hx⟩ := h
  injection hv with e1
  subst e1
  exact hx i x hi

/-! The lines -/
def nmK (t : Bool) : List UInt8 := if t then wGets else wGet
def sK (t : Bool) (ks : List (List UInt8)) : List UInt8 := nmK t ++ Lib.joinTail [32] ks
theorem sK_join (t : Bool) (ks : List (List UInt8)) : Lib.join (nmK t :: ks) [32] = sK t ks := Lib.join_cons _ _ _
theorem sK_more (t : Bool) (ks : List (List UInt8)) (x : List UInt8) : S (sK t (ks ++ [x])) = S (sK t ks) ++ ⟨#[32]⟩ ++ S x := by
  show _ = S (sK t ks) ++ S [32] ++ S x
  have e : sK t (ks ++ [x]) = sK t ks ++ [32] ++ x := by unfold sK Lib.joinTail; simp
  rw [e]
  apply ByteArray.ext
  apply Array.toList_inj.1
  simp [S]
theorem tail_le {ks : List (List UInt8)} (h : ∀ x ∈ ks, keyB x = true) : (Lib.joinTail [32] ks).length ≤ 251 * ks.length := by
  induction ks with
  | nil => simp [Lib.joinTail]
  | cons x r ih =>
    have h1 := ih fun y hy => h y (by simp [hy])
    have h2 := (keyB_parts (h x (by simp))).2.1
    have e : Lib.joinTail [32] (x :: r) = [32] ++ x ++ Lib.joinTail [32] r := by unfold Lib.joinTail; simp
    rw [e]; simp; omega
theorem sK_len (t : Bool) {ks : List (List UInt8)} (h : ∀ x ∈ ks, keyB x = true) (hl : ks.length ≤ 7) : (sK t ks).length ≤ 1761 := by
  have h1 := tail_le h
  have h2 : (nmK t).length ≤ 4 := by cases t <;> decide
  unfold sK
  rw [List.length_append]; omega
theorem nm_keys (t : Bool) {ks : List (List UInt8)} (h : ∀ x ∈ ks, keyB x = true) : ∀ x ∈ nmK t :: ks, keyB x = true := fun x hx => by
  rcases List.mem_cons.1 hx with rfl | hx
  · cases t <;> decide
  · exact h x hx
def keysQ (t : Bool) (ks : List (List UInt8)) : Rq := ⟨1, ks.map (withKey (command 1)), false, t, [], [], 0, false⟩
theorem read_keys (t : Bool) (ks : List (List UInt8)) : readR (nmK t :: ks) [] = getR ks t := by cases t <;> rfl
theorem parse_lf {l : List UInt8} (h10 : 10 ∉ l) (h13 : 13 ∉ l) (hl : l.length + 1 ≤ 2048) : parse (l ++ [10]) = (readR (splitS l) []).fin (l.length + 1) := by
  have ht : (l ++ [10]).take 2048 = l ++ [10] := List.take_of_length_le (by simpa using hl)
  have hu : upTo 10 (l ++ [10]) = l := upTo_append h10 []
  have hls : lineS (l ++ [10]) = l := by unfold lineS; rw [if_pos (by simp), hu, chop_no h13]
  have hn : lineN (l ++ [10]) = l.length + 1 := by unfold lineN; rw [if_pos (by simp), hu]
  unfold parse
  rw [ht, if_pos (by simp), hls, hn, List.drop_of_length_le (by simp)]
theorem sK_no (t : Bool) {ks : List (List UInt8)} (h : ∀ x ∈ ks, keyB x = true) (c : UInt8) (hc : c ≠ 32) (hk : c.toNat < 33) : c ∉ sK t ks := fun hm => by
  rw [← sK_join] at hm
  obtain ⟨x, hx, hcx⟩ := mem_join hc hm
  have := (keyB_parts (nm_keys t h x hx)).2.2 c hcx
  omega
theorem splitS_join_more : ∀ {xs : List (List UInt8)}, (∀ x ∈ xs, keyB x = true) → xs ≠ [] → ∀ r, splitS (Lib.join xs [32] ++ 32 :: r) = xs ++ splitS r
  | [], _, hn, _ => absurd rfl hn
  | [x], h, _, r => by
    have hx := h x (by simp)
    rw [Lib.join_one, splitS_word (fun e => by have := (keyB_parts hx).1; rw [e] at this; simp at this) (key_blank hx)]
    rfl
  | x :: y :: q, h, _, r => by
    have hx := h x (by simp)
    rw [join_cons2, List.append_assoc, List.cons_append, splitS_word (fun e => by have := (keyB_parts hx).1; rw [e] at this; simp at this) (key_blank hx), splitS_join_more (xs := y :: q) (fun z hz => h z (by simp at hz ⊢; exact .inr hz)) (by simp) r]
    rfl
theorem parse_keys (t : Bool) {ks : List (List UInt8)} (h : ∀ x ∈ ks, keyB x = true) (hl : ks.length ≤ 7) (hne : ks ≠ []) : parse (sK t ks ++ [10]) = (keysQ t ks, (sK t ks).length + 1) := by
  have hb := sK_len t h hl
  rw [parse_lf (sK_no t h 10 (by decide) (by decide)) (sK_no t h 13 (by decide) (by decide)) (by omega), ← sK_join, splitS_join (nm_keys t h), read_keys]
  have h0 : 0 < ks.length := List.length_pos_iff.2 hne
  unfold getR
  rw [if_neg (by omega)]
  unfold eachR
  rw [if_pos (List.all_eq_true.2 h)]
  rfl
theorem parse_nokeys (t : Bool) : parse (sK t [] ++ [10]) = (badQ mError 0, (sK t []).length + 1) := by cases t <;> kernel_rfl
theorem parse_tab (t : Bool) {ks : List (List UInt8)} (h : ∀ x ∈ ks, keyB x = true) (hl : ks.length ≤ 7) : ∃ m, parse (sK t ks ++ [32, 97, 9, 98, 10]) = (badQ mLine 0, m) := by
  have hb := sK_len t h hl
  have e : sK t ks ++ [32, 97, 9, 98, 10] = (sK t ks ++ 32 :: [97, 9, 98]) ++ [10] := by simp
  have hno : ∀ c : UInt8, c ≠ 32 → c.toNat < 33 → c ≠ 9 → c ∉ sK t ks ++ 32 :: [97, 9, 98] := fun c hc hk h9 hm => by
    rcases List.mem_append.1 hm with hm | hm
    · exact sK_no t h c hc hk hm
    · simp at hm
      rcases hm with rfl | rfl | rfl | rfl
      · exact hc rfl
      · revert hk; decide
      · exact h9 rfl
      · revert hk; decide
  rw [e, parse_lf (hno 10 (by decide) (by decide) (by decide)) (hno 13 (by decide) (by decide) (by decide)) (by simp; omega), ← sK_join, splitS_join_more (nm_keys t h) (by simp)]
  have hs : splitS [97, 9, 98] = [[97, 9, 98]] := by decide +kernel
  rw [hs, List.cons_append, read_keys]
  unfold getR
  rw [if_neg (by simp; omega)]
  unfold eachR
  have hall : (ks ++ [[97, 9, 98]]).all keyB = false := by rw [List.all_append]; have : [[97, 9, 98]].all keyB = false := by decide
                                                           rw [this, Bool.and_false]
  rw [hall]
  exact ⟨_, rfl⟩

theorem S_more (l : List UInt8) : S l ++ ⟨#[10]⟩ = S (l ++ [10]) := by
  show S l ++ S [10] = _
  apply ByteArray.ext
  apply Array.toList_inj.1
  simp [S]
theorem S_more5 (l : List UInt8) : S l ++ ⟨#[32, 97, 9, 98, 10]⟩ = S (l ++ [32, 97, 9, 98, 10]) := by
  show S l ++ S [32, 97, 9, 98, 10] = _
  apply ByteArray.ext
  apply Array.toList_inj.1
  simp [S]
/-- What Parse of a text gives. -/
def Gives (s : ByteArray) (q : Rq) (k : Nat) : Prop := ∀ W, Nu.Vars W → Calls Tryd.prog 6 #[.string s] W fun e w' => ∃ cs, e = .returned (.tuple #[.agg (rqc q cs).toArray, .int .i64 (k : Int)]) ∧ Cms W.heap.size w' cs q.cmds ∧ Below W.heap.size W w'
theorem gives_of {b : List UInt8} {q : Rq} {k : Nat} (h : parse b = (q, k)) (hb : b.length ≤ 140737488355328) : Gives (S b) q k := fun W hv => parse_known h hb W hv

end Go.Proofs.YtggeccndmmmnjaaDoor.Tx

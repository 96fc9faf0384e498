/-
  The law TextLong at this program: a line has at most 2048 bytes. Conditions: the package variables hold what they were laid with.
-/
import Derived.Test.YtggeccndmmmnjaaDoorTxShown
import Derived.Laws.IdiomStrings
namespace Go.Proofs.YtggeccndmmmnjaaDoor.Tx
open Go Go.RowKit Go.Lib Md Go.Shelf

/-- The cells of a row of bytes. -/
def bcells (l : List UInt8) : List Value := l.map fun b => .int .u8 (b.toNat : Int)

/-- What 'string(b)' gives where b owns these bytes. -/
theorem conv_row {W : World} {base g : Nat} {l : List UInt8} {c : Nat} (h : W.ownsRow base 5 1 (.slice (some ⟨g, 0, none⟩) l.length c) l.length (bcells l)) :
    (convert 23 9 (.slice (some ⟨g, 0, none⟩) l.length c)).run Tryd.prog W = .ok (.string (S l)) W :=
  run_convert_bytes_back (P := Tryd.prog) W 23 9 5 ⟨g, 0, none⟩ c l Tryd.underlying23 Tryd.underlying5 Tryd.underlying9 (fun j hj => by
    rw [addr_plain, Nat.zero_add, h.cellAt j (by omega)]
    simp [bcells, List.getElem?_eq_getElem hj])

def fillRow (m k : Nat) : List UInt8 := List.replicate k 120 ++ List.replicate (m - k) 0
theorem fill_zero (m : Nat) : fillRow m 0 = List.replicate m 0 := by simp [fillRow]
theorem fill_all (m : Nat) : fillRow m m = List.replicate m 120 := by simp [fillRow]
theorem fill_len {m k : Nat} (h : k ≤ m) : (fillRow m k).length = m := by simp [fillRow]; omega
theorem fill_set {m k : Nat} (h : k < m) : (fillRow m k).set k 120 = fillRow m (k + 1) := by
  unfold fillRow
  rw [List.set_append_right _ _ (by simp), List.length_replicate, Nat.sub_self, show m - k = (m - (k + 1)) + 1 by omega, List.replicate_succ, List.set_cons_zero, List.replicate_succ' (n := k)]
  simp
theorem bcells_set (l : List UInt8) (k : Nat) (c : UInt8) : (bcells l).set k (.int .u8 (c.toNat : Int)) = bcells (l.set k c) := by simp [bcells, List.map_set]

theorem toList_madeCells_one' (m : Nat) : (madeCells (Value.int .u8 0).cells (m * 1)).toList = bcells (List.replicate m 0) := by
  rw [Nat.mul_one, show (Value.int .u8 0).cells = #[Value.int .u8 0] from rfl, toList_madeCells_one]
  simp [bcells]
theorem below_of_grown {A B : World} (h : A.grownBy B none) : Below A.heap.size A B := (Below.refl _ A).grown h (Nat.le_refl _) (fun j e => by cases e)

theorem fold_mod (n : Int) (c : Nat) : ∃ m : Nat, (0 < c → m < c) ∧ ((n < 0 ∧ (n + 1).tmod (c : Int) = -(m : Int)) ∨ (¬ n < 0 ∧ n.tmod (c : Int) = (m : Int))) := by
  by_cases h : n < 0
  · obtain ⟨j, hj⟩ : ∃ j : Nat, n = -(j : Int) - 1 := ⟨(-(n + 1)).toNat, by omega⟩
    refine ⟨j % c, fun hc => Nat.mod_lt _ hc, .inl ⟨h, ?_⟩⟩
    subst hj
    rw [show -(j : Int) - 1 + 1 = -(j : Int) from by omega, Int.neg_tmod, Int.tmod_eq_emod_of_nonneg (by omega)]; rfl
  · obtain ⟨j, hj⟩ : ∃ j : Nat, n = (j : Int) := ⟨n.toNat, by omega⟩
    refine ⟨j % c, fun hc => Nat.mod_lt _ hc, .inr ⟨h, ?_⟩⟩
    subst hj
    rw [Int.tmod_eq_emod_of_nonneg (by omega)]; rfl

/-! What such a line is -/
def xs (N : Nat) : List UInt8 := List.replicate N 120
theorem xs_len (N : Nat) : (xs N).length = N := List.length_replicate
theorem xs_mem {N : Nat} {c : UInt8} (h : c ∈ xs N) : c = 120 := (List.mem_replicate.1 h).2
theorem xs_no {N : Nat} (c : UInt8) (h : c ≠ 120) : c ∉ xs N := fun hm => h (xs_mem hm)
theorem xs_name {N : Nat} (w : List UInt8) (h : ∃ c ∈ w, c ≠ 120) : xs N ≠ w := fun e => by
  obtain ⟨c, hc, hne⟩ := h
  rw [← e] at hc
  exact hne (xs_mem hc)
theorem named_xs (N : Nat) : namedR (xs N) [] [] = .up mError 0 0 := by
  have hs : ¬ isStore (xs N) := by
    unfold isStore
    rintro (h | h | h | h | h | h) <;> exact xs_name _ (by decide) h
  unfold namedR
  rw [if_neg (xs_name wGet (by decide)), if_neg (xs_name wGets (by decide)), if_neg (xs_name wGat (by decide)), if_neg (xs_name wGats (by decide)), if_neg hs, if_neg (xs_name wIncr (by decide)), if_neg (xs_name wDecr (by decide)), if_neg (xs_name wTouch (by decide)), if_neg (xs_name wDelete (by decide)), if_neg (xs_name wFlush (by decide)), if_neg (xs_name wVersion (by decide)), if_neg (xs_name wVerbosity (by decide)), if_neg (xs_name wStats (by decide)), if_neg (xs_name wQuit (by decide))]
theorem parse_xs_end {N : Nat} (h0 : 0 < N) (h : N + 1 ≤ 2048) : parse (xs N ++ [10]) = (badQ mError 0, N + 1) := by
  have ht : (xs N ++ [10]).take 2048 = xs N ++ [10] := List.take_of_length_le (by rw [List.length_append, xs_len]; simpa using h)
  have hu : upTo 10 (xs N ++ [10]) = xs N := upTo_append (xs_no 10 (by decide)) []
  have hl : lineS (xs N ++ [10]) = xs N := by unfold lineS; rw [if_pos (by simp), hu, chop_no (xs_no 13 (by decide))]
  have hn : lineN (xs N ++ [10]) = N + 1 := by unfold lineN; rw [if_pos (by simp), hu, xs_len]
  have hne : xs N ≠ [] := fun e => by have := xs_len N; rw [e] at this; simp at this; omega
  unfold parse
  rw [ht, if_pos (by simp), hl, hn, splitS_one hne (xs_no 32 (by decide)), List.drop_of_length_le (by rw [List.length_append, xs_len]; simp)]
  show (namedR (xs N) [] []).fin (N + 1) = _
  rw [named_xs]
  rfl
theorem xs_take {N : Nat} (h : 2048 ≤ N) (r : List UInt8) : (xs N ++ r).take 2048 = xs 2048 := by
  rw [List.take_append_of_le_length (by rw [xs_len]; exact h)]
  unfold xs
  rw [List.take_replicate, Nat.min_eq_left h]
theorem parse_xs_long {N : Nat} (h : 2048 ≤ N) (r : List UInt8) : parse (xs N ++ r) = (longQ, 2048) := by
  unfold parse
  rw [xs_take h, if_neg (xs_no 10 (by decide)), if_neg (by rw [List.length_append, xs_len]; omega)]
theorem parse_xs_none {N : Nat} (h : N < 2048) : parse (xs N) = (noRq, 0) := by
  unfold parse
  rw [List.take_of_length_le (by rw [xs_len]; omega), if_neg (xs_no 10 (by decide)), if_pos (by rw [xs_len]; exact h)]

/-- What Parse of a text gives. -/
def Gives (s : ByteArray) (q : Rq) (k : Nat) : Prop := ∀ W, Nu.Vars W → Calls Tryd.prog 6 #[.string s] W fun e w' => ∃ cs, e = .returned (.tuple #[.agg (rqc q cs).toArray, .int .i64 (k : Int)]) ∧ Cms W.heap.size w' cs q.cmds ∧ Below W.heap.size W w'

set_option maxHeartbeats 2000000 in
set_option maxRecDepth 100000 in
theorem long_core (n : Int) (m N : Nat) (en : Bool) (hm : m < 2100) (hN1 : (1 : Int) + (m : Int) = (N : Int))
    (hn : (n < 0 ∧ (n + 1).tmod 2100 = -(m : Int)) ∨ (¬ n < 0 ∧ n.tmod 2100 = (m : Int)))
    (n0 : -9223372036854775808 ≤ n) (n1 : n ≤ 9223372036854775807)
    (q : Rq) (k : Nat) (hQ : (en = true ∧ N + 1 ≤ 2048 ∧ q = badQ mError 0 ∧ k = N + 1 ∧ Gives (S (xs N) ++ ⟨#[10]⟩) q k) ∨ (en = true ∧ ¬ N + 1 ≤ 2048 ∧ q = longQ ∧ k = 2048 ∧ Gives (S (xs N) ++ ⟨#[10]⟩) q k) ∨ (en = false ∧ 2048 ≤ N ∧ q = longQ ∧ k = 2048 ∧ Gives (S (xs N)) q k) ∨ (en = false ∧ ¬ 2048 ≤ N ∧ q = noRq ∧ k = 0 ∧ Gives (S (xs N)) q k))
    (w : World) (hv : Nu.Vars w) :
    Calls Tryd.prog 3 #[.int .i64 n, .bool en] w fun e w' => e = .returned (.bool true) ∧ Below w.heap.size w w' := by
  obtain ⟨i0, hi, hz0, hz1, hz2⟩ := info_parts infoByte
  have hvb : ∀ W, Below w.heap.size w W → Nu.Vars W := fun W hb => hv.below hb
  have HQ := hidc hQ
  have hNb : N ≤ 2100 := by omega
  have hNp : (0 : Int) ≤ (N : Int) := by omega
  clear hQ
  go_enter Tryd.func3, Tryd.ntmps3
  go_wp2_with fail
  refine (shown_any _ hv).mono ?_
  rintro e w1 ⟨rfl, b1⟩
  rcases hn with ⟨s0, s1⟩ | ⟨s0, s1⟩
  all_goals
    go_wp2_with (at_make; refine wpList_make_full _ rfl _ _ 23 rfl w.heap.size 5 i0 (.int .u8 0) 1 Tryd.underlying23 hi hz0 hz1 .i64 .i64 _ _ N rfl rfl (by omega) (by omega) (by rw [hz2]; omega) (by unfold maxLen; omega) b1.size ?_; intro w2 hown hgrow)
    have hown1 : w2.ownsRow w.heap.size 5 1 (.slice (some ⟨w1.heap.size, 0, none⟩) N N) N (bcells (fillRow N 0)) := by
      rw [fill_zero]; rw [toList_madeCells_one'] at hown; exact hown
    have b2 : Below w.heap.size w w2 := Below.then b1 (below_of_grown hgrow)
    have hg0 : w.heap.size ≤ w1.heap.size := b1.size
    generalize w1.heap.size = g at hown1 hg0 ⊢
    clear hown hgrow b1 s1
    go_loopw [7] (fun i wr => ∃ k : Nat, k ≤ N ∧ i = .int .i64 k ∧ wr.ownsRow w.heap.size 5 1 (.slice (some ⟨g, 0, none⟩) N N) N (bcells (fillRow N k)) ∧ Below w.heap.size w wr) (fun i _ => N - (RowKit.intOf i).toNat)
    case atStart => exact ⟨0, by omega, rfl, hown1, b2⟩
    case round =>
      obtain ⟨j, hk, rfl, ho, hb⟩ := hrel
      clear hown1 b2
      by_cases hlt : j < N
      · have hst := ho.stored j (.int .u8 120)
        have hfr := ho.frozenAt j
        have hce : ∃ v, wr.cell? ⟨g, j, none⟩ = some (.int .u8 v) := by
          rw [ho.cellAt j (by omega)]
          have hl : j < (fillRow N j).length := by rw [fill_len hk]; exact hlt
          exact ⟨((fillRow N j)[j].toNat : Int), by simp [bcells, List.getElem?_eq_getElem hl]⟩
        obtain ⟨v, hce⟩ := hce
        have ho' := hst.1
        rw [show (Value.int IntKind.u8 120) = .int .u8 ((120 : UInt8).toNat : Int) from rfl, bcells_set, fill_set hlt] at ho'
        have hb' : Below w.heap.size w (wr.setCell ⟨g, j, none⟩ (.int .u8 120)) := hb.setCell (p := ⟨g, j, none⟩) hg0 _
        clear hst ho hb
        go_wp2_with fail
        go_roundw
        case rel => exact ⟨j + 1, by omega, by go_num, ho', hb'⟩
        case measure => simp [RowKit.intOf] <;> omega
      · obtain rfl : j = N := by omega
        rw [fill_all] at ho
        have hcv := conv_row (l := List.replicate j 120) (by rw [List.length_replicate]; exact ho)
        rw [List.length_replicate, show List.replicate j 120 = xs j from rfl] at hcv
        have hsz : (S (xs j)).size = j := by rw [S_size, xs_len]
        have HB1 := hidc hb
        clear ho hb
        have HQ := HQ
        generalize S (xs j) = X at *
        rcases HQ.out with ⟨rfl, hc, hq, hk1, hG⟩ | ⟨rfl, hc, hq, hk1, hG⟩ | ⟨rfl, hc, hq, hk1, hG⟩ | ⟨rfl, hc, hq, hk1, hG⟩
        all_goals
          have HG := hidc (And.intro hq hk1)
          clear HQ hq hk1
          go_wp2_with fail
          refine (hG _ (hvb _ HB1.out)).mono ?_
          rintro e w3 ⟨cs, rfl, hC, b3⟩
          have HOK := hidc (rq_ok q (hvs hC))
          have HC := hidc hC
          have HU := hidc (Below.then HB1.out b3)
          clear hG hC b3 HB1
          go_upto_region 14 with (refine stRq rfl rfl rfl rfl rfl (alloc1 w3 #[.int .i64 0, .slice none 0 0, .bool false, .bool false, .string ⟨#[]⟩, .string ⟨#[]⟩, .int .i64 0, .bool false, .string ⟨#[]⟩, .slice none 0 0, .string ⟨#[]⟩] 27).1 rfl rfl HOK.out ?_; intro D hD oD; have HX := hidc (bq_laid HC.out hD oD); have HB := hidc (Below.then HU.out (laid_below oD)); clear hD oD HC HU HOK)
          have X := HX.out.blk
          obtain ⟨rfl, rfl⟩ := HG.out
          have k0 := X.cell (i := 0) rfl
          have k4 := X.cell (i := 4) rfl
          have k7 := X.cell (i := 7) rfl
          have r1 : ((S mError).toList == [69, 82, 82, 79, 82]) = true := eq_yes _
          have r2 : ((S mLong).toList == mLong) = true := eq_yes _
          clear X HX HG
          simp only [badQ, longQ, noRq] at k0 k4 k7
          first | generalize S mError = Y at * | generalize S mLong = Y at * | skip
          go_wp2_with fail
          go_ret
          exact ⟨rfl, HB.out⟩
theorem long_law (n : Int) (n0 : -9223372036854775808 ≤ n) (n1 : n ≤ 9223372036854775807) (en : Bool) (w : World) (hv : Nu.Vars w) :
    Calls Tryd.prog 3 #[.int .i64 n, .bool en] w fun e w' => e = .returned (.bool true) ∧ Below w.heap.size w w' := by
  obtain ⟨m, hm0, hm⟩ := fold_mod n 2100
  have hm1 := hm0 (by omega)
  have hb : ∀ N, N ≤ 2100 → (xs N ++ [10]).length ≤ 140737488355328 ∧ (xs N).length ≤ 140737488355328 := fun N h => by rw [List.length_append, xs_len]; simp; omega
  have hS : ∀ N, S (xs N) ++ ⟨#[10]⟩ = S (xs N ++ [10]) := fun N => by
    show S (xs N) ++ S [10] = _
    apply ByteArray.ext
    apply Array.toList_inj.1
    simp [S]
  have hG1 : ∀ N q k, N ≤ 2100 → parse (xs N ++ [10]) = (q, k) → Gives (S (xs N) ++ ⟨#[10]⟩) q k := fun N q k hN hp W hv => by rw [hS]; exact parse_known hp (hb N hN).1 W hv
  have hG0 : ∀ N q k, N ≤ 2100 → parse (xs N) = (q, k) → Gives (S (xs N)) q k := fun N q k hN hp W hv => parse_known hp (hb N hN).2 W hv
  by_cases hl : m + 1 + 1 ≤ 2048
  · cases en
    · exact long_core n m (m + 1) false hm1 (by omega) hm n0 n1 noRq 0 (.inr (.inr (.inr ⟨rfl, by omega, rfl, rfl, hG0 _ _ _ (by omega) (parse_xs_none (by omega))⟩))) w hv
    · exact long_core n m (m + 1) true hm1 (by omega) hm n0 n1 _ _ (.inl ⟨rfl, hl, rfl, rfl, hG1 _ _ _ (by omega) (parse_xs_end (by omega) hl)⟩) w hv
  · cases en
    · by_cases h2 : 2048 ≤ m + 1
      · exact long_core n m (m + 1) false hm1 (by omega) hm n0 n1 longQ 2048 (.inr (.inr (.inl ⟨rfl, h2, rfl, rfl, hG0 _ _ _ (by omega) (by have := parse_xs_long h2 []; rwa [List.append_nil] at this)⟩))) w hv
      · exact long_core n m (m + 1) false hm1 (by omega) hm n0 n1 noRq 0 (.inr (.inr (.inr ⟨rfl, h2, rfl, rfl, hG0 _ _ _ (by omega) (parse_xs_none (by omega))⟩))) w hv
    · exact long_core n m (m + 1) true hm1 (by omega) hm n0 n1 longQ 2048 (.inr (.inl ⟨rfl, hl, rfl, rfl, hG1 _ _ _ (by omega) (parse_xs_long (by omega) [10])⟩)) w hv
end Go.Proofs.YtggeccndmmmnjaaDoor.Tx

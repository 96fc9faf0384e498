/-
  text.Parse at this program: the request with which bytes begin, and how many they are. Conditions: the package variables hold what they were laid with; the bytes are at most 2^47.
-/
import Derived.Test.YtggeccndmmmnjaaDoorTxRead
namespace Go.Proofs.YtggeccndmmmnjaaDoor.Tx
open Go Go.RowKit Go.Lib Md

set_option maxRecDepth 100000 in
theorem res_rq2 {fn : Func} {K J : Nat} (h : fn.results = #[.cell K 27, .tmp J]) {tmps : Array Value} {w : World} {B : Nat} {x v0 v1 v2 v3 v4 v5 v6 v7 v8 v9 v10 : Value} (hb : Blk w B 27 [v0, v1, v2, v3, v4, v5, v6, v7, v8, v9, v10]) (h2 : tmps[K]?.getD undef = .pointer (some ⟨B, 0, none⟩)) (h3 : tmps[J]?.getD undef = x) :
    (results fn tmps).run Tryd.prog w = .ok (.tuple #[.agg #[v0, v1, v2, v3, v4, v5, v6, v7, v8, v9, v10], x]) w := by
  have q0 := hb.cell (i := 0) rfl
  have q1 := hb.cell (i := 1) rfl
  have q2 := hb.cell (i := 2) rfl
  have q3 := hb.cell (i := 3) rfl
  have q4 := hb.cell (i := 4) rfl
  have q5 := hb.cell (i := 5) rfl
  have q6 := hb.cell (i := 6) rfl
  have q7 := hb.cell (i := 7) rfl
  have q8 := hb.cell (i := 8) rfl
  have q9 := hb.cell (i := 9) rfl
  have q10 := hb.cell (i := 10) rfl
  simp [results, h, h2, h3, go_sem, q0, q1, q2, q3, q4, q5, q6, q7, q8, q9, q10]
theorem res_rq2L {fn : Func} {K J : Nat} {cs : List Value} (hl : cs.length = 11) (h : fn.results = #[.cell K 27, .tmp J]) {tmps : Array Value} {w : World} {B : Nat} {x : Value} (hb : Blk w B 27 cs) (h2 : tmps[K]?.getD undef = .pointer (some ⟨B, 0, none⟩)) (h3 : tmps[J]?.getD undef = x) :
    (results fn tmps).run Tryd.prog w = .ok (.tuple #[.agg cs.toArray, x]) w := by
  match cs, hl with
  | [v0, v1, v2, v3, v4, v5, v6, v7, v8, v9, v10], _ => exact res_rq2 h hb h2 h3
set_option maxHeartbeats 1000000 in
set_option maxRecDepth 100000 in
theorem noline_short (n : Nat) (h : n < 2048) (w : World) :
    Calls Tryd.prog 10 #[.int .i64 n] w fun e w' => e = .returned (.tuple #[.agg (rqc noRq (.slice none 0 0)).toArray, .int .i64 0]) ∧ Below w.heap.size w w' := by
  have i0 : (n : Int) < 2048 := by omega
  have hA := hidc (alloc1 w (rqc noRq (.slice none 0 0)).toArray 27)
  clear h
  go_enter Tryd.func10, Tryd.ntmps10
  go_wp2_with fail
  exact bodyPost_ret (res_rq2L (cs := rqc noRq (.slice none 0 0)) rfl rfl hA.out.1 rfl rfl) rfl ⟨rfl, hA.out.2.2⟩
set_option maxHeartbeats 1000000 in
set_option maxRecDepth 100000 in
theorem noline_long (n : Nat) (h : ¬ n < 2048) (w : World) :
    Calls Tryd.prog 10 #[.int .i64 n] w fun e w' => e = .returned (.tuple #[.agg (rqc longQ (.slice none 0 0)).toArray, .int .i64 2048]) ∧ Below w.heap.size w w' := by
  have i0 : ¬ (n : Int) < 2048 := by omega
  have hA := hidc (alloc1 w (rqc longQ (.slice none 0 0)).toArray 27)
  clear h
  go_enter Tryd.func10, Tryd.ntmps10
  go_wp2_with fail
  exact bodyPost_ret (res_rq2L (cs := rqc longQ (.slice none 0 0)) rfl rfl hA.out.1 rfl rfl) rfl ⟨rfl, hA.out.2.2⟩
/-- What Parse comes to. -/
def ParseP (w : World) (b : List UInt8) (e : Ending) (w' : World) : Prop :=
  ∃ v, e = .returned (.tuple #[v, .int .i64 ((parse b).2 : Int)]) ∧ IsRq w.heap.size (parse b).1 v w' ∧ Below w.heap.size w w'
theorem take_size (b : List UInt8) : ((S b).extract 0 (min b.length 2048)) = S (b.take 2048) := by
  rw [Lib.extract_eq, S_list]
  show S ((b.drop 0).take (min b.length 2048 - 0)) = _
  rw [List.drop_zero, Nat.sub_zero]
  congr 1
  by_cases h : b.length ≤ 2048
  · rw [Nat.min_eq_left h, List.take_of_length_le (Nat.le_refl _), List.take_of_length_le h]
  · rw [Nat.min_eq_right (by omega)]
set_option maxHeartbeats 1000000 in
set_option maxRecDepth 100000 in
theorem parse_noline (b : List UInt8) (hb : b.length ≤ 140737488355328) (hn : 10 ∉ b.take 2048) (w : World) :
    Calls Tryd.prog 6 #[.string (S b)] w (ParseP w b) := by
  have hsz : (S b).size = b.length := S_size _
  have hli := line_any (S (b.take 2048))
  rw [S_list, (line_miss hn).1, (line_miss hn).2, S_size, List.length_take] at hli
  obtain ⟨M, hM⟩ : ∃ M, min b.length 2048 = M := ⟨_, rfl⟩
  have hex := take_size b
  rw [hM] at hex
  have hMi : min (b.length : Int) 2048 = (M : Int) := by omega
  have hM1 : (M : Int) ≤ (b.length : Int) := by omega
  have hM0 : (0 : Int) ≤ (M : Int) := by omega
  have hlw := fun W => hli (by omega) W
  clear hli
  obtain ⟨q, z, hq, hpe⟩ : ∃ (q : Rq) (z : Nat), (∀ W, Calls Tryd.prog 10 #[.int .i64 b.length] W fun e w' => e = .returned (.tuple #[.agg (rqc q (.slice none 0 0)).toArray, .int .i64 (z : Int)]) ∧ Below W.heap.size W w') ∧ parse b = (q, z) ∧ q.cmds = [] := by
    by_cases h : b.length < 2048
    · exact ⟨noRq, 0, fun W => noline_short b.length h W, by unfold parse; rw [if_neg hn, if_pos h], rfl⟩
    · exact ⟨longQ, 2048, fun W => noline_long b.length h W, by unfold parse; rw [if_neg hn, if_neg h], rfl⟩
  have HP : Hid (∀ W, Below w.heap.size w W → ParseP w b (.returned (.tuple #[.agg (rqc q (.slice none 0 0)).toArray, .int .i64 (z : Int)])) W) := hidc fun W hW => by
    unfold ParseP
    rw [hpe.1]
    exact ⟨_, rfl, ⟨_, rfl, by rw [hpe.2]; exact cms_nil _ _⟩, hW⟩
  have HOK := hidc (rq_ok q (v := .slice none 0 0) ⟨_, _, _, rfl⟩)
  have hA := hidc (alloc1 w #[.int .i64 0, .slice none 0 0, .bool false, .bool false, .string ⟨#[]⟩, .string ⟨#[]⟩, .int .i64 0, .bool false, .string ⟨#[]⟩, .slice none 0 0, .string ⟨#[]⟩] 27)
  have hHQ := hidc hpe
  generalize ParseP w b = Q at *
  clear hpe hn hM
  go_enter Tryd.func6, Tryd.ntmps6
  go_wp2_with fail
  have HA := hA.out
  clear hA
  generalize w.alloc (.cells #[.int .i64 0, .slice none 0 0, .bool false, .bool false, .string ⟨#[]⟩, .string ⟨#[]⟩, .int .i64 0, .bool false, .string ⟨#[]⟩, .slice none 0 0, .string ⟨#[]⟩] 27) = W at *
  refine (hlw _).mono ?_
  rintro e w1 ⟨rfl, b1⟩
  have HB := hidc (And.intro (HA.1.below b1) (Below.then HA.2.2 b1))
  clear HA b1 hlw
  go_wp2_with fail
  refine (hq _).mono ?_
  rintro e w2 ⟨rfl, b2⟩
  have HR := hidc (HB.out.1.below b2)
  have HF : Hid (∀ D, Only (fun x => x = w.heap.size) w2 D → Q (.returned (.tuple #[.agg (rqc q (.slice none 0 0)).toArray, .int .i64 (z : Int)])) D) := hidc fun D ho => HP.out D (Below.trans (Below.then HB.out.2 b2) (ho.below (Nat.le_of_lt (HB.out.1.below b2).lt) (fun x e => by omega)))
  clear HB b2 hq HP
  go_wp2_with (refine stRq rfl rfl rfl rfl rfl HR.out rfl rfl HOK.out ?_; intro D hD oD; have HW := hidc (And.intro hD (HF.out D oD)); clear hD oD)
  exact bodyPost_ret (res_rq2L (x := .int .i64 (z : Int)) rfl rfl HW.out.1 rfl rfl) rfl HW.out.2
theorem upTo_len_le (c : UInt8) (l : List UInt8) : (upTo c l).length ≤ l.length := upTo_le c l
theorem chop_le (p : List UInt8) : (chop p).length ≤ p.length := by
  unfold chop
  split
  · rw [List.length_dropLast]; omega
  · exact Nat.le_refl _
theorem lineS_le (p : List UInt8) : (lineS p).length ≤ p.length := by
  unfold lineS
  split
  · exact Nat.le_trans (chop_le _) (upTo_le _ _)
  · simp
theorem words_join_le : ∀ (l acc : List UInt8), (Lib.join (wordsFrom acc l) [32]).length ≤ acc.length + l.length
  | [], acc => by
    by_cases h : acc = []
    · simp [wordsFrom, h, Lib.join]
    · rw [wordsFrom_nil h]; simp [Lib.join]
  | c :: r, acc => by
    by_cases hc : c = 32
    · subst hc
      by_cases h : acc = []
      · subst h
        rw [wordsFrom_blank_nil]
        have := words_join_le r []
        simp at this ⊢; omega
      · rw [wordsFrom_blank h]
        have h1 := words_join_le r []
        cases hw : wordsFrom [] r with
        | nil => simp [Lib.join]
        | cons y ys =>
          rw [join_cons2]
          rw [hw] at h1
          simp at h1 ⊢; omega
    · rw [wordsFrom_other hc]
      have := words_join_le r (acc ++ [c])
      simp at this ⊢; omega
theorem split_join_le (l : List UInt8) : (Lib.join (splitS l) [32]).length ≤ l.length := by
  have := words_join_le l []
  simpa [splitS] using this
theorem row_facts {w : World} {base : Nat} {v : Value} {ws : List (List UInt8)} (h : w.ownsRow base 9 1 v ws.length (cellsOf ws)) : ∃ a c, v = .slice a ws.length c ∧ c ≤ 9223372036854775807 ∧ Texts w (.slice a ws.length c) ws ∧ ∀ b o p, a = some ⟨b, o, p⟩ → base ≤ b ∧ b < w.heap.size := by
  have ht := texts_of_row h
  have hlt := h.lt
  rcases h.2 with ⟨rfl, h0⟩ | ⟨g, cap, cur, rfl, hb, hg, hcap, hm, _⟩
  · refine ⟨none, 0, by rw [h0], by omega, by rw [h0]; exact ht, fun b o p e => (by cases e)⟩
  · refine ⟨_, _, rfl, hm, ht, fun b o p e => ?_⟩
    cases e
    exact ⟨hb, (hlt g rfl).2⟩
theorem wp_stT {T : TypeId} {n : Nat} (hi : (Tryd.prog.info? T).map (·.size) = some n) {op : Oper} {a : Act} {w : World} {K : Act → World → Prop} {Q : Exit → Act → World → Prop} {x y : Operand} {b : Nat} {cs cs' : List Value} (hb : Blk w b T cs') (hl' : cs'.length = n) (hl : cs.length = n) (ho : ∀ u ∈ cs, u.oneCell' = true)
    (h1 : op.op = .store T x y) (h2 : a.eval x = .pointer (some ⟨b, 0, none⟩)) (h3 : a.eval y = .agg cs.toArray) (h4 : ∀ W, Blk W b T cs → Only (fun x => x = b) w W → K (a.put op.dst undef) W) : op.wp Tryd.prog a w K Q :=
  wp_store_mid T x y h1 b 0 cs.toArray h2 h3 (Blk.there hb (by simp [hl, hl'])) (by rw [List.size_toArray, hl]; exact hi) (all_oneCell_toArray ho) (h4 _ (setCells_blk cs 0 w [] cs' hb rfl (by omega)) (setCells_only cs 0 w w (Only.refl _ _)))
theorem infoRd : (Tryd.prog.info? 43).map (·.size) = some 5 := by kernel_rfl
theorem wpAnyE_two {P : Program} {md : Region.Mode} {ops : Array Oper} {Q : Exit → Act → World → Prop} {S : World → Prop} {st i j : Nat} {oi oj : Oper} {fuel : Nat} {listed : Array Bool} {a : Act} {w : World} (hoi : ops[i]? = some oi) (hoj : ops[j]? = some oj) (hr : Region.ready md ops listed = [i, j])
    (hi : ∀ K : Act → World → Prop, (∀ a' w', ((listed.setIfInBounds i true).getD st true = false → S w') → wpAnyE P md ops Q S st fuel (listed.setIfInBounds i true) a' w' → K a' w') → if Region.wanted oi (yielded ops a.tmps) = true then Oper.wp P oi a w K Q else K (a.put oi.dst undef) w)
    (hj : ∀ K : Act → World → Prop, (∀ a' w', ((listed.setIfInBounds j true).getD st true = false → S w') → wpAnyE P md ops Q S st fuel (listed.setIfInBounds j true) a' w' → K a' w') → if Region.wanted oj (yielded ops a.tmps) = true then Oper.wp P oj a w K Q else K (a.put oj.dst undef) w) :
    wpAnyE P md ops Q S st (fuel + 1) listed a w := by
  refine ⟨fun h => (by rw [hr] at h; cases h), fun m hm => ?_⟩
  rw [hr] at hm
  have key : ∀ {n : Nat} {o : Oper}, ops[n]? = some o → (∀ K : Act → World → Prop, (∀ a' w', ((listed.setIfInBounds n true).getD st true = false → S w') → wpAnyE P md ops Q S st fuel (listed.setIfInBounds n true) a' w' → K a' w') → if Region.wanted o (yielded ops a.tmps) = true then Oper.wp P o a w K Q else K (a.put o.dst undef) w) →
      wpOp P ops Q n (fun a' w' => ((listed.setIfInBounds n true).getD st true = false → S w') ∧ wpAnyE P md ops Q S st fuel (listed.setIfInBounds n true) a' w') a w := fun {n o} ho hs => by
    unfold wpOp
    rw [ho]
    dsimp only
    have h1 := hs (fun a' w' => ((listed.setIfInBounds n true).getD st true = false → S w') ∧ wpAnyE P md ops Q S st fuel (listed.setIfInBounds n true) a' w') (fun a' w' h1 h2 => ⟨h1, h2⟩)
    split
    · rename_i hw
      rw [if_pos hw] at h1
      exact .inl h1
    · rename_i hw
      rw [if_neg hw] at h1
      exact h1
  have hm' : m = i ∨ m = j := by simpa using hm
  rcases hm' with rfl | rfl
  · exact key hoi hi
  · exact key hoj hj
/-- A call among two that may come up. -/
theorem wp_enter {P : Program} {o : Oper} {a : Act} {w : World} {K : Act → World → Prop} {Q : Exit → Act → World → Prop} {f : FuncId} {args : Array Value} (hrun : (execOp a.eval o).run P w = .ok (.enter f args) w)
    (h : Calls P f args w fun e w' => ∃ v, e = .returned v ∧ K (a.put o.dst v) w') : Oper.wp P o a w K Q := by
  unfold Oper.wp
  rw [hrun, Oper.upon_enter]
  refine h.mono ?_
  rintro e w' ⟨v, rfl, h1⟩
  exact h1
/-- The reader that Parse makes. -/
structure PF (w : World) (ws : List (List UInt8)) (bh : List UInt8) (R : Nat) (v : Value) (W : World) : Prop where
  rd : ∃ a c, v = .slice a ws.length c ∧ Rdr R ⟨ws, bh, false, 0, 0⟩ a c W
  vr : VarsR R W
  gt : w.heap.size < R
  res : Blk W w.heap.size 27 (rqc noRq (.slice none 0 0))
  below : Below w.heap.size w W
def rd0 (v : Value) (bh : List UInt8) : List Value := [v, .string (S bh), .bool false, .int .i64 0, .int .i64 0]
theorem rd0_ok {v : Value} (h : ∃ a n c, v = .slice a n c) (bh : List UInt8) : ∀ u ∈ rd0 v bh, u.oneCell' = true := by
  obtain ⟨a, n, c, rfl⟩ := h
  intro u hu
  simp only [rd0, List.mem_cons, List.not_mem_nil, or_false] at hu
  rcases hu with rfl | rfl | rfl | rfl | rfl <;> rfl
theorem vars_lt {w : World} (h : Nu.Vars w) : 3 < w.heap.size ∧ 4 < w.heap.size ∧ 5 < w.heap.size := by
  obtain ⟨⟨e0, h0, i0⟩, ⟨e1, h1, i1⟩, ht⟩ := h
  refine ⟨cell_lt h0, cell_lt h1, ?_⟩
  unfold Lib.TabIs World.var? at ht
  rw [Nu.gTab] at ht
  by_cases hlt : 5 < w.heap.size
  · exact hlt
  · exfalso
    simp only [Option.bind_some] at ht
    rw [Array.getElem?_eq_none (by omega)] at ht
    cases ht
/-- However the region went. -/
theorem pf_of {w W1 W2 : World} {ws : List (List UInt8)} {bh : List UInt8} {R : Nat} {a : Option Addr} {c : Nat} (hv : Nu.Vars w) (hg : w.heap.size < R) (hl : ws.length ≤ 2048 ∧ c ≤ 9223372036854775807) (ht : Texts W1 (.slice a ws.length c) ws) (hap : ∀ b o p, a = some ⟨b, o, p⟩ → b ≠ R ∧ b < W1.heap.size)
    (hres : Blk W1 w.heap.size 27 (rqc noRq (.slice none 0 0))) (hb : Below w.heap.size w W1) (hR : Blk W2 R 43 (rd0 (.slice a ws.length c) bh)) (ho : Only (fun x => x = R) W1 W2) : PF w ws bh R (.slice a ws.length c) W2 := by
  obtain ⟨v1, v2, v3⟩ := vars_lt hv
  have hb2 : Below w.heap.size w W2 := Below.trans hb (ho.below hb.size (fun x e => by omega))
  exact ⟨⟨a, c, rfl, Texts.only ht ho (fun b o p e => (hap b o p e).1), fun b o p e => (hap b o p e).1, fun b o p e => Nat.lt_of_lt_of_le (hap b o p e).2 ho.size, hR, hl⟩, ⟨hv.below hb2, by omega, by omega, by omega⟩, hg, hres.only ho (by omega), hb2⟩
theorem fin_eq (x : Rd) (n : Nat) : x.fin n = if x.q.kind = 0 then (x.q, 0) else (x.q, n + x.u) := by
  cases x with
  | done q u => rfl
  | up why sk u => rfl
theorem rd_bound (ws : List (List UInt8)) (bh : List UInt8) : (readR ws bh).u ≤ bh.length ∨ (readR ws bh).q.kind = 0 := by
  have h := read_more ws bh []
  rcases hx : readR ws bh with ⟨q, u⟩ | ⟨why, sk, u⟩
  · rw [hx] at h
    rcases h with ⟨h1, -, -⟩ | ⟨-, h2⟩
    · exact .inr h1
    · exact .inl h2
  · rw [hx] at h
    exact .inl h.2
def parseAct (w : World) (b l : List UInt8) (n M R : Nat) (v : Value) : Act := { tmps := #[.string (S b), undef, .pointer (some ⟨w.heap.size, 0, none⟩), .int .i64 0, .string (S l), .int .i64 n, .pointer (some ⟨R, 0, none⟩), undef, .tuple #[.string (S l), .int .i64 n], .string (S b), .string (S b), .int .i64 b.length, .int .i64 M, .string (S (b.take 2048)), .tuple #[.string (S l), .int .i64 n], .string (S l), .int .i64 n, .int .i64 n, .bool false, undef, undef, undef, undef, undef, .string (S l), v, .string (S b), .int .i64 n, .string (S (b.drop n)), .agg (rd0 v (b.drop n)).toArray, undef, undef, undef, undef, undef, undef, undef, undef, undef, undef], defers := [] }
set_option maxHeartbeats 600000 in
set_option maxRecDepth 100000 in
theorem parse_line (b : List UInt8) (hb : b.length ≤ 140737488355328) (hn : 10 ∈ b.take 2048) (w : World) (hv : Nu.Vars w) :
    Calls Tryd.prog 6 #[.string (S b)] w (ParseP w b) := by
  have hsz : (S b).size = b.length := S_size _
  have hli := line_any (S (b.take 2048))
  rw [S_list, S_size, List.length_take] at hli
  have hp : parse b = (readR (splitS (lineS (b.take 2048))) (b.drop (lineN (b.take 2048)))).fin (lineN (b.take 2048)) := by unfold parse; rw [if_pos hn]
  have hn1 := lineN_pos hn
  have hn2 : lineN (b.take 2048) ≤ 2048 ∧ lineN (b.take 2048) ≤ b.length := by
    have := lineN_le (p := b.take 2048)
    rw [List.length_take] at this
    omega
  have hl1 : (lineS (b.take 2048)).length ≤ 2048 := by
    have h1 := lineS_le (b.take 2048)
    rw [List.length_take] at h1
    omega
  obtain ⟨M, hM⟩ : ∃ M, min b.length 2048 = M := ⟨_, rfl⟩
  have hex := take_size b
  rw [hM] at hex
  have hMi : min (b.length : Int) 2048 = (M : Int) := by omega
  have hM1 : (M : Int) ≤ (b.length : Int) := by omega
  have hM0 : (0 : Int) ≤ (M : Int) := by omega
  have hlw := fun W => hli (by omega) W
  clear hli hM
  generalize lineS (b.take 2048) = l at *
  generalize lineN (b.take 2048) = n at *
  have hex2 : (S b).extract n b.length = S (b.drop n) := by rw [← hsz, extract_drop, S_list]
  have hws := splitS_le l
  have cS := fun W => split_any (S l) (by rw [S_size]; omega) (by rw [S_list]; omega) W
  rw [S_list] at cS
  obtain ⟨ws, hwe⟩ : ∃ ws, splitS l = ws := ⟨_, rfl⟩
  have hjo : ∀ name r, ws = name :: r → (Lib.join r [32]).length ≤ 140737488355328 := fun name r e => by
    have h1 := split_join_le l
    rw [hwe, e] at h1
    have h2 : (Lib.join r [32]).length ≤ (Lib.join (name :: r) [32]).length := by
      cases r with
      | nil => simp [Lib.join]
      | cons y r => rw [join_cons2]; simp; omega
    omega
  rw [hwe] at hp hws cS
  have hwl : ws.length ≤ 2048 := by omega
  have i0 : ¬ (n : Int) = 0 := by omega
  have i1 : (0 : Int) ≤ (n : Int) := by omega
  have i2 : (n : Int) ≤ (b.length : Int) := by omega
  have hA := hidc (alloc1 w #[.int .i64 0, .slice none 0 0, .bool false, .bool false, .string ⟨#[]⟩, .string ⟨#[]⟩, .int .i64 0, .bool false, .string ⟨#[]⟩, .slice none 0 0, .string ⟨#[]⟩] 27)
  have HPE : Hid (∀ e W, (∃ v, e = .returned (.tuple #[v, .int .i64 (((readR ws (b.drop n)).fin n).2 : Int)]) ∧ IsRq w.heap.size ((readR ws (b.drop n)).fin n).1 v W ∧ Below w.heap.size w W) → ParseP w b e W) := hidc fun e W h => by
    unfold ParseP
    rw [hp]; exact h
  generalize ParseP w b = Q at *
  clear hn hp hwe hn1 hl1 hws
  go_enter Tryd.func6, Tryd.ntmps6
  go_wp2_with fail
  have HA := hA.out
  clear hA
  generalize w.alloc (.cells #[.int .i64 0, .slice none 0 0, .bool false, .bool false, .string ⟨#[]⟩, .string ⟨#[]⟩, .int .i64 0, .bool false, .string ⟨#[]⟩, .slice none 0 0, .string ⟨#[]⟩] 27) = W at *
  refine (hlw _).mono ?_
  rintro e w1 ⟨rfl, b1⟩
  have HB := hidc (And.intro (HA.1.below b1) (Below.then HA.2.2 b1))
  clear HA b1 hlw
  go_upto_region 4 with fail
  obtain ⟨hres, hbw⟩ := HB.out
  have hgt : w.heap.size < w1.heap.size := hres.lt
  have bD : Below w1.heap.size w1 w1.drew := ⟨rfl, rfl, rfl, Nat.le_refl _, fun _ _ => rfl⟩
  refine Code.wp_mono (Q := fun e a W => e = .normal ∧ ∃ R v, a = parseAct w b l n M R v ∧ PF w ws (b.drop n) R v W) ?imp ?reg
  case reg =>
    refine wp_region_E (fun _ => True) 7 (by kernel_rfl) ?_
    refine wpAnyE_take (i := 0) (v := .string (S l)) rfl (by kernel_rfl) (by kernel_rfl) (by kernel_rfl) (fun _ _ _ h => (by cases h.1)) (by kernel_rfl) (by kernel_rfl) trivial (Or.inl ⟨by rfl, ?_⟩) ?_
    · intro w' hw'
      go_simp
    refine wpAnyE_take (i := 2) (v := .string (S b)) rfl (by kernel_rfl) (by kernel_rfl) (by kernel_rfl) (fun _ _ _ h => (by cases h.1)) (by kernel_rfl) (by kernel_rfl) trivial (Or.inl ⟨by rfl, ?_⟩) ?_
    · intro w' hw'
      go_simp
    refine wpAnyE_take (i := 3) (v := .int .i64 n) rfl (by kernel_rfl) (by kernel_rfl) (by kernel_rfl) (fun _ _ _ h => (by cases h.1)) (by kernel_rfl) (by kernel_rfl) trivial (Or.inl ⟨by rfl, ?_⟩) ?_
    · intro w' hw'
      go_simp
    refine wpAnyE_take (i := 4) (v := .string (S (b.drop n))) rfl (by kernel_rfl) (by kernel_rfl) (by kernel_rfl) (fun _ _ _ h => (by cases h.1)) (by kernel_rfl) (by kernel_rfl) trivial (Or.inl ⟨by rfl, ?_⟩) ?_
    · intro w' hw'
      go_simp
    refine wpAnyE_two (i := 1) (j := 6) rfl rfl (by kernel_rfl) (fun K hK => ?_) (fun K hK => ?_)
    · rw [if_pos (by rfl)]
      refine wp_enter (f := 11) (args := #[.string (S l)]) (by kernel_rfl) ?_
      refine (cS _).mono ?_
      rintro e w2 ⟨v, rfl, hrow, b2⟩
      refine ⟨v, rfl, hK _ _ (fun _ => trivial) ?_⟩
      clear hK K
      obtain ⟨av, c, rfl, hcm, ht, hap⟩ := row_facts hrow
      refine wpAnyE_take (i := 5) (v := .agg #[.slice av ws.length c, .string (S (b.drop n)), .bool false, .int .i64 0, .int .i64 0]) rfl (by kernel_rfl) (by kernel_rfl) (by kernel_rfl) (fun _ _ _ h => (by cases h.1)) (by kernel_rfl) (by kernel_rfl) trivial (Or.inl ⟨by rfl, ?_⟩) ?_
      · intro w' hw'
        go_simp
      have hz2 : w1.heap.size ≤ w2.heap.size := b2.size
      obtain ⟨hZ, hz3, b3⟩ := alloc1 w2 #[.slice none 0 0, .string ⟨#[]⟩, .bool false, .int .i64 0, .int .i64 0] 43
      have b12 := Below.then bD b2
      have HG := hidc (And.intro hZ (And.intro (Texts.below ht b3) (And.intro ((hres.below b12).below b3) (Below.then (Below.then hbw b12) b3))))
      have HZ := hidc hz3
      clear hZ b3 ht hrow b2 hres hbw HB
      refine wpAnyE_one (i := 6) rfl (by kernel_rfl) (fun K hK => ?_)
      go_simp
      refine hK _ _ (fun _ => trivial) ?_
      clear hK K
      obtain ⟨hZ, ht2, hres2, hb2⟩ := HG.out
      have hap2 : ∀ b o p, av = some ⟨b, o, p⟩ → b ≠ w2.heap.size ∧ b < (w2.alloc (.cells #[.slice none 0 0, .string ⟨#[]⟩, .bool false, .int .i64 0, .int .i64 0] 43)).heap.size := fun b o p e => by
        have h1 := (hap b o p e).2
        have h2 := HZ.out
        omega
      clear HG HZ
      generalize w2.alloc (.cells #[.slice none 0 0, .string ⟨#[]⟩, .bool false, .int .i64 0, .int .i64 0] 43) = w3 at *
      have hgt2 : w.heap.size < w2.heap.size := by omega
      refine wpAnyE_one (i := 7) rfl (by kernel_rfl) (fun K hK => ?_)
      rw [if_pos (by kernel_rfl)]
      have HK := hidc hK
      clear hK
      have hst := fun (op : Oper) (a : Act) (K : Act → World → Prop) (Q : Exit → Act → World → Prop) => wp_stT infoRd (op := op) (a := a) (K := K) (Q := Q) (x := .tmp 6) (y := .tmp 29) hZ rfl rfl (rd0_ok (v := .slice av ws.length c) ⟨_, _, _, rfl⟩ (b.drop n))
      refine hst _ _ _ _ ?ho ?hx ?hy ?hh
      case ho => kernel_rfl
      case hx => kernel_rfl
      case hy => kernel_rfl
      intro D hD oD
      clear hst
      refine HK.out _ _ (fun h => (by cases (show true = false from h))) (wpAnyE_done (by kernel_rfl) ⟨rfl, w2.heap.size, .slice av ws.length c, rfl, ?_⟩ _)
      clear HK K
      exact pf_of hv hgt2 ⟨hwl, hcm⟩ ht2 hap2 hres2 hb2 hD oD
    · obtain ⟨hZ, hz3, b3⟩ := alloc1 w1 #[.slice none 0 0, .string ⟨#[]⟩, .bool false, .int .i64 0, .int .i64 0] 43
      have HG := hidc (And.intro hZ.drew (And.intro (hres.below b3).drew (And.intro hz3 (Below.then hbw b3))))
      clear hZ b3 hz3 hres hbw HB bD
      go_simp
      refine hK _ _ (fun _ => trivial) ?_
      clear hK K
      obtain ⟨hZ0, hres0, hz3, hb0⟩ := HG.out
      have hb1 : Below w.heap.size w (w1.alloc (.cells #[.slice none 0 0, .string ⟨#[]⟩, .bool false, .int .i64 0, .int .i64 0] 43)).drew := ⟨hb0.os, hb0.tape, hb0.output, hb0.size, hb0.block⟩
      have hz4 : (w1.alloc (.cells #[.slice none 0 0, .string ⟨#[]⟩, .bool false, .int .i64 0, .int .i64 0] 43)).drew.heap.size = w1.heap.size + 1 := hz3
      clear HG hz3 hb0
      generalize (w1.alloc (.cells #[.slice none 0 0, .string ⟨#[]⟩, .bool false, .int .i64 0, .int .i64 0] 43)).drew = w2 at *
      have HG := hidc (And.intro hZ0 (And.intro hres0 hb1))
      clear hZ0 hres0 hb1
      refine wpAnyE_one (i := 1) rfl (by kernel_rfl) (fun K hK => ?_)
      rw [if_pos (by rfl)]
      refine wp_enter (f := 11) (args := #[.string (S l)]) (by kernel_rfl) ?_
      refine (cS _).mono ?_
      rintro e w3 ⟨v, rfl, hrow, b2⟩
      refine ⟨v, rfl, hK _ _ (fun _ => trivial) ?_⟩
      clear hK K
      obtain ⟨av, c, rfl, hcm, ht2, hap⟩ := row_facts hrow
      have hZ := HG.out.1.below b2
      have hres2 := HG.out.2.1.below b2
      have hb2 := Below.then HG.out.2.2 b2
      have hap2 : ∀ b o p, av = some ⟨b, o, p⟩ → b ≠ w1.heap.size ∧ b < w3.heap.size := fun b o p e => by
        have h1 := hap b o p e
        omega
      clear HG b2 hrow hap
      have hgt2 := hgt
      refine wpAnyE_take (i := 5) (v := .agg #[.slice av ws.length c, .string (S (b.drop n)), .bool false, .int .i64 0, .int .i64 0]) rfl (by kernel_rfl) (by kernel_rfl) (by kernel_rfl) (fun _ _ _ h => (by cases h.1)) (by kernel_rfl) (by kernel_rfl) trivial (Or.inl ⟨by rfl, ?_⟩) ?_
      · intro w' hw'
        go_simp
      refine wpAnyE_one (i := 7) rfl (by kernel_rfl) (fun K hK => ?_)
      rw [if_pos (by kernel_rfl)]
      have HK := hidc hK
      clear hK
      have hst := fun (op : Oper) (a : Act) (K : Act → World → Prop) (Q : Exit → Act → World → Prop) => wp_stT infoRd (op := op) (a := a) (K := K) (Q := Q) (x := .tmp 6) (y := .tmp 29) hZ rfl rfl (rd0_ok (v := .slice av ws.length c) ⟨_, _, _, rfl⟩ (b.drop n))
      refine hst _ _ _ _ ?ho2 ?hx2 ?hy2 ?hh2
      case ho2 => kernel_rfl
      case hx2 => kernel_rfl
      case hy2 => kernel_rfl
      intro D hD oD
      clear hst
      refine HK.out _ _ (fun h => (by cases (show true = false from h))) (wpAnyE_done (by kernel_rfl) ⟨rfl, w1.heap.size, .slice av ws.length c, rfl, ?_⟩ _)
      clear HK K
      exact pf_of hv hgt2 ⟨hwl, hcm⟩ ht2 hap2 hres2 hb2 hD oD
  case imp =>
    rintro _ _ W2 ⟨rfl, R, v, rfl, hPF⟩
    clear hres hbw hgt bD HB cS
    obtain ⟨av, c, rfl, hrd⟩ := hPF.rd
    have hread := read_any hrd hPF.vr hjo
    have HPF := hidc (And.intro hPF.gt (And.intro hPF.res hPF.below))
    clear hrd hPF hjo
    unfold parseAct
    go_wp2_with fail
    refine hread.mono ?_
    rintro e w3 ⟨hoR, v, rfl, hI, c0, c1, c2, c3, hBR⟩
    clear hread
    obtain ⟨cs, rfl, hC⟩ := hI
    obtain ⟨hgt, hres, hbw⟩ := HPF.out
    clear HPF
    have hfe := fin_eq (readR ws (b.drop n)) n
    have hub := rd_bound ws (b.drop n)
    generalize readR ws (b.drop n) = x at *
    have HOK := hidc (rq_ok x.q (hvs hC))
    have hres3 := hres.only hoR (by omega)
    have hb3 : Below w.heap.size w w3 := Below.trans hbw (hoR.below hbw.size (fun y e => by omega))
    have hgt3 : w.heap.size < W2.heap.size := hres.lt
    have HG := hidc (And.intro hres3 (And.intro hb3 (And.intro hBR (And.intro hC hgt3))))
    have hsz3 : W2.heap.size ≤ w3.heap.size := hoR.size
    have HA := hidc (alloc1 w3 #[.int .i64 0, .slice none 0 0, .bool false, .bool false, .string ⟨#[]⟩, .string ⟨#[]⟩, .int .i64 0, .bool false, .string ⟨#[]⟩, .slice none 0 0, .string ⟨#[]⟩] 27)
    clear hoR hres hbw hC hBR hres3 hb3
    go_upto_region 6 with (refine stRq rfl rfl rfl rfl rfl HA.out.1 rfl rfl HOK.out ?_; intro D hD oD; have HD := hidc (And.intro hD oD); clear hD oD)
    obtain ⟨hD, oD⟩ := HD.out
    obtain ⟨hres3, hb3, hBR, hC, -⟩ := HG.out
    have hlR := hBR.lt
    have oA : Only (fun y => y = w3.heap.size) w3 D := Only.trans (Below.only HA.out.2.2) oD (fun y e => .inl e)
    have hresD := hres3.only oA (by omega)
    have hBRD := hBR.only oA (by omega)
    have hCD := hC.only oA (fun y _ h1 e => by omega)
    have hbD : Below w.heap.size w D := Below.trans hb3 (oA.below hb3.size (fun y e => by omega))
    have k0 : D.cell? ⟨w3.heap.size, 0, none⟩ = some (.int .i64 x.q.kind) := hD.cell (i := 0) rfl
    have HF : Hid (∀ (k : Nat) E, (x.fin n).1 = x.q → (x.fin n).2 = k → Only (fun y => y = w.heap.size) D E → Q (.returned (.tuple #[.agg (rqc x.q cs).toArray, .int .i64 (k : Int)])) E) := hidc fun k E h1 h2 oE => by
      refine HPE.out _ _ ⟨_, by rw [h2], ?_, Below.trans hbD (oE.below hbD.size (fun y e => by omega))⟩
      rw [h1]
      exact ⟨cs, rfl, (hCD.only oE (fun y hy _ e => by omega)).mono (by omega)⟩
    clear HD HG HA oD oA hres3 hb3 hBR hC hbD hCD HPE
    have HR := hidc hresD
    have HBD := hidc (And.intro hD hBRD)
    clear hresD hD hBRD
    by_cases hk : x.q.kind = 0
    · rw [if_pos hk] at hfe
      have HF2 := hidc (HF.out 0 · (by rw [hfe]) (by rw [hfe]))
      clear HF hfe hub
      go_wp2_with (first | (refine ldRq rfl rfl rfl HBD.out.1 rfl ?_) | (refine stRq rfl rfl rfl rfl rfl HR.out rfl rfl HOK.out ?_; intro E hE oE; have HW := hidc (And.intro hE (HF2.out E oE)); clear hE oE))
      exact bodyPost_ret (res_rq2L (x := .int .i64 0) rfl rfl HW.out.1 rfl rfl) rfl HW.out.2
    rw [if_neg hk] at hfe
    have HF2 := hidc (HF.out (n + x.u) · (by rw [hfe]) (by rw [hfe]))
    obtain ⟨T, hT⟩ : ∃ T, n + x.u = T := ⟨_, rfl⟩
    rw [hT] at HF2
    have hTi : IntKind.i64.wrap ((n : Int) + (x.u : Int)) = (T : Int) := by
      rw [IntKind.wrap_i64]
      have h1 := hub.resolve_right hk
      rw [List.length_drop] at h1
      omega
    have HT := hidc hT
    clear HF hfe hub hT
    go_wp2_with fail
    obtain ⟨S, hSd⟩ : ∃ S : World → Prop, Hid (S = fun W' => Blk W' w3.heap.size 27 (rqc x.q cs) ∧ W'.cell? ⟨R, 4, none⟩ = some (.int .i64 (x.u : Int))) := ⟨_, hidc rfl⟩
    have hS : S D.drew := by rw [hSd.out]; exact ⟨HBD.out.1.drew, HBD.out.2.cell (i := 4) rfl⟩
    refine wp_region_E S 6 (by kernel_rfl) ?_
    refine wpAnyE_take (i := 0) (v := .agg (rqc x.q cs).toArray) rfl (by kernel_rfl) (by kernel_rfl) (by kernel_rfl) (fun _ _ _ h => h) (by kernel_rfl) (by kernel_rfl) hS (yieldsIf_load_mid (by rfl) 27 (.tmp 7) rfl w3.heap.size 0 rfl (rqc x.q cs) _ ?_ Tryd.underlying27 rfl (by kernel_rfl)) ?_
    · intro w' hw' j v hj
      rw [hSd.out] at hw'
      rw [Nat.zero_add]; exact hw'.1.cell hj
    refine wpAnyE_take (i := 1) (v := .int .i64 n) rfl (by kernel_rfl) (by kernel_rfl) (by kernel_rfl) (fun _ _ _ h => h) (by kernel_rfl) (by kernel_rfl) hS (Or.inl ⟨by rfl, ?_⟩) ?_
    · intro w' hw'
      go_simp
    refine wpAnyE_take (i := 2) (v := .pointer (some ⟨R, 4, none⟩)) rfl (by kernel_rfl) (by kernel_rfl) (by kernel_rfl) (fun _ _ _ h => h) (by kernel_rfl) (by kernel_rfl) hS (Or.inl ⟨by rfl, ?_⟩) ?_
    · intro w' hw'
      go_simp
    refine wpAnyE_take (i := 3) (v := .int .i64 (x.u : Int)) rfl (by kernel_rfl) (by kernel_rfl) (by kernel_rfl) (fun _ _ _ h => h) (by kernel_rfl) (by kernel_rfl) hS (Or.inl ⟨by rfl, ?_⟩) ?_
    · intro w' hw'
      rw [hSd.out] at hw'
      have s0 := hw'.2
      clear hw'
      go_simp
    refine wpAnyE_take (i := 4) (v := .int .i64 T) rfl (by kernel_rfl) (by kernel_rfl) (by kernel_rfl) (fun _ _ _ h => h) (by kernel_rfl) (by kernel_rfl) hS (Or.inl ⟨by rfl, ?_⟩) ?_
    · intro w' hw'
      go_simp
    have HS := hidc hS
    clear hS
    refine wpAnyE_one (i := 5) rfl (by kernel_rfl) (fun K hK => ?_)
    rw [if_pos (by kernel_rfl)]
    have HK := hidc hK
    clear hK
    have hRd := HR.out.drew
    have hst := fun (op : Oper) (a : Act) (K : Act → World → Prop) (Q : Exit → Act → World → Prop) => wp_stRq (op := op) (a := a) (K := K) (Q := Q) (x := .tmp 2) (y := .tmp 35) hRd rfl rfl HOK.out
    refine hst _ _ _ _ ?ho3 ?hx3 ?hy3 ?hh3
    case ho3 => kernel_rfl
    case hx3 => kernel_rfl
    case hy3 => kernel_rfl
    intro E hE oE
    clear hst hRd
    have hSE : S E := by
      have h1 := HS.out
      rw [hSd.out] at h1 ⊢
      exact ⟨h1.1.only oE (by omega), (oE.cell (p := ⟨R, 4, none⟩) (cell_lt h1.2) (by show R ≠ w.heap.size; omega)).trans h1.2⟩
    have oE2 : Only (fun y => y = w.heap.size) D E := Only.trans (Only.drew (Only.refl _ D)) oE (fun y e => .inl e)
    have HW := hidc (And.intro hE (HF2.out E oE2))
    refine HK.out _ _ (fun _ => hSE) ?_
    clear HK K hSE oE2 oE hE HF2 HR HBD HS hSd
    refine wpAnyE_one (i := 6) rfl (by kernel_rfl) (fun K hK => ?_)
    go_simp
    refine hK _ _ (fun h => (by cases (show true = false from h))) (wpAnyE_done (by kernel_rfl) ?_ _)
    clear hK K
    go_wp2_with fail
    exact bodyPost_ret (res_rq2L (x := .int .i64 (T : Int)) rfl rfl HW.out.1 rfl rfl) rfl HW.out.2
theorem parse_any (b : List UInt8) (hb : b.length ≤ 140737488355328) (w : World) (hv : Nu.Vars w) :
    Calls Tryd.prog 6 #[.string (S b)] w (ParseP w b) := by
  by_cases hn : 10 ∈ b.take 2048
  · exact parse_line b hb hn w hv
  · exact parse_noline b hb hn w
end Go.Proofs.YtggeccndmmmnjaaDoor.Tx

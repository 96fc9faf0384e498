/-
  The law TextPieces at this program: a request that is there is the same, whatever stands behind it. Conditions: the package variables hold what they were laid with.
-/
import Derived.Test.YtggeccndmmmnjaaGreatDoorTxSame
namespace Go.Proofs.YtggeccndmmmnjaaGreatDoor.Tx
open Go Go.RowKit Go.Lib Md

/-! A request has at most 2048 commands -/
def Rd.Few (x : Rd) : Prop := x.q.cmds.length ≤ 2048
theorem few_up (why : List UInt8) (s u : Nat) : (Rd.up why s u).Few := Nat.zero_le _
theorem few_done {q : Rq} {u : Nat} (h : q.cmds.length ≤ 2048) : (Rd.done q u).Few := h
theorem few_one (c : Cm) (b : Bool) (u : Nat) : (Rd.done (oneQ c b) u).Few := show 1 ≤ 2048 by omega
theorem few_nil {q : Rq} {u : Nat} (h : q.cmds = []) : (Rd.done q u).Few := by unfold Rd.Few Rd.q; rw [h]; exact Nat.zero_le _
theorem each_few {ks : List (List UInt8)} (h : ks.length ≤ 2048) (c : Cm) (t : Bool) : (eachR ks c t).Few := by
  unfold eachR
  split
  · exact few_done (by simpa using h)
  · exact few_up _ _ _
theorem get_few (ws : List (List UInt8)) (t : Bool) : (getR ws t).Few := by
  unfold getR
  split
  · exact few_up _ _ _
  · exact each_few (by omega) _ _
theorem gat_few (ws : List (List UInt8)) (t : Bool) : (gatR ws t).Few := by
  unfold gatR
  split
  · exact few_up _ _ _
  · split
    · exact few_up _ _ _
    · exact each_few (by rw [List.length_drop]; omega) _ _
theorem value_few (name key : List UInt8) (f : Nat) (x : Int) (cas n : Nat) (q : Bool) (b : List UInt8) : (valueR name key f x cas n q b).Few := by
  unfold valueR
  (repeat' split) <;> first | exact few_up _ _ _ | exact few_one _ _ _ | exact few_nil rfl
theorem store_few (name : List UInt8) (ws : List (List UInt8)) (b : List UInt8) : (storeR name ws b).Few := by
  unfold storeR storeU
  (repeat' split) <;> first | exact few_up _ _ _ | exact value_few _ _ _ _ _ _ _ _
theorem math_few (ws : List (List UInt8)) (d : Bool) : (mathR ws d).Few := by
  unfold mathR mathU
  (repeat' split) <;> first | exact few_up _ _ _ | exact few_one _ _ _
theorem touch_few (ws : List (List UInt8)) : (touchR ws).Few := by
  unfold touchR touchU
  (repeat' split) <;> first | exact few_up _ _ _ | exact few_one _ _ _
theorem del_few (ws : List (List UInt8)) : (delR ws).Few := by
  unfold delR delU
  (repeat' split) <;> first | exact few_up _ _ _ | exact few_one _ _ _
theorem flush_few (ws : List (List UInt8)) : (flushR ws).Few := by
  unfold flushR flushU
  (repeat' split) <;> first | exact few_up _ _ _ | exact few_one _ _ _
theorem version_few (ws : List (List UInt8)) : (versionR ws).Few := by unfold versionR; split <;> first | exact few_up _ _ _ | exact few_nil rfl
theorem verb_few (ws : List (List UInt8)) : (verbR ws).Few := by unfold verbR verbU; split <;> first | exact few_up _ _ _ | exact few_nil rfl
theorem stats_few (ws : List (List UInt8)) : (statsR ws).Few := by unfold statsR; split <;> first | exact few_up _ _ _ | exact few_nil rfl
theorem quit_few (ws : List (List UInt8)) : (quitR ws).Few := by unfold quitR; split <;> first | exact few_up _ _ _ | exact few_nil rfl
theorem ite_few {c : Prop} [Decidable c] {a b : Rd} (h1 : a.Few) (h2 : b.Few) : (if c then a else b).Few := by split <;> assumption
theorem named_few (name : List UInt8) (ws : List (List UInt8)) (b : List UInt8) : (namedR name ws b).Few := by
  unfold namedR
  exact ite_few (get_few _ _) (ite_few (get_few _ _) (ite_few (gat_few _ _) (ite_few (gat_few _ _) (ite_few (store_few _ _ _) (ite_few (math_few _ _) (ite_few (math_few _ _) (ite_few (touch_few _) (ite_few (del_few _) (ite_few (flush_few _) (ite_few (version_few _) (ite_few (verb_few _) (ite_few (stats_few _) (ite_few (quit_few _) (few_up _ _ _))))))))))))))
theorem read_few (ws : List (List UInt8)) (b : List UInt8) : (readR ws b).Few := by
  unfold readR
  split
  · exact few_up _ _ _
  · exact named_few _ _ _
theorem parse_few (b : List UInt8) : (parse b).1.cmds.length ≤ 2048 := by
  unfold parse
  split
  · rw [fin_eq]
    have h := read_few (splitS (lineS (b.take 2048))) (b.drop (lineN (b.take 2048)))
    split <;> exact h
  · split <;> exact Nat.zero_le _

theorem fold_mod (n : Int) (c : Nat) : ∃ m : Nat, (0 < c → m < c) ∧ ((n < 0 ∧ (n + 1).tmod (c : Int) = -(m : Int)) ∨ (¬ n < 0 ∧ n.tmod (c : Int) = (m : Int))) := by
  by_cases h : n < 0
  · obtain ⟨j, hj⟩ : ∃ j : Nat, n = -(j : Int) - 1 := ⟨(-(n + 1)).toNat, by omega⟩
    refine ⟨j % c, fun hc => Nat.mod_lt _ hc, .inl ⟨h, ?_⟩⟩
    subst hj
    rw [show -(j : Int) - 1 + 1 = -(j : Int) from by omega, Int.neg_tmod, Int.tmod_eq_emod_of_nonneg (by omega)]; rfl
  · obtain ⟨j, hj⟩ : ∃ j : Nat, n = (j : Int) := ⟨n.toNat, by omega⟩
    refine ⟨j % c, fun hc => Nat.mod_lt _ hc, .inr ⟨h, ?_⟩⟩
    subst hj
    rw [Int.tmod_eq_emod_of_nonneg (by omega)]; rfl

theorem pair_eta (p : Rq × Nat) : ∃ q n, p = (q, n) := by cases p; exact ⟨_, _, rfl⟩
/-- A string's first bytes. -/
theorem take_bytes (l : List UInt8) (k : Nat) : (S l).extract 0 k = S (l.take k) := by
  rw [Lib.extract_eq, S_list]
  show S ((l.drop 0).take (k - 0)) = _
  rw [List.drop_zero, Nat.sub_zero]

set_option maxHeartbeats 1000000 in
set_option maxRecDepth 100000 in
theorem pieces_law (b : List UInt8) (hb : b.length ≤ 140737488355328) (cut : Int) (u0 : -9223372036854775808 ≤ cut) (u1 : cut ≤ 9223372036854775807) (w : World) (hv : Nu.Vars w) :
    Calls Tryz.prog 3 #[.string (S b), .int .i64 cut] w fun e w' => e = .returned (.bool true) ∧ Below w.heap.size w w' := by
  have hsz : (S b).size = b.length := S_size _
  have hvb : ∀ W, Below w.heap.size w W → Nu.Vars W := fun W hb => hv.below hb
  obtain ⟨c, hc⟩ : ∃ c : List UInt8, c.length ≤ 100000 ∧ ((¬ (b.length : Int) > 100000 ∧ c = b) ∨ ((b.length : Int) > 100000 ∧ (S b).extract 0 100000 = S c)) := by
    by_cases h : b.length > 100000
    · exact ⟨b.take 100000, by rw [List.length_take]; omega, .inr ⟨by omega, take_bytes b 100000⟩⟩
    · exact ⟨b, by omega, .inl ⟨by omega, rfl⟩⟩
  obtain ⟨hcl, hcc⟩ := hc
  obtain ⟨L, hL⟩ : ∃ L, c.length = L := ⟨_, rfl⟩
  obtain ⟨k, hk0, hk⟩ := fold_mod cut (L + 1)
  have hkl := hk0 (by omega)
  have hex := take_bytes c k
  rw [show ((L + 1 : Nat) : Int) = (L : Int) + 1 from by omega] at hk
  have hp1 := fun W => parse_any (c.take k) (by rw [List.length_take]; omega) W
  have hp2 := fun W => parse_any c (by omega) W
  unfold ParseP at hp1 hp2
  have hcS : (S c).size = L := by rw [S_size]; exact hL
  have hfew := parse_few (c.take k)
  have hP : ((parse (c.take k)).1.kind = 0 ∧ (parse (c.take k)).2 = 0) ∨ ((parse (c.take k)).1.kind ≠ 0 ∧ parse c = parse (c.take k) ∧ 0 < (parse (c.take k)).2 ∧ (parse (c.take k)).2 ≤ k) := by
    by_cases h : (parse (c.take k)).1.kind = 0
    · exact .inl ⟨h, parse_none h⟩
    · obtain ⟨h1, h2, h3⟩ := parse_more (c.drop k) h
      rw [List.take_append_drop] at h1
      rw [List.length_take] at h3
      exact .inr ⟨h, h1, h2, by omega⟩
  obtain ⟨q, n, hq⟩ := pair_eta (parse (c.take k))
  obtain ⟨q2, n2, hq2⟩ := pair_eta (parse c)
  rw [hq] at hp1 hfew hP
  rw [hq2] at hp2 hP
  clear hq hq2
  dsimp only at hp1 hp2 hfew hP
  have HFEW := hidc hfew
  have HP := hidc hP
  clear hfew hP hk0
  have hc0 : (0 : Int) ≤ (k : Int) := by omega
  have hc1 : (k : Int) ≤ (L : Int) := by omega
  go_enter Tryz.func3, Tryz.ntmps3
  go_wp2_with fail
  refine (shown_any _ hv).mono ?_
  rintro e w1 ⟨rfl, b1⟩
  have HB1 := hidc b1
  clear b1
  rcases hcc with ⟨i0, rfl⟩ | ⟨i0, i1⟩
  all_goals
    rcases hk with ⟨s0, s1⟩ | ⟨s0, s1⟩
    all_goals
      go_wp2_with fail
      refine (hp1 _ (hvb _ HB1.out)).mono ?_
      rintro e w2 ⟨v, rfl, ⟨cs, rfl, hC⟩, b2⟩
      have HOK := hidc (rq_ok q (hvs hC))
      have HC := hidc hC
      have HB2 := hidc (Below.then HB1.out b2)
      clear hC b2 HB1 hp1
      rcases HP.out with ⟨hk, rfl⟩ | ⟨hk, he, hn0, hnk⟩
      · clear HP HFEW hp2
        go_wp2_with (refine stRq rfl rfl rfl rfl rfl (alloc1 w2 #[.int .i64 0, .slice none 0 0, .bool false, .bool false, .string ⟨#[]⟩, .string ⟨#[]⟩, .int .i64 0, .bool false, .string ⟨#[]⟩, .slice none 0 0, .string ⟨#[]⟩] 26).1 rfl rfl HOK.out ?_; intro D hD oD; have HX := hidc (bq_laid HC.out hD oD); have HB3 := hidc (Below.then HB2.out (laid_below oD)); have k0 : D.cell? ⟨w2.heap.size, 0, none⟩ = some (.int .i64 q.kind) := HX.out.blk.cell (i := 0) rfl; clear hD oD HC HB2 HOK)
        go_ret
        exact ⟨rfl, HB3.out⟩
      · injection he with e1 e2
        subst e1 e2
        have HN := hidc (And.intro hn0 hnk)
        clear HP hn0 hnk
        go_wp2_with (refine stRq rfl rfl rfl rfl rfl (alloc1 w2 #[.int .i64 0, .slice none 0 0, .bool false, .bool false, .string ⟨#[]⟩, .string ⟨#[]⟩, .int .i64 0, .bool false, .string ⟨#[]⟩, .slice none 0 0, .string ⟨#[]⟩] 26).1 rfl rfl HOK.out ?_; intro D hD oD; have HX := hidc (bq_laid HC.out hD oD); have HB3 := hidc (Below.then HB2.out (laid_below oD)); have k0 : D.cell? ⟨w2.heap.size, 0, none⟩ = some (.int .i64 q2.kind) := HX.out.blk.cell (i := 0) rfl; clear hD oD HC HB2 HOK)
        refine (hp2 _ (hvb _ HB3.out)).mono ?_
        rintro e w3 ⟨v2, rfl, ⟨cs2, rfl, hC2⟩, b3⟩
        have HX2 := hidc (HX.out.below b3)
        have HC2 := hidc (hC2.mono (Nat.zero_le _))
        have HB4 := hidc (Below.then HB3.out b3)
        have HOK2 := hidc (rq_ok q2 (hvs hC2))
        clear HX HB3 b3 hC2 hp2 k0
        go_wp2_with (first | (refine ldRq rfl rfl rfl HY.out.1.blk rfl ?_) | (refine ldRq rfl rfl rfl HY.out.2.blk rfl ?_) | (refine stRq rfl rfl rfl rfl rfl (alloc1 w3 #[.int .i64 0, .slice none 0 0, .bool false, .bool false, .string ⟨#[]⟩, .string ⟨#[]⟩, .int .i64 0, .bool false, .string ⟨#[]⟩, .slice none 0 0, .string ⟨#[]⟩] 26).1 rfl rfl HOK2.out ?_; intro D2 hD oD; have HY := hidc (And.intro (HX2.out.below (laid_below oD)) (bq_laid HC2.out hD oD)); have HB5 := hidc (Below.then HB4.out (laid_below oD)); clear hD oD HC2 HB4 HOK2 HX2))
        refine (same_yes HY.out.1.cms HY.out.2.cms (by have := HFEW.out; omega)).mono ?_
        rintro e w4 ⟨rfl, b4⟩
        have HB6 := hidc (Below.then HB5.out b4)
        have hn0 : (0 : Int) < (n2 : Int) := by have := HN.out.1; omega
        have hnk : (n2 : Int) ≤ (k : Int) := by have := HN.out.2; omega
        clear b4 HB5 HY HFEW HN
        go_wp2_with fail
        go_ret
        exact ⟨rfl, HB6.out⟩
end Go.Proofs.YtggeccndmmmnjaaGreatDoor.Tx

/-
  The law ChainGrows at this program: however many keys are set, with a step behind each, there is room, and the moves end. No conditions.
-/
import Derived.Test.YtfbkfbghejeknaaChainShown
namespace Go.Proofs.Ytfbkfbghejeknaa
open Go Go.Shelf Go.RowKit Go.Lib

/-- A key of the laws: k and two bytes. -/
def two (a b : Nat) : ByteArray := S [UInt8.ofNat a, UInt8.ofNat b]
def key2 (a b : Nat) : ByteArray := ⟨#[107]⟩ ++ two a b
theorem key2_data (a b : Nat) : (key2 a b).data.toList = [107, UInt8.ofNat a, UInt8.ofNat b] := by
  unfold key2 two
  rw [ByteArray.data_append, Array.toList_append, S_list]; rfl
theorem key2_size (a b : Nat) : (key2 a b).size = 3 := by rw [size_len, key2_data]; rfl
theorem key2_inj {a b c d : Nat} (ha : a < 256) (hb : b < 256) (hc : c < 256) (hd : d < 256) (h : key2 a b = key2 c d) : a = c ∧ b = d := by
  have h1 := key2_data a b
  rw [h, key2_data] at h1
  have h2 := List.cons.inj (List.cons.inj h1).2
  have e1 := congrArg UInt8.toNat h2.1
  have e2 := congrArg UInt8.toNat (List.cons.inj h2.2).1
  rw [UInt8.toNat_ofNat', UInt8.toNat_ofNat'] at e1 e2
  omega
theorem conv_pair (a b : Nat) (ha : a < 256) (hb : b < 256) (W : World) :
    (convert 41 9 (.slice (some ⟨W.heap.size, 0, none⟩) 2 2)).run Try.prog (W.alloc (Obj.cells #[Value.int IntKind.u8 (a : Int), Value.int IntKind.u8 (b : Int)] 5)) = .ok (.string (two a b)) (W.alloc (Obj.cells #[Value.int IntKind.u8 (a : Int), Value.int IntKind.u8 (b : Int)] 5)) := by
  have ea : ((UInt8.ofNat a).toNat : Int) = (a : Int) := by rw [UInt8.toNat_ofNat']; omega
  have eb : ((UInt8.ofNat b).toNat : Int) = (b : Int) := by rw [UInt8.toNat_ofNat']; omega
  have hB := Blk.new W #[Value.int IntKind.u8 (a : Int), Value.int IntKind.u8 (b : Int)] 5
  exact run_convert_bytes_back (P := Try.prog) _ 41 9 5 ⟨W.heap.size, 0, none⟩ 2 [UInt8.ofNat a, UInt8.ofNat b] Try.underlying41 Try.underlying5 Try.underlying9 (fun j hj => by
    have hj2 : j = 0 ∨ j = 1 := by
      have : j < 2 := hj
      omega
    rw [addr_plain, Nat.zero_add]
    rcases hj2 with rfl | rfl
    · rw [hB.cell (i := 0) rfl]
      show some (Value.int IntKind.u8 (a : Int)) = some (Value.int IntKind.u8 ((UInt8.ofNat a).toNat : Int))
      rw [ea]
    · rw [hB.cell (i := 1) rfl]
      show some (Value.int IntKind.u8 (b : Int)) = some (Value.int IntKind.u8 ((UInt8.ofNat b).toNat : Int))
      rw [eb])

/-- Behind i keys, each with a step. -/
structure Gr (f : Nat → ByteArray) (s : Tb) (i : Nat) : Prop where
  cnt : s.cnt = i
  get : ∀ x, s.get x ≠ none → ∃ j, j < i ∧ x = f j
  calm : s.old = [] → 2 * s.cnt ≤ 3 * s.new.length
  busy : s.old ≠ [] → 2 * s.cnt = 3 * s.old.length + 2 * s.moved
theorem Mid.twice {s : Tb} (m : Mid s) (h : s.old ≠ []) : s.new.length = 2 * s.old.length := by
  rw [m.lenN, m.lenO h]
  have := m.p2
  rw [show s.pow = (s.pow - 1) + 1 by omega, Nat.pow_succ, Nat.add_sub_cancel]; omega
theorem Mid.four {s : Tb} (m : Mid s) : ∃ q, s.new.length = 4 * q ∧ 1 ≤ q := by
  have := m.p2
  refine ⟨2 ^ (s.pow - 2), ?_, Nat.two_pow_pos _⟩
  rw [m.lenN, show s.pow = (s.pow - 2) + 2 by omega, Nat.pow_add, Nat.add_sub_cancel]; omega
theorem Gr.room {f : Nat → ByteArray} {s : Tb} {i : Nat} (h : Gr f s i) (o : Ok s) : 2 * s.cnt ≤ 3 * s.new.length := by
  by_cases ho : s.old = []
  · exact h.calm ho
  · have h1 := h.busy ho
    have h2 := o.mid.twice ho
    have h3 := o.mvlt ho
    omega
theorem gr_first (f : Nat → ByteArray) (c : Nat) : Gr f (Tb.first c) 0 := ⟨rfl, fun x hx => (hx (get_first c x)).elim, fun _ => by show 2 * 0 ≤ _; omega, fun h => (h rfl).elim⟩
theorem Gr.next {f : Nat → ByteArray} {s : Tb} {i : Nat} (h : Gr f s i) (o : Ok s) (hi : i < 500) (hf : ∀ j, j < i → f i ≠ f j) (b c : Nat) : Gr f (s.set b c (f i) (i : Int)).step (i + 1) ∧ s.get (f i) = none := by
  have hn : s.get (f i) = none := by
    cases hg : s.get (f i) with
    | none => rfl
    | some v =>
      obtain ⟨j, hj, e⟩ := h.get (f i) (by rw [hg]; simp)
      exact absurd e (hf j hj)
  refine ⟨?_, hn⟩
  have oS := o.set b c (f i) (i : Int)
  have hcs : (s.set b c (f i) (i : Int)).cnt = i + 1 := by rw [o.cnt_set, if_pos hn, h.cnt]
  have hget : ∀ x, (s.set b c (f i) (i : Int)).step.get x ≠ none → ∃ j, j < i + 1 ∧ x = f j := fun x hx => by
    rw [oS.get_step, o.get_set] at hx
    split at hx
    · rename_i e; exact ⟨i, by omega, e⟩
    · obtain ⟨j, hj, e⟩ := h.get x hx; exact ⟨j, by omega, e⟩
  have hcnt : (s.set b c (f i) (i : Int)).step.cnt = i + 1 := by rw [oS.cnt_step, hcs]
  refine ⟨hcnt, hget, fun ho => ?_, fun ho => ?_⟩
  · by_cases hw : s.will
    · exfalso
      obtain ⟨p1, p2, p3, p4⟩ := (set_nums b c (i : Int) hn).1 hw
      obtain ⟨q, hq, hq1⟩ := o.mid.four
      have hne : (s.set b c (f i) (i : Int)).old ≠ [] := fun e => by rw [e] at p2; simp at p2; omega
      obtain ⟨t1, t2, t3, t4, t5⟩ := step_nums hne
      rw [p3, p2] at t5
      rw [if_neg (by omega), ho] at t5
      simp at t5; omega
    · obtain ⟨p1, p2, p3, p4⟩ := (set_nums b c (i : Int) hn).2 hw
      by_cases hso : s.old = []
      · have hne : (s.set b c (f i) (i : Int)).old = [] := len0.1 (by rw [p2, hso]; rfl)
        have hst : (s.set b c (f i) (i : Int)).step = s.set b c (f i) (i : Int) := by unfold Tb.step; rw [if_pos hne]
        rw [hst, hcs, oS.mid.lenN, p1, ← o.mid.lenN]
        by_cases hp : s.pow < 20
        · apply Nat.le_of_not_lt
          intro hlt
          exact hw ⟨hso, by rw [h.cnt]; exact hlt, hp⟩
        · have h20 : s.pow = 20 := by have := o.mid.p20; omega
          rw [o.mid.lenN, h20]
          have : (2 : Nat) ^ 20 = 1048576 := by decide
          omega
      · have hne : (s.set b c (f i) (i : Int)).old ≠ [] := fun e => hso (len0.1 (by rw [← p2, e]; rfl))
        obtain ⟨t1, t2, t3, t4, t5⟩ := step_nums hne
        have h1 := h.busy hso
        have h2 := o.mid.twice hso
        have h3 := o.mvlt hso
        rw [hcnt, t4, oS.mid.lenN, p1, ← o.mid.lenN]
        rw [h.cnt] at h1
        omega
  · by_cases hw : s.will
    · obtain ⟨p1, p2, p3, p4⟩ := (set_nums b c (i : Int) hn).1 hw
      obtain ⟨q, hq, hq1⟩ := o.mid.four
      have hne : (s.set b c (f i) (i : Int)).old ≠ [] := fun e => by rw [e] at p2; simp at p2; omega
      obtain ⟨t1, t2, t3, t4, t5⟩ := step_nums hne
      rw [p3, p2, if_neg (by omega)] at t5
      have h1 := h.calm hw.1
      have h2 := hw.2.1
      rw [hcnt, t5, t3, p3]
      rw [h.cnt] at h1 h2
      omega
    · obtain ⟨p1, p2, p3, p4⟩ := (set_nums b c (i : Int) hn).2 hw
      have hne : (s.set b c (f i) (i : Int)).old ≠ [] := fun e => ho (by unfold Tb.step; rw [if_pos e]; exact e)
      have hso : s.old ≠ [] := fun e => hne (len0.1 (by rw [p2, e]; rfl))
      obtain ⟨t1, t2, t3, t4, t5⟩ := step_nums hne
      have h1 := h.busy hso
      rw [p3, p2] at t5
      have hz : (s.set b c (f i) (i : Int)).step.old.length ≠ 0 := fun e => ho (len0.1 e)
      rw [t5] at hz
      split at hz
      · exact (hz rfl).elim
      · rename_i hq
        rw [if_neg hq] at t5
        rw [hcnt, t5, t3, p3]
        rw [h.cnt] at h1
        omega
/-- The key number i of ChainGrows. -/
def gkey (i : Nat) : ByteArray := key2 (97 + i / 26) (97 + i % 26)
theorem gkey_ne {i j : Nat} (hi : i < 500) (hj : j < i) : gkey i ≠ gkey j := fun e => by
  obtain ⟨h1, h2⟩ := key2_inj (by omega) (by omega) (by omega) (by omega) e
  omega

theorem fold_neg (n : Int) : ∃ j : Nat, (n < 0 ∧ n = -(j : Int) - 1) ∨ (¬ n < 0 ∧ n = j) := by
  by_cases h : n < 0
  · exact ⟨(-(n + 1)).toNat, .inl ⟨h, by omega⟩⟩
  · exact ⟨n.toNat, .inr ⟨h, by omega⟩⟩

set_option maxRecDepth 100000 in
set_option maxHeartbeats 2000000 in
theorem grows_law (n : Int) (n1 : -9223372036854775808 ≤ n) (n2 : n ≤ 9223372036854775807) (w : World) :
    Calls Try.prog 5 #[.int .i64 n] w fun e w' => e = .returned (.bool true) ∧ Below w.heap.size w w' := by
  obtain ⟨j, hp⟩ := fold_neg n
  go_enter Try.func5, Try.ntmps5
  go_wp2_with fail
  refine (shown_any w).mono ?_
  rintro e w1 ⟨rfl, b1⟩
  go_wp2_with fail
  refine (has_new w1).mono ?_
  rintro e w2 ⟨P, c, rfl, hT⟩
  have HT := hid hT
  clear hT
  go_upto_if 18 with fail
  go_cut [0] from 17 to 21 (fun a wx => wx = w2 ∧ a = .int .i64 j)
  case first =>
    rcases hp with ⟨t0, rfl⟩ | ⟨t0, rfl⟩
    all_goals
      go_wp2_with fail
      go_meet
      exact ⟨rfl, by go_num⟩
  case rest =>
  obtain ⟨rfl, rfl⟩ := hcut
  have hj : j ≤ 9223372036854775807 := by omega
  obtain ⟨k, hk, hk5⟩ : ∃ k : Nat, (j : Int) % 500 = k ∧ k < 500 := ⟨j % 500, by omega, by omega⟩
  clear hp n1 n2
  go_wp2_with fail
  rw [hk]
  clear hk hj
  go_loopw [5] (fun p wr => ∃ (i : Nat) (s : Tb), p = .int .i64 i ∧ i ≤ k ∧ Hid (Gr gkey s i) ∧ Hid (HasT w1 P s (fun _ => False) wr)) (fun p _ => k - (RowKit.intOf p).toNat)
  case atStart => exact ⟨0, _, rfl, Nat.zero_le _, hid (gr_first gkey c), HT⟩
  case round =>
    obtain ⟨i, s, rfl, hi, hG, hTr⟩ := hrel
    clear HT
    by_cases hlt : i < k
    · have hcv := conv_pair (97 + i / 26) (97 + i % 26) (by omega) (by omega)
      have e1 : ((97 + i / 26 : Nat) : Int) = 97 + (i : Int) / 26 := by omega
      have e2 : ((97 + i % 26 : Nat) : Int) = 97 + (i : Int) % 26 := by omega
      rw [e1, e2] at hcv
      clear e1 e2
      have hset : Calls Try.prog 19 #[.pointer (some ⟨P, 0, none⟩), .string (⟨#[107]⟩ ++ two (97 + i / 26) (97 + i % 26)), .int .i64 i] _ _ := has_set (hTr.out.after ((Below.refl _ wr).alloc (Nat.le_refl _) (Obj.cells #[Value.int IntKind.u8 (97 + (i : Int) / 26), Value.int IntKind.u8 (97 + (i : Int) % 26)] 5))) (gkey i) (by unfold gkey; rw [key2_size]; omega) (i : Int) (by rw [hG.out.cnt]; omega)
      have hK : ∀ b c, Hid (Gr gkey (s.set b c (gkey i) (i : Int)).step (i + 1) ∧ (s.set b c (gkey i) (i : Int)).cnt = i + 1) := fun b c => hid (by
        obtain ⟨h1, h2⟩ := hG.out.next hTr.out.ok (by omega) (fun j hj => gkey_ne (by omega) hj) b c
        exact ⟨h1, by rw [hTr.out.ok.cnt_set, if_pos h2, hG.out.cnt]⟩)
      have hsz : (two (97 + i / 26) (97 + i % 26)).size = 2 := rfl
      generalize two (97 + i / 26) (97 + i % 26) = X at *
      go_wp2_with fail
      refine hset.mono ?_
      rintro e w5 ⟨rfl, b, c', hT5, o5⟩
      have HK := hK b c'
      have hst := has_step hT5
      generalize s.set b c' (gkey i) (i : Int) = s1 at *
      have HO := hid hT5.ok
      clear hset hcv hK o5 hT5
      go_wp2_with fail
      refine hst.mono ?_
      rintro e w6 ⟨rfl, hT6, o6⟩
      clear hst o6
      have HT6 := hid hT6
      have hG6 := hid HK.out.1
      have hroom := hG6.out.room hT6.ok
      have m6 := hT6.ok.mid
      have hp2 := m6.p2
      have hp20 := m6.p20
      have hp := power_any hT6.tm
      have hl := len_any hT6.tm
      rw [m6.lenN] at hroom
      rw [hG6.out.cnt] at hl hroom
      have q20 : 2 ^ s1.step.pow ≤ 2 ^ 20 := Nat.pow_le_pow_right (by decide) hp20
      have eP := pow_int s1.step.pow
      generalize hPP : 2 ^ s1.step.pow = PP at *
      generalize s1.step.pow = pw at *
      clear hT6 m6
      go_wp2_with fail
      refine hp.mono ?_
      rintro e w7 ⟨rfl, rfl⟩
      go_wp2_with fail
      refine hp.mono ?_
      rintro e w7 ⟨rfl, rfl⟩
      go_wp2_with fail
      refine hl.mono ?_
      rintro e w7 ⟨rfl, rfl⟩
      go_wp2_with fail
      refine hp.mono ?_
      rintro e w7 ⟨rfl, rfl⟩
      go_wp2_with fail
      go_roundw
      case rel => exact ⟨i + 1, _, by go_num, by omega, hG6, HT6⟩
      case measure => simp [RowKit.intOf] <;> omega
    · obtain rfl : i = k := by omega
      have m6 := hTr.out.ok.mid
      have hp2 := m6.p2
      have hp20 := m6.p20
      have hp := power_any hTr.out.tm
      have q20 : 2 ^ (s.pow - 1) ≤ 2 ^ 20 := Nat.pow_le_pow_right (by decide) (by omega)
      have eP := pow_int (s.pow - 1)
      have eS : ((s.pow - 1 : Nat) : Int) = (s.pow : Int) - 1 := by omega
      have hLo : s.old ≠ [] → s.old.length = 2 ^ (s.pow - 1) := m6.lenO
      rw [show (2 : Nat) ^ 20 = 1048576 by decide] at q20
      generalize hPP : 2 ^ (s.pow - 1) = PP at *
      have HS := hid eS
      clear eS
      go_wp2_with fail
      refine hp.mono ?_
      rintro e w7 ⟨rfl, rfl⟩
      go_wp2_with fail
      have hE0 : Hid (s.cnt = i ∧ (s.old ≠ [] → s.old.length = PP ∧ 0 ≤ s.moved)) := hid ⟨hG.out.cnt, fun h => ⟨hLo h, Nat.zero_le _⟩⟩
      clear hG hp m6 hp2 hp20 hLo HS eP hPP hlt hi
      go_loopw [7] (fun p wr => ∃ (q : Nat) (t : Tb), p = .int .i64 q ∧ q ≤ PP ∧ Hid (t.cnt = i ∧ (t.old ≠ [] → t.old.length = PP ∧ q ≤ t.moved)) ∧ Hid (HasT w1 P t (fun _ => False) wr)) (fun p _ => PP - (RowKit.intOf p).toNat)
      case atStart => exact ⟨0, s, rfl, Nat.zero_le _, hE0, hTr⟩
      case round =>
        obtain ⟨q, t, rfl, hq, hE, hTq⟩ := hrel
        clear hE0 hTr
        by_cases hqp : q < PP
        · by_cases ho : t.old = []
          · have hmv := moved_any hTq.out.tm
            rw [show t.mv = -1 from if_pos ho] at hmv
            have hst := has_step hTq.out
            have hso : t.step = t := by unfold Tb.step; rw [if_pos ho]
            rw [hso, decide_eq_false (p := t.old ≠ []) (fun e => e ho)] at hst
            have hcn := hE.out.1
            clear hE ho hso
            go_wp2_with fail
            refine hmv.mono ?_
            rintro e w7 ⟨rfl, rfl⟩
            go_wp2_with fail
            refine hmv.mono ?_
            rintro e w7 ⟨rfl, rfl⟩
            go_wp2_with fail
            refine hst.mono ?_
            rintro e w8 ⟨rfl, hT8, o8⟩
            have hl := len_any hT8.tm
            rw [hcn] at hl
            go_wp2_with fail
            refine hl.mono ?_
            rintro e w9 ⟨rfl, rfl⟩
            go_wp2_with fail
            go_ret
            exact ⟨rfl, Below.then b1 hT8.below⟩
          · have hmv := moved_any hTq.out.tm
            rw [show t.mv = (t.moved : Int) from if_neg ho] at hmv
            have hst := has_step hTq.out
            obtain ⟨t1, t2, t3, t4, t5⟩ := step_nums ho
            have hE2 : Hid (t.step.cnt = i ∧ (t.step.old ≠ [] → t.step.old.length = PP ∧ q + 1 ≤ t.step.moved)) := hid ⟨by rw [t2]; exact hE.out.1, fun h => by
              obtain ⟨e1, e2⟩ := hE.out.2 ho
              have hz : t.step.old.length ≠ 0 := fun e => h (len0.1 e)
              rw [t5] at hz
              split at hz
              · exact (hz rfl).elim
              · rename_i hne
                rw [if_neg hne] at t5
                exact ⟨by rw [t5]; exact e1, by rw [t3]; omega⟩⟩
            have hmm : (0 : Int) ≤ (t.moved : Int) := by omega
            generalize (t.moved : Int) = M at *
            clear t1 t2 t3 t4 t5 ho hE
            go_wp2_with fail
            refine hmv.mono ?_
            rintro e w7 ⟨rfl, rfl⟩
            clear hmv
            go_wp2_with fail
            refine hst.mono ?_
            rintro e w8 ⟨rfl, hT8, o8⟩
            clear hst o8
            have hmv := moved_any hT8.tm
            have HT8 := hid hT8
            clear hT8
            by_cases ho : t.step.old = []
            · rw [show t.step.mv = -1 from if_pos ho] at hmv
              have hdf : decide (t.step.old ≠ []) = false := decide_eq_false (fun e => e ho)
              clear ho
              go_wp2_with fail
              refine hmv.mono ?_
              rintro e w9 ⟨rfl, rfl⟩
              go_wp2_with fail
              go_roundw
              case rel => exact ⟨q + 1, t.step, by go_num, by omega, hE2, HT8⟩
              case measure => simp [RowKit.intOf] <;> omega
            · rw [show t.step.mv = (t.step.moved : Int) from if_neg ho] at hmv
              have hdf : decide (t.step.old ≠ []) = true := decide_eq_true ho
              have hmm2 : (0 : Int) ≤ (t.step.moved : Int) := by omega
              generalize (t.step.moved : Int) = M2 at *
              clear ho
              go_wp2_with fail
              refine hmv.mono ?_
              rintro e w9 ⟨rfl, rfl⟩
              go_wp2_with fail
              go_roundw
              case rel => exact ⟨q + 1, t.step, by go_num, by omega, hE2, HT8⟩
              case measure => simp [RowKit.intOf] <;> omega
        · have ho : t.old = [] := by
            apply Classical.byContradiction
            intro ho
            have h1 := hE.out.2 ho
            have h2 := hTq.out.ok.mvlt ho
            omega
          have hmv := moved_any hTq.out.tm
          rw [show t.mv = -1 from if_pos ho] at hmv
          have hst := has_step hTq.out
          have hso : t.step = t := by unfold Tb.step; rw [if_pos ho]
          rw [hso, decide_eq_false (p := t.old ≠ []) (fun e => e ho)] at hst
          have hcn := hE.out.1
          clear hE ho hso
          go_wp2_with fail
          refine hmv.mono ?_
          rintro e w7 ⟨rfl, rfl⟩
          go_wp2_with fail
          refine hst.mono ?_
          rintro e w8 ⟨rfl, hT8, o8⟩
          have hl := len_any hT8.tm
          rw [hcn] at hl
          go_wp2_with fail
          refine hl.mono ?_
          rintro e w9 ⟨rfl, rfl⟩
          go_wp2_with fail
          go_ret
          exact ⟨rfl, Below.then b1 hT8.below⟩
end Go.Proofs.Ytfbkfbghejeknaa

/-
  The law WordsLong at this program: a letter so many times is a key if that is 1 to 250, and none with a byte in it that may not be there. No conditions.
-/
import Derived.Test.YtbaohkfaeholaaaDoorWordsShown
import Derived.Laws.IdiomStrings
namespace Go.Proofs.YtbaohkfaeholaaaDoor
open Go Go.Shelf Go.RowKit

theorem infoByte : (Tryd.prog.info? 5).map (fun i => (i.zero, i.size, i.bytes)) = some (some (.int .u8 0), 1, 1) := by kernel_rfl
/-- The cells of a row of bytes. -/
def bcells (l : List UInt8) : List Value := l.map fun b => .int .u8 (b.toNat : Int)

/-- What 'string(b)' gives where b owns these bytes. -/
theorem conv_row {W : World} {base g : Nat} {l : List UInt8} {c : Nat} (h : W.ownsRow base 5 1 (.slice (some ⟨g, 0, none⟩) l.length c) l.length (bcells l)) :
    (convert 32 9 (.slice (some ⟨g, 0, none⟩) l.length c)).run Tryd.prog W = .ok (.string (S l)) W :=
  run_convert_bytes_back (P := Tryd.prog) W 32 9 5 ⟨g, 0, none⟩ c l Tryd.underlying32 Tryd.underlying5 Tryd.underlying9 (fun j hj => by
    rw [addr_plain, Nat.zero_add, h.cellAt j (by omega)]
    simp [bcells, List.getElem?_eq_getElem hj])

def fillRow (m k : Nat) : List UInt8 := List.replicate k 107 ++ List.replicate (m - k) 0
theorem fill_zero (m : Nat) : fillRow m 0 = List.replicate m 0 := by simp [fillRow]
theorem fill_all (m : Nat) : fillRow m m = List.replicate m 107 := by simp [fillRow]
theorem fill_len {m k : Nat} (h : k ≤ m) : (fillRow m k).length = m := by simp [fillRow]; omega
theorem fill_set {m k : Nat} (h : k < m) : (fillRow m k).set k 107 = fillRow m (k + 1) := by
  unfold fillRow
  rw [List.set_append_right _ _ (by simp), List.length_replicate, Nat.sub_self, show m - k = (m - (k + 1)) + 1 by omega, List.replicate_succ, List.set_cons_zero, List.replicate_succ' (n := k)]
  simp
theorem bcells_set (l : List UInt8) (k : Nat) (c : UInt8) : (bcells l).set k (.int .u8 (c.toNat : Int)) = bcells (l.set k c) := by simp [bcells, List.map_set]

theorem toList_madeCells_one' (m : Nat) : (madeCells (Value.int .u8 0).cells (m * 1)).toList = bcells (List.replicate m 0) := by
  rw [Nat.mul_one, show (Value.int .u8 0).cells = #[Value.int .u8 0] from rfl, toList_madeCells_one]
  simp [bcells]
theorem below_of_grown {A B : World} (h : A.grownBy B none) : Below A.heap.size A B := (Below.refl _ A).grown h (Nat.le_refl _) (fun j e => by cases e)

theorem set_facts {W : World} {base g : Nat} {l : List UInt8} {m r : Nat} (h : W.ownsRow base 5 1 (.slice (some ⟨g, 0, none⟩) m m) m (bcells l)) (hm : m = l.length) (hr : r < l.length) (c : UInt8) (v : Int) (hv : v = (c.toNat : Int)) :
    (∃ x : Int, W.cell? ⟨g, r, none⟩ = some (.int .u8 x)) ∧ W.frozen? ⟨g, r, none⟩ = false ∧
      (convert 32 9 (.slice (some ⟨g, 0, none⟩) m m)).run Tryd.prog (W.setCell ⟨g, r, none⟩ (.int .u8 v)) = .ok (.string (S (l.set r c))) (W.setCell ⟨g, r, none⟩ (.int .u8 v)) := by
  subst hm hv
  refine ⟨⟨(l[r].toNat : Int), ?_⟩, h.frozenAt r, ?_⟩
  · rw [h.cellAt r (by omega)]; simp [bcells, List.getElem?_eq_getElem hr]
  · have hst := (h.stored r (.int .u8 (c.toNat : Int))).1
    rw [bcells_set] at hst
    have := conv_row (l := l.set r c) (by rw [List.length_set]; exact hst)
    rw [List.length_set] at this
    exact this

set_option maxHeartbeats 2000000 in
set_option maxRecDepth 100000 in
theorem long_walk (n : Int) (bad : Nat) (hbad : bad < 256) (at0 : Int) (m : Nat) (hm : m < 300)
    (hn : (n < 0 ∧ (n + 1).tmod 300 = -(m : Int)) ∨ (¬ n < 0 ∧ n.tmod 300 = (m : Int)))
    (cb : UInt8) (cv : Int) (hcb : cv = (cb.toNat : Int)) (hcbad : cb.toNat < 33 ∨ cb.toNat = 127) (hc34 : ((bad : Int) % 34 = 33 ∧ cv = 127) ∨ ((bad : Int) % 34 = cv ∧ (cv == 33) = false))
    (r : Nat) (hr0 : 0 < m → r < m) (hat0 : 0 < m → (at0 < 0 ∧ (at0 + 1).tmod (m : Int) = -(r : Int)) ∨ (¬ at0 < 0 ∧ at0.tmod (m : Int) = (r : Int))) (a0 : -9223372036854775808 ≤ at0) (a1 : at0 ≤ 9223372036854775807)
    (n0 : -9223372036854775808 ≤ n) (n1 : n ≤ 9223372036854775807) (w : World) :
    Calls Tryd.prog 8 #[.int .i64 n, .int .u8 bad, .int .i64 at0] w fun e w' => e = .returned (.bool true) ∧ Below w.heap.size w w' := by
  obtain ⟨i0, hi, hz0, hz1, hz2⟩ := info_parts infoByte
  go_enter Tryd.func8, Tryd.ntmps8
  go_wp2_with fail
  refine (shown_any _).mono ?_
  rintro e w1 ⟨rfl, b1⟩
  rcases hn with ⟨s0, s1⟩ | ⟨s0, s1⟩
  all_goals
    go_wp2_with (at_make; refine wpList_make_full _ rfl _ _ 32 rfl w.heap.size 5 i0 (.int .u8 0) 1 Tryd.underlying32 hi hz0 hz1 .i64 .i64 _ _ m rfl rfl (by omega) (by omega) (by rw [hz2]; omega) (by unfold maxLen; omega) b1.size ?_; intro w2 hown hgrow)
    have hown1 : w2.ownsRow w.heap.size 5 1 (.slice (some ⟨w1.heap.size, 0, none⟩) m m) m (bcells (fillRow m 0)) := by
      rw [fill_zero]; rw [toList_madeCells_one'] at hown; exact hown
    have b2 : Below w.heap.size w w2 := Below.then b1 (below_of_grown hgrow)
    have hg0 : w.heap.size ≤ w1.heap.size := b1.size
    generalize w1.heap.size = g at hown1 hg0 ⊢
    clear hown hgrow b1 s1
    go_loopw [9] (fun i wr => ∃ k : Nat, k ≤ m ∧ i = .int .i64 k ∧ wr.ownsRow w.heap.size 5 1 (.slice (some ⟨g, 0, none⟩) m m) m (bcells (fillRow m k)) ∧ Below w.heap.size w wr) (fun i _ => m - (intOf i).toNat)
    case atStart => exact ⟨0, by omega, rfl, hown1, b2⟩
    case round =>
      obtain ⟨k, hk, rfl, ho, hb⟩ := hrel
      clear hown1 b2
      by_cases hlt : k < m
      · have hst := ho.stored k (.int .u8 107)
        have hfr := ho.frozenAt k
        have hce : ∃ v, wr.cell? ⟨g, k, none⟩ = some (.int .u8 v) := by
          rw [ho.cellAt k (by omega)]
          have hl : k < (fillRow m k).length := by rw [fill_len hk]; exact hlt
          exact ⟨((fillRow m k)[k].toNat : Int), by simp [bcells, List.getElem?_eq_getElem hl]⟩
        obtain ⟨v, hce⟩ := hce
        have ho' := hst.1
        rw [show (Value.int IntKind.u8 107) = .int .u8 ((107 : UInt8).toNat : Int) from rfl, bcells_set, fill_set hlt] at ho'
        have hb' : Below w.heap.size w (wr.setCell ⟨g, k, none⟩ (.int .u8 107)) := hb.setCell (p := ⟨g, k, none⟩) hg0 _
        clear hst ho hb
        go_wp2_with fail
        go_roundw
        case rel => exact ⟨k + 1, by omega, by go_num, ho', hb'⟩
        case measure => simp [intOf] <;> omega
      · obtain rfl : k = m := by omega
        rw [fill_all] at ho
        have hcv := conv_row (l := List.replicate k 107) (by rw [List.length_replicate]; exact ho)
        rw [List.length_replicate] at hcv
        have hkey := fun w => key_any (S (List.replicate k 107)) w
        rw [S_list, keyB_rep] at hkey
        by_cases h0 : k = 0
        · subst h0
          rw [show (decide (1 ≤ 0) && decide (0 ≤ 250)) = false from rfl] at hkey
          generalize S (List.replicate 0 107) = X at hcv hkey
          go_wp2_with fail
          refine (hkey _).mono ?_
          rintro e w3 ⟨rfl, rfl⟩
          go_wp2_with fail
          go_ret
          exact ⟨rfl, hb⟩
        · have hr := hr0 (by omega)
          have hat := hat0 (by omega)
          clear hat0
          obtain ⟨⟨x0, hce⟩, hfr, hcv2⟩ := set_facts ho (by rw [List.length_replicate]) (by rw [List.length_replicate]; exact hr) cb cv hcb
          have hkey2 := fun w => key_any (S ((List.replicate k 107).set r cb)) w
          rw [S_list, keyB_bad (l := (List.replicate k 107).set r cb) (c := cb) (List.mem_set (by rw [List.length_replicate]; exact hr) _) hcbad] at hkey2
          have hb' : Below w.heap.size w (wr.setCell ⟨g, r, none⟩ (.int .u8 cv)) := hb.setCell (p := ⟨g, r, none⟩) hg0 _
          generalize S ((List.replicate k 107).set r cb) = Y at hcv2 hkey2
          generalize S (List.replicate k 107) = X at hcv hkey
          have hkk : ((k : Int) ≤ 250 ∧ (decide (1 ≤ k) && decide (k ≤ 250)) = true) ∨ (¬ (k : Int) ≤ 250 ∧ (decide (1 ≤ k) && decide (k ≤ 250)) = false) := by
            by_cases h : k ≤ 250
            · exact .inl ⟨by omega, by simp; omega⟩
            · exact .inr ⟨by omega, by simp; omega⟩
          generalize (decide (1 ≤ k) && decide (k ≤ 250)) = fl at hkk hkey
          have hkpos : (1 : Int) ≤ (k : Int) := by omega
          have hkn : ¬ (k : Int) = 0 := by omega
          clear ho hb hcbad hcb h0
          rcases hkk with ⟨i250, rfl⟩ | ⟨i250, rfl⟩
          all_goals
            go_wp2_with fail
            refine (hkey _).mono ?_
            rintro e w3 ⟨rfl, rfl⟩
            rcases hat with ⟨t0, t1⟩ | ⟨t0, t1⟩
            all_goals
              rcases hc34 with ⟨q1, rfl⟩ | ⟨q1, q2⟩
              all_goals
                go_wp2_with fail
                refine (hkey2 _).mono ?_
                rintro e w4 ⟨rfl, rfl⟩
                go_wp2_with fail
                go_ret
                exact ⟨rfl, hb'⟩

theorem fold_mod (n : Int) (c : Nat) : ∃ m : Nat, (0 < c → m < c) ∧ ((n < 0 ∧ (n + 1).tmod (c : Int) = -(m : Int)) ∨ (¬ n < 0 ∧ n.tmod (c : Int) = (m : Int))) := by
  by_cases h : n < 0
  · obtain ⟨j, hj⟩ : ∃ j : Nat, n = -(j : Int) - 1 := ⟨(-(n + 1)).toNat, by omega⟩
    refine ⟨j % c, fun hc => Nat.mod_lt _ hc, .inl ⟨h, ?_⟩⟩
    subst hj
    rw [show -(j : Int) - 1 + 1 = -(j : Int) from by omega, Int.neg_tmod, Int.tmod_eq_emod_of_nonneg (by omega)]; rfl
  · obtain ⟨j, hj⟩ : ∃ j : Nat, n = (j : Int) := ⟨n.toNat, by omega⟩
    refine ⟨j % c, fun hc => Nat.mod_lt _ hc, .inr ⟨h, ?_⟩⟩
    subst hj
    rw [Int.tmod_eq_emod_of_nonneg (by omega)]; rfl

theorem long_law (n : Int) (n0 : -9223372036854775808 ≤ n) (n1 : n ≤ 9223372036854775807) (bad : Nat) (hbad : bad < 256) (at0 : Int) (a0 : -9223372036854775808 ≤ at0) (a1 : at0 ≤ 9223372036854775807) (w : World) :
    Calls Tryd.prog 8 #[.int .i64 n, .int .u8 bad, .int .i64 at0] w fun e w' => e = .returned (.bool true) ∧ Below w.heap.size w w' := by
  obtain ⟨m, hm, hn⟩ := fold_mod n 300
  obtain ⟨r, hr, hat⟩ := fold_mod at0 m
  by_cases h : bad % 34 = 33
  · exact long_walk n bad hbad at0 m (hm (by omega)) hn 127 127 rfl (.inr rfl) (.inl ⟨by omega, rfl⟩) r hr (fun _ => hat) a0 a1 n0 n1 w
  · have h34 : bad % 34 < 34 := Nat.mod_lt _ (by omega)
    have hq : (UInt8.ofNat (bad % 34)).toNat = bad % 34 := by rw [UInt8.toNat_ofNat']; exact Nat.mod_eq_of_lt (by omega)
    exact long_walk n bad hbad at0 m (hm (by omega)) hn (UInt8.ofNat (bad % 34)) ((bad % 34 : Nat) : Int) (by rw [hq]) (.inl (by rw [hq]; omega)) (.inr ⟨by omega, by simp; omega⟩) r hr (fun _ => hat) a0 a1 n0 n1 w
end Go.Proofs.YtbaohkfaeholaaaDoor

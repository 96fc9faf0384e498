/-
  The contracts of the document's own table's keys, Bucket and Keys at this program, and of Same of two rows of keys. Conditions: the table lies in memory, there are at most 2^30 entries.
-/
import Derived.Test.YtfbkfbghejeknaaChainRefDel
namespace Go.Proofs.Ytfbkfbghejeknaa
open Go Go.Shelf Go.RowKit Go.Lib

theorem kc_app (a b : List ByteArray) : kc (a ++ b) = kc a ++ kc b := by simp [kc]
theorem kc_len (a : List ByteArray) : (kc a).length = a.length := by simp [kc]
set_option maxRecDepth 100000 in
set_option maxHeartbeats 1000000 in
theorem ref_keys {base : Nat} {w : World} {v lv : Value} {xs : List ByteArray} {l : List En} (hw : base ≤ w.heap.size) (hrow : w.ownsRow base 9 1 v xs.length (kc xs)) (hb : Bkt w lv l) (hlb : ∀ b, lv.ownBlock = some b → b < base) (hN : xs.length + l.length ≤ 1073741824) :
    Calls Try.prog 33 #[v, lv] w fun e w' => ∃ v', e = .returned v' ∧ w'.ownsRow base 9 1 v' (xs ++ l.map En.k).length (kc (xs ++ l.map En.k)) ∧ Below base w w' := by
  obtain ⟨i0, hii, hz0, hz1, hz2⟩ := info_parts infoString
  obtain ⟨a0, c0, rfl⟩ := row_form hrow
  obtain ⟨a1, c1, rfl⟩ := hb.form
  have HB := hid hb
  have HL := hid hlb
  clear hb hlb
  go_enter Try.func33, Try.ntmps33
  go_wp2_with fail
  go_loopw [0, 5] (fun v p wr => ∃ i : Nat, p = .int .i64 i ∧ i ≤ l.length ∧ wr.ownsRow base 9 1 v (xs.length + i) (kc (xs ++ (l.take i).map En.k)) ∧ Below base w wr) (fun _ p _ => l.length - (RowKit.intOf p).toNat)
  case atStart => exact ⟨0, rfl, Nat.zero_le _, by simpa using hrow, Below.refl _ _⟩
  case round =>
    obtain ⟨i, rfl, hi, hrow, hb⟩ := hrel
    obtain ⟨av, cv, rfl⟩ := row_form hrow
    by_cases hlt : i < l.length
    · obtain ⟨e, he⟩ : ∃ e, l[i]? = some e := ⟨_, List.getElem?_eq_getElem hlt⟩
      obtain ⟨g, cg, hg⟩ := HB.out.some (by omega)
      obtain ⟨rfl, rfl⟩ : a1 = some ⟨g, 0, none⟩ ∧ c1 = cg := by simpa using hg
      have hcl := World.ownsRow.cellAt HB.out (i * 2) (by omega)
      rw [(ec_at he).1] at hcl
      have hgb : g < base := HL.out g (by simp [Value.ownBlock])
      have hcw := (hb.cell (p := ⟨g, i * 2, none⟩) hgb).trans hcl
      have hsn : xs ++ (l.take (i + 1)).map En.k = (xs ++ (l.take i).map En.k) ++ [e.k] := by rw [List.take_add_one, he]; simp
      have HS := hid hsn
      have hsz := hb.size
      clear hcl he hsn hg
      go_wp2_with (at_builtin; refine wpList_append_own _ rfl _ _ 36 rfl base 9 i0 (.string ByteArray.empty) 1 16 Try.underlying36 hii hz0 hz1 hz2 rfl (by decide) _ _ _ rfl (hrow.alloc _) ⟨wr.heap.size, 0, none⟩ 1 1 [.string e.k] rfl rfl (one_cell _ _ _) (fun u hu => by rw [List.mem_singleton] at hu; rw [hu]; rfl) (by unfold maxLen; omega) (by omega) (by simp; omega) ?_; intro v' w5 hown5 hgrow5 _)
      have hb5 := hb.trans (own_grown hrow (by omega) hgrow5)
      go_roundw
      case rel => exact ⟨i + 1, by go_num, by omega, by rw [HS.out, kc_app]; exact hown5, hb5⟩
      case measure => simp [RowKit.intOf] <;> omega
    · obtain rfl : i = l.length := by omega
      rw [List.take_of_length_le (Nat.le_refl _)] at hrow
      have hrow' : wr.ownsRow base 9 1 (.slice av (xs.length + l.length) cv) (xs ++ l.map En.k).length (kc (xs ++ l.map En.k)) := by rw [List.length_append, List.length_map]; exact hrow
      clear hrow
      go_wp2_with fail
      go_ret
      exact ⟨_, rfl, hrow', hb⟩

theorem rows_le {s : Tb} (hN : s.ents.length ≤ 1073741824) {l : List En} (hl : l ∈ s.old ++ s.new) : l.length ≤ 1073741824 :=
  Nat.le_trans ((List.sublist_flatten_of_mem hl).length_le) hN
set_option maxRecDepth 100000 in
set_option maxHeartbeats 1000000 in
theorem ref_see {P : Nat} {r : Rf} {s : Tb} {w : World} (h : RM P r s w) (m : Mid s) (hN : s.ents.length ≤ 1073741824) (i : Int) (hi1 : -9223372036854775808 ≤ i) (hi2 : i ≤ 9223372036854775807) :
    Calls Try.prog 30 #[.pointer (some ⟨P, 0, none⟩), .int .i64 i] w fun e w' => ∃ v, e = .returned v ∧ w'.ownsRow w.heap.size 9 1 v ((if 0 ≤ i then s.new[i.toNat]?.getD [] else []).map En.k).length (kc ((if 0 ≤ i then s.new[i.toNat]?.getD [] else []).map En.k)) ∧ Below w.heap.size w w' := by
  have c4 := h.c4 m
  have l1 := m.len_le.1
  by_cases h0 : i < 0
  · rw [if_neg (by omega)]
    clear h m
    go_enter Try.func30, Try.ntmps30
    go_wp2_with fail
    go_ret
    exact ⟨.slice none 0 0, rfl, World.ownsRow_nil _ _ _ _, Below.refl _ _⟩
  · rw [if_pos (by omega)]
    obtain ⟨j, rfl⟩ : ∃ j : Nat, i = j := ⟨i.toNat, by omega⟩
    have h0' : (0 : Int) ≤ (j : Int) := by omega
    rw [show ((j : Int)).toNat = j from rfl]
    by_cases hj : j < s.new.length
    · obtain ⟨l, hl⟩ : ∃ l, s.new[j]? = some l := ⟨_, List.getElem?_eq_getElem hj⟩
      obtain ⟨v, hv⟩ : ∃ v, r.nv[j]? = some v := ⟨_, List.getElem?_eq_getElem (by rw [h.nb.1]; exact hj)⟩
      have hlen := rows_le hN (List.mem_append_right _ (List.mem_of_getElem? hl))
      have hB := h.nb.2 j v l hv hl
      have hc := ref_keys (base := w.heap.size) (Nat.le_refl _) (xs := []) (World.ownsRow_nil w w.heap.size 9 1) hB hB.lt (by simpa using hlen)
      obtain ⟨a, c, rfl⟩ := hB.form
      have hcell := h.new.cell hv
      rw [hl, Option.getD_some]
      have hj' : (j : Int) < (s.new.length : Int) := by omega
      rw [List.nil_append] at hc
      generalize l.map En.k = xs at *
      generalize s.new.length = L at *
      generalize l.length = LL at *
      have HC := hid hc
      clear h m hl hv hc hN hB hlen
      go_enter Try.func30, Try.ntmps30
      go_wp2_with fail
      refine HC.out.mono ?_
      rintro e w1 ⟨v, rfl, o1, b1⟩
      go_wp2_with fail
      go_ret
      exact ⟨v, rfl, o1, b1⟩
    · have hj' : (s.new.length : Int) ≤ (j : Int) := by omega
      rw [List.getElem?_eq_none (by omega)]
      generalize s.new.length = L at *
      clear h m hN
      go_enter Try.func30, Try.ntmps30
      go_wp2_with fail
      go_ret
      exact ⟨.slice none 0 0, rfl, World.ownsRow_nil _ _ _ _, Below.refl _ _⟩

theorem take_keys {L : List (List En)} {i : Nat} {l : List En} (h : L[i]? = some l) : (L.take (i + 1)).flatten.map En.k = (L.take i).flatten.map En.k ++ l.map En.k := by
  rw [List.take_add_one, h]; simp
theorem take_le (L : List (List En)) (i : Nat) : (L.take i).flatten.length ≤ L.flatten.length := by
  rw [show L.flatten = (L.take i).flatten ++ (L.drop i).flatten by rw [← List.flatten_append, List.take_append_drop], List.length_append]; omega
set_option maxRecDepth 100000 in
set_option maxHeartbeats 1000000 in
theorem ref_keysAll {P : Nat} {r : Rf} {s : Tb} {w : World} (h : RM P r s w) (m : Mid s) (hN : s.ents.length ≤ 1073741824) :
    Calls Try.prog 18 #[.pointer (some ⟨P, 0, none⟩)] w fun e w' => ∃ v, e = .returned v ∧ w'.ownsRow w.heap.size 9 1 v (s.ents.map En.k).length (kc (s.ents.map En.k)) ∧ Below w.heap.size w w' := by
  have c3 : ∃ a, Hid (s.old ≠ [] → a = some ⟨r.O, 0, none⟩) ∧ w.cell? ⟨P, 3, none⟩ = some (.slice a s.old.length s.old.length) := by
    by_cases hn : s.old = []
    · refine ⟨none, hid (fun e => (e hn).elim), ?_⟩
      have := h.head.cell (i := 3) (v := slv r.O r.ov) rfl
      have he : r.ov = [] := (len_nil2 h.ob.1).2 hn
      rw [he, slv_nil] at this
      rw [this, hn]; rfl
    · exact ⟨_, hid (fun _ => rfl), h.c3 hn⟩
  obtain ⟨ao, hao, c3⟩ := c3
  have c4 := h.c4 m
  have hPl := h.head.lt
  have l1 := m.len_le.1
  have l2 := m.len_le.2
  have hsum : s.old.flatten.length + s.new.flatten.length ≤ 1073741824 := by
    have : s.ents = s.old.flatten ++ s.new.flatten := List.flatten_append
    rw [this, List.length_append] at hN; exact hN
  have H := hid h
  clear h m hN
  go_enter Try.func18, Try.ntmps18
  go_wp2_with fail
  go_loopw [3, 4] (fun v p wr => ∃ i : Nat, p = .int .i64 i ∧ i ≤ s.old.length ∧ wr.ownsRow w.heap.size 9 1 v ((s.old.take i).flatten.map En.k).length (kc ((s.old.take i).flatten.map En.k)) ∧ Below w.heap.size w wr) (fun _ p _ => s.old.length - (RowKit.intOf p).toNat)
  case atStart => exact ⟨0, rfl, Nat.zero_le _, by simpa [kc] using World.ownsRow_nil w w.heap.size 9 1, Below.refl _ _⟩
  case round =>
    obtain ⟨i, rfl, hi, hrow, hbw⟩ := hrel
    have d3 := (hbw.cell (p := ⟨P, 3, none⟩) hPl).trans c3
    by_cases hlt : i < s.old.length
    · obtain ⟨l, hl⟩ : ∃ l, s.old[i]? = some l := ⟨_, List.getElem?_eq_getElem hlt⟩
      obtain ⟨v, hv⟩ : ∃ v, r.ov[i]? = some v := ⟨_, List.getElem?_eq_getElem (by rw [H.out.ob.1]; exact hlt)⟩
      have hne : s.old ≠ [] := fun e => by rw [e] at hlt; cases hlt
      have hB0 := H.out.ob.2 i v l hv hl
      have hB := hB0.only (Below.only (D := fun _ => False) hbw) (fun _ _ => id)
      have htk := take_keys hl
      have hle := take_le s.old (i + 1)
      have hl3 := congrArg List.length htk
      rw [List.length_map, List.length_append, List.length_map, List.length_map] at hl3
      have hc := ref_keys (base := w.heap.size) hbw.size hrow hB hB0.lt (by rw [List.length_map]; omega)
      have HOb := H.out.old hne
      have hcell := (hbw.cell (p := ⟨r.O, i, none⟩) HOb.lt).trans (HOb.cell hv)
      have hao' := hao.out hne
      obtain ⟨a, c, rfl⟩ := hB0.form
      obtain ⟨av, cv, rfl⟩ := row_form2 hrow
      rw [← htk] at hc
      obtain ⟨ys, hys⟩ : ∃ ys, ys = List.map En.k (List.take (i + 1) s.old).flatten := ⟨_, rfl⟩
      rw [← hys] at hc
      have HY := hid hys
      clear hys
      have HC := hid hc
      have HA := hid hao'
      clear hc hrow hB hB0 htk hle hl3 hv hl HOb hne c3 c4
      generalize ((s.old.take i).flatten.map En.k).length = n at *
      generalize l.length = LL at *
      cases HA.out
      generalize hLo : s.old.length = Lo at *
      go_wp2_with fail
      refine HC.out.mono ?_
      rintro e w1 ⟨v1, rfl, o1, b1⟩
      obtain ⟨av1, cv1, rfl⟩ := row_form2 o1
      go_wp2_with fail
      go_roundw
      case rel => exact ⟨i + 1, by go_num, by omega, by rw [← HY.out]; exact o1, hbw.trans b1⟩
      case measure => simp [RowKit.intOf] <;> omega
    · obtain rfl : i = s.old.length := by omega
      rw [List.take_length] at hrow
      clear c3 hao
      have hLoo : s.old.flatten.length ≤ 1073741824 := by omega
      obtain ⟨av, cv, rfl⟩ := row_form2 hrow
      generalize hLo : s.old.length = Lo at *
      go_wp2_with fail
      have hrow2 : wr.ownsRow w.heap.size 9 1 (.slice av (s.old.flatten.map En.k).length cv) (s.old.flatten.map En.k ++ (s.new.take 0).flatten.map En.k).length (kc (s.old.flatten.map En.k ++ (s.new.take 0).flatten.map En.k)) := by simpa using hrow
      go_loopw [3, 5] (fun v p wr => ∃ i : Nat, p = .int .i64 i ∧ i ≤ s.new.length ∧ wr.ownsRow w.heap.size 9 1 v (s.old.flatten.map En.k ++ (s.new.take i).flatten.map En.k).length (kc (s.old.flatten.map En.k ++ (s.new.take i).flatten.map En.k)) ∧ Below w.heap.size w wr) (fun _ p _ => s.new.length - (RowKit.intOf p).toNat)
      case atStart => exact ⟨0, rfl, Nat.zero_le _, hrow2, hbw⟩
      case round =>
        clear hrow hrow2 hbw d3
        obtain ⟨i, rfl, hi, hrow, hbw⟩ := hrel
        have d4 := (hbw.cell (p := ⟨P, 4, none⟩) hPl).trans c4
        by_cases hlt : i < s.new.length
        · obtain ⟨l, hl⟩ : ∃ l, s.new[i]? = some l := ⟨_, List.getElem?_eq_getElem hlt⟩
          obtain ⟨v, hv⟩ : ∃ v, r.nv[i]? = some v := ⟨_, List.getElem?_eq_getElem (by rw [H.out.nb.1]; exact hlt)⟩
          have hB0 := H.out.nb.2 i v l hv hl
          have hB := hB0.only (Below.only (D := fun _ => False) hbw) (fun _ _ => id)
          have htk := take_keys hl
          have hle := take_le s.new (i + 1)
          have hl3 := congrArg List.length htk
          rw [List.length_map, List.length_append, List.length_map, List.length_map] at hl3
          have hc := ref_keys (base := w.heap.size) hbw.size hrow hB hB0.lt (by rw [List.length_append, List.length_map, List.length_map]; omega)
          have HOb := H.out.new
          have hcell := (hbw.cell (p := ⟨r.N, i, none⟩) HOb.lt).trans (HOb.cell hv)
          obtain ⟨a, c, rfl⟩ := hB0.form
          obtain ⟨av, cv, rfl⟩ := row_form2 hrow
          rw [List.append_assoc, ← htk] at hc
          obtain ⟨ys, hys⟩ : ∃ ys, ys = s.old.flatten.map En.k ++ List.map En.k (List.take (i + 1) s.new).flatten := ⟨_, rfl⟩
          rw [← hys] at hc
          have HY := hid hys
          clear hys
          have HC := hid hc
          clear hc hrow hB hB0 htk hle hl3 hv hl HOb c4
          generalize (s.old.flatten.map En.k ++ (s.new.take i).flatten.map En.k).length = n at *
          generalize l.length = LL at *
          generalize hLn : s.new.length = Ln at *
          go_wp2_with fail
          refine HC.out.mono ?_
          rintro e w1 ⟨v1, rfl, o1, b1⟩
          obtain ⟨av1, cv1, rfl⟩ := row_form2 o1
          go_wp2_with fail
          go_roundw
          case rel => exact ⟨i + 1, by go_num, by omega, by rw [← HY.out]; exact o1, hbw.trans b1⟩
          case measure => simp [RowKit.intOf] <;> omega
        · obtain rfl : i = s.new.length := by omega
          rw [List.take_length] at hrow
          have hfin : s.old.flatten.map En.k ++ s.new.flatten.map En.k = s.ents.map En.k := by
            rw [← List.map_append, ← List.flatten_append]; rfl
          rw [hfin] at hrow
          obtain ⟨av, cv, rfl⟩ := row_form2 hrow
          clear c4
          generalize hLn : s.new.length = Ln at *
          go_wp2_with fail
          go_ret
          exact ⟨_, rfl, hrow, hbw⟩

/-- A row of texts of a call's own, as texts. -/
theorem strs_of_row {w : World} {base : Nat} {v : Value} {n : Nat} {xs : List ByteArray} (h : w.ownsRow base 9 1 v n (kc xs)) (hn : n = xs.length) : ∃ a c, v = .slice a n c ∧ Strs w a n xs := by
  rcases h.2 with ⟨rfl, h2⟩ | ⟨g, cap, cur, rfl, -⟩
  · have : xs = [] := len0.1 (by omega)
    subst this
    exact ⟨none, 0, by rw [hn]; rfl, hn.symm, fun j x hj => by simp at hj⟩
  · refine ⟨_, cap, rfl, hn.symm, fun j x hj => ⟨g, 0, rfl, ?_⟩⟩
    have hj' : j < xs.length := (List.getElem?_eq_some_iff.1 hj).1
    have hc := World.ownsRow.cellAt h j (by omega)
    have hk : (kc xs)[j]? = some (.string x) := by simp [kc, hj]
    rw [hk] at hc
    rw [Nat.zero_add]
    exact ⟨cell_lt hc, hc⟩
set_option maxRecDepth 100000 in
set_option maxHeartbeats 1000000 in
theorem same_keys (a b : Option Addr) (n c d : Nat) (xs : List ByteArray) (hn : n < 9223372036854775807) (w : World) (ha : Strs w a n xs) (hb : Strs w b n xs) :
    Calls Try.prog 16 #[.slice a n c, .slice b n d] w fun e w' => e = .returned (.bool true) ∧ Below w.heap.size w w' := by
  have HA := hid ha
  have HB := hid hb
  have hl := ha.1
  clear ha hb
  go_enter Try.func16, Try.ntmps16
  go_wp2_with fail
  go_loopw [5] (fun i wr => ∃ k : Nat, k ≤ n ∧ i = .int .i64 k ∧ Below w.heap.size w wr) (fun i _ => n - (RowKit.intOf i).toNat)
  case atStart => exact ⟨0, by omega, rfl, Below.refl _ _⟩
  case round =>
    obtain ⟨k, hk, rfl, hbw⟩ := hrel
    by_cases hlt : k < n
    · obtain ⟨x, hx⟩ : ∃ x, xs[k]? = some x := ⟨_, List.getElem?_eq_getElem (by omega)⟩
      obtain ⟨ba, oa, rfl, l1, h1⟩ := HA.out.2 k x hx
      obtain ⟨bb, ob, rfl, l2, h2⟩ := HB.out.2 k x hx
      have g1 := (hbw.cell (p := ⟨ba, oa + k, none⟩) l1).trans h1
      have g2 := (hbw.cell (p := ⟨bb, ob + k, none⟩) l2).trans h2
      clear HA HB hx h1 h2 l1 l2
      go_wp2_with fail
      go_region
      go_wp2_with fail
      go_roundw
      case rel => exact ⟨k + 1, by omega, by go_num, hbw.drew⟩
      case measure => simp [RowKit.intOf] <;> omega
    · clear HA HB
      go_wp2_with fail
      go_ret
      exact ⟨rfl, hbw⟩
end Go.Proofs.Ytfbkfbghejeknaa

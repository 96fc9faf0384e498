/-
  slices.DeleteFunc over a row of chunks at this program, those of one page being struck: the row that stays. No conditions but the row's length.
-/
import Derived.Test.YtldfpacdlephcaaSlabGrow
import Derived.Lib.SliceRun
import Derived.Laws.IdiomCopy
namespace Go.Proofs.Ytldfpacdlephcaa
open Go Go.RowKit Go.Lib

/-- Is the chunk another page's? -/
def other (p x : Nat) : Bool := x / 4096 != p
def keep (p : Nat) (l : List Nat) : List Nat := l.filter (other p)

set_option maxRecDepth 100000 in
theorem delp_any (x p B : Nat) (w : World) (hB : w.cell? ⟨B, 0, none⟩ = some (.int .i64 (p : Int))) (hx : x ≤ 9223372036854775807) :
    Calls Try.prog 55 #[.int .i64 x, .pointer (some ⟨B, 0, none⟩)] w fun e w' => e = .returned (.bool (!other p x)) ∧ w = w' := by
  have e1 : (x : Int) / 4096 = ((x / 4096 : Nat) : Int) := by omega
  obtain ⟨q, hq⟩ : ∃ q, q = x / 4096 := ⟨_, rfl⟩
  unfold other
  rw [← hq] at e1 ⊢
  by_cases h : q = p
  · have hd : (!(q != p)) = true := by simp [h]
    have hq1 : ((q : Int) == (p : Int)) = true := by simp [h]
    subst h
    rw [hd]
    clear hd hq hq1
    go_enter Try.func55, Try.ntmps55
    go_wp2
    go_ret
    exact ⟨ret_bool (by simp), rfl⟩
  · have hd : (!(q != p)) = false := by simp [h]
    have hq1 : ((q : Int) == (p : Int)) = false := beq_eq_false_iff_ne.2 (by omega)
    rw [hd]
    clear hd hq
    go_enter Try.func55, Try.ntmps55
    go_wp2
    go_ret
    exact ⟨ret_bool rfl, rfl⟩

/-- The first place of a chunk of page p; -1, if there is none. -/
def fp (p : Nat) : List Nat → Nat → Int
  | [], _ => -1
  | y :: ys, k => if other p y = true then fp p ys (k + 1) else (k : Int)
theorem fp_hit {p : Nat} {l : List Nat} {k x : Nat} (h : l[k]? = some x) (he : other p x = false) (j : Nat) : fp p (l.drop k) j = (j : Int) := by
  obtain ⟨hk, rfl⟩ := List.getElem?_eq_some_iff.1 h
  rw [List.drop_eq_getElem_cons hk, fp, he, if_neg (by decide)]
theorem fp_miss {p : Nat} {l : List Nat} {k x : Nat} (h : l[k]? = some x) (he : other p x = true) (j : Nat) : fp p (l.drop k) j = fp p (l.drop (k + 1)) (j + 1) := by
  obtain ⟨hk, rfl⟩ := List.getElem?_eq_some_iff.1 h
  rw [List.drop_eq_getElem_cons hk, fp, he, if_pos rfl]
theorem fp_end {p : Nat} {l : List Nat} {k : Nat} (h : l.length ≤ k) (j : Nat) : fp p (l.drop k) j = -1 := by rw [List.drop_eq_nil_of_le h, fp]
theorem fp_facts (p : Nat) : ∀ (l : List Nat) (j : Nat), (fp p l j = -1 ∧ ∀ x ∈ l, other p x = true) ∨ ∃ (k x : Nat), fp p l j = ((j + k : Nat) : Int) ∧ l[k]? = some x ∧ other p x = false ∧ ∀ y ∈ l.take k, other p y = true
  | [], j => .inl ⟨rfl, fun x h => by cases h⟩
  | y :: ys, j => by
    cases hy : other p y with
    | false => exact .inr ⟨0, y, by rw [fp, hy, if_neg (by decide)]; rfl, rfl, hy, fun z hz => by simp at hz⟩
    | true =>
      rcases fp_facts p ys (j + 1) with ⟨h1, h2⟩ | ⟨k, x, h1, h2, h3, h4⟩
      · refine .inl ⟨by rw [fp, hy, if_pos rfl]; exact h1, fun x hx => ?_⟩
        rcases List.mem_cons.1 hx with rfl | hx
        · exact hy
        · exact h2 x hx
      · refine .inr ⟨k + 1, x, by rw [fp, hy, if_pos rfl, h1]; congr 1; omega, by simpa using h2, h3, fun z hz => ?_⟩
        rw [List.take_succ_cons] at hz
        rcases List.mem_cons.1 hz with rfl | hz
        · exact hy
        · exact h4 z hz

set_option maxHeartbeats 1000000 in
set_option maxRecDepth 100000 in
theorem idxf_any (a : Option Addr) (c N : Nat) (l : List Nat) (hN : l.length = N) (p B : Nat) (w : World) (hl : N ≤ 4200000) (hb : ∀ x ∈ l, x ≤ 9223372036854775807) (hA : ∀ (j x : Nat), l[j]? = some x → ∃ g, a = some ⟨g, 0, none⟩ ∧ w.cell? ⟨g, j, none⟩ = some (.int .i64 (x : Int))) (hB : w.cell? ⟨B, 0, none⟩ = some (.int .i64 (p : Int))) :
    Calls Try.prog 74 #[.slice a N c, .func (.func 55) #[] #[.pointer (some ⟨B, 0, none⟩)]] w fun e w' => e = .returned (.int .i64 (fp p l 0)) ∧ w = w' := by
  have hp := hid fun x (hx : x ≤ 9223372036854775807) => delp_any x p B w hB hx
  have HA := hid hA
  have HB := hid hb
  have HN := hid hN
  clear hB hA hb
  obtain ⟨r, hr⟩ : ∃ r, r = fp p l 0 := ⟨_, rfl⟩
  rw [← hr]
  have HR : Hid (r = fp p (l.drop 0) 0) := hid hr
  clear hr hN
  go_enter Try.func74, Try.ntmps74
  go_wp2_with fail
  go_loop [5, 8] (fun _ i => ∃ k : Nat, k ≤ N ∧ i = .int .i64 k ∧ Hid (r = fp p (l.drop k) k)) (fun _ i => N - (intOf i).toNat)
  case atStart => exact ⟨0, Nat.zero_le _, rfl, HR⟩
  case round =>
    obtain ⟨k, hk, rfl, HK⟩ := hrel
    clear HR
    by_cases hlt : k < N
    · obtain ⟨x, hx⟩ : ∃ x, l[k]? = some x := ⟨_, List.getElem?_eq_getElem (by rw [HN.out]; exact hlt)⟩
      obtain ⟨g, rfl, hc⟩ := HA.out k x hx
      have hcall := hp.out x (HB.out x (List.mem_of_getElem? hx))
      have ilt : (k : Int) < (N : Int) := by omega
      cases hn : other p x with
      | false =>
        have HE : Hid (r = (k : Int)) := hid (by rw [HK.out, fp_hit hx hn])
        rw [hn] at hcall
        clear hn hx HK hp HA HB HN
        go_wp2_with fail
        refine hcall.mono ?_
        rintro e w' ⟨rfl, rfl⟩
        go_wp2_with fail
        go_ret
        exact ⟨ret_i64 HE.out.symm, rfl⟩
      | true =>
        have HK' : Hid (r = fp p (l.drop (k + 1)) (k + 1)) := hid (by rw [HK.out, fp_miss hx hn])
        rw [hn] at hcall
        clear hn hx HK hp HA HB HN
        go_wp2_with fail
        refine hcall.mono ?_
        rintro e w' ⟨rfl, rfl⟩
        go_wp2_with fail
        go_round
        case rel => exact ⟨k + 1, by omega, by go_num, HK'⟩
        case measure => simp [intOf] <;> omega
    · have HE : Hid (r = -1) := hid (by rw [HK.out, fp_end (by rw [HN.out]; omega)])
      clear HK hp HA HB HN
      go_wp2_with fail
      go_ret
      exact ⟨ret_i64 HE.out.symm, rfl⟩

theorem setCells_blk {b : Nat} {t : TypeId} : ∀ (vs : List Value) (o : Nat) (w : World) (cs : List Value), Blk w b t cs → ∃ cs', Blk (w.setCells b o vs) b t cs' ∧ cs'.length = cs.length ∧ ∀ i, i < o → cs'[i]? = cs[i]?
  | [], _, w, cs, h => ⟨cs, h, rfl, fun _ _ => rfl⟩
  | v :: vs, o, w, cs, h => by
    obtain ⟨cs', h1, h2, h3⟩ := setCells_blk vs (o + 1) (w.setCell ⟨b, o, none⟩ v) _ (h.set o v)
    refine ⟨cs', h1, by rw [h2, List.length_set], fun i hi => ?_⟩
    rw [h3 i (by omega), List.getElem?_set_ne (by omega)]
theorem setCells_only {b : Nat} : ∀ (vs : List Value) (o : Nat) (w : World), Only (fun x => x = b) w (w.setCells b o vs)
  | [], _, w => Only.refl _ w
  | v :: vs, o, w => ((Only.refl (fun x => x = b) w).setCell (p := ⟨b, o, none⟩) (.inl rfl) v).trans (setCells_only vs (o + 1) (w.setCell ⟨b, o, none⟩ v)) (fun _ h => .inl h)

/-- While the row is gone through: j are over, i of them stay. -/
structure Del (g cp p : Nat) (l : List Nat) (i j : Nat) (cur : List Value) (w : World) : Prop where
  blk : Blk w g 3 cur
  len : cur.length = cp
  hi : i = (keep p (l.take j)).length
  lo : ∀ (t x : Nat), (keep p (l.take j))[t]? = some x → cur[t]? = some (.int .i64 (x : Int))
  up : ∀ (t x : Nat), j ≤ t → l[t]? = some x → cur[t]? = some (.int .i64 (x : Int))
theorem keep_len (p : Nat) (l : List Nat) : (keep p l).length ≤ l.length := List.length_filter_le _ _
theorem Del.skip {g cp p i j x : Nat} {l : List Nat} {cur : List Value} {w : World} (h : Del g cp p l i j cur w) (hx : l[j]? = some x) (hn : other p x = false) : Del g cp p l i (j + 1) cur w := by
  have e : keep p (l.take (j + 1)) = keep p (l.take j) := by
    unfold keep; rw [List.take_add_one, hx, List.filter_append]; simp [hn]
  exact ⟨h.blk, h.len, by rw [e]; exact h.hi, by rw [e]; exact h.lo, fun t y ht hy => h.up t y (by omega) hy⟩
theorem Del.keepIt {g cp p i j x : Nat} {l : List Nat} {cur : List Value} {w : World} (h : Del g cp p l i j cur w) (hij : i < j) (hj : j < cp) (hx : l[j]? = some x) (hn : other p x = true) : Del g cp p l (i + 1) (j + 1) (cur.set i (.int .i64 (x : Int))) (w.setCell ⟨g, i, none⟩ (.int .i64 (x : Int))) := by
  have e : keep p (l.take (j + 1)) = keep p (l.take j) ++ [x] := by
    unfold keep; rw [List.take_add_one, hx, List.filter_append]; simp [hn]
  refine ⟨h.blk.set i _, by rw [List.length_set]; exact h.len, by rw [e, List.length_append, ← h.hi]; rfl, fun t y ht => ?_, fun t y ht hy => ?_⟩
  · rw [e, List.getElem?_append] at ht
    rw [List.getElem?_set]
    split at ht
    · rename_i hlt
      have hi := h.hi
      rw [if_neg (by omega)]; exact h.lo t y ht
    · rename_i hlt
      have ht1 : t - (keep p (l.take j)).length < 1 := by
        have := (List.getElem?_eq_some_iff.1 ht).1
        simpa using this
      have ht2 : t = i := by rw [h.hi]; omega
      subst ht2
      rw [← h.hi, Nat.sub_self] at ht
      rw [if_pos rfl, if_pos (by rw [h.len]; omega)]
      simp at ht
      rw [ht]
  · rw [List.getElem?_set_ne (by omega)]; exact h.up t y (by omega) hy
theorem Del.start {g cp p k x : Nat} {l : List Nat} {cur : List Value} {w : World} (hb : Blk w g 3 cur) (hl : cur.length = cp) (hc : ∀ (t x : Nat), l[t]? = some x → cur[t]? = some (.int .i64 (x : Int))) (hx : l[k]? = some x) (hn : other p x = false) (ha : ∀ y ∈ l.take k, other p y = true) : Del g cp p l k (k + 1) cur w := by
  have hk := (List.getElem?_eq_some_iff.1 hx).1
  have e0 : keep p (l.take k) = l.take k := List.filter_eq_self.2 ha
  have h0 : Del g cp p l k k cur w := ⟨hb, hl, by rw [e0, List.length_take]; omega, fun t y ht => (by
    rw [e0, List.getElem?_take] at ht
    split at ht
    · exact hc t y ht
    · cases ht), fun t y _ hy => hc t y hy⟩
  exact h0.skip hx hn

/-- The row that stays. -/
theorem Del.done {g cp p i n : Nat} {l : List Nat} {cur : List Value} {w : World} (h : Del g cp p l i n cur w) (hn : l.length = n) (hcp : n ≤ cp) (hm : cp ≤ maxLen) (vs : List Value) : (w.setCells g i vs).ownsRow 0 3 1 (.slice (some ⟨g, 0, none⟩) i cp) (keep p l).length (nc (keep p l)) := by
  obtain ⟨cs, hB, hcl, hcs⟩ := setCells_blk vs i w cur h.blk
  have e : l.take n = l := List.take_of_length_le (by omega)
  have hi := h.hi
  have hlo := h.lo
  rw [e] at hi hlo
  have hk := keep_len p l
  refine ⟨by rw [nc_len, Nat.mul_one], .inr ⟨g, cp, cs.toArray, by rw [← hi], Nat.zero_le _, hB, by omega, hm, by simp [hcl, h.len], ?_⟩⟩
  apply List.ext_getElem?
  intro t
  rw [Nat.mul_one, List.getElem?_take, ← hi]
  by_cases ht : t < i
  · rw [if_pos ht]
    have hx : (keep p l)[t]? = some ((keep p l)[t]'(by omega)) := List.getElem?_eq_getElem _
    rw [nc_at hx]
    show cs[t]? = _
    rw [hcs t ht]
    exact hlo t _ hx
  · rw [if_neg ht, List.getElem?_eq_none (by rw [nc_len]; omega)]

set_option maxHeartbeats 2000000 in
set_option maxRecDepth 100000 in
theorem delf_any (v : Value) (l : List Nat) (p B : Nat) (w : World) (hl : l.length ≤ 4200000) (hb : ∀ x ∈ l, x ≤ 9223372036854775807) (hown : w.ownsRow 0 3 1 v l.length (nc l)) (hB : w.cell? ⟨B, 0, none⟩ = some (.int .i64 (p : Int))) (hne : v.ownBlock ≠ some B) :
    Calls Try.prog 54 #[v, .func (.func 55) #[] #[.pointer (some ⟨B, 0, none⟩)]] w fun e w' => ∃ a c, e = .returned (.slice a (keep p l).length c) ∧ w'.ownsRow 0 3 1 (.slice a (keep p l).length c) (keep p l).length (nc (keep p l)) ∧ (Value.slice a (keep p l).length c).ownBlock = v.ownBlock ∧ Only (fun b => v.ownBlock = some b) w w' := by
  obtain ⟨a, cp, rfl⟩ := row_form hown
  have hA : ∀ (j x : Nat), l[j]? = some x → ∃ g, a = some ⟨g, 0, none⟩ ∧ w.cell? ⟨g, j, none⟩ = some (.int .i64 (x : Int)) := fun j x hx => by
    obtain ⟨g, c, e, _, h1, _⟩ := own_cell hown hx
    cases e
    exact ⟨g, rfl, h1⟩
  have hidx := idxf_any a cp l.length l rfl p B w hl hb hA hB
  rcases fp_facts p l 0 with ⟨h1, h2⟩ | ⟨k, x, h1, hx, hn, h4⟩
  · rw [h1] at hidx
    have e : keep p l = l := List.filter_eq_self.2 h2
    rw [e]
    have H := hid hown
    clear hA h1 h2 hb hB hne e hown
    generalize hL : l.length = N at *
    go_enter Try.func54, Try.ntmps54
    go_wp2_with fail
    refine hidx.mono ?_
    rintro e w' ⟨rfl, rfl⟩
    clear hidx
    go_wp2_with fail
    go_ret
    exact ⟨a, cp, rfl, H.out, rfl, Only.refl _ _⟩
  · rw [h1, Nat.zero_add] at hidx
    have hkl := (List.getElem?_eq_some_iff.1 hx).1
    rcases hown.2 with ⟨_, h0⟩ | ⟨g, c, cur, hv, _, hg, hcap, hmx, hsz, htk⟩
    · omega
    cases hv
    rw [Nat.mul_one] at hsz htk
    have hblk : Blk w g 3 cur.toList := by unfold Blk; rw [Array.toArray_toList]; exact hg
    have hlen : cur.toList.length = cp := by rw [Array.length_toList]; exact hsz
    have hcs : ∀ (t y : Nat), l[t]? = some y → cur.toList[t]? = some (.int .i64 (y : Int)) := fun t y hy => by
      have hlt := (List.getElem?_eq_some_iff.1 hy).1
      have h2 := nc_at hy
      rw [← htk, List.getElem?_take, if_pos hlt] at h2
      exact h2
    have hD0 := Del.start hblk hlen hcs hx hn h4
    have hgB : g ≠ B := fun e => hne (by rw [← e]; rfl)
    have HDP := hid fun (W : World) (hO : Only (fun b => b = g) w W) y (hy : y ∈ l) => delp_any y p B W ((hO.cell (p := ⟨B, 0, none⟩) (cell_lt hB) (fun e => hgB e.symm)).trans hB) (hb y hy)
    have HD0 := hid hD0
    obtain ⟨n, hL⟩ : ∃ n, l.length = n := ⟨_, rfl⟩
    have HL := hid hL
    rw [hL] at hcap hl hkl hidx
    have q0 : ((k : Int) == -1) = false := beq_eq_false_iff_ne.2 (by omega)
    clear hD0 hA h1 hx hn h4 hown hb hB hne hg hsz htk hblk hlen hcs hL
    have zi : ∀ w, (zeroValue 3).run Try.prog w = .ok (.int .i64 0) w := Try.zeroValue3
    have hUI := Try.underlying22
    rw [show l.length = n from HL.out]
    go_enter Try.func54, Try.ntmps54
    go_wp2_with fail
    refine hidx.mono ?_
    rintro e w' ⟨rfl, rfl⟩
    clear hidx
    go_wp2_with fail
    go_loopw [5, 6, 7] (fun si sj _ wr => ∃ (i j : Nat) (cs : List Value), si = .int .i64 i ∧ sj = .int .i64 j ∧ j ≤ n ∧ i < j ∧ Hid (Del g cp p l i j cs wr) ∧ Hid (Only (fun b => b = g) w wr)) (fun _ sj _ _ => n - (intOf sj).toNat)
    case atStart => exact ⟨k, k + 1, cur.toList, rfl, by go_num, by omega, by omega, HD0, hid (Only.refl _ _)⟩
    case round =>
      obtain ⟨i, j, cs, rfl, rfl, hj, hij, HD, HO⟩ := hrel
      clear HD0
      by_cases hlt : j < n
      · obtain ⟨x, hx⟩ : ∃ x, l[j]? = some x := ⟨_, List.getElem?_eq_getElem (by rw [HL.out]; exact hlt)⟩
        have hcell : wr.cell? ⟨g, j, none⟩ = some (.int .i64 (x : Int)) := HD.out.blk.cell (HD.out.up j x (Nat.le_refl _) hx)
        have hcall := HDP.out wr HO.out x (List.mem_of_getElem? hx)
        have j1 : (j : Int) < (n : Int) := by omega
        have i1 : (i : Int) < (n : Int) := by omega
        cases hn : other p x with
        | false =>
          rw [hn] at hcall
          have HD' := hid (HD.out.skip hx hn)
          clear hn hx HD HDP HL
          go_wp2_with fail
          refine hcall.mono ?_
          rintro e w' ⟨rfl, rfl⟩
          clear hcall
          go_wp2_with fail
          go_roundw
          case rel => exact ⟨i, j + 1, cs, rfl, by go_num, by omega, by omega, HD', HO⟩
          case measure => simp [intOf] <;> omega
        | true =>
          rw [hn] at hcall
          have HD' := hid (HD.out.keepIt hij (by omega) hx hn)
          have HO' := hid (HO.out.setCell (p := ⟨g, i, none⟩) (.inl rfl) (.int .i64 (x : Int)))
          obtain ⟨u, hu⟩ : ∃ u, cs[i]? = some u := ⟨_, List.getElem?_eq_getElem (by rw [HD.out.len]; omega)⟩
          have hci := HD.out.blk.cell hu
          have hfi := HD.out.blk.frozen i
          clear hn hx HD HDP HL hu
          go_wp2_with fail
          refine hcall.mono ?_
          rintro e w' ⟨rfl, rfl⟩
          clear hcall
          go_wp2_with fail
          go_roundw
          case rel => exact ⟨i + 1, j + 1, _, by go_num, by go_num, by omega, by omega, HD', HO'⟩
          case measure => simp [intOf] <;> omega
      · obtain rfl : j = n := by omega
        have hlt2 : ¬ (j : Int) < (j : Int) := by omega
        have i1 : (i : Int) ≤ (j : Int) := by omega
        have i2 : (j : Int) ≤ (cp : Int) := by omega
        have i3 : (i : Int) ≤ (cp : Int) := by omega
        have i4 : ¬ cp = i := by omega
        have hsome : ∀ t, t < j - i → (wr.cell? ⟨g, i + t, none⟩).isSome = true := fun t ht => by
          obtain ⟨u, hu⟩ : ∃ u, cs[i + t]? = some u := ⟨_, List.getElem?_eq_getElem (by rw [HD.out.len]; omega)⟩
          rw [HD.out.blk.cell hu]; rfl
        have hclr : ∀ ty, (Builtin.clear_ #[22] ty #[.slice (some ⟨g, i, none⟩) (j - i) (cp - i)]).run Try.prog wr = .ok (.tuple #[]) (wr.setCells g i (List.replicate (j - i) (.int .i64 0))) := fun ty =>
          Lib.run_clear_slice wr _ _ ty _ hUI zi rfl rfl g i _ _ (by omega) hsome (fun t _ => HD.out.blk.frozen _)
        have hdone := HD.out.done HL.out hcap hmx (List.replicate (j - i) (.int .i64 0))
        have hik : i = (keep p l).length := by have := HD.out.hi; rw [List.take_of_length_le (by rw [HL.out]; omega)] at this; exact this
        have HDN := hid hdone
        have HO2 := hid (HO.out.trans (setCells_only (List.replicate (j - i) (.int .i64 0)) i wr) (fun _ h => .inl h))
        have HIK := hid hik
        clear hdone HD HO HDP HL hsome hik
        go_wp2_with fail
        go_ret
        have e9 := HIK.out
        exact ⟨some ⟨g, 0, none⟩, cp, by rw [← e9]; rfl, by have := HDN.out; rw [← e9] at this ⊢; exact this, rfl, HO2.out.mono (fun x hx => by rw [hx]; rfl)⟩
end Go.Proofs.Ytldfpacdlephcaa

/-
  The contracts of the table's small functions at this program: grows, isFull, Len, Power, Moved, home, put, grow. Conditions: the table lies in memory, and its count is below 2^31.
-/
import Derived.Test.YtfbkfbghejeknaaChainMem
import Derived.Test.YtfbkfbghejeknaaHash
import Derived.Shelf.RegionOpen
import Derived.BigRegion
import Derived.BigQuiet
import Derived.WalkSpells
import Derived.Deep.DeepCutAuto
namespace Go.Proofs.Ytfbkfbghejeknaa
open Go Go.RowKit Go.Lib

theorem Mid.new_ne {s : Tb} (m : Mid s) : s.new ≠ [] := fun e => by
  have h1 := m.lenN; rw [e] at h1
  have := Nat.two_pow_pos s.pow
  simp at h1; omega
theorem Mid.len_le {s : Tb} (m : Mid s) : s.new.length ≤ 1048576 ∧ s.old.length ≤ 1048576 := by
  have h1 := m.lenN
  have h2 : 2 ^ s.pow ≤ 2 ^ 20 := Nat.pow_le_pow_right (by decide) m.p20
  refine ⟨by rw [h1]; exact h2, ?_⟩
  by_cases ho : s.old = []
  · rw [ho]; simp
  · rw [m.lenO ho]
    have : 2 ^ (s.pow - 1) ≤ 2 ^ 20 := Nat.pow_le_pow_right (by decide) (by have := m.p20; omega)
    exact this
theorem Mid.mv_le {s : Tb} (m : Mid s) : s.moved ≤ 1048576 := by
  have : 2 ^ (s.pow - 1) ≤ 2 ^ 20 := Nat.pow_le_pow_right (by decide) (by have := m.p20; omega)
  exact Nat.le_trans m.mv this
theorem TM.c0 {P : Nat} {s : Tb} {w : World} (h : TM P s w) : w.cell? ⟨P, 0, none⟩ = some (.int .i64 s.cnt) := h.head.cell (i := 0) rfl
theorem TM.c1 {P : Nat} {s : Tb} {w : World} (h : TM P s w) : w.cell? ⟨P, 1, none⟩ = some (.int .i64 s.pow) := h.head.cell (i := 1) rfl
theorem TM.c2 {P : Nat} {s : Tb} {w : World} (h : TM P s w) (m : Mid s) : w.cell? ⟨P, 2, none⟩ = some (.slice (some ⟨s.N, 0, none⟩) s.new.length s.new.length) := by
  have := h.head.cell (i := 2) (v := sl s.N s.new) rfl
  rwa [sl_some m.new_ne] at this
theorem TM.c3 {P : Nat} {s : Tb} {w : World} (h : TM P s w) (hn : s.old ≠ []) : w.cell? ⟨P, 3, none⟩ = some (.slice (some ⟨s.O, 0, none⟩) s.old.length s.old.length) := by
  have := h.head.cell (i := 3) (v := sl s.O s.old) rfl
  rwa [sl_some hn] at this
theorem TM.c3n {P : Nat} {s : Tb} {w : World} (h : TM P s w) (hn : s.old = []) : w.cell? ⟨P, 3, none⟩ = some (.slice none 0 0) := by
  have := h.head.cell (i := 3) (v := sl s.O s.old) rfl
  rwa [hn, sl_nil] at this
theorem TM.c4 {P : Nat} {s : Tb} {w : World} (h : TM P s w) : w.cell? ⟨P, 4, none⟩ = some (.int .i64 s.moved) := h.head.cell (i := 4) rfl

set_option maxRecDepth 100000 in
theorem len_any {P : Nat} {s : Tb} {w : World} (h : TM P s w) : Calls Try.prog 12 #[.pointer (some ⟨P, 0, none⟩)] w fun e w' => e = .returned (.int .i64 s.cnt) ∧ w = w' := by
  have c0 := h.c0
  go_enter Try.func12, Try.ntmps12
  go_wp2
  go_ret
  exact ⟨rfl, rfl⟩
set_option maxRecDepth 100000 in
theorem power_any {P : Nat} {s : Tb} {w : World} (h : TM P s w) : Calls Try.prog 13 #[.pointer (some ⟨P, 0, none⟩)] w fun e w' => e = .returned (.int .i64 s.pow) ∧ w = w' := by
  have c0 := h.c1
  go_enter Try.func13, Try.ntmps13
  go_wp2
  go_ret
  exact ⟨rfl, rfl⟩
set_option maxRecDepth 100000 in
theorem grows_any {P : Nat} {s : Tb} {w : World} (h : TM P s w) : Calls Try.prog 31 #[.pointer (some ⟨P, 0, none⟩)] w fun e w' => e = .returned (.bool (decide (s.old ≠ []))) ∧ w = w' := by
  by_cases hn : s.old = []
  · have c3 := h.c3n hn
    have hd := hid (decide_eq_false (p := s.old ≠ []) (fun e => e hn))
    clear hn
    go_enter Try.func31, Try.ntmps31
    go_wp2
    go_ret
    exact ⟨ret_bool hd.out.symm, rfl⟩
  · have c3 := h.c3 hn
    have hp : 0 < s.old.length := List.length_pos_iff.2 hn
    have hd := hid (decide_eq_true (p := s.old ≠ []) hn)
    clear hn
    generalize s.old.length = L at *
    go_enter Try.func31, Try.ntmps31
    go_wp2
    go_ret
    exact ⟨ret_bool hd.out.symm, rfl⟩
def Tb.mv (s : Tb) : Int := if s.old = [] then -1 else s.moved
set_option maxRecDepth 100000 in
theorem moved_any {P : Nat} {s : Tb} {w : World} (h : TM P s w) : Calls Try.prog 14 #[.pointer (some ⟨P, 0, none⟩)] w fun e w' => e = .returned (.int .i64 s.mv) ∧ w = w' := by
  have hg := grows_any h
  by_cases hn : s.old = []
  · have hm : Hid (s.mv = -1) := hid (if_pos hn)
    rw [decide_eq_false (p := s.old ≠ []) (fun e => e hn)] at hg
    clear hn
    go_enter Try.func14, Try.ntmps14
    go_wp2_with fail
    refine hg.mono ?_
    rintro e w1 ⟨rfl, rfl⟩
    go_wp2
    go_ret
    exact ⟨ret_i64 hm.out.symm, rfl⟩
  · have hm : Hid (s.mv = s.moved) := hid (if_neg hn)
    have c4 := h.c4
    rw [decide_eq_true (p := s.old ≠ []) hn] at hg
    clear hn
    go_enter Try.func14, Try.ntmps14
    go_wp2_with fail
    refine hg.mono ?_
    rintro e w1 ⟨rfl, rfl⟩
    go_wp2
    go_ret
    exact ⟨ret_i64 hm.out.symm, rfl⟩
set_option maxRecDepth 100000 in
theorem full_any {P : Nat} {s : Tb} {w : World} (h : TM P s w) (m : Mid s) (hc : s.cnt ≤ 1000000000) : Calls Try.prog 37 #[.pointer (some ⟨P, 0, none⟩)] w fun e w' => e = .returned (.bool s.full) ∧ Below w.heap.size w w' := by
  have c0 := h.c0
  have c1 := h.c1
  have c2 := h.c2 m
  have l1 := m.len_le.1
  have p20 := m.p20
  have hd : Hid (s.full = decide (3 * s.new.length < 2 * s.cnt ∧ s.pow < 20)) := hid rfl
  generalize s.full = F at *
  generalize s.cnt = C at *
  generalize s.pow = p at *
  generalize s.new.length = L at *
  clear m h
  have q1 : IntKind.i64.wrap (2 * (C : Int)) = 2 * C := by rw [IntKind.wrap_i64]; omega
  have q2 : IntKind.i64.wrap (3 * (L : Int)) = 3 * L := by rw [IntKind.wrap_i64]; omega
  by_cases h1 : 3 * L < 2 * C
  · have h1' : (3 : Int) * L < 2 * C := by omega
    have g1 : decide ((3 : Int) * L < 2 * C) = true := by simpa using h1'
    by_cases h2 : p < 20
    · have h2' : (p : Int) < 20 := by omega
      have hF := hid (hd.out.trans (decide_eq_true ⟨h1, h2⟩))
      clear hd
      go_enter Try.func37, Try.ntmps37
      go_wp2_with fail
      go_region
      go_wp2_with fail
      go_ret
      exact ⟨ret_bool hF.out.symm, (Below.refl _ w).drew⟩
    · have h2' : (20 : Int) ≤ p := by omega
      have hF := hid (hd.out.trans (decide_eq_false (fun e => h2 e.2)))
      clear hd
      go_enter Try.func37, Try.ntmps37
      go_wp2_with fail
      go_region
      go_wp2_with fail
      go_ret
      exact ⟨ret_bool ((decide_eq_false (Int.not_lt.2 h2')).trans hF.out.symm), (Below.refl _ w).drew⟩
  · have h1' : (2 : Int) * C ≤ 3 * L := by omega
    have g1 : decide ((3 : Int) * L < 2 * C) = false := by simpa using h1'
    have hF := hid (hd.out.trans (decide_eq_false (fun e => h1 e.1)))
    clear hd
    go_enter Try.func37, Try.ntmps37
    go_wp2_with fail
    go_region
    go_wp2_with fail
    go_ret
    exact ⟨ret_bool hF.out.symm, (Below.refl _ w).drew⟩

/-- The slice that home hands out. -/
def Tb.homeV (s : Tb) (k : ByteArray) : Value := .slice (some (s.hd k)) 1 (s.cp k)
set_option maxRecDepth 100000 in
set_option maxHeartbeats 1000000 in
theorem home_any {P : Nat} {s : Tb} {w : World} (h : TM P s w) (m : Mid s) (k : ByteArray) (hk : k.size ≤ 9223372036854775807) :
    Calls Try.prog 45 #[.pointer (some ⟨P, 0, none⟩), .string k] w fun e w' => e = .returned (s.homeV k) ∧ w = w' := by
  have hof := of_any k hk w
  have hlt := fnv_lt k.data.toList
  have hg := grows_any h
  have c1 := h.c1
  have c2 := h.c2 m
  have c4 := h.c4
  have p2 := m.p2
  have p20 := m.p20
  have q1 : wrap64 ((s.pow : Int) - 1) = ((s.pow - 1 : Nat) : Int) := by unfold wrap64; omega
  have hb0 : ∀ p : Nat, p ≤ 30 → Calls Try.prog 24 #[.int .u64 (fnv k.data.toList), .int .i64 p] w fun e w' => e = .returned (.int .i64 (hb k p : Nat)) ∧ w = w' := fun p hp => bucket_any _ _ hlt hp w
  by_cases hn : s.old = []
  · have hV : Hid (s.homeV k = .slice (some ⟨s.N, hb k s.pow, none⟩) 1 (s.new.length - hb k s.pow)) := hid (by unfold Tb.homeV Tb.hd Tb.cp; rw [inOld_false hn]; rfl)
    have hb1 := hb0 s.pow (by omega)
    have hbl := hb_lt k s.pow; rw [← m.lenN] at hbl
    have l1 := m.len_le.1
    rw [decide_eq_false (p := s.old ≠ []) (fun e => e hn)] at hg
    generalize hb k s.pow = B at *
    generalize s.new.length = L at *
    generalize s.pow = p at *
    generalize fnv k.data.toList = H at *
    clear hn hb0 m h
    go_enter Try.func45, Try.ntmps45
    go_wp2_with fail
    refine hof.mono ?_
    rintro e w1 ⟨rfl, rfl⟩
    go_wp2_with fail
    refine hg.mono ?_
    rintro e w1 ⟨rfl, rfl⟩
    go_wp2_with fail
    refine hb1.mono ?_
    rintro e w1 ⟨rfl, rfl⟩
    go_wp2_with fail
    go_ret
    exact ⟨congrArg Ending.returned hV.out.symm, rfl⟩
  · have c3 := h.c3 hn
    rw [decide_eq_true (p := s.old ≠ []) hn] at hg
    have l2 := m.len_le
    have hbo := hb_lt k (s.pow - 1); rw [← m.lenO hn] at hbo
    have hb1 := hb0 (s.pow - 1) (by omega)
    rw [show ((s.pow - 1 : Nat) : Int) = (s.pow : Int) - 1 by omega] at hb1
    clear q1
    by_cases hi : s.moved ≤ hb k (s.pow - 1)
    · have hV : Hid (s.homeV k = .slice (some ⟨s.O, hb k (s.pow - 1), none⟩) 1 (s.old.length - hb k (s.pow - 1))) := hid (by unfold Tb.homeV Tb.hd Tb.cp; rw [inOld_iff.2 ⟨hn, hi⟩]; rfl)
      generalize hb k (s.pow - 1) = B at *
      generalize s.old.length = L at *
      generalize s.new.length = L' at *
      generalize s.pow - 1 = p' at *
      generalize s.pow = p at *
      generalize s.moved = M at *
      generalize fnv k.data.toList = H at *
      clear hn hb0 m h c2
      go_enter Try.func45, Try.ntmps45
      go_wp2_with fail
      refine hof.mono ?_
      rintro e w1 ⟨rfl, rfl⟩
      go_wp2_with fail
      refine hg.mono ?_
      rintro e w1 ⟨rfl, rfl⟩
      go_wp2_with fail
      refine hb1.mono ?_
      rintro e w1 ⟨rfl, rfl⟩
      go_wp2_with fail
      go_ret
      exact ⟨congrArg Ending.returned hV.out.symm, rfl⟩
    · have hV : Hid (s.homeV k = .slice (some ⟨s.N, hb k s.pow, none⟩) 1 (s.new.length - hb k s.pow)) := hid (by unfold Tb.homeV Tb.hd Tb.cp; rw [show s.inOld k = false from Bool.eq_false_iff.2 (fun e => hi (inOld_iff.1 e).2)]; rfl)
      have hb2 := hb0 s.pow (by omega)
      have hbl := hb_lt k s.pow; rw [← m.lenN] at hbl
      have hi' := Nat.lt_of_not_le hi
      generalize hb k (s.pow - 1) = B at *
      generalize hb k s.pow = B' at *
      generalize s.old.length = L at *
      generalize s.new.length = L' at *
      generalize s.pow - 1 = p' at *
      generalize s.pow = p at *
      generalize s.moved = M at *
      generalize fnv k.data.toList = H at *
      clear hn hb0 m h c3 hi
      go_enter Try.func45, Try.ntmps45
      go_wp2_with fail
      refine hof.mono ?_
      rintro e w1 ⟨rfl, rfl⟩
      go_wp2_with fail
      refine hg.mono ?_
      rintro e w1 ⟨rfl, rfl⟩
      go_wp2_with fail
      refine hb1.mono ?_
      rintro e w1 ⟨rfl, rfl⟩
      go_wp2_with fail
      refine hb2.mono ?_
      rintro e w1 ⟨rfl, rfl⟩
      go_wp2_with fail
      go_ret
      exact ⟨congrArg Ending.returned hV.out.symm, rfl⟩

theorem ptr_form (l : List En) : ∃ p, ptr l = .pointer p := by
  cases l with
  | nil => exact ⟨_, rfl⟩
  | cons e l => exact ⟨_, rfl⟩
/-- An entry of the call's own, or one that was lifted out: it comes to the front of its bucket. -/
theorem put_nd {P : Nat} {s : Tb} {w : World} (h : TM P s w) (m : Mid s) {e : En} (he : ¬ Ft P s e.b) : (bl (s.put e).ents).Nodup := by
  unfold bl
  rw [((m.put_perm e).map En.b).nodup_iff, List.map_cons, List.nodup_cons]
  exact ⟨fun hm => by obtain ⟨x, hx, hxb⟩ := List.mem_map.1 hm; exact he (.inr (.inr (.inr ⟨x, hx, hxb⟩))), h.nd⟩
set_option maxRecDepth 100000 in
theorem put_any {P : Nat} {s : Tb} {w : World} (h : TM P s w) (m : Mid s) (e : En) (r : List En) (hB : Blk w e.b 66 (enc e r)) (he : ¬ Ft P s e.b) (hk : e.k.size ≤ 281474976710656) :
    Calls Try.prog 35 #[.pointer (some ⟨P, 0, none⟩), .pointer (some ⟨e.b, 0, none⟩)] w fun x w' => x = .returned (.tuple #[]) ∧ TM P (s.put e) w' ∧ Only (fun b => b = s.hblk e.k ∨ b = e.b) w w' := by
  have hh := home_any h m e.k (by omega)
  have e0 := hB.cell (i := 0) (v := .string e.k) rfl
  have e2 := hB.cell (i := 2) (v := ptr r) rfl
  have f2 := hB.frozen 2
  obtain ⟨hR, hr⟩ := h.home m e.k
  have hc := h.hd_cell m e.k
  have hf : w.frozen? (s.hd e.k) = false := by rw [hd_eq]; exact hR.frozen _
  have hne : e.b ≠ s.hblk e.k := fun e1 => he (e1 ▸ hblk_ft P s e.k)
  have hP : s.hblk e.k ≠ P := h.hblk_P m e.k
  have hP2 : e.b ≠ P := fun e1 => he (.inl e1)
  have hend : ∀ w', w' = (w.setCell ⟨e.b, 2, none⟩ (ptr (s.row e.k))).setCell (s.hd e.k) (.pointer (some ⟨e.b, 0, none⟩)) → TM P (s.put e) w' ∧ Only (fun b => b = s.hblk e.k ∨ b = e.b) w w' := by
    rintro w' rfl
    have ho : Only (fun b => b = s.hblk e.k ∨ b = e.b) w ((w.setCell ⟨e.b, 2, none⟩ (ptr (s.row e.k))).setCell (s.hd e.k) (.pointer (some ⟨e.b, 0, none⟩))) :=
      ((Only.refl _ w).setCell (p := ⟨e.b, 2, none⟩) (.inl (.inr rfl)) _).setCell (.inl (.inl (by rw [hd_eq]))) _
    refine ⟨?_, ho⟩
    have hB2 : Blk ((w.setCell ⟨e.b, 2, none⟩ (ptr (s.row e.k))).setCell (s.hd e.k) (.pointer (some ⟨e.b, 0, none⟩))) e.b 66 (enc e (s.row e.k)) := by
      refine Blk.setOther (hB.set 2 _) ?_ _
      rw [hd_eq]; exact hne
    have hR2 : Blk ((w.setCell ⟨e.b, 2, none⟩ (ptr (s.row e.k))).setCell (s.hd e.k) (.pointer (some ⟨e.b, 0, none⟩))) (s.hblk e.k) 64 (heads ((s.hrow e.k).set (s.hix e.k) (e :: s.row e.k))) := by
      rw [heads_set, hd_eq]
      exact (hR.setOther (p := ⟨e.b, 2, none⟩) (fun e1 => hne e1.symm) _).set _ _
    refine h.upd m e.k (e :: s.row e.k) ho (fun hd => hd.elim (fun e1 => hP e1.symm) (fun e1 => hP2 e1.symm)) hR2 (fun b hb => hb.elim .inl (fun e1 => .inr (.inr (by rw [e1]; exact he)))) ⟨hB2, ?_⟩ (put_nd h m he)
    refine (h.ents _ (row_in m e.k)).only ho (fun x hx hd => ?_)
    have hxe := m.row_mem hx
    rcases hd with e1 | e1
    · exact (h.ent_ne m hxe e.k).2.1 e1
    · exact he (.inr (.inr (.inr ⟨x, hxe, e1⟩)))
  have hHd : ∃ A : Nat, ∃ j : Nat, s.hd e.k = ⟨A, j, none⟩ ∧ A ≠ e.b := ⟨_, _, hd_eq s e.k, fun e1 => hne e1.symm⟩
  unfold Tb.homeV at hh
  obtain ⟨A, j, hAj, hAe⟩ := hHd
  rw [hAj] at hh hc hf hend
  obtain ⟨X, hX⟩ := ptr_form (s.row e.k)
  obtain ⟨Y, hY⟩ := ptr_form r
  rw [hX] at hc hend
  rw [hY] at e2
  clear hX hY
  generalize s.cp e.k = C at *
  clear hR hr hP hne hB h m he
  generalize e.b = E at *
  generalize e.k = K at *
  have hE := hid hend
  clear hend hAj
  go_enter Try.func35, Try.ntmps35
  go_wp2_with fail
  refine hh.mono ?_
  rintro e w1 ⟨rfl, rfl⟩
  go_wp2_with fail
  go_end0
  obtain ⟨k1, k2⟩ := hE.out _ rfl
  exact ⟨rfl, k1, k2⟩
end Go.Proofs.Ytfbkfbghejeknaa

/-
  The contracts of the document's own table's small functions at this program: old, row, put, at, Moved, New. Conditions: the table lies in memory.
-/
import Derived.Test.YtfbkfbghejeknaaChainRefMem
import Derived.BigQuiet
namespace Go.Proofs.Ytfbkfbghejeknaa
open Go Go.Shelf Go.RowKit Go.Lib

theorem len_nil2 {α β : Type} {a : List α} {b : List β} (h : a.length = b.length) : a = [] ↔ b = [] := by
  rw [← List.length_eq_zero_iff, ← List.length_eq_zero_iff, h]
theorem slv_some {O : Nat} {vs : List Value} (h : vs ≠ []) : slv O vs = .slice (some ⟨O, 0, none⟩) vs.length vs.length := if_neg h
theorem slv_nil (O : Nat) : slv O [] = .slice none 0 0 := if_pos rfl
theorem below_drewN (w : World) (n : Nat) : Below w.heap.size w (w.drewN n) := ⟨rfl, rfl, rfl, Nat.le_refl _, fun _ _ => rfl⟩
theorem RM.c0 {P : Nat} {r : Rf} {s : Tb} {w : World} (h : RM P r s w) : w.cell? ⟨P, 0, none⟩ = some (.int .i64 s.pow) := h.head.cell (i := 0) rfl
theorem RM.c1 {P : Nat} {r : Rf} {s : Tb} {w : World} (h : RM P r s w) : w.cell? ⟨P, 1, none⟩ = some (.bool (decide (s.old ≠ []))) := h.head.cell (i := 1) rfl
theorem RM.c2 {P : Nat} {r : Rf} {s : Tb} {w : World} (h : RM P r s w) : w.cell? ⟨P, 2, none⟩ = some (.int .i64 s.moved) := h.head.cell (i := 2) rfl
theorem RM.c3 {P : Nat} {r : Rf} {s : Tb} {w : World} (h : RM P r s w) (hn : s.old ≠ []) : w.cell? ⟨P, 3, none⟩ = some (.slice (some ⟨r.O, 0, none⟩) s.old.length s.old.length) := by
  have := h.head.cell (i := 3) (v := slv r.O r.ov) rfl
  rw [slv_some (show r.ov ≠ [] from fun e => hn ((len_nil2 h.ob.1).1 e)), h.ob.1] at this
  exact this
theorem RM.c4 {P : Nat} {r : Rf} {s : Tb} {w : World} (h : RM P r s w) (m : Mid s) : w.cell? ⟨P, 4, none⟩ = some (.slice (some ⟨r.N, 0, none⟩) s.new.length s.new.length) := by
  have := h.head.cell (i := 4) (v := slv r.N r.nv) rfl
  rw [slv_some (show r.nv ≠ [] from fun e => m.new_ne ((len_nil2 h.nb.1).1 e)), h.nb.1] at this
  exact this
theorem RM.c5 {P : Nat} {r : Rf} {s : Tb} {w : World} (h : RM P r s w) : w.cell? ⟨P, 5, none⟩ = some (.int .i64 s.cnt) := h.head.cell (i := 5) rfl
theorem RM.drewN {P : Nat} {r : Rf} {s : Tb} {w : World} (h : RM P r s w) (n : Nat) : RM P r s (w.drewN n) := h.below (below_drewN w n)

theorem row_form2 {w : World} {base : Nat} {e : TypeId} {size : Nat} {v : Value} {n : Nat} {xs : List Value} (h : w.ownsRow base e size v n xs) : ∃ a c, v = .slice a n c := by
  rcases h.2 with ⟨rfl, rfl⟩ | ⟨g, c, cur, rfl, _⟩
  · exact ⟨none, 0, rfl⟩
  · exact ⟨_, _, rfl⟩
theorem ofN (k : ByteArray) (hk : k.size ≤ 9223372036854775807) (w : World) : ∀ n, Calls Try.prog 43 #[.string k] (w.drewN n) fun e w' => e = .returned (.int .u64 (fnv k.data.toList)) ∧ ∃ m, w' = w.drewN m := fun n =>
  (ref_of k hk _).mono fun _ _ ⟨he, hw⟩ => ⟨he, n, hw.symm⟩
theorem bucketN (k : ByteArray) (p : Nat) (hp : p ≤ 30) (w : World) : ∀ n, Calls Try.prog 42 #[.int .u64 (fnv k.data.toList), .int .i64 p] (w.drewN n) fun e w' => e = .returned (.int .i64 (hb k p : Nat)) ∧ ∃ m, w' = w.drewN m := fun n =>
  (ref_bucket _ p (fnv_lt _) hp _).mono fun _ _ ⟨he, hw⟩ => ⟨he, n, hw.symm⟩

/-- What old answers. -/
def Tb.olds (s : Tb) (k : ByteArray) : Int := if s.old = [] then 0 else hb k (s.pow - 1)
set_option maxRecDepth 100000 in
set_option maxHeartbeats 1000000 in
theorem ref_old {P : Nat} {r : Rf} {s : Tb} {w : World} (h : RM P r s w) (m : Mid s) (k : ByteArray) (hk : k.size ≤ 9223372036854775807) :
    Calls Try.prog 47 #[.pointer (some ⟨P, 0, none⟩), .string k] w fun e w' => e = .returned (.tuple #[.int .i64 (s.olds k), .bool (s.inOld k)]) ∧ Below w.heap.size w w' := by
  have c0 := h.c0
  have c1 := h.c1
  have c2 := h.c2
  by_cases hn : s.old = []
  · have hv : Hid (s.olds k = 0 ∧ s.inOld k = false) := hid ⟨if_pos hn, inOld_false hn⟩
    rw [decide_eq_false (p := s.old ≠ []) (fun e => e hn)] at c1
    clear h m hn c0 c2
    go_enter Try.func47, Try.ntmps47
    go_wp2_with fail
    go_ret2
    exact ⟨by rw [hv.out.1, hv.out.2]; rfl, Below.refl _ _⟩
  · have hv : Hid (s.olds k = hb k (s.pow - 1) ∧ s.inOld k = decide (s.moved ≤ hb k (s.pow - 1))) := hid ⟨if_neg hn, by unfold Tb.inOld; exact decide_eq_decide.2 ⟨fun e => e.2, fun e => ⟨hn, e⟩⟩⟩
    rw [decide_eq_true (p := s.old ≠ []) hn] at c1
    have p2 := m.p2
    have p20 := m.p20
    have cO := ofN k hk w
    have cB := bucketN k (s.pow - 1) (by omega) w
    rw [show ((s.pow - 1 : Nat) : Int) = (s.pow : Int) - 1 by omega] at cB
    have hlt := fnv_lt k.data.toList
    generalize fnv k.data.toList = H at *
    generalize hb k (s.pow - 1) = B at *
    generalize s.pow = p at *
    generalize s.moved = M at *
    have p2i : (2 : Int) ≤ (p : Int) := by omega
    have p20i : (p : Int) ≤ 20 := by omega
    have hw : IntKind.i64.wrap ((p : Int) - 1) = (p : Int) - 1 := by rw [IntKind.wrap_i64]; omega
    clear h m hn hk
    go_enter Try.func47, Try.ntmps47
    go_wp2_with fail
    go_quiet (first | exact cO _ | exact cB _)
    go_wp2_with fail
    go_quiet (fail)
    go_wp2_with fail
    go_ret2
    exact ⟨by rw [hv.out.1, hv.out.2]; rfl, ⟨rfl, rfl, rfl, Nat.le_refl _, fun _ _ => rfl⟩⟩

theorem Bkt.form {w : World} {v : Value} {l : List En} (h : Bkt w v l) : ∃ a c, v = .slice a l.length c := row_form2 h
set_option maxRecDepth 100000 in
set_option maxHeartbeats 1000000 in
theorem ref_row {P : Nat} {r : Rf} {s : Tb} {w : World} (h : RM P r s w) (m : Mid s) (k : ByteArray) (hk : k.size ≤ 9223372036854775807) :
    Calls Try.prog 39 #[.pointer (some ⟨P, 0, none⟩), .string k] w fun e w' => e = .returned (r.val s k) ∧ Below w.heap.size w w' := by
  have ho := ref_old h m k hk
  obtain ⟨hR, hRv, hRb⟩ := h.home m k
  obtain ⟨a, c, hV⟩ := hRb.form
  have hcell := hR.cell hRv
  have hRlt := hR.lt
  rw [hV] at hcell ⊢
  by_cases hi : s.inOld k = true
  · have hn := (inOld_iff.1 hi).1
    have c3 := h.c3 hn
    have hlt3 := cell_lt c3
    have hx : s.hix k = hb k (s.pow - 1) := by unfold Tb.hix; rw [if_pos hi]
    have hbk : r.hblk s k = r.O := by unfold Rf.hblk; rw [if_pos hi]
    have hlt := hb_lt k (s.pow - 1); rw [← m.lenO hn] at hlt
    have hol : s.olds k = hb k (s.pow - 1) := if_neg hn
    have hll := m.len_le.2
    rw [hx, hbk] at hcell
    rw [hbk] at hRlt
    rw [hi, hol] at ho
    generalize hb k (s.pow - 1) = B at *
    generalize s.old.length = L at *
    clear h m hR hRv hRb hV hx hbk hol hn hi
    go_enter Try.func39, Try.ntmps39
    go_wp2_with fail
    refine ho.mono ?_
    rintro e w1 ⟨rfl, b1⟩
    have d3 := (b1.cell (p := ⟨P, 3, none⟩) hlt3).trans c3
    have d4 := (b1.cell (p := ⟨r.O, B, none⟩) hRlt).trans hcell
    go_wp2_with fail
    go_ret
    exact ⟨rfl, b1⟩
  · have c4 := h.c4 m
    have c0 := h.c0
    have hlt3 := cell_lt c4
    have hx : s.hix k = hb k s.pow := by unfold Tb.hix; rw [if_neg hi]
    have hbk : r.hblk s k = r.N := by unfold Rf.hblk; rw [if_neg hi]
    have hlt := hb_lt k s.pow; rw [← m.lenN] at hlt
    have hll := m.len_le.1
    have p20 := m.p20
    have cO := fun w => ofN k hk w
    have cB := fun w => bucketN k s.pow (by omega) w
    rw [hx, hbk] at hcell
    rw [hbk] at hRlt
    rw [Bool.eq_false_iff.2 hi] at ho
    have hb0 : (0 : Int) ≤ ((hb k s.pow : Nat) : Int) := by omega
    have hb1 : ((hb k s.pow : Nat) : Int) < ((s.new.length : Nat) : Int) := by omega
    generalize fnv k.data.toList = H at *
    generalize hb k s.pow = B at *
    generalize s.new.length = L at *
    generalize s.olds k = U at *
    generalize s.pow = p at *
    clear h m hR hRv hRb hV hx hbk hi hk
    go_enter Try.func39, Try.ntmps39
    go_wp2_with fail
    refine ho.mono ?_
    rintro e w1 ⟨rfl, b1⟩
    have d0 := (b1.cell (p := ⟨P, 0, none⟩) hlt3).trans c0
    have d3 := (b1.cell (p := ⟨P, 4, none⟩) hlt3).trans c4
    have d4 := (b1.cell (p := ⟨r.N, B, none⟩) hRlt).trans hcell
    have cO := cO w1
    have cB := cB w1
    go_wp2_with fail
    go_quiet (first | exact cO _ | exact cB _)
    go_wp2_with fail
    go_ret
    exact ⟨rfl, b1.trans ⟨rfl, rfl, rfl, Nat.le_refl _, fun _ _ => rfl⟩⟩

/-- Where the key stands in a bucket. -/
def pos (k : ByteArray) : List En → Nat
  | [] => 0
  | e :: l => if e.k = k then 0 else pos k l + 1
def ati (k : ByteArray) (l : List En) : Int := if fnd k l = none then -1 else pos k l
theorem pos_at {k : ByteArray} : ∀ {l : List En} {e : En}, fnd k l = some e → l[pos k l]? = some e ∧ pos k l < l.length
  | a :: l, e, h => by
    unfold fnd at h
    unfold pos
    split at h
    · rename_i hk; cases h; rw [if_pos hk]; exact ⟨rfl, by simp⟩
    · rename_i hk
      obtain ⟨h1, h2⟩ := pos_at h
      rw [if_neg hk]; exact ⟨by simpa using h1, by simpa using h2⟩
theorem pos_set {k : ByteArray} {n : Int} : ∀ {l : List En} {e : En}, fnd k l = some e → ec (setN k n l) = (ec l).set (pos k l * 2 + 1) (.int .i64 n)
  | a :: l, e, h => by
    unfold fnd at h
    unfold pos setN
    split at h
    · rename_i hk; cases h; rw [if_pos hk, if_pos hk]; rfl
    · rename_i hk
      have h1 := pos_set (n := n) h
      rw [if_neg hk, if_neg hk]
      show _ :: _ :: ec (setN k n l) = _
      rw [h1, show (pos k l + 1) * 2 + 1 = pos k l * 2 + 1 + 1 + 1 by omega]; rfl
theorem pos_cut {k : ByteArray} : ∀ {l : List En} {e : En}, fnd k l = some e → cut k l = l.take (pos k l) ++ l.drop (pos k l + 1)
  | a :: l, e, h => by
    unfold fnd at h
    unfold pos cut
    split at h
    · rename_i hk; cases h; rw [if_pos hk, if_pos hk]; rfl
    · rename_i hk
      have h1 := pos_cut h
      rw [if_neg hk, if_neg hk, h1]; rfl
theorem setN_len (k : ByteArray) (n : Int) (l : List En) : (setN k n l).length = l.length := by
  have := congrArg List.length (setN_keys k n l)
  simpa using this
/-- The key is not among the first i. -/
theorem pos_step {k : ByteArray} : ∀ {l : List En} {i : Nat}, (∀ j e, j < i → l[j]? = some e → e.k ≠ k) → ∀ {e : En}, l[i]? = some e → e.k = k → fnd k l = some e ∧ pos k l = i
  | a :: l, 0, _, e, he, hk => by
    have : a = e := by simpa using he
    subst this
    unfold fnd pos
    rw [if_pos hk, if_pos hk]; exact ⟨rfl, rfl⟩
  | a :: l, i + 1, hn, e, he, hk => by
    have h1 := pos_step (l := l) (i := i) (fun j x hj hx => hn (j + 1) x (by omega) (by simpa using hx)) (by simpa using he) hk
    unfold fnd pos
    rw [if_neg (hn 0 a (by omega) rfl), if_neg (hn 0 a (by omega) rfl), h1.2]
    exact ⟨h1.1, rfl⟩
set_option maxRecDepth 100000 in
set_option maxHeartbeats 1000000 in
theorem ref_at {w : World} {v : Value} {l : List En} (h : Bkt w v l) (hl : l.length ≤ 1000000000) (k : ByteArray) :
    Calls Try.prog 40 #[v, .string k] w fun e w' => e = .returned (.int .i64 (ati k l)) ∧ w = w' := by
  obtain ⟨a, c, rfl⟩ := h.form
  go_enter Try.func40, Try.ntmps40
  go_wp2_with fail
  go_loop [5] (fun p => ∃ i : Nat, p = .int .i64 i ∧ i ≤ l.length ∧ Hid (∀ j e, j < i → l[j]? = some e → e.k ≠ k)) (fun p => l.length - (RowKit.intOf p).toNat)
  case atStart => exact ⟨0, rfl, Nat.zero_le _, hid (fun j e hj => absurd hj (Nat.not_lt_zero j))⟩
  case round =>
    obtain ⟨i, rfl, hi, hno⟩ := hrel
    by_cases hlt : i < l.length
    · obtain ⟨e, he⟩ : ∃ e, l[i]? = some e := ⟨_, List.getElem?_eq_getElem hlt⟩
      obtain ⟨g, hg⟩ : ∃ g, a = some ⟨g, 0, none⟩ := by
        rcases h.2 with ⟨h1, h2⟩ | ⟨g, cap, cur, h1, -⟩
        · omega
        · exact ⟨g, by simpa using congrArg (fun v => match v with | .slice a _ _ => a | _ => none) h1⟩
      subst hg
      have hc := World.ownsRow.cellAt h (i * 2) (by omega)
      rw [(ec_at he).1] at hc
      by_cases hek : e.k = k
      · have hq : (e.k.toList == k.toList) = true := (str_eq _ _).2 hek
        have hv : Hid (ati k l = i) := hid (by
          obtain ⟨h1, h2⟩ := pos_step hno.out he hek
          unfold ati; rw [if_neg (by rw [h1]; simp), h2])
        clear hek hno h he
        go_wp2_with fail
        go_ret
        exact ⟨ret_i64 hv.out.symm, rfl⟩
      · have hq : (e.k.toList == k.toList) = false := Bool.eq_false_iff.2 (fun e1 => hek ((str_eq _ _).1 e1))
        have hno' : Hid (∀ j e, j < i + 1 → l[j]? = some e → e.k ≠ k) := hid (fun j x hj hx => by
          by_cases e1 : j = i
          · subst e1; rw [he] at hx; cases hx; exact hek
          · exact hno.out j x (by omega) hx)
        clear hek hno he
        go_wp2_with fail
        go_round
        case rel => exact ⟨i + 1, by go_num, by omega, hno'⟩
        case measure => simp [RowKit.intOf] <;> omega
    · have hv : Hid (ati k l = -1) := hid (by
        unfold ati; rw [if_pos]
        rw [fnd_none]
        intro e he
        obtain ⟨j, hj⟩ := List.mem_iff_getElem?.1 he
        exact hno.out j e (by have := (List.getElem?_eq_some_iff.1 hj).1; omega) hj)
      clear hno h
      go_wp2_with fail
      go_ret
      exact ⟨ret_i64 hv.out.symm, rfl⟩
end Go.Proofs.Ytfbkfbghejeknaa

/-
  The law ChainPlays at this program. Condition: the script lies in memory.
-/
import Derived.Test.YtfbkfbghejeknaaChainDoes
import Derived.Test.YtfbkfbghejeknaaChainSame
namespace Go.Proofs.Ytfbkfbghejeknaa
open Go Go.Shelf Go.RowKit Go.Lib

/-- A step of the script. -/
structure Op9 (w : World) (b o : Nat) (kd N : Int) (k : ByteArray) : Prop where
  e0 : w.cell? ⟨b, o, none⟩ = some (.int .i64 kd)
  e1 : w.cell? ⟨b, o + 1, none⟩ = some (.int .i64 N)
  e2 : w.cell? ⟨b, o + 2, none⟩ = some (.string k)
  lt : b < w.heap.size
  n1 : -9223372036854775808 ≤ N
  n2 : N ≤ 9223372036854775807
  sz : k.size ≤ 9223372036854775807
theorem does9 {w0 : World} {P Q : Nat} {m : Nat} {w : World} (h : St9 w0 P Q m w) (hm : m + 1 ≤ 1000000000) (k : ByteArray) (hk : k.size ≤ 281474976710656) (kd n : Int) (hn1 : -9223372036854775808 ≤ n) (hn2 : n ≤ 9223372036854775807) :
    Calls Try.prog 11 #[.pointer (some ⟨P, 0, none⟩), .pointer (some ⟨Q, 0, none⟩), .agg #[.int .i64 kd, .int .i64 n, .string k]] w fun e w' => e = .returned (.bool true) ∧ Hid (St9 w0 P Q (m + 1) w') := by
  obtain ⟨s, r, hc, hT⟩ := h
  have key : ∀ (e : Ending) (w' : World), (e = .returned (.bool true) ∧ St9 w0 P Q (s.cnt + 1) w') → (e = .returned (.bool true) ∧ Hid (St9 w0 P Q (m + 1) w')) := fun e w' ⟨he, s', r', hc', hT'⟩ => ⟨he, hid ⟨s', r', by omega, hT'⟩⟩
  by_cases k1 : kd = 1
  · subst k1; exact (does9_set hT k hk n (by omega)).mono key
  · by_cases k2 : kd = 2
    · subst k2; exact (does9_get hT k hk n (by omega)).mono key
    · by_cases k3 : kd = 3
      · subst k3; exact (does9_del hT k hk n (by omega)).mono key
      · by_cases k4 : kd = 4
        · subst k4; exact (does9_step hT k hk n (by omega)).mono key
        · exact (does9_see hT k kd k1 k2 k3 k4 n hn1 hn2 (by omega)).mono key
theorem St9.after {w0 : World} {P Q m : Nat} {w w' : World} (h : St9 w0 P Q m w) (hb : Below w.heap.size w w') : St9 w0 P Q m w' := by
  obtain ⟨s, r, hc, hT⟩ := h
  exact ⟨s, r, hc, hT.after hb⟩
theorem St9.below {w0 : World} {P Q m : Nat} {w : World} (h : St9 w0 P Q m w) : Below w0.heap.size w0 w := by
  obtain ⟨s, r, hc, hT⟩ := h
  exact hT.a.below
theorem new9 {w1 w2 w3 : World} {P Q c : Nat} {r : Rf} (hT : HasT w1 P (Tb.first c) (fun _ => False) w2) (hR : RM Q r (Tb.first c) w3) (hb : Below w2.heap.size w2 w3) (hx : ∀ x, RFt Q r (Tb.first c) x → w2.heap.size ≤ x) : St9 w1 P Q 0 w3 := by
  refine ⟨Tb.first c, r, Nat.le_refl _, hT.more hb (fun x h => ?_), hR, hT.ok, hT.sm, fun x h => Nat.le_trans hT.below.size (hx x h), fun x h => h.elim⟩
  rcases h with h | h
  · exact .inr ⟨hx x h, hR.lt x h⟩
  · exact h.elim

set_option maxRecDepth 100000 in
set_option maxHeartbeats 4000000 in
theorem plays_law (a : Option Addr) (n c0 : Nat) (w : World) (hops : ∀ i, i < n → ∃ b off kd N k, a = some ⟨b, off, none⟩ ∧ Op9 w b (off + i * 3) kd N k) :
    Calls Try.prog 3 #[.slice a n c0] w fun e w' => e = .returned (.bool true) ∧ Below w.heap.size w w' := by
  have HOPS := hid hops
  clear hops
  go_enter Try.func3, Try.ntmps3
  go_wp2_with fail
  refine (shown_any w).mono ?_
  rintro e w1 ⟨rfl, b1⟩
  go_wp2_with fail
  refine (has_new w1).mono ?_
  rintro e w2 ⟨P, c, rfl, hT⟩
  go_wp2_with fail
  refine (ref_new w2 c).mono ?_
  rintro e w3 ⟨Q, r, rfl, hR, b3, hx⟩
  have H0 := hid (new9 hT hR b3 hx)
  clear hT hR b3 hx
  go_wp2_with fail
  go_loopw [6] (fun p wr => ∃ i : Nat, p = .int .i64 i ∧ i ≤ 300 ∧ i ≤ n ∧ Hid (St9 w1 P Q i wr)) (fun p _ => 300 - (RowKit.intOf p).toNat)
  case atStart => exact ⟨0, rfl, Nat.zero_le _, Nat.zero_le _, H0⟩
  case round =>
    obtain ⟨i, rfl, hi, hin, hS⟩ := hrel
    clear H0
    by_cases hlt : i < n ∧ i < 300
    · obtain ⟨l1, l2⟩ := hlt
      obtain ⟨b, off, kd, N, k, rfl, hop⟩ := HOPS.out i l1
      have hbl := Below.then b1 hS.out.below
      have f0 := (hbl.cell (p := ⟨b, off + i * 3, none⟩) hop.lt).trans hop.e0
      have f1 := (hbl.cell (p := ⟨b, off + i * 3 + 1, none⟩) hop.lt).trans hop.e1
      have f2 := (hbl.cell (p := ⟨b, off + i * 3 + 2, none⟩) hop.lt).trans hop.e2
      have l1i : (i : Int) < (n : Int) := by omega
      have l2i : (i : Int) < 300 := by omega
      have i0 : (0 : Int) ≤ (i : Int) := by omega
      have hn1 := hop.n1
      have hn2 := hop.n2
      have hsz := hop.sz
      clear hop hbl
      rcases (show k.size ≤ 300 ∨ 300 < k.size by omega) with hk | hk
      · have hk' : (k.size : Int) ≤ 300 := by omega
        have hd := does9 (hS.out.after ((Below.refl _ wr).alloc (Nat.le_refl _) (.cells #[.int .i64 kd, .int .i64 N, .string k] 29))) (by omega) k (by omega) kd N hn1 hn2
        clear hS
        go_wp2_with fail
        refine hd.mono ?_
        rintro e w5 ⟨rfl, hS5⟩
        clear hd f0 f1 f2
        obtain ⟨s, r5, hc5, hT5⟩ := hS5.out
        have d0 := hT5.rm.c0
        have d5 := hT5.rm.c5
        have cL : ∀ m, Calls Try.prog 12 #[.pointer (some ⟨P, 0, none⟩)] (w5.drewN m) fun e w' => e = .returned (.int .i64 s.cnt) ∧ ∃ m', w' = w5.drewN m' := fun m => (len_any (hT5.a.tm.below (below_drewN w5 m))).mono fun _ _ ⟨he, hw⟩ => ⟨he, m, hw.symm⟩
        have cP : ∀ m, Calls Try.prog 13 #[.pointer (some ⟨P, 0, none⟩)] (w5.drewN m) fun e w' => e = .returned (.int .i64 s.pow) ∧ ∃ m', w' = w5.drewN m' := fun m => (power_any (hT5.a.tm.below (below_drewN w5 m))).mono fun _ _ ⟨he, hw⟩ => ⟨he, m, hw.symm⟩
        have cM : ∀ m, Calls Try.prog 14 #[.pointer (some ⟨P, 0, none⟩)] (w5.drewN m) fun e w' => e = .returned (.int .i64 s.mv) ∧ ∃ m', w' = w5.drewN m' := fun m => (moved_any (hT5.a.tm.below (below_drewN w5 m))).mono fun _ _ ⟨he, hw⟩ => ⟨he, m, hw.symm⟩
        have cR : ∀ m, Calls Try.prog 15 #[.pointer (some ⟨Q, 0, none⟩)] (w5.drewN m) fun e w' => e = .returned (.int .i64 s.mv) ∧ ∃ m', w' = w5.drewN m' := fun m => (ref_moved (hT5.rm.drewN m)).mono fun _ _ ⟨he, hw⟩ => ⟨he, m, hw.symm⟩
        generalize s.mv = mv at *
        generalize s.pow = pw at *
        generalize s.cnt = cn at *
        clear hT5
        go_wp2_with fail
        go_quiet (first | exact cL _ | exact cP _ | exact cM _ | exact cR _)
        go_wp2_with fail
        go_roundw
        case rel => exact ⟨i + 1, by go_num, by omega, by omega, hid (hS5.out.after (below_drewN w5 _))⟩
        case measure => simp [RowKit.intOf] <;> omega
      · have hk' : (300 : Int) < (k.size : Int) := by omega
        have hd := does9 (hS.out.after ((Below.refl _ wr).alloc (Nat.le_refl _) (.cells #[.int .i64 kd, .int .i64 N, .string (k.extract 0 300)] 29))) (by omega) (k.extract 0 300) (by rw [ByteArray.size_extract]; omega) kd N hn1 hn2
        clear hS
        go_wp2_with fail
        refine hd.mono ?_
        rintro e w5 ⟨rfl, hS5⟩
        clear hd f0 f1 f2
        obtain ⟨s, r5, hc5, hT5⟩ := hS5.out
        have d0 := hT5.rm.c0
        have d5 := hT5.rm.c5
        have cL : ∀ m, Calls Try.prog 12 #[.pointer (some ⟨P, 0, none⟩)] (w5.drewN m) fun e w' => e = .returned (.int .i64 s.cnt) ∧ ∃ m', w' = w5.drewN m' := fun m => (len_any (hT5.a.tm.below (below_drewN w5 m))).mono fun _ _ ⟨he, hw⟩ => ⟨he, m, hw.symm⟩
        have cP : ∀ m, Calls Try.prog 13 #[.pointer (some ⟨P, 0, none⟩)] (w5.drewN m) fun e w' => e = .returned (.int .i64 s.pow) ∧ ∃ m', w' = w5.drewN m' := fun m => (power_any (hT5.a.tm.below (below_drewN w5 m))).mono fun _ _ ⟨he, hw⟩ => ⟨he, m, hw.symm⟩
        have cM : ∀ m, Calls Try.prog 14 #[.pointer (some ⟨P, 0, none⟩)] (w5.drewN m) fun e w' => e = .returned (.int .i64 s.mv) ∧ ∃ m', w' = w5.drewN m' := fun m => (moved_any (hT5.a.tm.below (below_drewN w5 m))).mono fun _ _ ⟨he, hw⟩ => ⟨he, m, hw.symm⟩
        have cR : ∀ m, Calls Try.prog 15 #[.pointer (some ⟨Q, 0, none⟩)] (w5.drewN m) fun e w' => e = .returned (.int .i64 s.mv) ∧ ∃ m', w' = w5.drewN m' := fun m => (ref_moved (hT5.rm.drewN m)).mono fun _ _ ⟨he, hw⟩ => ⟨he, m, hw.symm⟩
        generalize s.mv = mv at *
        generalize s.pow = pw at *
        generalize s.cnt = cn at *
        clear hT5
        go_wp2_with fail
        go_quiet (first | exact cL _ | exact cP _ | exact cM _ | exact cR _)
        go_wp2_with fail
        go_roundw
        case rel => exact ⟨i + 1, by go_num, by omega, by omega, hid (hS5.out.after (below_drewN w5 _))⟩
        case measure => simp [RowKit.intOf] <;> omega
    · have hcase : i = n ∨ (i < n ∧ i = 300) := by omega
      clear hlt HOPS
      obtain ⟨s, r5, hc5, hT5⟩ := hS.out
      have hN : s.ents.length ≤ 1073741824 := by rw [← hT5.ok.cnt]; omega
      have hK := keys_see hT5.a.tm hT5.a.ok.mid hN
      have hR : ∀ w2, Below wr.heap.size wr w2 → Calls Try.prog 18 #[.pointer (some ⟨Q, 0, none⟩)] w2 fun e w' => ∃ v, e = .returned v ∧ w'.ownsRow w2.heap.size 9 1 v (s.ents.map En.k).length (kc (s.ents.map En.k)) ∧ Below w2.heap.size w2 w' := fun w2 b2 => ref_keysAll (hT5.after b2).rm hT5.ok.mid hN
      have hbl := Below.then b1 hT5.a.below
      have hlen : (s.ents.map En.k).length ≤ 1073741824 := by rw [List.length_map]; exact hN
      generalize s.ents.map En.k = xs at *
      clear hS hT5 hc5 hN
      rcases hcase with h0 | ⟨h0, h1⟩
      · have h0' : (n : Int) ≤ (i : Int) := by omega
        clear h0 hi hin
        go_wp2_with fail
        refine hK.mono ?_
        rintro e w5 ⟨v, rfl, o1, b5⟩
        obtain ⟨a1, c1, rfl, hs1⟩ := strs_of_row o1 rfl
        have hR5 := hR w5 b5
        clear hK hR
        go_wp2_with fail
        refine hR5.mono ?_
        rintro e w6 ⟨v, rfl, o2, b6⟩
        obtain ⟨a2, c2, rfl, hs2⟩ := strs_of_row o2 rfl
        have h7 := same_keys a1 a2 xs.length c1 c2 xs (by omega) w6 (hs1.below b6) hs2
        clear hR5 o1 o2 hs1 hs2
        go_wp2_with fail
        refine h7.mono ?_
        rintro e w7 ⟨rfl, b7⟩
        go_wp2_with fail
        go_ret
        exact ⟨rfl, Below.then hbl (Below.then b5 (Below.then b6 b7))⟩
      · have h0' : (i : Int) < (n : Int) := by omega
        have h1' : (300 : Int) ≤ (i : Int) := by omega
        clear h0 hi hin
        go_wp2_with fail
        refine hK.mono ?_
        rintro e w5 ⟨v, rfl, o1, b5⟩
        obtain ⟨a1, c1, rfl, hs1⟩ := strs_of_row o1 rfl
        have hR5 := hR w5 b5
        clear hK hR
        go_wp2_with fail
        refine hR5.mono ?_
        rintro e w6 ⟨v, rfl, o2, b6⟩
        obtain ⟨a2, c2, rfl, hs2⟩ := strs_of_row o2 rfl
        have h7 := same_keys a1 a2 xs.length c1 c2 xs (by omega) w6 (hs1.below b6) hs2
        clear hR5 o1 o2 hs1 hs2
        go_wp2_with fail
        refine h7.mono ?_
        rintro e w7 ⟨rfl, b7⟩
        go_wp2_with fail
        go_ret
        exact ⟨rfl, Below.then hbl (Below.then b5 (Below.then b6 b7))⟩
end Go.Proofs.Ytfbkfbghejeknaa

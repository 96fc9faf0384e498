/-
  One step on both tables (ambrylaw09.does) at this program: Set, Get, Delete, Step. Conditions: the key has at most 2^48 bytes, there are fewer than 10^9 entries.
-/
import Derived.Test.YtfbkfbghejeknaaChainTwo
import Derived.Deep.RegionHeld3
namespace Go.Proofs.Ytfbkfbghejeknaa
open Go Go.Shelf Go.RowKit Go.Lib

theorem boxed {w0 : World} {P Q : Nat} {s u : Tb} {r : Rf} {w : World} (h : Two9 w0 P s Q r u (fun _ => False) w) (cs : Array Value) (t : TypeId) :
    Two9 w0 P s Q r u (fun x => x = w.heap.size) (w.alloc (.cells cs t)) :=
  h.more ((Below.refl _ w).alloc (Nat.le_refl _) _) (fun x hx => by subst hx; exact ⟨Nat.le_refl _, by simp⟩)

set_option maxHeartbeats 2000000 in
set_option maxRecDepth 100000 in
theorem does9_set {w0 : World} {P Q : Nat} {s : Tb} {r : Rf} {w : World} (h : Two9 w0 P s Q r s (fun _ => False) w) (k : ByteArray) (hk : k.size ≤ 281474976710656) (n : Int) (hc : s.cnt + 1 ≤ 1000000000) :
    Calls Try.prog 11 #[.pointer (some ⟨P, 0, none⟩), .pointer (some ⟨Q, 0, none⟩), .agg #[.int .i64 1, .int .i64 n, .string k]] w fun e w' => e = .returned (.bool true) ∧ St9 w0 P Q (s.cnt + 1) w' := by
  have hB := Blk.new w #[.int .i64 1, .int .i64 n, .string k] 29
  have T1 := boxed h #[.int .i64 1, .int .i64 n, .string k] 29
  have h1 := set_any T1.a.tm T1.a.ok k hk n hc
  have x0 := hB.cell (i := 0) rfl
  have x1 := hB.cell (i := 1) rfl
  have x2 := hB.cell (i := 2) rfl
  have HB := hid hB
  have HT := hid T1
  clear hB T1 h
  go_enter Try.func11, Try.ntmps11
  go_wp2_with fail
  refine h1.mono ?_
  rintro e w2 ⟨rfl, b, c, g⟩
  have hB2 := HT.out.blkL g HB.out rfl
  have hT2 := HT.out.left g (set_sm HT.out.a.ok HT.out.a.sm b c hk n)
  have h2 := ref_set hT2.rm hT2.ok hc k hk n b c
  have y1 := hB2.cell (i := 1) rfl
  have y2 := hB2.cell (i := 2) rfl
  have HT2 := hid hT2
  have ok2 := hid (hT2.ok.set b c k n)
  have sm2 := hid (set_sm hT2.ok hT2.sm b c hk n)
  clear hB2 hT2 HB g h1 x0 x1 x2
  go_wp2_with fail
  refine h2.mono ?_
  rintro e w3 ⟨rfl, r3, g3⟩
  have hT3 := hid (HT2.out.right g3 ok2.out sm2.out).less
  have hcn := set_cnt s b c k n
  clear h2 g3 HT2 y1 y2 ok2 sm2
  go_wp2_with fail
  go_ret
  exact ⟨rfl, _, _, hcn, hT3.out⟩

set_option maxHeartbeats 2000000 in
set_option maxRecDepth 100000 in
theorem does9_get {w0 : World} {P Q : Nat} {s : Tb} {r : Rf} {w : World} (h : Two9 w0 P s Q r s (fun _ => False) w) (k : ByteArray) (hk : k.size ≤ 281474976710656) (n : Int) (hc : s.cnt + 1 ≤ 1000000000) :
    Calls Try.prog 11 #[.pointer (some ⟨P, 0, none⟩), .pointer (some ⟨Q, 0, none⟩), .agg #[.int .i64 2, .int .i64 n, .string k]] w fun e w' => e = .returned (.bool true) ∧ St9 w0 P Q (s.cnt + 1) w' := by
  have hB := Blk.new w #[.int .i64 2, .int .i64 n, .string k] 29
  have T1 := boxed h #[.int .i64 2, .int .i64 n, .string k] 29
  have x0 := hB.cell (i := 0) rfl
  have x2 := hB.cell (i := 2) rfl
  have HB := hid hB
  have HT := hid T1
  have h1 := get_any T1.a.tm T1.a.ok.mid k (by omega)
  have hXl := hB.lt
  have h2 : ∀ w2, Below (w.alloc (.cells #[.int .i64 2, .int .i64 n, .string k] 29)).heap.size (w.alloc (.cells #[.int .i64 2, .int .i64 n, .string k] 29)) w2 → Calls Try.prog 27 #[.pointer (some ⟨Q, 0, none⟩), .string k] w2 fun e w' => e = .returned (.tuple #[.int .i64 ((s.get k).getD 0), .bool (s.get k).isSome]) ∧ Hid (Two9 w0 P s Q r s (fun _ => False) w') := fun w2 b2 =>
    (ref_get (T1.after b2).rm T1.ok (by omega) k (by omega)).mono fun _ _ ⟨he, b⟩ => ⟨he, hid ((T1.after b2).after b).less⟩
  obtain ⟨N, hN⟩ : ∃ N, (s.get k).getD 0 = N := ⟨_, rfl⟩
  obtain ⟨b, hb⟩ : ∃ b, (s.get k).isSome = b := ⟨_, rfl⟩
  rw [hN, hb] at h1 h2
  clear hB T1 h hN hb
  go_enter Try.func11, Try.ntmps11
  go_wp2_with fail
  refine h1.mono ?_
  rintro e w2 ⟨rfl, b2⟩
  have y2 := (b2.cell (p := ⟨w.heap.size, 2, none⟩) hXl).trans x2
  have h2 := h2 w2 b2
  clear h1 x0 x2 HB
  go_wp2_with fail
  refine h2.mono ?_
  rintro e w3 ⟨rfl, hT3⟩
  clear h2
  cases b
  all_goals
    go_wp2_with fail
    go_ret
    exact ⟨rfl, _, _, Nat.le_succ _, hT3.out⟩

set_option maxHeartbeats 2000000 in
set_option maxRecDepth 100000 in
theorem does9_del {w0 : World} {P Q : Nat} {s : Tb} {r : Rf} {w : World} (h : Two9 w0 P s Q r s (fun _ => False) w) (k : ByteArray) (hk : k.size ≤ 281474976710656) (n : Int) (hc : s.cnt + 1 ≤ 1000000000) :
    Calls Try.prog 11 #[.pointer (some ⟨P, 0, none⟩), .pointer (some ⟨Q, 0, none⟩), .agg #[.int .i64 3, .int .i64 n, .string k]] w fun e w' => e = .returned (.bool true) ∧ St9 w0 P Q (s.cnt + 1) w' := by
  have hB := Blk.new w #[.int .i64 3, .int .i64 n, .string k] 29
  have T1 := boxed h #[.int .i64 3, .int .i64 n, .string k] 29
  have x0 := hB.cell (i := 0) rfl
  have x2 := hB.cell (i := 2) rfl
  have HB := hid hB
  have HT := hid T1
  have T1d := hid (T1.after (Below.refl _ _).drew)
  have hBd : Hid (Blk (w.alloc (.cells #[.int .i64 3, .int .i64 n, .string k] 29)).drew w.heap.size 29 [.int .i64 3, .int .i64 n, .string k]) := hid hB.drew
  have HP : Hid (∀ r u W, Two9 w0 P s Q r u (fun x => x = w.heap.size) W → Calls Try.prog 20 #[.pointer (some ⟨P, 0, none⟩), .string k] W fun e w' => e = .returned (.bool (s.get k).isSome) ∧ Hid (Go9 P s W (s.del k) w')) := hid (fun r u W hT =>
    (del_any hT.a.tm hT.a.ok k hk (by omega)).mono fun _ _ ⟨he, g⟩ => ⟨he, hid g⟩)
  have HR : Hid (∀ s' W, Two9 w0 P s' Q r s (fun x => x = w.heap.size) W → Calls Try.prog 28 #[.pointer (some ⟨Q, 0, none⟩), .string k] W fun e w' => e = .returned (.bool (s.get k).isSome) ∧ ∃ r', Hid (RGo Q r s W r' (s.del k) w')) := hid (fun s' W hT =>
    (ref_del hT.rm hT.ok (by omega) k hk).mono fun _ _ ⟨he, r', g⟩ => ⟨he, r', hid g⟩)
  have smd := hid (del_sm T1.a.ok T1.a.sm k)
  have okd := hid (T1.ok.del k)
  obtain ⟨b, hb⟩ : ∃ b, (s.get k).isSome = b := ⟨_, rfl⟩
  rw [hb] at HP HR
  have hx2 : (w.alloc (.cells #[.int .i64 3, .int .i64 n, .string k] 29)).drew.cell? ⟨w.heap.size, 2, none⟩ = some (.string k) := x2
  clear hB T1 h hb HT HB
  go_enter Try.func11, Try.ntmps11
  go_wp2_with fail
  go_region_held3 (fun w' => w'.cell? ⟨w.heap.size, 2, none⟩ = some (.string k)) (first | exact hxj1 | exact hxi1 | exact hx2) (first
    | (go_at_call 20; refine (HP.out _ _ _ hm2.out).mono ?_; rintro e w4 ⟨rfl, h4⟩; have hB4 := hid (hm2.out.blkL h4.out hB3.out rfl); have hxj1 := hB4.out.cell (i := 2) rfl; have hst := hid (hm2.out.left h4.out smd.out).less; clear h4)
    | (go_at_call 20; refine (HP.out _ _ _ T1d.out).mono ?_; rintro e w3 ⟨rfl, h3⟩; have hB3 := hid (T1d.out.blkL h3.out hBd.out rfl); have hxi1 := hB3.out.cell (i := 2) rfl; have hr2 := hid (T1d.out.left h3.out smd.out); clear h3)
    | (go_at_call 28; refine (HR.out _ _ hr2.out).mono ?_; rintro e w4 ⟨rfl, r4, h4⟩; have hB4 := hid (hr2.out.blkR h4.out hB3.out rfl); have hxj1 := hB4.out.cell (i := 2) rfl; have hst := hid (hr2.out.right h4.out okd.out smd.out).less; clear h4)
    | (go_at_call 28; refine (HR.out _ _ T1d.out).mono ?_; rintro e w3 ⟨rfl, r3, h3⟩; have hB3 := hid (T1d.out.blkR h3.out hBd.out rfl); have hxi1 := hB3.out.cell (i := 2) rfl; have hm2 := hid (T1d.out.right h3.out okd.out smd.out); clear h3))
  all_goals
    have hcn := Nat.le_succ_of_le (del_cnt s k)
    clear HP HR T1d hBd
    go_wp2_with fail
    go_ret
    exact ⟨by simp, _, _, hcn, hst.out⟩

set_option maxHeartbeats 2000000 in
set_option maxRecDepth 100000 in
theorem does9_step {w0 : World} {P Q : Nat} {s : Tb} {r : Rf} {w : World} (h : Two9 w0 P s Q r s (fun _ => False) w) (k : ByteArray) (_hk : k.size ≤ 281474976710656) (n : Int) (hc : s.cnt + 1 ≤ 1000000000) :
    Calls Try.prog 11 #[.pointer (some ⟨P, 0, none⟩), .pointer (some ⟨Q, 0, none⟩), .agg #[.int .i64 4, .int .i64 n, .string k]] w fun e w' => e = .returned (.bool true) ∧ St9 w0 P Q (s.cnt + 1) w' := by
  have hB := Blk.new w #[.int .i64 4, .int .i64 n, .string k] 29
  have T1 := boxed h #[.int .i64 4, .int .i64 n, .string k] 29
  have x0 := hB.cell (i := 0) rfl
  have x2 := hB.cell (i := 2) rfl
  have HB := hid hB
  have HT := hid T1
  have h1 := step_any T1.a.tm T1.a.ok T1.a.sm
  have sm2 := hid (step_sm T1.a.ok T1.a.sm)
  have ok2 := hid T1.ok.step
  have h2 : ∀ w2, Hid (Two9 w0 P s.step Q r s (fun x => x = w.heap.size) w2) → Calls Try.prog 29 #[.pointer (some ⟨Q, 0, none⟩)] w2 fun e w' => e = .returned (.bool (decide (s.step.old ≠ []))) ∧ ∃ r', Hid (Two9 w0 P s.step Q r' s.step (fun _ => False) w') := fun w2 hT =>
    (ref_step hT.out.rm hT.out.ok (by omega) hT.out.sm).mono fun _ _ ⟨he, r', g⟩ => ⟨he, r', hid (hT.out.right g ok2.out sm2.out).less⟩
  obtain ⟨b, hb⟩ : ∃ b, decide (s.step.old ≠ []) = b := ⟨_, rfl⟩
  rw [hb] at h1 h2
  clear hB T1 h hb
  go_enter Try.func11, Try.ntmps11
  go_wp2_with fail
  refine h1.mono ?_
  rintro e w2 ⟨rfl, g⟩
  have h2 := h2 w2 (hid (HT.out.left g sm2.out))
  clear h1 x0 x2 HB g
  go_wp2_with fail
  refine h2.mono ?_
  rintro e w3 ⟨rfl, r3, hT3⟩
  have hcn := Nat.le_succ_of_le (Nat.le_of_eq (step_cnt s))
  clear h2
  go_wp2_with fail
  go_ret
  exact ⟨by simp, _, _, hcn, hT3.out⟩

set_option maxHeartbeats 2000000 in
set_option maxRecDepth 100000 in
theorem does9_see {w0 : World} {P Q : Nat} {s : Tb} {r : Rf} {w : World} (h : Two9 w0 P s Q r s (fun _ => False) w) (k : ByteArray) (kd : Int) (k1 : kd ≠ 1) (k2 : kd ≠ 2) (k3 : kd ≠ 3) (k4 : kd ≠ 4) (n : Int) (hn1 : -9223372036854775808 ≤ n) (hn2 : n ≤ 9223372036854775807) (hc : s.cnt + 1 ≤ 1000000000) :
    Calls Try.prog 11 #[.pointer (some ⟨P, 0, none⟩), .pointer (some ⟨Q, 0, none⟩), .agg #[.int .i64 kd, .int .i64 n, .string k]] w fun e w' => e = .returned (.bool true) ∧ St9 w0 P Q (s.cnt + 1) w' := by
  have hB := Blk.new w #[.int .i64 kd, .int .i64 n, .string k] 29
  have T1 := boxed h #[.int .i64 kd, .int .i64 n, .string k] 29
  have x0 := hB.cell (i := 0) rfl
  have x1 := hB.cell (i := 1) rfl
  have hXl := hB.lt
  have hN : s.ents.length ≤ 1073741824 := by rw [← T1.ok.cnt]; omega
  have h1 := bucket_see T1.a.tm T1.a.ok.mid hN n hn1 hn2
  obtain ⟨W1, hW1⟩ : ∃ W1, w.alloc (.cells #[.int .i64 kd, .int .i64 n, .string k] 29) = W1 := ⟨_, rfl⟩
  rw [hW1] at h1 hXl T1
  have HW1 := hid hW1
  have h2 : ∀ w2, Below W1.heap.size W1 w2 → Calls Try.prog 30 #[.pointer (some ⟨Q, 0, none⟩), .int .i64 n] w2 fun e w' => ∃ v, e = .returned v ∧ w'.ownsRow w2.heap.size 9 1 v ((if 0 ≤ n then s.new[n.toNat]?.getD [] else []).map En.k).length (kc ((if 0 ≤ n then s.new[n.toNat]?.getD [] else []).map En.k)) ∧ Below w2.heap.size w2 w' := fun w2 b2 =>
    ref_see (T1.after b2).rm T1.ok.mid hN n hn1 hn2
  have hlen : ((if 0 ≤ n then s.new[n.toNat]?.getD [] else []).map En.k).length ≤ 1073741824 := by
    split
    · rw [List.length_map]
      cases hh : s.new[n.toNat]? with
      | none => exact Nat.zero_le _
      | some l => exact rows_le hN (List.mem_append_right _ (List.mem_of_getElem? hh))
    · exact Nat.zero_le _
  generalize (if 0 ≤ n then s.new[n.toNat]?.getD [] else []).map En.k = xs at *
  have HT := hid T1
  have q1 : (kd == 1) = false := by simpa using k1
  have q2 : (kd == 2) = false := by simpa using k2
  have q3 : (kd == 3) = false := by simpa using k3
  have q4 : (kd == 4) = false := by simpa using k4
  clear hB T1 h k1 k2 k3 k4
  have y1 := x1
  rw [hW1] at y1
  clear hW1
  go_enter Try.func11, Try.ntmps11
  go_wp2_with fail
  rw [HW1.out]
  clear x0 x1
  refine h1.mono ?_
  rintro e w2 ⟨v, rfl, o1, b1⟩
  obtain ⟨a, c, rfl, hs1⟩ := strs_of_row o1 rfl
  have y2 := (b1.cell (p := ⟨w.heap.size, 1, none⟩) hXl).trans y1
  have h3 := h2 w2 b1
  clear h1 h2 y1
  go_wp2_with fail
  refine h3.mono ?_
  rintro e w3 ⟨v, rfl, o2, b2⟩
  obtain ⟨a2, c2, rfl, hs2⟩ := strs_of_row o2 rfl
  have h4 := same_keys a a2 xs.length c c2 xs (by omega) w3 (hs1.below b2) hs2
  clear h3 y2 o2 hs2 hs1
  go_wp2_with fail
  refine h4.mono ?_
  rintro e w4 ⟨rfl, b4⟩
  have b14 := Below.then b1 (Below.then b2 b4)
  have b24 := Below.then b2 b4
  have o4 : w4.ownsRow W1.heap.size 9 1 (.slice a xs.length c) xs.length (kc xs) := ⟨o1.1, o1.2.imp id (fun ⟨g, cap, cur, e, h0, hg, q⟩ => ⟨g, cap, cur, e, h0, (b24.block g (Array.getElem?_eq_some_iff.1 hg).1).trans hg, q⟩)⟩
  clear h4 o1 b1 b2 b4 b24
  go_wp2_with fail
  generalize kc xs = cs at *
  generalize xs.length = L at *
  go_loopw [13] (fun p wr => ∃ (i : Nat) (cs : List Value), p = .int .i64 i ∧ i ≤ L ∧ wr.ownsRow W1.heap.size 9 1 (.slice a L c) L cs ∧ Below W1.heap.size W1 wr) (fun p _ => L - (RowKit.intOf p).toNat)
  case atStart => exact ⟨0, cs, rfl, Nat.zero_le _, o4, b14⟩
  case round =>
    obtain ⟨i, cs, rfl, hi, ho, hb⟩ := hrel
    clear o4 b14
    by_cases hlt : i < L
    · obtain ⟨g, cap, hg, hgb⟩ : ∃ g cap, (Value.slice a L c) = .slice (some ⟨g, 0, none⟩) L cap ∧ W1.heap.size ≤ g := by
        rcases ho.2 with ⟨_, h2⟩ | ⟨g, cap, cur, h1, h2, -⟩
        · omega
        · exact ⟨g, cap, h1, h2⟩
      obtain ⟨rfl, rfl⟩ : a = some ⟨g, 0, none⟩ ∧ c = cap := by simpa using hg
      have hf := World.ownsRow.frozenAt ho i
      have hcl := World.ownsRow.cellAt ho i (by omega)
      obtain ⟨u, hu⟩ : ∃ u, cs[i]? = some u := ⟨_, List.getElem?_eq_getElem (by have := ho.1; omega)⟩
      rw [hu] at hcl
      have hst := hid (World.ownsRow.stored ho i (.string ⟨#[63]⟩)).1
      have hb2 := hid (Below.setCell hb (p := ⟨g, i, none⟩) hgb (.string ⟨#[63]⟩))
      clear ho hb hu hg
      go_wp2_with fail
      go_roundw
      case rel => exact ⟨i + 1, _, by go_num, by omega, hst.out, hb2.out⟩
      case measure => simp [RowKit.intOf] <;> omega
    · obtain rfl : i = L := by omega
      have hT := hid (HT.out.after hb).less
      clear ho hb
      go_wp2_with fail
      go_ret
      exact ⟨rfl, _, _, Nat.le_succ _, hT.out⟩
end Go.Proofs.Ytfbkfbghejeknaa

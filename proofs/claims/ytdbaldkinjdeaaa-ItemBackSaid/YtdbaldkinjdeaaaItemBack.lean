/-
  The law ItemBack at this program: what is written is read as it was, whatever stands behind; a beginning of it is not. Conditions: the fields are such as their types hold; at most 2^47 - 4096 bytes behind, as many of the key.
-/
import Derived.Test.YtdbaldkinjdeaaaItemLent
import Derived.Deep.DeepAppendWide
namespace Go.Proofs.Ytdbaldkinjdeaaa
open Go Go.RowKit Go.Lib

theorem fold_mod (n : Int) (c : Nat) : ∃ m : Nat, (0 < c → m < c) ∧ ((n < 0 ∧ (n + 1).tmod (c : Int) = -(m : Int)) ∨ (¬ n < 0 ∧ n.tmod (c : Int) = (m : Int))) := by
  by_cases h : n < 0
  · obtain ⟨j, hj⟩ : ∃ j : Nat, n = -(j : Int) - 1 := ⟨(-(n + 1)).toNat, by omega⟩
    refine ⟨j % c, fun hc => Nat.mod_lt _ hc, .inl ⟨h, ?_⟩⟩
    subst hj
    rw [show -(j : Int) - 1 + 1 = -(j : Int) from by omega, Int.neg_tmod, Int.tmod_eq_emod_of_nonneg (by omega)]; rfl
  · obtain ⟨j, hj⟩ : ∃ j : Nat, n = (j : Int) := ⟨n.toNat, by omega⟩
    refine ⟨j % c, fun hc => Nat.mod_lt _ hc, .inr ⟨h, ?_⟩⟩
    subst hj
    rw [Int.tmod_eq_emod_of_nonneg (by omega)]; rfl

set_option maxHeartbeats 4000000 in
set_option maxRecDepth 100000 in
theorem back_no (x : It) (rx : x.right = false) (hk : x.key.size < 9223372036854775807) (a : Option Addr) (n c : Nat) (cut : Int) (w : World) :
    Calls Try.prog 5 #[x.v, .slice a n c, .int .i64 cut] w fun e w' => e = .returned (.bool true) ∧ Below w.heap.size w w' := by
  have hex := fun w => enc_bad x rx w
  have hri := fun w => ref_right x w hk
  rw [rx] at hri
  have HT := hid (one_of w x)
  clear rx hk
  simp only [It.v, It.cells] at hex hri HT ⊢
  go_enter Try.func5, Try.ntmps5
  go_wp2_with fail
  refine (shown_any _).mono ?_
  rintro e w1 ⟨rfl, b1⟩
  have HT1 := hid (HT.out.next b1)
  clear HT b1
  obtain ⟨q0, q1, q2, q3, q4, q5, q6, q7⟩ := box_cells HT1.out.one
  go_wp2_with fail
  refine (hex _).mono ?_
  rintro e w2 ⟨rfl, hb⟩
  have HT2 := hid (HT1.out.next hb)
  clear HT1 hb hex q0 q1 q2 q3 q4 q5 q6 q7
  obtain ⟨q0, q1, q2, q3, q4, q5, q6, q7⟩ := box_cells HT2.out.one
  go_wp2_with fail
  refine (hri _).mono ?_
  rintro e w3 ⟨rfl, hb⟩
  have HT3 := hid (HT2.out.next hb)
  clear hb hri q0 q1 q2 q3 q4 q5 q6 q7
  go_wp2_with fail
  go_ret
  exact ⟨rfl, HT3.out.below⟩

theorem bc_app (a b : List UInt8) : bc (a ++ b) = bc a ++ bc b := by simp [bc]
theorem below_more {wa wb wc : World} {base : Nat} {e : TypeId} {size k : Nat} {v : Value} {xs : List Value} (h : wb.ownsRow base e size v k xs) (hb : Below wa.heap.size wa wb) (hbase : base = wa.heap.size) (hg : wb.grownBy wc v.ownBlock) : Below wa.heap.size wa wc := by
  subst hbase
  refine hb.grown hg hb.size fun j ej => ?_
  · rcases h.2 with ⟨rfl, _⟩ | ⟨g, cap, cur, rfl, hbb, _, _⟩
    · simp [Value.ownBlock] at ej
    · obtain rfl : g = j := by simpa [Value.ownBlock] using ej
      exact hbb
theorem take_byts {w : World} {g kk : Nat} {l : List UInt8} (h : Blk w g 5 (bc l)) (hk : kk ≤ l.length) (c : Nat) : Byts w (.slice (some ⟨g, 0, none⟩) kk c) (l.take kk) := by
  refine ⟨some ⟨g, 0, none⟩, c, by rw [List.length_take, Nat.min_eq_left hk], fun j b hj => ⟨g, 0, rfl, h.lt, ?_⟩⟩
  rw [List.getElem?_take] at hj
  split at hj
  · rw [Nat.zero_add]; exact h.cell (bc_at hj)
  · cases hj
theorem ne_of_own {ad : Addr} {n c k : Nat} {v : Value} (h : v = .slice none 0 0 ↔ (Value.slice (some ad) n c = .slice none 0 0 ∧ k = 0)) : v ≠ .slice none 0 0 := fun e => by
  have h1 := (h.1 e).1
  cases h1

/-- What the second half wants: the bytes and the item, in the world behind the copy. -/
structure Bk (w : World) (x : It) (g n : Nat) (l : List UInt8) (v : Value) (wx : World) : Prop where
  one : One w x wx
  row : Blk wx g 5 (bc x.enc)
  dec : ∃ gl cp, v = .slice (some ⟨gl, 0, none⟩) n cp ∧ Calls Try.prog 14 #[.slice (some ⟨gl, 0, none⟩) n cp] wx fun e w' => e = .returned (decV (some x)) ∧ Below wx.heap.size wx w'
theorem bk_of {w w2 wx : World} {x : It} (hx : x.Ok) (rx : x.right = true) {g N n : Nat} {l : List UInt8} {v : Value} (h1 : One w x w2) (h2 : Blk w2 g 5 (bc x.enc)) (hr : wx.ownsRow w2.heap.size 5 1 v (N + n) (bc (x.enc ++ l))) (hv : v ≠ .slice none 0 0)
    (hb : Below w2.heap.size w2 wx) (hN : x.enc.length = N) (hl : l.length = n) : Bk w x g (N + n) l v wx := by
  obtain ⟨gl, cp, cur, rfl, hcp, _, hblk, hcur, _⟩ := lent_of hr hv hb
  have hlen : (x.enc ++ l).length = N + n := by rw [List.length_append, hN, hl]
  have hd := dec_any wx (some ⟨gl, 0, none⟩) (N + n) cp (x.enc ++ l) (lent_byts hblk hcur hlen) hlen hcp
  rw [dec_enc hx rx l] at hd
  exact ⟨h1.next hb, h2.below hb, gl, cp, rfl, hd⟩

set_option maxHeartbeats 4000000 in
set_option maxRecDepth 100000 in
theorem back_yes (x : It) (hx : x.Ok) (rx : x.right = true) (a : Option Addr) (n c : Nat) (l : List UInt8) (hl : l.length = n) (w : World) (hv : Byts w (.slice a n c) l) (hnil : a = none → c = 0) (hn : n ≤ 140737488351232)
    (cut : Int) (a0 : -9223372036854775808 ≤ cut) (a1 : cut ≤ 9223372036854775807) :
    Calls Try.prog 5 #[x.v, .slice a n c, .int .i64 cut] w fun e w' => e = .returned (.bool true) ∧ Below w.heap.size w w' := by
  obtain ⟨i0, hi, hz0, hz1, hz2⟩ := info_parts infoByte
  have hex := fun w => enc_ok x hx rx w
  have hel := x.enc_len
  obtain ⟨r1, r2, _, r3, _, _⟩ := It.right_parts rx
  obtain ⟨N, hN⟩ : ∃ N, N = x.enc.length := ⟨_, rfl⟩
  rw [← hN] at hex
  have hsi := fun w => size_any (x.key.size : Int) (x.val.size : Int) w
  rw [size_small (by omega) r3, show 40 + x.key.size + x.val.size = N by omega] at hsi
  have hneq := fun W => item_neq x x W
  rw [sameB_iff.2 rfl, Bool.not_true] at hneq
  obtain ⟨kk, hkk, hcut⟩ := fold_mod cut N
  have hkN : kk < N := hkk (by omega)
  have hdt : dec (x.enc.take kk) = none := dec_take hx rx (by omega)
  have hNb : N ≤ 100000 := by omega
  have n0 : ¬ (N : Int) = 0 := by omega
  have n0' : ¬ N = 0 := by omega
  have kN : (kk : Int) ≤ (N : Int) := by omega
  obtain ⟨el, hEL⟩ : ∃ el, el = bc x.enc := ⟨_, rfl⟩
  have heln : el.length = N := by rw [hEL, bc_len]; exact hN.symm
  obtain ⟨cl, hcl⟩ : ∃ cl, cl = bc l := ⟨_, rfl⟩
  have hcn : cl.length = n := by rw [hcl, bc_len, hl]
  have HO := hid (bc_ok l)
  have HOe := hid (bc_ok x.enc)
  rw [← hcl] at HO
  rw [← hEL] at HOe
  have HN := hid hN
  have HEL := hid hEL
  have HCL := hid hcl
  have HV := hid hv
  have HLN := hid hl
  have HX := hid (And.intro hx rx)
  have HDT := hid hdt
  have HT := hid (one_of w x)
  clear hel hN hEL hcl hv hl rx hx hdt hkk r1 r2 r3
  simp only [It.v, It.cells] at hex hneq HT ⊢
  go_enter Try.func5, Try.ntmps5
  go_wp2_with fail
  refine (shown_any _).mono ?_
  rintro e w1 ⟨rfl, b1⟩
  have HT1 := hid (HT.out.next b1)
  clear HT b1
  obtain ⟨q0, q1, q2, q3, q4, q5, q6, q7⟩ := box_cells HT1.out.one
  go_wp2_with fail
  refine (hex _).mono ?_
  rintro e w2 ⟨g, rfl, hg, hB, hb⟩
  have HT2 := hid (HT1.out.next hb)
  have HB := hid hB
  have HVV := hid (HV.out.below HT2.out.below)
  clear HT1 hb hex q0 q1 q2 q3 q4 q5 q6 q7 hg hB HV
  have HW := hid (World.ownsRow_made (base := w2.heap.size) (e := 5) (size := 1) w2 #[] 0 (Nat.le_refl _) (by unfold maxLen; omega) rfl)
  have HSE := hid (fun (ob : Obj) j v (hj : el[j]? = some v) => by
    have h := (HB.out.alloc ob).cell (i := j) (v := v) (by rw [← HEL.out]; exact hj)
    show (w2.alloc ob).cell? ((⟨g, 0, none⟩ : Addr).add j) = some v
    rw [addr_plain, Nat.zero_add]; exact h)
  cases a with
  | none =>
    obtain rfl : c = 0 := hnil rfl
    obtain rfl : n = 0 := HVV.out.none_ HLN.out
    go_wp2_with (first
      | (at_builtin; have hz := hA1; refine wpList_append_own_none rfl _ _ 27 rfl w2.heap.size 5 i0 1 Try.underlying27 hi v1 N el rfl hA1.out rfl ?_; have hBk := bk_of (l := []) (n := 0) HX.out.1 HX.out.2 HT2.out HB.out (by rw [List.append_nil, ← HEL.out]; exact hA1.out) HV1.out HB3.out HN.out.symm rfl; obtain ⟨gl, cp, rfl, hdc⟩ := hBk.dec; have HBK := hid (And.intro hBk.one hBk.row); clear hBk hA1)
      | (at_builtin; refine wpList_append_own _ rfl _ _ 27 rfl w2.heap.size 5 i0 (.int .u8 0) 1 1 Try.underlying27 hi hz0 hz1 hz2 rfl (by decide) (.slice (some ⟨w2.heap.size, 0, none⟩) 0 0) 0 [] rfl HW.out ⟨g, 0, none⟩ N N el rfl (by rw [heln, Nat.mul_one]) (HSE.out _) HOe.out (by unfold maxLen; omega) (by omega) (by simp) ?_; intro v1 w3 hown hgrow hnn; have HB3 := hid (((Below.refl w2.heap.size w2).alloc (Nat.le_refl _) _).grown hgrow (by simp) (fun k hk => by simp [Value.ownBlock] at hk; omega)); rw [Nat.zero_add, List.nil_append] at hown; have hA1 := hid hown; have HV1 := hid (ne_of_own hnn); clear hown hgrow hnn))
    simp only [decV, It.v, It.cells] at hdc
    refine hdc.mono ?_
    rintro e w5 ⟨rfl, b5⟩
    have hone := HBK.out.1.next b5
    have hrow := HBK.out.2.below b5
    have ha : ∀ ob, Blk (w5.alloc ob) w.heap.size 25 x.cells := fun ob => hone.one.alloc ob
    have e0 := fun ob => (box_cells (ha ob)).1
    have e1 := fun ob => (box_cells (ha ob)).2.1
    have e2 := fun ob => (box_cells (ha ob)).2.2.1
    have e3 := fun ob => (box_cells (ha ob)).2.2.2.1
    have e4 := fun ob => (box_cells (ha ob)).2.2.2.2.1
    have e5 := fun ob => (box_cells (ha ob)).2.2.2.2.2.1
    have e6 := fun ob => (box_cells (ha ob)).2.2.2.2.2.2.1
    have e7 := fun ob => (box_cells (ha ob)).2.2.2.2.2.2.2
    have hd2 : ∀ ob, Calls Try.prog 14 #[.slice (some ⟨g, 0, none⟩) kk N] (w5.alloc ob) fun e w' => e = .returned (decV none) ∧ Below (w5.alloc ob).heap.size (w5.alloc ob) w' := fun ob => by
      have h := dec_any (w5.alloc ob) (some ⟨g, 0, none⟩) kk N (x.enc.take kk) (take_byts (hrow.alloc ob) (by rw [← HN.out]; omega) N) (by rw [List.length_take, ← HN.out]; omega) (by omega)
      rw [HDT.out] at h; exact h
    simp only [decV, It.v, zero_cells] at hd2
    have HL := hid hone.below
    clear b5 hone hrow ha hdc HBK HX HDT HVV HLN HCL HEL HO HOe HB HT2 HW HSE
    rcases hcut with ⟨s0, s1⟩ | ⟨s0, s1⟩
    all_goals
      go_wp2_with fail
      refine (hsi _).mono ?_
      rintro e w6 ⟨rfl, rfl⟩
      go_wp2_with fail
      refine (hd2 _).mono ?_
      rintro e w7 ⟨rfl, b7⟩
      have HL7 := hid (Below.then (HL.out.alloc HL.out.size _) b7)
      clear b7 hd2 e0 e1 e2 e3 e4 e5 e6 e7
      go_wp2_with fail
      go_ret
      exact ⟨rfl, HL7.out.alloc HL7.out.size _⟩
  | some ad =>
    go_wp2_with (first
      | (at_builtin; have hz := hA1; refine wpList_append_own_wide _ rfl _ _ 27 rfl w2.heap.size 5 i0 (.int .u8 0) 1 1 Try.underlying27 hi hz0 hz1 hz2 rfl (by decide) v1 N el rfl hA1.out ad n c cl rfl (by rw [hcn, Nat.mul_one]) (fun j v hj => (HVV.out.below HB3.out).cells (by rw [← HCL.out]; exact hj)) HO.out (by unfold maxLen; omega) (by omega) HB3.out.size ?_; intro v2 w4 hown hgrow hnn; have hb4 := below_more hA1.out HB3.out rfl hgrow; rw [HEL.out, HCL.out, ← bc_app] at hown; have hBk := bk_of (l := l) (n := n) HX.out.1 HX.out.2 HT2.out HB.out hown (fun e => HV1.out (hnn.1 e).1) hb4 HN.out.symm HLN.out; clear hown hgrow hnn hb4; obtain ⟨gl, cp, rfl, hdc⟩ := hBk.dec; have HBK := hid (And.intro hBk.one hBk.row); clear hBk hA1)
      | (at_builtin; refine wpList_append_own _ rfl _ _ 27 rfl w2.heap.size 5 i0 (.int .u8 0) 1 1 Try.underlying27 hi hz0 hz1 hz2 rfl (by decide) (.slice (some ⟨w2.heap.size, 0, none⟩) 0 0) 0 [] rfl HW.out ⟨g, 0, none⟩ N N el rfl (by rw [heln, Nat.mul_one]) (HSE.out _) HOe.out (by unfold maxLen; omega) (by omega) (by simp) ?_; intro v1 w3 hown hgrow hnn; have HB3 := hid (((Below.refl w2.heap.size w2).alloc (Nat.le_refl _) _).grown hgrow (by simp) (fun k hk => by simp [Value.ownBlock] at hk; omega)); rw [Nat.zero_add, List.nil_append] at hown; have hA1 := hid hown; have HV1 := hid (ne_of_own hnn); clear hown hgrow hnn))
    simp only [decV, It.v, It.cells] at hdc
    refine hdc.mono ?_
    rintro e w5 ⟨rfl, b5⟩
    have hone := HBK.out.1.next b5
    have hrow := HBK.out.2.below b5
    have ha : ∀ ob, Blk (w5.alloc ob) w.heap.size 25 x.cells := fun ob => hone.one.alloc ob
    have e0 := fun ob => (box_cells (ha ob)).1
    have e1 := fun ob => (box_cells (ha ob)).2.1
    have e2 := fun ob => (box_cells (ha ob)).2.2.1
    have e3 := fun ob => (box_cells (ha ob)).2.2.2.1
    have e4 := fun ob => (box_cells (ha ob)).2.2.2.2.1
    have e5 := fun ob => (box_cells (ha ob)).2.2.2.2.2.1
    have e6 := fun ob => (box_cells (ha ob)).2.2.2.2.2.2.1
    have e7 := fun ob => (box_cells (ha ob)).2.2.2.2.2.2.2
    have hd2 : ∀ ob, Calls Try.prog 14 #[.slice (some ⟨g, 0, none⟩) kk N] (w5.alloc ob) fun e w' => e = .returned (decV none) ∧ Below (w5.alloc ob).heap.size (w5.alloc ob) w' := fun ob => by
      have h := dec_any (w5.alloc ob) (some ⟨g, 0, none⟩) kk N (x.enc.take kk) (take_byts (hrow.alloc ob) (by rw [← HN.out]; omega) N) (by rw [List.length_take, ← HN.out]; omega) (by omega)
      rw [HDT.out] at h; exact h
    simp only [decV, It.v, zero_cells] at hd2
    have HL := hid hone.below
    clear b5 hone hrow ha hdc HBK HX HDT HVV HLN HCL HEL HO HOe HB HT2 HW HSE
    rcases hcut with ⟨s0, s1⟩ | ⟨s0, s1⟩
    all_goals
      go_wp2_with fail
      refine (hsi _).mono ?_
      rintro e w6 ⟨rfl, rfl⟩
      go_wp2_with fail
      refine (hd2 _).mono ?_
      rintro e w7 ⟨rfl, b7⟩
      have HL7 := hid (Below.then (HL.out.alloc HL.out.size _) b7)
      clear b7 hd2 e0 e1 e2 e3 e4 e5 e6 e7
      go_wp2_with fail
      go_ret
      exact ⟨rfl, HL7.out.alloc HL7.out.size _⟩

theorem back_law (x : It) (hx : x.Ok) (hk : x.key.size ≤ 140737488351232) (a : Option Addr) (n c : Nat) (l : List UInt8) (hl : l.length = n) (w : World) (hv : Byts w (.slice a n c) l) (hnil : a = none → c = 0) (hn : n ≤ 140737488351232)
    (cut : Int) (a0 : -9223372036854775808 ≤ cut) (a1 : cut ≤ 9223372036854775807) :
    Calls Try.prog 5 #[x.v, .slice a n c, .int .i64 cut] w fun e w' => e = .returned (.bool true) ∧ Below w.heap.size w w' := by
  cases rx : x.right with
  | false => exact back_no x rx (by omega) a n c cut w
  | true => exact back_yes x hx rx a n c l hl w hv hnil hn cut a0 a1
end Go.Proofs.Ytdbaldkinjdeaaa

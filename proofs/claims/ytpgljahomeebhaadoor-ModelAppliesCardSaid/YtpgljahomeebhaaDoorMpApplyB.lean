/-
  The contract of Apply: a command that may be. Conditions: the items stand in order, and are not over great; the numbers are in their types' ranges; the library's variables are as they begin.
-/
import Derived.Test.YtpgljahomeebhaaDoorM4
import Derived.Deep.MidRow
namespace Go.Proofs.YtpgljahomeebhaaDoor.Md
open Go Go.RowKit Go.Lib

theorem Blk.there {w : World} {b n : Nat} {t : TypeId} {cs : List Value} (h : Blk w b t cs) (hn : n = cs.length) : w.there b 0 n := fun j hj => by
  subst hn
  rw [Nat.zero_add]
  exact ⟨by rw [h.cell (List.getElem?_eq_getElem hj)]; rfl, h.frozen j⟩
theorem blk_all {w : World} {b : Nat} {t : TypeId} {cs vs : List Value} (h : Blk w b t cs) (hl : vs.length = cs.length) : Blk (w.setCells b 0 vs) b t vs := by
  have := blk_setCells vs 0 w cs h (by omega)
  have e : splice cs 0 vs = vs := by
    unfold splice
    rw [Nat.zero_add, hl, List.drop_length, List.take_zero, List.nil_append, List.append_nil]
  rwa [e] at this
theorem Kap.only {w0 W W' : World} {P b : Nat} {F : Nat → Prop} {cs cc cr ca : List Value} (h : Kap w0 P F cs cc cr ca W) (ho : Only (fun x => x = b) W W') (hb : P + 1 + 1 + 1 < b) : Kap w0 P F cs cc cr ca W' :=
  ⟨h.a0.only ho (fun e => by omega), h.a1.only ho (fun e => by omega), h.a2.only ho (fun e => by omega), h.a3.only ho (fun e => by omega), h.below.trans (ho.below h.below.size (fun x hx => by subst hx; have := h.hp; omega)), h.hp, h.nf⟩
theorem ones {cs : List Value} (h : cs.all (·.oneCell') = true) : cs.toArray.all (·.oneCell') = true := all_oneCell_toArray (fun v hv => List.all_eq_true.1 h v hv)
theorem wp_itm {B : Nat} {F : Nat → Prop} {s : Wk} {w : World} (h : WP B F s w) (y : It) : WP B F { s with x := y } (stc w B y.cells 22) ∧ Stp F F w (stc w B y.cells 22) := by
  obtain ⟨v, G, hB, hR, hFB, hGB, hGF, hFl⟩ := h
  have ho := stc_only (b := B) y.cells 22 w
  have hz : (stc w B y.cells 22).heap.size = w.heap.size := by simp [stc, It.cells, World.setCell]
  have hk : Blk (stc w B y.cells 22) B 60 ((s.cells v).take 22 ++ (y.cells ++ [])) := stc_mid y.cells 22 w ((s.cells v).take 22) s.x.cells [] hB rfl rfl
  exact ⟨⟨v, G, hk, hR.only ho (fun b hb e => hGB (by rw [← e]; exact hb)), hFB, hGB, fun b hb => by rw [hz]; exact hGF b hb, fun b hb => by rw [hz]; exact hFl b hb⟩, ⟨ho.mono (fun b hb => by rw [hb]; exact hFB), fun b hb => .inl hb⟩⟩
/-- The work, as it begins. -/
theorem wp_made {w0 W W' : World} {P X : Nat} {a : Option Addr} {n ca : Nat} {l : List It} {cas : Nat} {fl now most : Int} {c : Cm} {G : Nat → Prop} {cx cs cc cr ca' : List Value} (hX : Blk W X 60 cx) (hK : Kap w0 P (fun _ => False) cs cc cr ca' W)
    (hR : Rw G W (.slice a n ca) l) (hG : P + 1 + 1 + 1 < X ∧ ∀ b, G b → b ≠ X ∧ P + 1 + 1 + 1 < b ∧ b < W.heap.size) (hx : cx.length = 30)
    (hW : W' = W.setCells X 0 ((⟨l, cas, fl, c, now, most, 0, noIt⟩ : Wk).cells (.slice a n ca))) :
    WP X (fun b => P + 1 + 1 + 1 < b ∧ b < W'.heap.size) ⟨l, cas, fl, c, now, most, 0, noIt⟩ W' ∧ Kap w0 P (fun b => P + 1 + 1 + 1 < b ∧ b < W'.heap.size) cs cc cr ca' W' := by
  subst hW
  have ho := only_setCells (b := X) ((⟨l, cas, fl, c, now, most, 0, noIt⟩ : Wk).cells (.slice a n ca)) 0 W
  refine ⟨⟨_, G, blk_all hX (by rw [hx]; rfl), hR.only ho (fun b hb => (hG.2 b hb).1), ⟨hG.1, Nat.lt_of_lt_of_le hX.lt ho.size⟩, fun h => (hG.2 X h).1 rfl, fun b hb => ⟨⟨(hG.2 b hb).2.1, Nat.lt_of_lt_of_le (hG.2 b hb).2.2 ho.size⟩, Nat.lt_of_lt_of_le (hG.2 b hb).2.2 ho.size⟩, fun b hb => hb.2⟩,
    (hK.only ho hG.1).foot (fun b hb => hb.1)⟩

set_option maxRecDepth 100000 in
set_option maxHeartbeats 4000000 in
theorem apply_yes {l : List It} {a : Option Addr} {ca : Nat} {w : World} {cas : Nat} {fl now : Int} {c : Cm} {most : Int} (hf : fine now c = true) (hI : Its w (.slice a l.length ca) l) (hs : Sorted l) (hlen : l.length ≤ 4194304)
    (hx : ∀ x ∈ l, 0 ≤ x.exp ∧ x.exp ≤ 9223372036854775807 ∧ x.key.size ≤ 1048576 ∧ x.val.size ≤ 1048576) (hck : c.op ≠ 6 → c.key.size ≤ 1048576) (hci : c.init < 18446744073709551616) (hv : Nu.Vars w) :
    Calls Tryd.prog 17 #[.agg #[.slice a l.length ca, .int .u64 cas, .int .i64 fl], .int .i64 now, c.v, .int .i64 most] w fun e w' => ∃ v', e = .returned (.tuple #[msv v' (apply ⟨l, cas, fl⟩ now c most).1.cas (apply ⟨l, cas, fl⟩ now c most).1.fl, (apply ⟨l, cas, fl⟩ now c most).2.v]) ∧ Rw (fun b => w.heap.size ≤ b ∧ b < w'.heap.size) w' v' (apply ⟨l, cas, fl⟩ now c most).1.its ∧ Below w.heap.size w w' := by
  have hm : ∀ W, Calls Tryd.prog 30 #[.agg #[.int .i64 c.op, .int .i64 c.mode, .string c.key, .string c.val, .int .u32 c.flags, .int .i64 c.exp, .bool c.hasExp, .int .u64 c.cas, .bool c.hasCas, .int .u64 c.delta, .int .u64 c.init, .bool c.down, .bool c.viv, .int .i64 c.vive, .int .i64 c.rcc, .bool c.inv]] W fun e w' => e = .returned (.bool (may c)) ∧ Below W.heap.size W w' := fun W => may_any c W
  have hpt := fine_parts hf
  obtain ⟨p1, p2, p3, p4, p5, p6, p7, p8, p9, p10, p11⟩ := hpt
  have hmay : may c = true := by
    unfold fine at hf
    rw [Bool.and_eq_true] at hf
    exact hf.1
  rw [hmay] at hm
  obtain ⟨⟨ls, lc, lf⟩, hL⟩ : ∃ m : Ms, m = live ⟨l, cas, fl⟩ now := ⟨_, rfl⟩
  have hst : ∀ W, Below w.heap.size w W → Calls Tryd.prog 31 #[.agg #[.slice a l.length ca, .int .u64 cas, .int .i64 fl], .int .i64 now] W fun e w' => ∃ v', e = .returned (msv v' lc lf) ∧ Rw (fun b => W.heap.size ≤ b ∧ b < w'.heap.size) w' v' ls ∧ Below W.heap.size W w' := fun W hW => by
    have := stand_any cas fl now (hI.below hW) hlen
    rw [← hL] at this
    exact this
  obtain ⟨R, hR⟩ : ∃ R, R = apply ⟨l, cas, fl⟩ now c most := ⟨_, rfl⟩
  rw [← hR]
  have HR := hid hR
  have HL := hid hL
  have Hf := hid hf
  have HI := hid hI
  have Hs := hid hs
  have Hlen := hid hlen
  have Hx := hid hx
  have Hck := hid hck
  have Hci := hid hci
  have Hv := hid hv
  have Hp := hid (And.intro p10 (And.intro p11 p6))
  have c1 : ¬ now < 1 := by omega
  have c2 : ¬ 1099511627776 < now := by omega
  clear hf hI hs hlen hx hck hci hv hR hL hmay p1 p2 p3 p4 p5 p6 p7 p8 p9 p10 p11
  change Calls Tryd.prog 17 #[.agg #[.slice a l.length ca, .int .u64 cas, .int .i64 fl], .int .i64 now, .agg #[.int .i64 c.op, .int .i64 c.mode, .string c.key, .string c.val, .int .u32 c.flags, .int .i64 c.exp, .bool c.hasExp, .int .u64 c.cas, .bool c.hasCas, .int .u64 c.delta, .int .u64 c.init, .bool c.down, .bool c.viv, .int .i64 c.vive, .int .i64 c.rcc, .bool c.inv], .int .i64 most] w _
  obtain ⟨P, hP⟩ : ∃ P, P = w.heap.size := ⟨_, rfl⟩
  obtain ⟨W1, h1⟩ : ∃ W1, (((w.alloc (.cells #[.slice a l.length ca, .int .u64 cas, .int .i64 fl] 25)).alloc (.cells #[.int .i64 c.op, .int .i64 c.mode, .string c.key, .string c.val, .int .u32 c.flags, .int .i64 c.exp, .bool c.hasExp, .int .u64 c.cas, .bool c.hasCas, .int .u64 c.delta, .int .u64 c.init, .bool c.down, .bool c.viv, .int .i64 c.vive, .int .i64 c.rcc, .bool c.inv] 28)).alloc (.cells #[.slice none 0 0, .int .u64 0, .int .i64 0] 25)).alloc (.cells #[.int .i64 0, .string ⟨#[]⟩, .int .u32 0, .string ⟨#[]⟩, .int .i64 0, .int .u64 0, .int .i64 0, .bool false, .bool false, .int .u64 0, .bool false, .bool false, .bool false] 35) = W1 := ⟨_, rfl⟩
  have HK : Hid (Kap w P (fun _ => False) [.slice a l.length ca, .int .u64 cas, .int .i64 fl] [.int .i64 c.op, .int .i64 c.mode, .string c.key, .string c.val, .int .u32 c.flags, .int .i64 c.exp, .bool c.hasExp, .int .u64 c.cas, .bool c.hasCas, .int .u64 c.delta, .int .u64 c.init, .bool c.down, .bool c.viv, .int .i64 c.vive, .int .i64 c.rcc, .bool c.inv] [.slice none 0 0, .int .u64 0, .int .i64 0] [.int .i64 0, .string ⟨#[]⟩, .int .u32 0, .string ⟨#[]⟩, .int .i64 0, .int .u64 0, .int .i64 0, .bool false, .bool false, .int .u64 0, .bool false, .bool false, .bool false] W1) := hid (by rw [← h1, hP]; exact Kap.begin w #[.slice a l.length ca, .int .u64 cas, .int .i64 fl] #[.int .i64 c.op, .int .i64 c.mode, .string c.key, .string c.val, .int .u32 c.flags, .int .i64 c.exp, .bool c.hasExp, .int .u64 c.cas, .bool c.hasCas, .int .u64 c.delta, .int .u64 c.init, .bool c.down, .bool c.viv, .int .i64 c.vive, .int .i64 c.rcc, .bool c.inv] #[.slice none 0 0, .int .u64 0, .int .i64 0] #[.int .i64 0, .string ⟨#[]⟩, .int .u32 0, .string ⟨#[]⟩, .int .i64 0, .int .u64 0, .int .i64 0, .bool false, .bool false, .int .u64 0, .bool false, .bool false, .bool false])
  rw [eq_comm] at hP
  have k0 := HK.out.a1.cell (i := 0) rfl
  have k1 := HK.out.a1.cell (i := 1) rfl
  have k2 := HK.out.a1.cell (i := 2) rfl
  have k3 := HK.out.a1.cell (i := 3) rfl
  have k4 := HK.out.a1.cell (i := 4) rfl
  have k5 := HK.out.a1.cell (i := 5) rfl
  have k6 := HK.out.a1.cell (i := 6) rfl
  have k7 := HK.out.a1.cell (i := 7) rfl
  have k8 := HK.out.a1.cell (i := 8) rfl
  have k9 := HK.out.a1.cell (i := 9) rfl
  have k10 := HK.out.a1.cell (i := 10) rfl
  have k11 := HK.out.a1.cell (i := 11) rfl
  have k12 := HK.out.a1.cell (i := 12) rfl
  have k13 := HK.out.a1.cell (i := 13) rfl
  have k14 := HK.out.a1.cell (i := 14) rfl
  have k15 := HK.out.a1.cell (i := 15) rfl
  go_enter Tryd.func17, Tryd.ntmps17
  go_upto_region 1 with fail
  clear h1
  go_wp2_with fail
  refine (hm W1).mono ?_
  rintro e W2 ⟨rfl, b2⟩
  have HK2 := hid (HK.out.step b2)
  clear b2 hm HK k0 k1 k2 k3 k4 k5 k6 k7 k8 k9 k10 k11 k12 k13 k14 k15
  go_upto_region 3 with fail
  go_cut [10] from 25 to 32 (fun d wx => ∃ (X : Nat) (F : Nat → Prop), d = .pointer (some ⟨X, 0, none⟩) ∧ Hid (WP X F ⟨ls, lc, lf, c, now, most, 0, noIt⟩ wx) ∧ Hid (Kap w P F [.slice a l.length ca, .int .u64 cas, .int .i64 fl] [.int .i64 c.op, .int .i64 c.mode, .string c.key, .string c.val, .int .u32 c.flags, .int .i64 c.exp, .bool c.hasExp, .int .u64 c.cas, .bool c.hasCas, .int .u64 c.delta, .int .u64 c.init, .bool c.down, .bool c.viv, .int .i64 c.vive, .int .i64 c.rcc, .bool c.inv] [.slice none 0 0, .int .u64 0, .int .i64 0] [.int .i64 0, .string ⟨#[]⟩, .int .u32 0, .string ⟨#[]⟩, .int .i64 0, .int .u64 0, .int .i64 0, .bool false, .bool false, .int .u64 0, .bool false, .bool false, .bool false] wx))
  case first =>
    obtain ⟨S, hSd⟩ : ∃ S : World → Prop, S = fun W => Blk W P 25 [.slice a l.length ca, .int .u64 cas, .int .i64 fl] ∧ Blk W (P + 1) 28 [.int .i64 c.op, .int .i64 c.mode, .string c.key, .string c.val, .int .u32 c.flags, .int .i64 c.exp, .bool c.hasExp, .int .u64 c.cas, .bool c.hasCas, .int .u64 c.delta, .int .u64 c.init, .bool c.down, .bool c.viv, .int .i64 c.vive, .int .i64 c.rcc, .bool c.inv] := ⟨_, rfl⟩
    have hSk : ∀ W, Kap w P (fun _ => False) [.slice a l.length ca, .int .u64 cas, .int .i64 fl] [.int .i64 c.op, .int .i64 c.mode, .string c.key, .string c.val, .int .u32 c.flags, .int .i64 c.exp, .bool c.hasExp, .int .u64 c.cas, .bool c.hasCas, .int .u64 c.delta, .int .u64 c.init, .bool c.down, .bool c.viv, .int .i64 c.vive, .int .i64 c.rcc, .bool c.inv] [.slice none 0 0, .int .u64 0, .int .i64 0] [.int .i64 0, .string ⟨#[]⟩, .int .u32 0, .string ⟨#[]⟩, .int .i64 0, .int .u64 0, .int .i64 0, .bool false, .bool false, .int .u64 0, .bool false, .bool false, .bool false] W → S W := fun W hW => by rw [hSd]; exact ⟨hW.a0, hW.a1⟩
    have HKa := hid (HK2.out.step (below_d W2))
    clear HK2
    refine wp_region_E S 8 (by kernel_rfl) ?_
    generalize W2.drew = Wa at *
    have HK2 := HKa
    clear HKa
    have hS : S Wa := hSk _ HK2.out
    refine wpAnyE_take (i := 0) (v := .agg #[.slice a l.length ca, .int .u64 cas, .int .i64 fl]) rfl (by kernel_rfl) (by kernel_rfl) (by kernel_rfl) (fun _ _ _ h => h) (by kernel_rfl) (by kernel_rfl) hS (Or.inl ⟨by rfl, ?_⟩) ?_
    · intro w' hw'
      rw [hSd] at hw'; obtain ⟨q0, q1⟩ := hw'
      have u0 := q0.cell (i := 0) rfl
      have u1 := q0.cell (i := 1) rfl
      have u2 := q0.cell (i := 2) rfl
      go_simp
    refine wpAnyE_take (i := 1) (v := .int .i64 now) rfl (by kernel_rfl) (by kernel_rfl) (by kernel_rfl) (fun _ _ _ h => h) (by kernel_rfl) (by kernel_rfl) hS (Or.inl ⟨by rfl, ?_⟩) ?_
    · intro w' hw'
      rw [hSd] at hw'; obtain ⟨q0, q1⟩ := hw'
      go_simp
    refine wpAnyE_take (i := 3) (v := .agg #[.int .i64 c.op, .int .i64 c.mode, .string c.key, .string c.val, .int .u32 c.flags, .int .i64 c.exp, .bool c.hasExp, .int .u64 c.cas, .bool c.hasCas, .int .u64 c.delta, .int .u64 c.init, .bool c.down, .bool c.viv, .int .i64 c.vive, .int .i64 c.rcc, .bool c.inv]) rfl (by kernel_rfl) (by kernel_rfl) (by kernel_rfl) (fun _ _ _ h => h) (by kernel_rfl) (by kernel_rfl) hS (Or.inl ⟨by rfl, ?_⟩) ?_
    · intro w' hw'
      rw [hSd] at hw'; obtain ⟨q0, q1⟩ := hw'
      have k0 := q1.cell (i := 0) rfl
      have k1 := q1.cell (i := 1) rfl
      have k2 := q1.cell (i := 2) rfl
      have k3 := q1.cell (i := 3) rfl
      have k4 := q1.cell (i := 4) rfl
      have k5 := q1.cell (i := 5) rfl
      have k6 := q1.cell (i := 6) rfl
      have k7 := q1.cell (i := 7) rfl
      have k8 := q1.cell (i := 8) rfl
      have k9 := q1.cell (i := 9) rfl
      have k10 := q1.cell (i := 10) rfl
      have k11 := q1.cell (i := 11) rfl
      have k12 := q1.cell (i := 12) rfl
      have k13 := q1.cell (i := 13) rfl
      have k14 := q1.cell (i := 14) rfl
      have k15 := q1.cell (i := 15) rfl
      go_simp
    refine wpAnyE_take (i := 4) (v := .int .i64 now) rfl (by kernel_rfl) (by kernel_rfl) (by kernel_rfl) (fun _ _ _ h => h) (by kernel_rfl) (by kernel_rfl) hS (Or.inl ⟨by rfl, ?_⟩) ?_
    · intro w' hw'
      rw [hSd] at hw'; obtain ⟨q0, q1⟩ := hw'
      go_simp
    refine wpAnyE_take (i := 5) (v := .int .i64 most) rfl (by kernel_rfl) (by kernel_rfl) (by kernel_rfl) (fun _ _ _ h => h) (by kernel_rfl) (by kernel_rfl) hS (Or.inl ⟨by rfl, ?_⟩) ?_
    · intro w' hw'
      rw [hSd] at hw'; obtain ⟨q0, q1⟩ := hw'
      go_simp
    clear hS c1 c2
    refine wpAnyE_two (i := 2) (j := 7) rfl rfl (by kernel_rfl) (fun K hK => ?_) (fun K hK => ?_)
    · go_simp
      refine (hst Wa HK2.out.below).mono ?_
      rintro e W3 ⟨v3, rfl, r3, b3⟩
      obtain ⟨a4, c4, rfl⟩ := r3.form
      unfold msv
      have HK3 := hid (HK2.out.step b3)
      have hS := hSk W3 HK3.out
      refine hK _ _ (fun _ => hS) ?_
      clear hK K
      refine wpAnyE_take (i := 6) (v := .agg #[.slice a4 ls.length c4, .int .u64 lc, .int .i64 lf, .int .i64 c.op, .int .i64 c.mode, .string c.key, .string c.val, .int .u32 c.flags, .int .i64 c.exp, .bool c.hasExp, .int .u64 c.cas, .bool c.hasCas, .int .u64 c.delta, .int .u64 c.init, .bool c.down, .bool c.viv, .int .i64 c.vive, .int .i64 c.rcc, .bool c.inv, .int .i64 now, .int .i64 most, .int .i64 0, .string ⟨#[]⟩, .int .u32 0, .string ⟨#[]⟩, .int .i64 0, .int .u64 0, .int .i64 0, .bool false, .bool false]) rfl (by kernel_rfl) (by kernel_rfl) (by kernel_rfl) (fun _ _ _ h => h) (by kernel_rfl) (by kernel_rfl) hS (Or.inl ⟨by rfl, ?_⟩) ?_
      · intro w' hw'
        go_simp
      clear hS
      refine wpAnyE_one (i := 7) rfl (by kernel_rfl) (fun K hK => ?_)
      go_simp
      obtain ⟨W4, h9⟩ : ∃ W4, W3.alloc (.cells #[.slice none 0 0, .int .u64 0, .int .i64 0, .int .i64 0, .int .i64 0, .string ⟨#[]⟩, .string ⟨#[]⟩, .int .u32 0, .int .i64 0, .bool false, .int .u64 0, .bool false, .int .u64 0, .int .u64 0, .bool false, .bool false, .int .i64 0, .int .i64 0, .bool false, .int .i64 0, .int .i64 0, .int .i64 0, .string ⟨#[]⟩, .int .u32 0, .string ⟨#[]⟩, .int .i64 0, .int .u64 0, .int .i64 0, .bool false, .bool false] 60) = W4 := ⟨_, rfl⟩
      have hb9 : Below W3.heap.size W3 W4 := by rw [← h9]; exact abelow _ _
      have HXW4 : Hid (Blk W4 W3.heap.size 60 [.slice none 0 0, .int .u64 0, .int .i64 0, .int .i64 0, .int .i64 0, .string ⟨#[]⟩, .string ⟨#[]⟩, .int .u32 0, .int .i64 0, .bool false, .int .u64 0, .bool false, .int .u64 0, .int .u64 0, .bool false, .bool false, .int .i64 0, .int .i64 0, .bool false, .int .i64 0, .int .i64 0, .int .i64 0, .string ⟨#[]⟩, .int .u32 0, .string ⟨#[]⟩, .int .i64 0, .int .u64 0, .int .i64 0, .bool false, .bool false]) := hid (by rw [← h9]; exact Blk.new W3 #[.slice none 0 0, .int .u64 0, .int .i64 0, .int .i64 0, .int .i64 0, .string ⟨#[]⟩, .string ⟨#[]⟩, .int .u32 0, .int .i64 0, .bool false, .int .u64 0, .bool false, .int .u64 0, .int .u64 0, .bool false, .bool false, .int .i64 0, .int .i64 0, .bool false, .int .i64 0, .int .i64 0, .int .i64 0, .string ⟨#[]⟩, .int .u32 0, .string ⟨#[]⟩, .int .i64 0, .int .u64 0, .int .i64 0, .bool false, .bool false] 60)
      have HK4 := hid (HK3.out.step hb9)
      have HR4 := hid (r3.below hb9)
      have HG : Hid (P + 1 + 1 + 1 < W3.heap.size ∧ (∀ b, Wa.heap.size ≤ b ∧ b < W3.heap.size → b ≠ W3.heap.size ∧ P + 1 + 1 + 1 < b ∧ b < W4.heap.size)) := hid ⟨HK3.out.a3.lt, fun b hb => ⟨by omega, by have := HK2.out.a3.lt; omega, by have := hb9.size; omega⟩⟩
      have hS4 := hSk W4 HK4.out
      refine hK _ _ (fun _ => by first | exact hS4 | (rw [h9]; exact hS4)) ?_
      clear hK K hS4
      try rw [h9]
      obtain ⟨X, hX⟩ : ∃ X, W3.heap.size = X := ⟨_, rfl⟩
      rw [hX] at HXW4 HG
      try rw [hX] at HR4
      try rw [hX]
      refine wpAnyE_one (i := 8) rfl (by kernel_rfl) (fun K hK => ?_)
      have hlr := HR4.out.form
      obtain ⟨WZ, hWZ⟩ : ∃ WZ, WZ = W4.setCells X 0 ([.slice a4 ls.length c4, .int .u64 lc, .int .i64 lf, .int .i64 c.op, .int .i64 c.mode, .string c.key, .string c.val, .int .u32 c.flags, .int .i64 c.exp, .bool c.hasExp, .int .u64 c.cas, .bool c.hasCas, .int .u64 c.delta, .int .u64 c.init, .bool c.down, .bool c.viv, .int .i64 c.vive, .int .i64 c.rcc, .bool c.inv, .int .i64 now, .int .i64 most, .int .i64 0, .string ⟨#[]⟩, .int .u32 0, .string ⟨#[]⟩, .int .i64 0, .int .u64 0, .int .i64 0, .bool false, .bool false]) := ⟨_, rfl⟩
      have hZ := wp_made (l := ls) (cas := lc) (fl := lf) (c := c) (now := now) (most := most) HXW4.out HK4.out HR4.out HG.out rfl hWZ
      have HZ := hid hZ.1
      have HQ := hid hZ.2
      clear hZ
      refine wp_store_mid 60 (.tmp 10) (.tmp 31) rfl X 0 #[.slice a4 ls.length c4, .int .u64 lc, .int .i64 lf, .int .i64 c.op, .int .i64 c.mode, .string c.key, .string c.val, .int .u32 c.flags, .int .i64 c.exp, .bool c.hasExp, .int .u64 c.cas, .bool c.hasCas, .int .u64 c.delta, .int .u64 c.init, .bool c.down, .bool c.viv, .int .i64 c.vive, .int .i64 c.rcc, .bool c.inv, .int .i64 now, .int .i64 most, .int .i64 0, .string ⟨#[]⟩, .int .u32 0, .string ⟨#[]⟩, .int .i64 0, .int .u64 0, .int .i64 0, .bool false, .bool false] rfl rfl (Blk.there HXW4.out rfl) (by kernel_rfl) (ones rfl) ?_
      have hWZ' : W4.setCells X 0 (#[.slice a4 ls.length c4, .int .u64 lc, .int .i64 lf, .int .i64 c.op, .int .i64 c.mode, .string c.key, .string c.val, .int .u32 c.flags, .int .i64 c.exp, .bool c.hasExp, .int .u64 c.cas, .bool c.hasCas, .int .u64 c.delta, .int .u64 c.init, .bool c.down, .bool c.viv, .int .i64 c.vive, .int .i64 c.rcc, .bool c.inv, .int .i64 now, .int .i64 most, .int .i64 0, .string ⟨#[]⟩, .int .u32 0, .string ⟨#[]⟩, .int .i64 0, .int .u64 0, .int .i64 0, .bool false, .bool false] : Array Value).toList = WZ := hWZ.symm
      rw [hWZ']
      refine hK _ WZ (fun h => (by cases (show true = false from h))) (wpAnyE_done (by kernel_rfl) ?_ _)
      clear hK K hWZ hWZ'
      go_wp2_with fail
      go_meet
      exact ⟨X, _, rfl, HZ, HQ⟩
    · go_simp
      obtain ⟨W3, h9⟩ : ∃ W3, Wa.alloc (.cells #[.slice none 0 0, .int .u64 0, .int .i64 0, .int .i64 0, .int .i64 0, .string ⟨#[]⟩, .string ⟨#[]⟩, .int .u32 0, .int .i64 0, .bool false, .int .u64 0, .bool false, .int .u64 0, .int .u64 0, .bool false, .bool false, .int .i64 0, .int .i64 0, .bool false, .int .i64 0, .int .i64 0, .int .i64 0, .string ⟨#[]⟩, .int .u32 0, .string ⟨#[]⟩, .int .i64 0, .int .u64 0, .int .i64 0, .bool false, .bool false] 60) = W3 := ⟨_, rfl⟩
      have hb9 : Below Wa.heap.size Wa W3 := by rw [← h9]; exact abelow _ _
      have HXW3 : Hid (Blk W3 Wa.heap.size 60 [.slice none 0 0, .int .u64 0, .int .i64 0, .int .i64 0, .int .i64 0, .string ⟨#[]⟩, .string ⟨#[]⟩, .int .u32 0, .int .i64 0, .bool false, .int .u64 0, .bool false, .int .u64 0, .int .u64 0, .bool false, .bool false, .int .i64 0, .int .i64 0, .bool false, .int .i64 0, .int .i64 0, .int .i64 0, .string ⟨#[]⟩, .int .u32 0, .string ⟨#[]⟩, .int .i64 0, .int .u64 0, .int .i64 0, .bool false, .bool false]) := hid (by rw [← h9]; exact Blk.new Wa #[.slice none 0 0, .int .u64 0, .int .i64 0, .int .i64 0, .int .i64 0, .string ⟨#[]⟩, .string ⟨#[]⟩, .int .u32 0, .int .i64 0, .bool false, .int .u64 0, .bool false, .int .u64 0, .int .u64 0, .bool false, .bool false, .int .i64 0, .int .i64 0, .bool false, .int .i64 0, .int .i64 0, .int .i64 0, .string ⟨#[]⟩, .int .u32 0, .string ⟨#[]⟩, .int .i64 0, .int .u64 0, .int .i64 0, .bool false, .bool false] 60)
      have HK3 := hid (HK2.out.step hb9)
      have hS := hSk W3 HK3.out
      refine hK _ _ (fun _ => by first | exact hS | (rw [h9]; exact hS)) ?_
      clear hK K
      try rw [h9]
      refine wpAnyE_one (i := 2) rfl (by kernel_rfl) (fun K hK => ?_)
      go_simp
      refine (hst W3 HK3.out.below).mono ?_
      rintro e W4 ⟨v3, rfl, r3, b3⟩
      obtain ⟨a4, c4, rfl⟩ := r3.form
      unfold msv
      have HK4 := hid (HK3.out.step b3)
      have HR4 := hid r3
      clear hS
      have hS := hSk W4 HK4.out
      refine hK _ _ (fun _ => hS) ?_
      clear hK K
      refine wpAnyE_take (i := 6) (v := .agg #[.slice a4 ls.length c4, .int .u64 lc, .int .i64 lf, .int .i64 c.op, .int .i64 c.mode, .string c.key, .string c.val, .int .u32 c.flags, .int .i64 c.exp, .bool c.hasExp, .int .u64 c.cas, .bool c.hasCas, .int .u64 c.delta, .int .u64 c.init, .bool c.down, .bool c.viv, .int .i64 c.vive, .int .i64 c.rcc, .bool c.inv, .int .i64 now, .int .i64 most, .int .i64 0, .string ⟨#[]⟩, .int .u32 0, .string ⟨#[]⟩, .int .i64 0, .int .u64 0, .int .i64 0, .bool false, .bool false]) rfl (by kernel_rfl) (by kernel_rfl) (by kernel_rfl) (fun _ _ _ h => h) (by kernel_rfl) (by kernel_rfl) hS (Or.inl ⟨by rfl, ?_⟩) ?_
      · intro w' hw'
        go_simp
      clear hS
      have HXW4 := hid (HXW3.out.below b3)
      have HG : Hid (P + 1 + 1 + 1 < Wa.heap.size ∧ (∀ b, W3.heap.size ≤ b ∧ b < W4.heap.size → b ≠ Wa.heap.size ∧ P + 1 + 1 + 1 < b ∧ b < W4.heap.size)) := hid ⟨HK2.out.a3.lt, fun b hb => ⟨by have := HXW3.out.lt; omega, by have := HK3.out.a3.lt; omega, hb.2⟩⟩
      obtain ⟨X, hX⟩ : ∃ X, Wa.heap.size = X := ⟨_, rfl⟩
      rw [hX] at HXW4 HG
      try rw [hX] at HR4
      try rw [hX]
      refine wpAnyE_one (i := 8) rfl (by kernel_rfl) (fun K hK => ?_)
      have hlr := HR4.out.form
      obtain ⟨WZ, hWZ⟩ : ∃ WZ, WZ = W4.setCells X 0 ([.slice a4 ls.length c4, .int .u64 lc, .int .i64 lf, .int .i64 c.op, .int .i64 c.mode, .string c.key, .string c.val, .int .u32 c.flags, .int .i64 c.exp, .bool c.hasExp, .int .u64 c.cas, .bool c.hasCas, .int .u64 c.delta, .int .u64 c.init, .bool c.down, .bool c.viv, .int .i64 c.vive, .int .i64 c.rcc, .bool c.inv, .int .i64 now, .int .i64 most, .int .i64 0, .string ⟨#[]⟩, .int .u32 0, .string ⟨#[]⟩, .int .i64 0, .int .u64 0, .int .i64 0, .bool false, .bool false]) := ⟨_, rfl⟩
      have hZ := wp_made (l := ls) (cas := lc) (fl := lf) (c := c) (now := now) (most := most) HXW4.out HK4.out HR4.out HG.out rfl hWZ
      have HZ := hid hZ.1
      have HQ := hid hZ.2
      clear hZ
      refine wp_store_mid 60 (.tmp 10) (.tmp 31) rfl X 0 #[.slice a4 ls.length c4, .int .u64 lc, .int .i64 lf, .int .i64 c.op, .int .i64 c.mode, .string c.key, .string c.val, .int .u32 c.flags, .int .i64 c.exp, .bool c.hasExp, .int .u64 c.cas, .bool c.hasCas, .int .u64 c.delta, .int .u64 c.init, .bool c.down, .bool c.viv, .int .i64 c.vive, .int .i64 c.rcc, .bool c.inv, .int .i64 now, .int .i64 most, .int .i64 0, .string ⟨#[]⟩, .int .u32 0, .string ⟨#[]⟩, .int .i64 0, .int .u64 0, .int .i64 0, .bool false, .bool false] rfl rfl (Blk.there HXW4.out rfl) (by kernel_rfl) (ones rfl) ?_
      have hWZ' : W4.setCells X 0 (#[.slice a4 ls.length c4, .int .u64 lc, .int .i64 lf, .int .i64 c.op, .int .i64 c.mode, .string c.key, .string c.val, .int .u32 c.flags, .int .i64 c.exp, .bool c.hasExp, .int .u64 c.cas, .bool c.hasCas, .int .u64 c.delta, .int .u64 c.init, .bool c.down, .bool c.viv, .int .i64 c.vive, .int .i64 c.rcc, .bool c.inv, .int .i64 now, .int .i64 most, .int .i64 0, .string ⟨#[]⟩, .int .u32 0, .string ⟨#[]⟩, .int .i64 0, .int .u64 0, .int .i64 0, .bool false, .bool false] : Array Value).toList = WZ := hWZ.symm
      rw [hWZ']
      refine hK _ WZ (fun h => (by cases (show true = false from h))) (wpAnyE_done (by kernel_rfl) ?_ _)
      clear hK K hWZ hWZ'
      go_wp2_with fail
      go_meet
      exact ⟨X, _, rfl, HZ, HQ⟩
  case rest =>
    obtain ⟨X, F, rfl, HZ0, HQ0⟩ := hcut
    generalize wc = W3 at *
    have HX : Hid (P + 1 + 1 + 1 < X) := hid (HQ0.out.nf X HZ0.out.FB)
    have hlenS : ls.length ≤ 4194304 := by
      have h1 : ls = (live ⟨l, cas, fl⟩ now).its := by rw [← HL.out]
      rw [h1]
      unfold live
      split
      · exact Nat.zero_le _
      · exact Nat.le_trans (List.length_filter_le _ _) Hlen.out
    have hsub : ∀ x ∈ ls, x ∈ l ∧ gone now x = false := by
      have h1 : ls = (live ⟨l, cas, fl⟩ now).its := by rw [← HL.out]
      rw [h1]
      unfold live
      split
      · intro x hx; cases hx
      · intro x hx
        have h2 := List.mem_filter.1 hx
        exact ⟨h2.1, by simpa using h2.2⟩
    have hsS : Sorted ls := by
      have h1 : ls = (live ⟨l, cas, fl⟩ now).its := by rw [← HL.out]
      rw [h1]
      unfold live
      split
      · exact List.Pairwise.nil
      · exact Hs.out.filter _
    obtain ⟨I, hI⟩ : ∃ I, I = idx (fun x => decide (x.key = c.key)) ls := ⟨_, rfl⟩
    obtain ⟨v, G, hB, hR, -⟩ := HZ0.out
    have hfd := find_any hR.its hlenS c.key
    rw [← hI] at hfd
    obtain ⟨av, cv, rfl⟩ := hR.form
    have b0 := hB.cell (i := 0) rfl
    have k2 := HQ0.out.a1.cell (i := 2) rfl
    have hI' := hid hI
    have HlenS := hid hlenS
    have Hsub := hid hsub
    have HsS := hid hsS
    clear hI hB hR hlenS hsub hsS
    generalize ls.length = N at b0 hfd
    go_wp2_with fail
    refine hfd.mono ?_
    rintro e W4 ⟨rfl, b4⟩
    have hz := wp_cell (t := ⟨ls, lc, lf, c, now, most, I, noIt⟩) (HZ0.out.below b4) 21 (.int .i64 I) rfl (fun _ => rfl)
    have HZ1 := hid hz.1
    have HQ1 := hid ((HQ0.out.step b4).stp hz.2)
    obtain ⟨v, G, hB, -⟩ := HZ0.out.below b4
    have e21 := hB.cell (i := 21) rfl
    have f21 := hB.frozen 21
    clear hB b4 hz HZ0 HQ0 hfd b0 k2
    go_upto_region 5 with fail
    generalize W4.setCell ⟨X, 21, none⟩ (.int .i64 I) = W5 at *
    clear e21 f21
    have hth := wk_there HZ1.out.head
    cases hfn : find ls c.key with
    | none =>
      have hI1 : I = -1 := hI'.out.trans (idx_no hfn)
      rw [show (⟨ls, lc, lf, c, now, most, I, noIt⟩ : Wk).there = false by unfold Wk.there; rw [hI1]; rfl] at hth
      obtain ⟨Z, hZd⟩ : ∃ Z : Wk, Z = ⟨ls, lc, lf, c, now, most, I, noIt⟩ := ⟨_, rfl⟩
      have hat : (⟨ls, lc, lf, c, now, most, I, noIt⟩ : Wk).At none := ⟨HsS.out, hfn.symm, hI'.out, rfl⟩
      have hfine : (⟨ls, lc, lf, c, now, most, I, noIt⟩ : Wk).Fine := ⟨HsS.out, HlenS.out, by show I < ls.length; rw [hI1]; omega, Hp.out.1, Hp.out.2.1, zz, z1, show (0 : Nat) ≤ 1048576 by decide, Hck.out, by have := Hp.out.2.2; show emp.size + c.val.size ≤ 2097152; have : emp.size = 0 := rfl; omega, Hci.out⟩
      have Hat := hid hat
      have Hfine := hid hfine
      clear hat hfine hfn hI1 hI'
      have HZ := hid HZ1.out
      have HQ := hid HQ1.out
      clear HZ1 HQ1 hZd Z
      go_wp2_with fail
      refine hth.mono ?_
      rintro e _ ⟨rfl, rfl⟩
      go_upto_region 7 with fail
      clear hth
      have hfine := Hfine.out
      have hdo := wk_do HZ.out ⟨HQ.out.below, fun b hb => by have := HQ.out.nf b hb; have := HQ.out.hp; omega, Hv.out⟩ hfine
      have hrun := run_apply (cas := cas) (fl := fl) (most := most) Hf.out HL.out Hat.out (fun x hx => by cases hx)
      obtain ⟨R2, hR2⟩ : ∃ R2, R2 = Wk.run ⟨ls, lc, lf, c, now, most, I, noIt⟩ := ⟨_, rfl⟩
      rw [← hR2] at hdo hrun
      have hRe : R = (⟨R2.2.l, R2.2.cas, R2.2.fl⟩, R2.1) := HR.out.trans hrun
      clear hrun hR2 hfine HR
      subst hRe
      obtain ⟨⟨ast, ⟨ak, af, av, ae, ac, al, asb, ao⟩, an, aw, ax, az⟩, S2⟩ := R2
      simp only [an_all] at hdo
      go_wp2_with fail
      refine hdo.mono ?_
      rintro e W7 ⟨rfl, F2, h2, k2⟩
      have HQ7 := hid (HQ.out.stp k2)
      clear k2 hdo HQ HZ
      obtain ⟨v2, G2, hB2, hR2, -, -, hG2, -⟩ := h2
      obtain ⟨a2, c2, rfl⟩ := hR2.form
      have HB7 := hid hB2
      have HR7 := hid hR2
      have HG7 := hid hG2
      clear hB2 hR2 hG2
      obtain ⟨Y, hY⟩ : ∃ Y, W7.heap.size = Y := ⟨_, rfl⟩
      obtain ⟨W8, h8⟩ : ∃ W8, W7.alloc (.cells #[.int .i64 ast, .string ak, .int .u32 af, .string av, .int .i64 ae, .int .u64 ac, .int .i64 al, .bool asb, .bool ao, .int .u64 an, .bool aw, .bool ax, .bool az] 35) = W8 := ⟨_, rfl⟩
      have hb8 : Below W7.heap.size W7 W8 := by rw [← h8]; exact abelow _ _
      have HY8 : Hid (Blk W8 Y 35 [.int .i64 ast, .string ak, .int .u32 af, .string av, .int .i64 ae, .int .u64 ac, .int .i64 al, .bool asb, .bool ao, .int .u64 an, .bool aw, .bool ax, .bool az]) := hid (by rw [← h8, ← hY]; exact Blk.new W7 #[.int .i64 ast, .string ak, .int .u32 af, .string av, .int .i64 ae, .int .u64 ac, .int .i64 al, .bool asb, .bool ao, .int .u64 an, .bool aw, .bool ax, .bool az] 35)
      have HQ8 := hid (HQ7.out.step hb8)
      have HB8 := hid (HB7.out.below hb8)
      have HR8 := hid (HR7.out.below hb8)
      have HG8 : Hid (∀ b, G2 b → P + 1 + 1 + 1 < b ∧ b < W8.heap.size) := hid (fun b hb => ⟨HQ7.out.nf b (HG7.out b hb).1, Nat.lt_of_lt_of_le (HG7.out b hb).2 hb8.size⟩)
      have H8 := hid h8
      have HN : Hid (P + 1 + 1 + 1 < Y ∧ P + 1 + 1 + 1 < X) := hid ⟨by have := HQ7.out.a3.lt; omega, HX.out⟩
      clear h8 hb8 HQ7 HB7 HR7 HG7
      go_upto_region 8 with fail
      try rw [hY]
      rw [H8.out]
      clear H8 hY
      generalize S2.l.length = N2 at *
      obtain ⟨S, hSd⟩ : ∃ S : World → Prop, S = fun W => Blk W X 60 (S2.cells (.slice a2 N2 c2)) ∧ Blk W Y 35 [.int .i64 ast, .string ak, .int .u32 af, .string av, .int .i64 ae, .int .u64 ac, .int .i64 al, .bool asb, .bool ao, .int .u64 an, .bool aw, .bool ax, .bool az] := ⟨_, rfl⟩
      have HSd := hid hSd
      refine wp_region_E S 4 (by kernel_rfl) ?_
      have HQ9 := hid (HQ8.out.step (below_d W8))
      have HB9 := hid (HB8.out.below (below_d W8))
      have HY9 := hid (HY8.out.below (below_d W8))
      have HR9 := hid (HR8.out.below (below_d W8))
      have HG9 : Hid (∀ b, G2 b → P + 1 + 1 + 1 < b ∧ b < W8.drew.heap.size) := hid HG8.out
      clear HQ8 HB8 HR8 HY8 HG8
      generalize W8.drew = W9 at *
      have hS : S W9 := by rw [hSd]; exact ⟨HB9.out, HY9.out⟩
      refine wpAnyE_take (i := 0) (v := .pointer (some ⟨X, 0, none⟩)) rfl (by kernel_rfl) (by kernel_rfl) (by kernel_rfl) (fun _ _ _ h => h) (by kernel_rfl) (by kernel_rfl) hS (Or.inl ⟨by rfl, ?_⟩) ?_
      · intro w' hw'
        go_simp
      refine wpAnyE_take (i := 1) (v := .agg #[.slice a2 N2 c2, .int .u64 S2.cas, .int .i64 S2.fl]) rfl (by kernel_rfl) (by kernel_rfl) (by kernel_rfl) (fun _ _ _ h => h) (by kernel_rfl) (by kernel_rfl) hS (Or.inl ⟨by rfl, ?_⟩) ?_
      · intro w' hw'
        rw [hSd] at hw'; obtain ⟨q0, q1⟩ := hw'
        have u0 := q0.cell (i := 0) rfl
        have u1 := q0.cell (i := 1) rfl
        have u2 := q0.cell (i := 2) rfl
        go_simp
      refine wpAnyE_take (i := 2) (v := .agg #[.int .i64 ast, .string ak, .int .u32 af, .string av, .int .i64 ae, .int .u64 ac, .int .i64 al, .bool asb, .bool ao, .int .u64 an, .bool aw, .bool ax, .bool az]) rfl (by kernel_rfl) (by kernel_rfl) (by kernel_rfl) (fun _ _ _ h => h) (by kernel_rfl) (by kernel_rfl) hS (Or.inl ⟨by rfl, ?_⟩) ?_
      · intro w' hw'
        rw [hSd] at hw'; obtain ⟨q0, q1⟩ := hw'
        have u0 := q1.cell (i := 0) rfl
        have u1 := q1.cell (i := 1) rfl
        have u2 := q1.cell (i := 2) rfl
        have u3 := q1.cell (i := 3) rfl
        have u4 := q1.cell (i := 4) rfl
        have u5 := q1.cell (i := 5) rfl
        have u6 := q1.cell (i := 6) rfl
        have u7 := q1.cell (i := 7) rfl
        have u8 := q1.cell (i := 8) rfl
        have u9 := q1.cell (i := 9) rfl
        have u10 := q1.cell (i := 10) rfl
        have u11 := q1.cell (i := 11) rfl
        have u12 := q1.cell (i := 12) rfl
        go_simp
      clear hS hSd
      refine wpAnyE_one (i := 3) rfl (by kernel_rfl) (fun K hK => ?_)
      have r0 := HQ9.out.a2.cell (i := 0) rfl
      have f0 := HQ9.out.a2.frozen 0
      have r1 := HQ9.out.a2.cell (i := 1) rfl
      have f1 := HQ9.out.a2.frozen 1
      have r2 := HQ9.out.a2.cell (i := 2) rfl
      have f2 := HQ9.out.a2.frozen 2
      go_simp
      have HQa := hid (HQ9.out.st2 (vs := [.slice a2 N2 c2, .int .u64 S2.cas, .int .i64 S2.fl]) rfl)
      have HBa := hid (stc_other (show X ≠ P + 1 + 1 by have := HN.out.2; omega) [.slice a2 N2 c2, .int .u64 S2.cas, .int .i64 S2.fl] 0 W9 HB9.out)
      have HYa := hid (stc_other (show Y ≠ P + 1 + 1 by have := HN.out.1; omega) [.slice a2 N2 c2, .int .u64 S2.cas, .int .i64 S2.fl] 0 W9 HY9.out)
      have ho := stc_only (b := P + 1 + 1) [.slice a2 N2 c2, .int .u64 S2.cas, .int .i64 S2.fl] 0 W9
      have HRa := hid (HR9.out.only ho (fun b hb e => by have := (HG9.out b hb).1; omega))
      have HGa : Hid (∀ b, G2 b → P + 1 + 1 + 1 < b ∧ b < (stc W9 (P + 1 + 1) [.slice a2 N2 c2, .int .u64 S2.cas, .int .i64 S2.fl] 0).heap.size) := hid (fun b hb => ⟨(HG9.out b hb).1, Nat.lt_of_lt_of_le (HG9.out b hb).2 ho.size⟩)
      refine hK _ (stc W9 (P + 1 + 1) [.slice a2 N2 c2, .int .u64 S2.cas, .int .i64 S2.fl] 0) (fun _ => by rw [HSd.out]; exact ⟨HBa.out, HYa.out⟩) ?_
      clear hK K ho HQ9 HB9 HY9 HR9 HG9 r0 r1 r2 f0 f1 f2
      generalize stc W9 (P + 1 + 1) [.slice a2 N2 c2, .int .u64 S2.cas, .int .i64 S2.fl] 0 = Wb at *
      refine wpAnyE_one (i := 4) rfl (by kernel_rfl) (fun K hK => ?_)
      have e0 := HQa.out.a3.cell (i := 0) rfl
      have g0 := HQa.out.a3.frozen 0
      have e1 := HQa.out.a3.cell (i := 1) rfl
      have g1 := HQa.out.a3.frozen 1
      have e2 := HQa.out.a3.cell (i := 2) rfl
      have g2 := HQa.out.a3.frozen 2
      have e3 := HQa.out.a3.cell (i := 3) rfl
      have g3 := HQa.out.a3.frozen 3
      have e4 := HQa.out.a3.cell (i := 4) rfl
      have g4 := HQa.out.a3.frozen 4
      have e5 := HQa.out.a3.cell (i := 5) rfl
      have g5 := HQa.out.a3.frozen 5
      have e6 := HQa.out.a3.cell (i := 6) rfl
      have g6 := HQa.out.a3.frozen 6
      have e7 := HQa.out.a3.cell (i := 7) rfl
      have g7 := HQa.out.a3.frozen 7
      have e8 := HQa.out.a3.cell (i := 8) rfl
      have g8 := HQa.out.a3.frozen 8
      have e9 := HQa.out.a3.cell (i := 9) rfl
      have g9 := HQa.out.a3.frozen 9
      have e10 := HQa.out.a3.cell (i := 10) rfl
      have g10 := HQa.out.a3.frozen 10
      have e11 := HQa.out.a3.cell (i := 11) rfl
      have g11 := HQa.out.a3.frozen 11
      have e12 := HQa.out.a3.cell (i := 12) rfl
      have g12 := HQa.out.a3.frozen 12
      go_simp
      have HQc := hid (HQa.out.st3 (vs := [.int .i64 ast, .string ak, .int .u32 af, .string av, .int .i64 ae, .int .u64 ac, .int .i64 al, .bool asb, .bool ao, .int .u64 an, .bool aw, .bool ax, .bool az]) rfl)
      have ho := stc_only (b := P + 1 + 1 + 1) [.int .i64 ast, .string ak, .int .u32 af, .string av, .int .i64 ae, .int .u64 ac, .int .i64 al, .bool asb, .bool ao, .int .u64 an, .bool aw, .bool ax, .bool az] 0 Wb
      have HRc := hid (HRa.out.only ho (fun b hb e => by have := (HGa.out b hb).1; omega))
      have HGc : Hid (∀ b, G2 b → w.heap.size ≤ b ∧ b < (stc Wb (P + 1 + 1 + 1) [.int .i64 ast, .string ak, .int .u32 af, .string av, .int .i64 ae, .int .u64 ac, .int .i64 al, .bool asb, .bool ao, .int .u64 an, .bool aw, .bool ax, .bool az] 0).heap.size) := hid (fun b hb => ⟨by have := (HGa.out b hb).1; have := HQa.out.hp; omega, Nat.lt_of_lt_of_le (HGa.out b hb).2 ho.size⟩)
      refine hK _ (stc Wb (P + 1 + 1 + 1) [.int .i64 ast, .string ak, .int .u32 af, .string av, .int .i64 ae, .int .u64 ac, .int .i64 al, .bool asb, .bool ao, .int .u64 an, .bool aw, .bool ax, .bool az] 0) (fun h => (by cases (show true = false from h))) (wpAnyE_done (by kernel_rfl) ?_ _)
      clear hK K ho HQa HBa HYa HRa HGa e0 g0 e1 g1 e2 g2 e3 g3 e4 g4 e5 g5 e6 g6 e7 g7 e8 g8 e9 g9 e10 g10 e11 g11 e12 g12
      generalize stc Wb (P + 1 + 1 + 1) [.int .i64 ast, .string ak, .int .u32 af, .string av, .int .i64 ae, .int .u64 ac, .int .i64 al, .bool asb, .bool ao, .int .u64 an, .bool aw, .bool ax, .bool az] 0 = Wd at *
      go_wp2_with fail
      have hB3 : ∀ n, n = w.heap.size → Below n w Wd := fun n hn => by rw [hn]; exact HQc.out.below
      have hR3 : ∀ n, n = w.heap.size → Rw (fun b => n ≤ b ∧ b < Wd.heap.size) Wd (.slice a2 N2 c2) S2.l := fun n hn => by rw [hn]; exact HRc.out.mono HGc.out
      exact bodyPost_ret (res_sa (n := N2) (a := (An.mk ast (It.mk ak af av ae ac al asb ao) an aw ax az)) rfl ⟨a2, c2, rfl⟩ HQc.out.a2 HQc.out.a3 rfl rfl) rfl ⟨.slice a2 N2 c2, rfl, hR3 _ (by first | rfl | exact hP.symm), hB3 _ (by first | rfl | exact hP.symm)⟩
    | some x =>
      obtain ⟨hi1, hi2⟩ := idx_pos HsS.out hfn
      obtain ⟨k, hk⟩ : ∃ k, k = pos ls c.key := ⟨_, rfl⟩
      rw [← hk] at hi1 hi2
      have hI1 : I = (k : Int) := hI'.out.trans hi1
      have Hat : Hid ((⟨ls, lc, lf, c, now, most, I, x⟩ : Wk).At (some x)) := hid ⟨HsS.out, hfn.symm, hI'.out, rfl⟩
      have hxm := Hsub.out x (find_some hfn).1
      have hxb := Hx.out x hxm.1
      have hlt : k < ls.length := (List.getElem?_eq_some_iff.1 hi2).1
      have Hlv : Hid (∀ y, some x = some y → y.exp = 0 ∨ now < y.exp) := hid (fun y hy => by
        cases hy
        have h1 := hxm.2
        unfold gone at h1
        by_cases e : x.exp = 0
        · exact .inl e
        · right
          simp [e] at h1
          exact h1)
      have Hfine : Hid ((⟨ls, lc, lf, c, now, most, I, x⟩ : Wk).Fine) := hid ⟨HsS.out, HlenS.out, by show I < ls.length; rw [hI1]; omega, Hp.out.1, Hp.out.2.1, hxb.1, hxb.2.1, hxb.2.2.1, Hck.out, by have := Hp.out.2.2; have := hxb.2.2.2; show x.val.size + c.val.size ≤ 2097152; omega, Hci.out⟩
      rw [show (⟨ls, lc, lf, c, now, most, I, noIt⟩ : Wk).there = true by unfold Wk.there; rw [hI1]; simp] at hth
      obtain ⟨v, G, hB, hR, -⟩ := HZ1.out
      obtain ⟨av, cv, rfl⟩ := hR.form
      obtain ⟨b, o, rfl, d0, d1, d2, d3, d4, d5, d6, d7⟩ := hR.its.at hi2
      have hz := wp_itm HZ1.out x
      have HZ := hid (show WP X F ⟨ls, lc, lf, c, now, most, I, x⟩ _ from hz.1)
      have HQ := hid (HQ1.out.stp hz.2)
      have b0 := hB.cell (i := 0) rfl
      have b21 := hB.cell (i := 21) rfl
      change W5.cell? ⟨X, 21, none⟩ = some (.int .i64 I) at b21
      rw [hI1] at b21
      subst hI1
      have y0 := hB.cell (i := 22) rfl
      have z0 := hB.frozen 22
      have y1 := hB.cell (i := 23) rfl
      have z1 := hB.frozen 23
      have y2 := hB.cell (i := 24) rfl
      have z2 := hB.frozen 24
      have y3 := hB.cell (i := 25) rfl
      have z3 := hB.frozen 25
      have y4 := hB.cell (i := 26) rfl
      have z4 := hB.frozen 26
      have y5 := hB.cell (i := 27) rfl
      have z5 := hB.frozen 27
      have y6 := hB.cell (i := 28) rfl
      have z6 := hB.frozen 28
      have y7 := hB.cell (i := 29) rfl
      have z7 := hB.frozen 29
      clear hB hR hz HZ1 HQ1 hfn hi1 hi2 hI' hxm hxb hk
      have hlt1 : (k : Int) < (ls.length : Int) := by omega
      have k0 : (0 : Int) ≤ (k : Int) := by omega
      generalize ls.length = N at b0 hlt hlt1
      go_wp2_with fail
      refine hth.mono ?_
      rintro e _ ⟨rfl, rfl⟩
      go_upto_region 7 with fail
      obtain ⟨xk, xf, xv, xe, xc, xl, xs, xo⟩ := x
      change Code.wp _ _ _ _ (stc W5 X [.string xk, .int .u32 xf, .string xv, .int .i64 xe, .int .u64 xc, .int .i64 xl, .bool xs, .bool xo] 22)
      change Hid (WP X F ⟨ls, lc, lf, c, now, most, k, ⟨xk, xf, xv, xe, xc, xl, xs, xo⟩⟩ (stc W5 X [.string xk, .int .u32 xf, .string xv, .int .i64 xe, .int .u64 xc, .int .i64 xl, .bool xs, .bool xo] 22)) at HZ
      change Hid (Kap w P F [.slice a l.length ca, .int .u64 cas, .int .i64 fl] [.int .i64 c.op, .int .i64 c.mode, .string c.key, .string c.val, .int .u32 c.flags, .int .i64 c.exp, .bool c.hasExp, .int .u64 c.cas, .bool c.hasCas, .int .u64 c.delta, .int .u64 c.init, .bool c.down, .bool c.viv, .int .i64 c.vive, .int .i64 c.rcc, .bool c.inv] [.slice none 0 0, .int .u64 0, .int .i64 0] [.int .i64 0, .string ⟨#[]⟩, .int .u32 0, .string ⟨#[]⟩, .int .i64 0, .int .u64 0, .int .i64 0, .bool false, .bool false, .int .u64 0, .bool false, .bool false, .bool false] (stc W5 X [.string xk, .int .u32 xf, .string xv, .int .i64 xe, .int .u64 xc, .int .i64 xl, .bool xs, .bool xo] 22)) at HQ
      generalize stc W5 X [.string xk, .int .u32 xf, .string xv, .int .i64 xe, .int .u64 xc, .int .i64 xl, .bool xs, .bool xo] 22 = W6 at *
      clear hth b0 b21 d0 d1 d2 d3 d4 d5 d6 d7 hlt hlt1 k0 y0 z0 y1 z1 y2 z2 y3 z3 y4 z4 y5 z5 y6 z6 y7 z7
      have hfine := Hfine.out
      have hdo := wk_do HZ.out ⟨HQ.out.below, fun b hb => by have := HQ.out.nf b hb; have := HQ.out.hp; omega, Hv.out⟩ hfine
      have hrun := run_apply (cas := cas) (fl := fl) (most := most) Hf.out HL.out Hat.out Hlv.out
      obtain ⟨R2, hR2⟩ : ∃ R2, R2 = Wk.run ⟨ls, lc, lf, c, now, most, (k : Int), ⟨xk, xf, xv, xe, xc, xl, xs, xo⟩⟩ := ⟨_, rfl⟩
      rw [← hR2] at hdo hrun
      have hRe : R = (⟨R2.2.l, R2.2.cas, R2.2.fl⟩, R2.1) := HR.out.trans hrun
      clear hrun hR2 hfine HR
      subst hRe
      obtain ⟨⟨ast, ⟨ak, af, av, ae, ac, al, asb, ao⟩, an, aw, ax, az⟩, S2⟩ := R2
      simp only [an_all] at hdo
      go_wp2_with fail
      refine hdo.mono ?_
      rintro e W7 ⟨rfl, F2, h2, k2⟩
      have HQ7 := hid (HQ.out.stp k2)
      clear k2 hdo HQ HZ
      obtain ⟨v2, G2, hB2, hR2, -, -, hG2, -⟩ := h2
      obtain ⟨a2, c2, rfl⟩ := hR2.form
      have HB7 := hid hB2
      have HR7 := hid hR2
      have HG7 := hid hG2
      clear hB2 hR2 hG2
      obtain ⟨Y, hY⟩ : ∃ Y, W7.heap.size = Y := ⟨_, rfl⟩
      obtain ⟨W8, h8⟩ : ∃ W8, W7.alloc (.cells #[.int .i64 ast, .string ak, .int .u32 af, .string av, .int .i64 ae, .int .u64 ac, .int .i64 al, .bool asb, .bool ao, .int .u64 an, .bool aw, .bool ax, .bool az] 35) = W8 := ⟨_, rfl⟩
      have hb8 : Below W7.heap.size W7 W8 := by rw [← h8]; exact abelow _ _
      have HY8 : Hid (Blk W8 Y 35 [.int .i64 ast, .string ak, .int .u32 af, .string av, .int .i64 ae, .int .u64 ac, .int .i64 al, .bool asb, .bool ao, .int .u64 an, .bool aw, .bool ax, .bool az]) := hid (by rw [← h8, ← hY]; exact Blk.new W7 #[.int .i64 ast, .string ak, .int .u32 af, .string av, .int .i64 ae, .int .u64 ac, .int .i64 al, .bool asb, .bool ao, .int .u64 an, .bool aw, .bool ax, .bool az] 35)
      have HQ8 := hid (HQ7.out.step hb8)
      have HB8 := hid (HB7.out.below hb8)
      have HR8 := hid (HR7.out.below hb8)
      have HG8 : Hid (∀ b, G2 b → P + 1 + 1 + 1 < b ∧ b < W8.heap.size) := hid (fun b hb => ⟨HQ7.out.nf b (HG7.out b hb).1, Nat.lt_of_lt_of_le (HG7.out b hb).2 hb8.size⟩)
      have H8 := hid h8
      have HN : Hid (P + 1 + 1 + 1 < Y ∧ P + 1 + 1 + 1 < X) := hid ⟨by have := HQ7.out.a3.lt; omega, HX.out⟩
      clear h8 hb8 HQ7 HB7 HR7 HG7
      go_upto_region 8 with fail
      try rw [hY]
      rw [H8.out]
      clear H8 hY
      generalize S2.l.length = N2 at *
      obtain ⟨S, hSd⟩ : ∃ S : World → Prop, S = fun W => Blk W X 60 (S2.cells (.slice a2 N2 c2)) ∧ Blk W Y 35 [.int .i64 ast, .string ak, .int .u32 af, .string av, .int .i64 ae, .int .u64 ac, .int .i64 al, .bool asb, .bool ao, .int .u64 an, .bool aw, .bool ax, .bool az] := ⟨_, rfl⟩
      have HSd := hid hSd
      refine wp_region_E S 4 (by kernel_rfl) ?_
      have HQ9 := hid (HQ8.out.step (below_d W8))
      have HB9 := hid (HB8.out.below (below_d W8))
      have HY9 := hid (HY8.out.below (below_d W8))
      have HR9 := hid (HR8.out.below (below_d W8))
      have HG9 : Hid (∀ b, G2 b → P + 1 + 1 + 1 < b ∧ b < W8.drew.heap.size) := hid HG8.out
      clear HQ8 HB8 HR8 HY8 HG8
      generalize W8.drew = W9 at *
      have hS : S W9 := by rw [hSd]; exact ⟨HB9.out, HY9.out⟩
      refine wpAnyE_take (i := 0) (v := .pointer (some ⟨X, 0, none⟩)) rfl (by kernel_rfl) (by kernel_rfl) (by kernel_rfl) (fun _ _ _ h => h) (by kernel_rfl) (by kernel_rfl) hS (Or.inl ⟨by rfl, ?_⟩) ?_
      · intro w' hw'
        go_simp
      refine wpAnyE_take (i := 1) (v := .agg #[.slice a2 N2 c2, .int .u64 S2.cas, .int .i64 S2.fl]) rfl (by kernel_rfl) (by kernel_rfl) (by kernel_rfl) (fun _ _ _ h => h) (by kernel_rfl) (by kernel_rfl) hS (Or.inl ⟨by rfl, ?_⟩) ?_
      · intro w' hw'
        rw [hSd] at hw'; obtain ⟨q0, q1⟩ := hw'
        have u0 := q0.cell (i := 0) rfl
        have u1 := q0.cell (i := 1) rfl
        have u2 := q0.cell (i := 2) rfl
        go_simp
      refine wpAnyE_take (i := 2) (v := .agg #[.int .i64 ast, .string ak, .int .u32 af, .string av, .int .i64 ae, .int .u64 ac, .int .i64 al, .bool asb, .bool ao, .int .u64 an, .bool aw, .bool ax, .bool az]) rfl (by kernel_rfl) (by kernel_rfl) (by kernel_rfl) (fun _ _ _ h => h) (by kernel_rfl) (by kernel_rfl) hS (Or.inl ⟨by rfl, ?_⟩) ?_
      · intro w' hw'
        rw [hSd] at hw'; obtain ⟨q0, q1⟩ := hw'
        have u0 := q1.cell (i := 0) rfl
        have u1 := q1.cell (i := 1) rfl
        have u2 := q1.cell (i := 2) rfl
        have u3 := q1.cell (i := 3) rfl
        have u4 := q1.cell (i := 4) rfl
        have u5 := q1.cell (i := 5) rfl
        have u6 := q1.cell (i := 6) rfl
        have u7 := q1.cell (i := 7) rfl
        have u8 := q1.cell (i := 8) rfl
        have u9 := q1.cell (i := 9) rfl
        have u10 := q1.cell (i := 10) rfl
        have u11 := q1.cell (i := 11) rfl
        have u12 := q1.cell (i := 12) rfl
        go_simp
      clear hS hSd
      refine wpAnyE_one (i := 3) rfl (by kernel_rfl) (fun K hK => ?_)
      have r0 := HQ9.out.a2.cell (i := 0) rfl
      have f0 := HQ9.out.a2.frozen 0
      have r1 := HQ9.out.a2.cell (i := 1) rfl
      have f1 := HQ9.out.a2.frozen 1
      have r2 := HQ9.out.a2.cell (i := 2) rfl
      have f2 := HQ9.out.a2.frozen 2
      go_simp
      have HQa := hid (HQ9.out.st2 (vs := [.slice a2 N2 c2, .int .u64 S2.cas, .int .i64 S2.fl]) rfl)
      have HBa := hid (stc_other (show X ≠ P + 1 + 1 by have := HN.out.2; omega) [.slice a2 N2 c2, .int .u64 S2.cas, .int .i64 S2.fl] 0 W9 HB9.out)
      have HYa := hid (stc_other (show Y ≠ P + 1 + 1 by have := HN.out.1; omega) [.slice a2 N2 c2, .int .u64 S2.cas, .int .i64 S2.fl] 0 W9 HY9.out)
      have ho := stc_only (b := P + 1 + 1) [.slice a2 N2 c2, .int .u64 S2.cas, .int .i64 S2.fl] 0 W9
      have HRa := hid (HR9.out.only ho (fun b hb e => by have := (HG9.out b hb).1; omega))
      have HGa : Hid (∀ b, G2 b → P + 1 + 1 + 1 < b ∧ b < (stc W9 (P + 1 + 1) [.slice a2 N2 c2, .int .u64 S2.cas, .int .i64 S2.fl] 0).heap.size) := hid (fun b hb => ⟨(HG9.out b hb).1, Nat.lt_of_lt_of_le (HG9.out b hb).2 ho.size⟩)
      refine hK _ (stc W9 (P + 1 + 1) [.slice a2 N2 c2, .int .u64 S2.cas, .int .i64 S2.fl] 0) (fun _ => by rw [HSd.out]; exact ⟨HBa.out, HYa.out⟩) ?_
      clear hK K ho HQ9 HB9 HY9 HR9 HG9 r0 r1 r2 f0 f1 f2
      generalize stc W9 (P + 1 + 1) [.slice a2 N2 c2, .int .u64 S2.cas, .int .i64 S2.fl] 0 = Wb at *
      refine wpAnyE_one (i := 4) rfl (by kernel_rfl) (fun K hK => ?_)
      have e0 := HQa.out.a3.cell (i := 0) rfl
      have g0 := HQa.out.a3.frozen 0
      have e1 := HQa.out.a3.cell (i := 1) rfl
      have g1 := HQa.out.a3.frozen 1
      have e2 := HQa.out.a3.cell (i := 2) rfl
      have g2 := HQa.out.a3.frozen 2
      have e3 := HQa.out.a3.cell (i := 3) rfl
      have g3 := HQa.out.a3.frozen 3
      have e4 := HQa.out.a3.cell (i := 4) rfl
      have g4 := HQa.out.a3.frozen 4
      have e5 := HQa.out.a3.cell (i := 5) rfl
      have g5 := HQa.out.a3.frozen 5
      have e6 := HQa.out.a3.cell (i := 6) rfl
      have g6 := HQa.out.a3.frozen 6
      have e7 := HQa.out.a3.cell (i := 7) rfl
      have g7 := HQa.out.a3.frozen 7
      have e8 := HQa.out.a3.cell (i := 8) rfl
      have g8 := HQa.out.a3.frozen 8
      have e9 := HQa.out.a3.cell (i := 9) rfl
      have g9 := HQa.out.a3.frozen 9
      have e10 := HQa.out.a3.cell (i := 10) rfl
      have g10 := HQa.out.a3.frozen 10
      have e11 := HQa.out.a3.cell (i := 11) rfl
      have g11 := HQa.out.a3.frozen 11
      have e12 := HQa.out.a3.cell (i := 12) rfl
      have g12 := HQa.out.a3.frozen 12
      go_simp
      have HQc := hid (HQa.out.st3 (vs := [.int .i64 ast, .string ak, .int .u32 af, .string av, .int .i64 ae, .int .u64 ac, .int .i64 al, .bool asb, .bool ao, .int .u64 an, .bool aw, .bool ax, .bool az]) rfl)
      have ho := stc_only (b := P + 1 + 1 + 1) [.int .i64 ast, .string ak, .int .u32 af, .string av, .int .i64 ae, .int .u64 ac, .int .i64 al, .bool asb, .bool ao, .int .u64 an, .bool aw, .bool ax, .bool az] 0 Wb
      have HRc := hid (HRa.out.only ho (fun b hb e => by have := (HGa.out b hb).1; omega))
      have HGc : Hid (∀ b, G2 b → w.heap.size ≤ b ∧ b < (stc Wb (P + 1 + 1 + 1) [.int .i64 ast, .string ak, .int .u32 af, .string av, .int .i64 ae, .int .u64 ac, .int .i64 al, .bool asb, .bool ao, .int .u64 an, .bool aw, .bool ax, .bool az] 0).heap.size) := hid (fun b hb => ⟨by have := (HGa.out b hb).1; have := HQa.out.hp; omega, Nat.lt_of_lt_of_le (HGa.out b hb).2 ho.size⟩)
      refine hK _ (stc Wb (P + 1 + 1 + 1) [.int .i64 ast, .string ak, .int .u32 af, .string av, .int .i64 ae, .int .u64 ac, .int .i64 al, .bool asb, .bool ao, .int .u64 an, .bool aw, .bool ax, .bool az] 0) (fun h => (by cases (show true = false from h))) (wpAnyE_done (by kernel_rfl) ?_ _)
      clear hK K ho HQa HBa HYa HRa HGa e0 g0 e1 g1 e2 g2 e3 g3 e4 g4 e5 g5 e6 g6 e7 g7 e8 g8 e9 g9 e10 g10 e11 g11 e12 g12
      generalize stc Wb (P + 1 + 1 + 1) [.int .i64 ast, .string ak, .int .u32 af, .string av, .int .i64 ae, .int .u64 ac, .int .i64 al, .bool asb, .bool ao, .int .u64 an, .bool aw, .bool ax, .bool az] 0 = Wd at *
      go_wp2_with fail
      have hB3 : ∀ n, n = w.heap.size → Below n w Wd := fun n hn => by rw [hn]; exact HQc.out.below
      have hR3 : ∀ n, n = w.heap.size → Rw (fun b => n ≤ b ∧ b < Wd.heap.size) Wd (.slice a2 N2 c2) S2.l := fun n hn => by rw [hn]; exact HRc.out.mono HGc.out
      exact bodyPost_ret (res_sa (n := N2) (a := (An.mk ast (It.mk ak af av ae ac al asb ao) an aw ax az)) rfl ⟨a2, c2, rfl⟩ HQc.out.a2 HQc.out.a3 rfl rfl) rfl ⟨.slice a2 N2 c2, rfl, hR3 _ (by first | rfl | exact hP.symm), hB3 _ (by first | rfl | exact hP.symm)⟩
end Go.Proofs.YtpgljahomeebhaaDoor.Md

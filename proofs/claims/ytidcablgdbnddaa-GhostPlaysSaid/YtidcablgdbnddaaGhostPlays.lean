/-
  Each call answers what the document says: the statement, walked. No conditions.
-/
import Derived.Test.YtidcablgdbnddaaGhostTwo
import Derived.Deep.CutBlock
namespace Go.Proofs.Ytidcablgdbnddaa
open Go Go.RowKit Go.Lib

/-- What the step's box holds. -/
def Bx (X : Nat) (nn zz : Int) (w : World) : Prop := w.cell? ⟨X, 1, none⟩ = some (.int .i64 nn) ∧ w.cell? ⟨X, 2, none⟩ = some (.int .u64 zz)
theorem Bx.only {X : Nat} {nn zz : Int} {w w' : World} {D : Nat → Prop} (h : Bx X nn zz w) (ho : Only D w w') (hd : ¬ D X) : Bx X nn zz w' :=
  ⟨(ho.cell (p := ⟨X, 1, none⟩) (cell_lt h.1) hd).trans h.1, (ho.cell (p := ⟨X, 2, none⟩) (cell_lt h.2) hd).trans h.2⟩

set_option maxRecDepth 100000 in
set_option maxHeartbeats 4000000 in
theorem plays_law (q : Int) (q1 : -9223372036854775808 ≤ q) (q2 : q ≤ 9223372036854775807) (a : Option Addr) (n c0 : Nat) (w : World) (hx : Ops w a n) :
    Calls Try.prog 3 #[.int .i64 q, .slice a n c0] w fun e w' => e = .returned (.bool true) ∧ Below w.heap.size w w' := by
  have hX := hid hx
  have hn1 := fun w2 => at_new q w2
  have hn2 := fun w2 => qnew_any q ⟨q1, q2⟩ w2
  clear hx q1 q2
  go_enter Try.func3, Try.ntmps3
  go_wp2_with fail
  refine (shown_any w).mono ?_
  rintro e w1 ⟨rfl, b1⟩
  go_wp2_with fail
  refine (hn1 w1).mono ?_
  rintro e w2 ⟨P, F, rfl, h2, b2, f2⟩
  go_wp2_with fail
  refine (hn2 w2).mono ?_
  rintro e w3 ⟨Q, v, rfl, h3, b3, f3⟩
  have HT := hid (two_new h2 b2 f2 h3 b3 f3)
  clear h2 b2 f2 h3 b3 f3 hn1 hn2
  go_wp2_with fail
  go_loopw [8] (fun p wr => ∃ (i m : Nat) (L : List Int), p = .int .i64 i ∧ i ≤ 300 ∧ i ≤ n ∧ Hid (L.length ≤ i) ∧ Hid (Two w1 P Q m L m L (fun _ => False) wr)) (fun p _ => 300 - (RowKit.intOf p).toNat)
  case atStart => exact ⟨0, _, _, rfl, Nat.zero_le _, Nat.zero_le _, hid (Nat.le_refl _), HT⟩
  case round =>
    obtain ⟨i, m, L, rfl, hi, hin, hL, hTr⟩ := hrel
    clear HT
    by_cases hlt : i < n ∧ i < 300
    · obtain ⟨l1, l2⟩ := hlt
      obtain ⟨B, o, kd, nn, zz, rfl, hO⟩ := hX.out i l1
      have hb2 := Below.then b1 hTr.out.below
      have c0' := (hb2.cell (p := ⟨B, o + i * 3, none⟩) hO.lt).trans hO.e0
      have c1 := (hb2.cell (p := ⟨B, o + i * 3 + 1, none⟩) hO.lt).trans hO.e1
      have c2 := (hb2.cell (p := ⟨B, o + i * 3 + 2, none⟩) hO.lt).trans hO.e2
      have hRZ := hid hO.rz
      have hBX := hid (Blk.new wr #[.int .i64 kd, .int .i64 nn, .int .u64 zz] 30)
      have hTA := hid (hTr.out.more (H' := fun x => x = wr.heap.size) ((Below.refl _ _).alloc (Nat.le_refl _) (.cells #[.int .i64 kd, .int .i64 nn, .int .u64 zz] 30)) (fun x hx => .inr (by rw [hx]; simp)))
      have hXb : w1.heap.size ≤ wr.heap.size := hTr.out.below.size
      clear hO hb2 hTr
      go_upto_block 2 with fail
      have hx0 : (wr.alloc (.cells #[.int .i64 kd, .int .i64 nn, .int .u64 zz] 30)).cell? ⟨wr.heap.size, 1, none⟩ = some (.int .i64 nn) ∧ (wr.alloc (.cells #[.int .i64 kd, .int .i64 nn, .int .u64 zz] 30)).cell? ⟨wr.heap.size, 2, none⟩ = some (.int .u64 zz) := ⟨hBX.out.cell (i := 1) rfl, hBX.out.cell (i := 2) rfl⟩
      have hT0 := hTA
      clear hTA hBX c0' c1 c2
      generalize wr.alloc (.cells #[.int .i64 kd, .int .i64 nn, .int .u64 zz] 30) = w4 at *
      generalize wr.heap.size = X at *
      go_cut [] from 24 to 110 (fun wx => Hid (wx.cell? ⟨X, 1, none⟩ = some (.int .i64 nn) ∧ wx.cell? ⟨X, 2, none⟩ = some (.int .u64 zz)) ∧ ∃ m' L', Hid (L'.length ≤ i + 1) ∧ Hid (Two w1 P Q m' L' m' L' (fun x => x = X) wx))
      case first =>
        by_cases k1 : kd = 1
        · subst k1
          have hA := two_add_l hT0.out zz hRZ.out.2 (by have := hL.out; omega)
          have hAL : Hid ((addL m L zz).length ≤ i + 1) := hid (by have := hL.out; have := add_len m L zz; omega)
          have HR : Hid (∀ W, Two w1 P Q m (addL m L zz) m L (fun x => x = X) W → Calls Try.prog 11 #[.pointer (some ⟨Q, 0, none⟩), .int .u64 zz] W fun e w' => e = .returned (.tuple #[]) ∧ Two w1 P Q m (addL m L zz) m (addL m L zz) (fun x => x = X) w' ∧ ∃ D, Only D W w' ∧ ∀ x, x = X → ¬ D x) := hid (fun W h => two_add_r h zz (by have := hL.out; omega))
          generalize addL m L zz = L' at *
          obtain ⟨y1, y2⟩ := hx0
          go_wp2_with fail
          refine hA.mono ?_
          rintro e w5 ⟨rfl, t5, D5, d5, e5⟩
          obtain ⟨z1, z2⟩ := Bx.only ⟨y1, y2⟩ d5 (e5 X rfl)
          have hB := HR.out w5 t5
          clear hA HR t5 d5 e5 y1 y2 hT0
          go_wp2_with fail
          refine hB.mono ?_
          rintro e w6 ⟨rfl, t6, D6, d6, e6⟩
          have hx6 := hid (Bx.only ⟨z1, z2⟩ d6 (e6 X rfl))
          have hT6 := hid t6
          clear hB t6 d6 e6 z1 z2
          go_wp2_with fail
          go_meet
          exact ⟨hx6, _, _, hAL, hT6⟩
        · have n1 : (kd == 1) = false := by simpa using k1
          by_cases k2 : kd = 2
          · subst k2
            have HP : Hid (∀ M W, Two w1 P Q m L m M (fun x => x = X) W → (W.cell? ⟨X, 1, none⟩ = some (.int .i64 nn) ∧ W.cell? ⟨X, 2, none⟩ = some (.int .u64 zz)) → Calls Try.prog 12 #[.pointer (some ⟨P, 0, none⟩), .int .u64 zz] W fun e w' => e = .returned (.bool (decide (zz ∈ L))) ∧ Hid (Two w1 P Q m (rmL L zz) m M (fun x => x = X) w') ∧ (w'.cell? ⟨X, 1, none⟩ = some (.int .i64 nn) ∧ w'.cell? ⟨X, 2, none⟩ = some (.int .u64 zz))) := hid (fun M W h hb =>
              (two_remove_l h zz hRZ.out.2).mono fun _ _ ⟨he, k1, D, d1, d2⟩ => ⟨he, hid k1, Bx.only hb d1 (d2 X rfl)⟩)
            have HR : Hid (∀ L1 W, Two w1 P Q m L1 m L (fun x => x = X) W → (W.cell? ⟨X, 1, none⟩ = some (.int .i64 nn) ∧ W.cell? ⟨X, 2, none⟩ = some (.int .u64 zz)) → Calls Try.prog 13 #[.pointer (some ⟨Q, 0, none⟩), .int .u64 zz] W fun e w' => e = .returned (.bool (decide (zz ∈ L))) ∧ Hid (Two w1 P Q m L1 m (rmL L zz) (fun x => x = X) w') ∧ (w'.cell? ⟨X, 1, none⟩ = some (.int .i64 nn) ∧ w'.cell? ⟨X, 2, none⟩ = some (.int .u64 zz))) := hid (fun L1 W h hb =>
              (two_remove_r h zz).mono fun _ _ ⟨he, k1, D, d1, d2⟩ => ⟨he, hid k1, Bx.only hb d1 (d2 X rfl)⟩)
            have hAL : Hid ((rmL L zz).length ≤ i + 1) := hid (by have := hL.out; have := rm_len L zz; omega)
            generalize decide (zz ∈ L) = A at *
            generalize rmL L zz = L' at *
            go_wp2_with fail
            go_region_held3 (fun w' => w'.cell? ⟨X, 1, none⟩ = some (.int .i64 nn) ∧ w'.cell? ⟨X, 2, none⟩ = some (.int .u64 zz)) (first | exact hxj1 | exact hxi1 | exact hx0) (first
              | (go_at_call 12; refine (HP.out _ _ hr2.out hxi1).mono ?_; rintro e w6 ⟨rfl, hst, hxj1⟩)
              | (go_at_call 12; refine (HP.out _ _ (hid (hT0.out.after (Below.refl _ _).drew)).out hx0).mono ?_; rintro e w5 ⟨rfl, hm2, hxi1⟩)
              | (go_at_call 13; refine (HR.out _ _ hm2.out hxi1).mono ?_; rintro e w6 ⟨rfl, hst, hxj1⟩)
              | (go_at_call 13; refine (HR.out _ _ (hid (hT0.out.after (Below.refl _ _).drew)).out hx0).mono ?_; rintro e w5 ⟨rfl, hr2, hxi1⟩))
            all_goals
              clear HP HR
              go_wp2_with fail
              go_meet
              exact ⟨hid hxj1, _, _, hAL, hst⟩
          · have n2 : (kd == 2) = false := by simpa using k2
            clear k1 k2
            by_cases k3 : kd = 3
            · subst k3
              have hA := two_limit_l hT0.out nn
              have HR : Hid (∀ L1 k1 W, Two w1 P Q k1 L1 m L (fun x => x = X) W → Calls Try.prog 15 #[.pointer (some ⟨Q, 0, none⟩), .int .i64 nn] W fun e w' => e = .returned (.tuple #[]) ∧ Two w1 P Q k1 L1 nn.toNat (cutL nn.toNat L) (fun x => x = X) w' ∧ ∃ D, Only D W w' ∧ ∀ x, x = X → ¬ D x) := hid (fun L1 k1 W h => two_limit_r h nn hRZ.out.1)
              have hAL : Hid ((cutL nn.toNat L).length ≤ i + 1) := hid (by have := hL.out; have := cut_len nn.toNat L; omega)
              generalize cutL nn.toNat L = L' at *
              generalize nn.toNat = m' at *
              obtain ⟨y1, y2⟩ := hx0
              go_wp2_with fail
              refine hA.mono ?_
              rintro e w5 ⟨rfl, t5, D5, d5, e5⟩
              obtain ⟨z1, z2⟩ := Bx.only ⟨y1, y2⟩ d5 (e5 X rfl)
              have hB := HR.out _ _ w5 t5
              clear hA HR t5 d5 e5 y1 y2 hT0
              go_wp2_with fail
              refine hB.mono ?_
              rintro e w6 ⟨rfl, t6, D6, d6, e6⟩
              have hx6 := hid (Bx.only ⟨z1, z2⟩ d6 (e6 X rfl))
              have hT6 := hid t6
              clear hB t6 d6 e6 z1 z2
              go_wp2_with fail
              go_meet
              exact ⟨hx6, _, _, hAL, hT6⟩
            · have n3 : (kd == 3) = false := by simpa using k3
              have hAL : Hid (L.length ≤ i + 1) := hid (by have := hL.out; omega)
              have hx6 := hid hx0
              clear k3 hx0
              go_wp2_with fail
              go_meet
              exact ⟨hx6, _, _, hAL, hT0⟩
      case rest =>
      obtain ⟨hxw, m', L', hL', hT'⟩ := hcut
      have hall := two_all_l hT'.out
      have hlb : L'.length ≤ 4194304 := by have := hL'.out; omega
      clear hT0 hx0
      go_wp2_with fail
      refine hall.mono ?_
      rintro e w5 ⟨v1, rfl, o1, b5⟩
      have hT6 := hid (hT'.out.more (H' := fun x => v1.ownBlock = some x) b5 (fun x hx => .inr (own_base_le o1 hx)))
      have hTb : w1.heap.size ≤ wc.heap.size := hT'.out.below.size
      obtain ⟨xc1, xc2⟩ := hxw.out
      have xd2 := (b5.cell (p := ⟨X, 2, none⟩) (cell_lt xc2)).trans xc2
      obtain ⟨a1, d1, rfl⟩ := row_form o1
      obtain ⟨a2, d2, cq, o2, _⟩ := hT6.out.row
      clear hall hT' b5 xc1 xc2 hxw
      have hsm := same_any hlb o1 o2
      have HO1 := hid o1
      clear o1 o2
      generalize _root_.Array.size (World.heap wc) = B0 at *
      go_wp2_with fail
      refine hsm.mono ?_
      rintro e w7 ⟨rfl, b7⟩
      have hT7 := hid (hT6.out.after b7)
      have HO7 := hid (own_only HO1.out (Below.only (D := fun _ => False) b7) (fun _ _ => id))
      have xe2 := (b7.cell (p := ⟨X, 2, none⟩) (cell_lt xd2)).trans xd2
      have ce := (b7.cell (p := ⟨Q, 1, none⟩) (cell_lt cq)).trans cq
      clear hsm b7 HO1 hT6 xd2 cq
      have hl : ∀ k, Calls Try.prog 18 #[.pointer (some ⟨P, 0, none⟩), .int .u64 zz] (w7.drewN k) fun e w' => e = .returned (.bool (decide (zz ∈ L'))) ∧ ∃ j, w' = w7.drewN j := fun k =>
        (two_has_l (hT7.out.after (drewn_below (Below.refl _ _) k)) zz hRZ.out.2).mono fun e w' ⟨h1, h2⟩ => ⟨h1, k, h2.symm⟩
      have hr : ∀ k, Calls Try.prog 19 #[.pointer (some ⟨Q, 0, none⟩), .int .u64 zz] (w7.drewN k) fun e w' => e = .returned (.bool (decide (zz ∈ L'))) ∧ ∃ j, w' = w7.drewN j := fun k =>
        (two_has_r (hT7.out.after (drewn_below (Below.refl _ _) k)) zz).mono fun e w' ⟨h1, h2⟩ => ⟨h1, k, h2.symm⟩
      have hn : ∀ k, Calls Try.prog 20 #[.pointer (some ⟨P, 0, none⟩)] (w7.drewN k) fun e w' => e = .returned (.int .i64 L'.length) ∧ ∃ j, w' = w7.drewN j := fun k =>
        (two_len_l (hT7.out.after (drewn_below (Below.refl _ _) k))).mono fun e w' ⟨h1, h2⟩ => ⟨h1, k, h2.symm⟩
      have HTq := hid (fun k => hT7.out.after (drewn_below (Below.refl w7.heap.size w7) k))
      have HOq := hid (fun k => own_only HO7.out (Below.only (D := fun _ => False) (drewn_below (Below.refl w7.heap.size w7) k)) (fun _ _ => id))
      generalize decide (zz ∈ L') = A at *
      generalize uc L' = cs at *
      have hK := hid (And.intro hlb hL')
      obtain ⟨K, hKe⟩ : ∃ K, K = L'.length := ⟨_, rfl⟩
      have HKe := hid hKe
      rw [← hKe] at hlb hn ce HO7 HOq HTq ⊢
      clear hT7 HO7 hKe
      go_wp2_with fail
      go_quiet (first | exact hl _ | exact hr _ | exact hn _)
      have HT2 := hid (HTq.out nq)
      have HO2 := hid (HOq.out nq)
      clear hl hr hn HTq HOq ce xe2
      go_wp2_with fail
      go_loopw [12] (fun p wr => ∃ (j : Nat) (cs : List Value), p = .int .i64 j ∧ j ≤ K ∧ Hid (wr.ownsRow B0 28 1 (.slice a1 K d1) K cs) ∧ Hid (Two w1 P Q m' L' m' L' (fun x => (Value.slice a1 K d1).ownBlock = some x) wr)) (fun p _ => K - (RowKit.intOf p).toNat)
      case atStart => exact ⟨0, cs, rfl, Nat.zero_le _, HO2, HT2⟩
      case round =>
        obtain ⟨j, cs, rfl, hj, hO, hTr⟩ := hrel
        clear HT2 HO2
        by_cases hlt : j < K
        · obtain ⟨g, cap, hv, _, hgb, _⟩ := row_pos hO.out (by omega)
          cases hv
          have hf := hO.out.frozenAt j
          have hcl := hO.out.cellAt j (by omega)
          obtain ⟨u, hu⟩ : ∃ u, cs[j]? = some u := ⟨_, List.getElem?_eq_getElem (by have := hO.out.1; omega)⟩
          rw [hu] at hcl
          have hst := hid (World.ownsRow.stored hO.out j (.int .u64 7)).1
          have hT2 := hid (hTr.out.turn (w' := _root_.Go.World.setCell _ ⟨g, j, none⟩ (.int .u64 7)) (Only.setCell (D := fun x => (Value.slice (some ⟨g, 0, none⟩) K d1).ownBlock = some x) (Only.refl _ _) (p := ⟨g, j, none⟩) (.inl rfl) _) (fun x hx => Nat.le_trans hTb (own_base_le hO.out hx).1))
          clear hO hTr hu
          go_wp2_with fail
          go_roundw
          case rel => exact ⟨j + 1, _, by go_num, by omega, hst, hT2⟩
          case measure => simp [RowKit.intOf] <;> omega
        · obtain rfl : j = K := by omega
          have hT2 := hid (hTr.out.more (H' := fun _ => False) (Below.refl _ _) (fun _ hx => hx.elim))
          clear hTr hO
          go_wp2_with fail
          go_roundw
          case rel => exact ⟨i + 1, m', L', by go_num, by omega, by omega, hL', hT2⟩
          case measure => simp [RowKit.intOf] <;> omega
    · have hstop : (n : Int) ≤ (i : Int) ∨ ((i : Int) < (n : Int) ∧ (300 : Int) ≤ (i : Int)) := by omega
      have HB := hid (Below.then b1 hTr.out.below)
      clear hlt hTr
      rcases hstop with h0 | ⟨h0, h0'⟩
      all_goals
        go_wp2_with fail
        go_ret
        exact ⟨rfl, HB.out⟩
end Go.Proofs.Ytidcablgdbnddaa

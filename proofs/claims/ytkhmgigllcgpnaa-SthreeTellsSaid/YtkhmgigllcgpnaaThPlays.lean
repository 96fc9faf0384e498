/-
  Each call answers what the document says, and ids and ghosts are where it says: the statement, walked. No conditions but those of the calls.
-/
import Derived.Test.YtkhmgigllcgpnaaThDoes
namespace Go.Proofs.Ytkhmgigllcgpnaa.Th
open Go Go.RowKit Go.Lib

/-- A step of a script that came in. -/
structure Op14 (w : World) (b o : Nat) (kd z x : Int) : Prop where
  e0 : w.cell? ⟨b, o, none⟩ = some (.int .i64 kd)
  e1 : w.cell? ⟨b, o + 1, none⟩ = some (.int .i64 z)
  e2 : w.cell? ⟨b, o + 2, none⟩ = some (.int .u64 x)
  lt : b < w.heap.size
  rz : i64ok z
  rx : u64ok x
def Ops (w : World) (a : Option Addr) (n : Nat) : Prop := ∀ i, i < n → ∃ b off kd z x, a = some ⟨b, off, none⟩ ∧ Op14 w b (off + i * 3) kd z x
theorem qt_look {P : Nat} {G : Nat → Prop} {s : Th} {w : World} (h : QT P G s w) : ∃ Q Q1 a c, w.cell? ⟨P, 0, none⟩ = some (.pointer (some ⟨Q, 0, none⟩)) ∧ w.cell? ⟨P, 1, none⟩ = some (.pointer (some ⟨Q1, 0, none⟩)) ∧ w.cell? ⟨Q1, 1, none⟩ = some (.slice a s.g.length c) ∧ w.ownsRow 0 29 1 (.slice a s.g.length c) s.g.length (Gh.uc s.g) ∧ ∀ r, Calls Try.prog 18 #[.pointer (some ⟨Q, 0, none⟩), .int .i64 r] w fun e w' => ∃ v, e = .returned v ∧ w.ownsRow 0 3 1 v (rowAt s.L r).length (ic (rowAt s.L r)) ∧ w = w' := by
  obtain ⟨ok, Q, Q1, v, es, F, hq, hsay, hG⟩ := h
  obtain ⟨a, c, h1, h2⟩ := hq.gh.row
  exact ⟨Q, Q1, a, c, hq.head.cell (i := 0) rfl, hq.head.cell (i := 1) rfl, h1, h2, fun r => rq_all hq.rows r⟩
theorem t2_qt {w0 : World} {P Q : Nat} {s u : Th} {H : Nat → Prop} {w : World} (h : T2 w0 P Q s u H w) : ∃ G, QT Q G u w := by obtain ⟨F, G, _, k, _⟩ := h.at_; exact ⟨G, k⟩
theorem t2_ok {w0 : World} {P Q : Nat} {s u : Th} {H : Nat → Prop} {w : World} (h : T2 w0 P Q s u H w) : s.Ok := by obtain ⟨F, G, k, _⟩ := h.at_; exact k.ok

set_option maxRecDepth 100000 in
set_option maxHeartbeats 4000000 in
theorem plays_law (a : Option Addr) (n c0 : Nat) (w : World) (hx : Ops w a n) :
    Calls Try.prog 3 #[.slice a n c0] w fun e w' => e = .returned (.bool true) ∧ Below w.heap.size w w' := by
  have hX := hid hx
  have hsh := shown_any w
  clear hx
  go_enter Try.func3, Try.ntmps3
  go_wp2_with fail
  refine hsh.mono ?_
  rintro e w1 ⟨rfl, b1⟩
  have B1 := hid b1
  clear hsh b1
  go_wp2_with fail
  refine (tp_new w1).mono ?_
  rintro e w2 ⟨P, F, rfl, h2, b2, f2⟩
  go_wp2_with fail
  refine (qt_new w2).mono ?_
  rintro e w3 ⟨Q, G, rfl, h3, b3, f3⟩
  have HT : Hid (Bd 0 Th.new ∧ T2 w1 P Q Th.new Th.new (fun _ => False) w3) := hid ⟨Bd.new, TwoO.new (tp_ob P _) (qt_ob Q _) ⟨F, h2, b2, f2⟩ ⟨G, h3, b3, f3⟩⟩
  clear h2 b2 f2 h3 b3 f3
  go_wp2_with fail
  go_loopw [6] (fun p wr => ∃ (i : Nat) (s : Th), p = .int .i64 i ∧ i ≤ 200 ∧ i ≤ n ∧ Hid (Bd i s ∧ T2 w1 P Q s s (fun _ => False) wr)) (fun p _ => 200 - (RowKit.intOf p).toNat)
  case atStart => exact ⟨0, _, rfl, Nat.zero_le _, Nat.zero_le _, HT⟩
  case round =>
    obtain ⟨i, s, rfl, hi, hin, hTr⟩ := hrel
    clear HT
    by_cases hlt : i < n ∧ i < 200
    · obtain ⟨l1, l2⟩ := hlt
      obtain ⟨B, o, kd, zz, xx, rfl, hO⟩ := hX.out i l1
      have hb2 := Below.then B1.out hTr.out.2.below
      have c0' := (hb2.cell (p := ⟨B, o + i * 3, none⟩) hO.lt).trans hO.e0
      have c1 := (hb2.cell (p := ⟨B, o + i * 3 + 1, none⟩) hO.lt).trans hO.e1
      have c2 := (hb2.cell (p := ⟨B, o + i * 3 + 2, none⟩) hO.lt).trans hO.e2
      have hdo := does_any hTr.out.2 hTr.out.1 hi kd zz xx hO.rz hO.rx
      have HZ := hid hO.rz
      have HC : Hid (∀ W, Below w1.heap.size w1 W → W.cell? ⟨B, o + i * 3 + 1, none⟩ = some (.int .i64 zz)) := hid (fun W hb => ((Below.then B1.out hb).cell (p := ⟨B, o + i * 3 + 1, none⟩) hO.lt).trans hO.e1)
      have i1 : (i : Int) < (n : Int) := by omega
      have i2 : (i : Int) < 200 := by omega
      clear hO hb2 hTr
      go_wp2_with fail
      refine hdo.mono ?_
      rintro e w4 ⟨rfl, s', hBd, hT4⟩
      have HBD := hid hBd
      have hgg := TwoO.lookL hT4 (fun _ k => tp_ghosts k)
      have HT4 := hid hT4
      have hgb : s'.g.length ≤ 4194304 := Nat.le_trans (show s'.g.length ≤ i + 1 from hBd) (by omega)
      clear hdo c0' c1 c2 hT4 hBd
      obtain ⟨N, hN⟩ : ∃ N, N = s'.g.length := ⟨_, rfl⟩
      obtain ⟨us, hus⟩ : ∃ us, us = Gh.uc s'.g := ⟨_, rfl⟩
      rw [← hN, ← hus] at hgg
      rw [← hN] at hgb
      have HQ : Hid (∀ W (H : Nat → Prop), T2 w1 P Q s' s' H W → ∃ K K1 a c, W.cell? ⟨Q, 0, none⟩ = some (.pointer (some ⟨K, 0, none⟩)) ∧ W.cell? ⟨Q, 1, none⟩ = some (.pointer (some ⟨K1, 0, none⟩)) ∧ W.cell? ⟨K1, 1, none⟩ = some (.slice a N c) ∧ W.ownsRow 0 29 1 (.slice a N c) N (Gh.uc s'.g) ∧ ∀ r, Calls Try.prog 18 #[.pointer (some ⟨K, 0, none⟩), .int .i64 r] W fun e w' => ∃ v, e = .returned v ∧ W.ownsRow 0 3 1 v (rowAt s'.L r).length (ic (rowAt s'.L r)) ∧ W = w') := hid (fun W H h => by
        have := qt_look (t2_qt h).choose_spec
        rw [← hN] at this
        exact this)
      have Hus := hid hus
      clear hN hus
      go_wp2_with fail
      refine hgg.mono ?_
      rintro e w5 ⟨v2, rfl, o2, b5⟩
      have hT5 := hid (TwoO.more (H' := fun x => v2.ownBlock = some x) HT4.out b5 (fun x hx => .inr (own_base_le o2 hx)))
      obtain ⟨a2, d2, rfl⟩ := row_form o2
      have hTb := HT4.out.below.size
      have O2 := hid o2
      obtain ⟨K, K1, aq, cq, k0, k1, k2, k3, -⟩ := HQ.out _ _ hT5.out
      have hsu := same_u hgb (by have := O2.out; rw [Hus.out] at this; exact this) k3
      clear hgg HT4 k0 k3 o2 b5
      generalize _root_.Array.size (World.heap w4) = B0 at *
      go_wp2_with fail
      refine hsu.mono ?_
      rintro e w6 ⟨rfl, b6⟩
      have hT6 := hid (TwoO.after hT5.out b6)
      have O26 := hid (own_only O2.out (Below.only (D := fun _ => False) b6) (fun _ _ => id))
      have HB0 : Hid (w1.heap.size ≤ B0) := hid hTb
      clear hsu k1 k2 hT5 O2 Hus hTb b6
      have HCP : Hid (∀ W, Hid (T2 w1 P Q s' s' (fun x => (Value.slice a2 N d2).ownBlock = some x) W ∧ W.ownsRow B0 29 1 (.slice a2 N d2) N us) → Calls Try.prog 14 #[.pointer (some ⟨P, 0, none⟩), .int .i64 zz] W fun e w' => e = .returned (.int .i64 (s'.count zz)) ∧ Hid (T2 w1 P Q s' s' (fun x => (Value.slice a2 N d2).ownBlock = some x) w' ∧ w'.ownsRow B0 29 1 (.slice a2 N d2) N us) ∧ w'.cell? ⟨B, o + i * 3 + 1, none⟩ = some (.int .i64 zz)) := hid (fun W h =>
        (TwoO.lookL h.out.1 (fun _ k => tp_count k zz HZ.out)).mono fun e w' ⟨he, hb⟩ => ⟨he, hid ⟨TwoO.after h.out.1 hb, own_only h.out.2 (Below.only (D := fun _ => False) hb) (fun _ _ => id)⟩, HC.out _ (TwoO.after h.out.1 hb).below⟩)
      have HCQ : Hid (∀ W, Hid (T2 w1 P Q s' s' (fun x => (Value.slice a2 N d2).ownBlock = some x) W ∧ W.ownsRow B0 29 1 (.slice a2 N d2) N us) → Calls Try.prog 15 #[.pointer (some ⟨Q, 0, none⟩), .int .i64 zz] W fun e w' => e = .returned (.int .i64 (s'.count zz)) ∧ Hid (T2 w1 P Q s' s' (fun x => (Value.slice a2 N d2).ownBlock = some x) w' ∧ w'.ownsRow B0 29 1 (.slice a2 N d2) N us) ∧ w'.cell? ⟨B, o + i * 3 + 1, none⟩ = some (.int .i64 zz)) := hid (fun W h =>
        (TwoO.lookR h.out.1 (fun _ k => qt_count k zz)).mono fun e w' ⟨he, hb⟩ => ⟨he, hid (hb ▸ h.out), hb ▸ HC.out _ h.out.1.below⟩)
      have hST := hid (And.intro (TwoO.after hT6.out (Below.refl _ _).drew) (own_only O26.out (Below.only (D := fun _ => False) (Below.refl _ _).drew) (fun _ _ => id)))
      have hp := HC.out _ hST.out.1.below
      have hp0 := HC.out _ hT6.out.below
      generalize s'.count zz = CC at *
      go_upto_region 10 with fail
      go_cut [74] from 52 to 73 (fun v wx => v = .bool false ∧ Hid (T2 w1 P Q s' s' (fun x => (Value.slice a2 N d2).ownBlock = some x) wx ∧ wx.ownsRow B0 29 1 (.slice a2 N d2) N us))
      case first =>
        go_wp2_with fail
        go_region_held3 (fun w' => w'.cell? ⟨B, o + i * 3 + 1, none⟩ = some (.int .i64 zz)) (first | exact hx2 | exact hx1 | exact hp) (first
          | (go_at_call 15; refine (HCQ.out _ h7).mono ?_; rintro e w8 ⟨rfl, h8, hx2⟩)
          | (go_at_call 14; refine (HCP.out _ hST).mono ?_; rintro e w7 ⟨rfl, h7, hx1⟩))
        all_goals
          clear HCP HCQ
          go_wp2_with fail
          go_meet
          exact ⟨by simp, h8⟩
      case rest =>
      obtain ⟨rfl, hST2⟩ := hcut
      clear HCP HCQ hST hp hp0 hT6 O26
      go_wp2_with fail
      go_loopw [10] (fun p wr => ∃ t : Nat, p = .int .i64 ((t : Int) - 1) ∧ t ≤ 4 ∧ Hid (T2 w1 P Q s' s' (fun x => (Value.slice a2 N d2).ownBlock = some x) wr ∧ wr.ownsRow B0 29 1 (.slice a2 N d2) N us)) (fun p _ => ((3 : Int) - RowKit.intOf p).toNat)
      case atStart => exact ⟨0, rfl, Nat.zero_le _, hST2⟩
      case round =>
        obtain ⟨t, rfl, ht, hTr⟩ := hrel
        clear hST2
        by_cases hle : t ≤ 3
        · have hall := TwoO.lookL hTr.out.1 (fun _ k => tp_all k ((t : Int) - 1))
          have hqa : Hid (∀ W (H : Nat → Prop), T2 w1 P Q s' s' H W → ∃ K, W.cell? ⟨Q, 0, none⟩ = some (.pointer (some ⟨K, 0, none⟩)) ∧ Calls Try.prog 18 #[.pointer (some ⟨K, 0, none⟩), .int .i64 ((t : Int) - 1)] W fun e w' => ∃ v, e = .returned v ∧ W.ownsRow 0 3 1 v (rowAt s'.L ((t : Int) - 1)).length (ic (rowAt s'.L ((t : Int) - 1))) ∧ W = w') := hid (fun W H h => by
            obtain ⟨K, _, _, _, h1, _, _, _, h2⟩ := HQ.out W H h
            exact ⟨K, h1, h2 _⟩)
          have hlb := row_le (t2_ok hTr.out.1).good ((t : Int) - 1)
          have hTb := hTr.out.1.below.size
          generalize rowAt s'.L ((t : Int) - 1) = xs at *
          have hk1 : (t : Int) - 1 ≤ 2 := by omega
          go_wp2_with fail
          refine hall.mono ?_
          rintro e w7 ⟨v1, rfl, o1, b7⟩
          have hT7 := hid (TwoO.more (H' := fun x => v1.ownBlock = some x ∨ (Value.slice a2 N d2).ownBlock = some x) hTr.out.1 b7 (fun x hx => hx.elim (fun hx => .inr (own_base_le o1 hx)) .inl))
          have O27 := hid (own_only hTr.out.2 (Below.only (D := fun _ => False) b7) (fun _ _ => id))
          have HB2 : Hid (∀ b, (Value.slice a2 N d2).ownBlock = some b → b < wr.heap.size ∧ B0 ≤ b) := hid (fun b hb => ⟨(own_base_le hTr.out.2 hb).2, (own_base_le hTr.out.2 hb).1⟩)
          obtain ⟨a1, d1, rfl⟩ := row_form o1
          have HB1 : Hid (∀ b, (Value.slice a1 xs.length d1).ownBlock = some b → wr.heap.size ≤ b) := hid (fun b hb => (own_base_le o1 hb).1)
          have O1 := hid o1
          have hTbw : Hid (w1.heap.size ≤ wr.heap.size) := hid hTb
          obtain ⟨K, hcq, hqal⟩ := hqa.out _ _ hT7.out
          clear hall hTr hqa b7 o1 hTb
          obtain ⟨K1, hK1⟩ : ∃ K, K = xs.length := ⟨_, rfl⟩
          rw [← hK1] at O1 hT7 hlb HB1 hqal
          have HK1 := hid hK1
          rw [← hK1]
          clear hK1
          generalize _root_.Array.size (World.heap wr) = B7 at *
          go_wp2_with fail
          refine hqal.mono ?_
          rintro e w8 ⟨v3, rfl, o3, rfl⟩
          obtain ⟨a3, d3, rfl⟩ := row_form o3
          have hsm := same_any hlb O1.out o3
          clear hqal o3 hcq
          go_wp2_with fail
          refine hsm.mono ?_
          rintro e w9 ⟨rfl, b9⟩
          have hT9 := hid (TwoO.after hT7.out b9)
          have O29 := hid (own_only O27.out (Below.only (D := fun _ => False) b9) (fun _ _ => id))
          have O19 := hid (own_only O1.out (Below.only (D := fun _ => False) b9) (fun _ _ => id))
          generalize ic xs = cs at *
          clear hsm b9 hT7 O27 O1
          go_wp2_with fail
          go_loopw [13] (fun p wr => ∃ (j : Nat) (cs : List Value), p = .int .i64 j ∧ j ≤ K1 ∧ Hid (wr.ownsRow B7 3 1 (.slice a1 K1 d1) K1 cs) ∧ Hid (wr.ownsRow B0 29 1 (.slice a2 N d2) N us) ∧ Hid (T2 w1 P Q s' s' (fun x => (Value.slice a1 K1 d1).ownBlock = some x ∨ (Value.slice a2 N d2).ownBlock = some x) wr)) (fun p _ => K1 - (RowKit.intOf p).toNat)
          case atStart => exact ⟨0, cs, rfl, Nat.zero_le _, O19, O29, hT9⟩
          case round =>
            clear hT9 O19 O29
            obtain ⟨j, cs, rfl, hj, hO, hO2, hTr⟩ := hrel
            by_cases hlt : j < K1
            · obtain ⟨g, cap, hv, _, hgb2, _⟩ := row_pos hO.out (by omega)
              cases hv
              have hf := hO.out.frozenAt j
              have hcl := hO.out.cellAt j (by omega)
              obtain ⟨u, hu⟩ : ∃ u, cs[j]? = some u := ⟨_, List.getElem?_eq_getElem (by have := hO.out.1; omega)⟩
              rw [hu] at hcl
              have hst := hid (World.ownsRow.stored hO.out j (.int .i64 (-9))).1
              have hD : ∀ w', w' = _root_.Go.World.setCell wr ⟨g, j, none⟩ (.int .i64 (-9)) → Only (fun x => x = g) wr w' := fun w' e => e ▸ Only.setCell (D := fun x => x = g) (Only.refl _ _) (p := ⟨g, j, none⟩) (.inl rfl) _
              have hO3 := hid (own_only hO2.out (hD _ rfl) (fun b hb e => by have h1 := (HB2.out b hb).1; have h2 := HB1.out g (by simp [Value.ownBlock]); omega))
              have hT2 := hid (TwoO.turn hTr.out ((hD _ rfl).mono (fun x hx => .inl (by rw [hx]; simp [Value.ownBlock]))) (fun x hx => hx.elim (fun hx => Nat.le_trans hTbw.out (HB1.out x hx)) (fun hx => Nat.le_trans HB0.out (HB2.out x hx).2)))
              clear hO hTr hu hO2 hD
              go_wp2_with fail
              go_roundw
              case rel => exact ⟨j + 1, _, by go_num, by omega, hst, hO3, hT2⟩
              case measure => simp [RowKit.intOf] <;> omega
            · obtain rfl : j = K1 := by omega
              have hST3 := hid (And.intro (TwoO.more (H' := fun x => (Value.slice a2 N d2).ownBlock = some x) hTr.out (Below.refl _ _) (fun x hx => .inl (.inr hx))) hO2.out)
              clear hlt hj hO hTr hO2
              go_wp2_with fail
              go_roundw
              case rel => exact ⟨t + 1, by go_num, by omega, hST3⟩
              case measure => simp only [RowKit.intOf]; omega
        · obtain rfl : t = 4 := by omega
          have hO2 := hid hTr.out.2
          have hTq := hid hTr.out.1
          have HB2 : Hid (∀ b, (Value.slice a2 N d2).ownBlock = some b → B0 ≤ b) := hid (fun b hb => (own_base_le hTr.out.2 hb).1)
          clear hTr HQ
          go_wp2_with fail
          go_loopw [14] (fun p wr => ∃ (i : Nat) (us : List Value), p = .int .i64 i ∧ i ≤ N ∧ Hid (wr.ownsRow B0 29 1 (.slice a2 N d2) N us) ∧ Hid (T2 w1 P Q s' s' (fun x => (Value.slice a2 N d2).ownBlock = some x) wr)) (fun p _ => N - (RowKit.intOf p).toNat)
          case atStart => exact ⟨0, us, rfl, Nat.zero_le _, hO2, hTq⟩
          case round =>
            clear hTq hO2
            obtain ⟨i', us, rfl, hi', hO2, hTr⟩ := hrel
            by_cases hlt : i' < N
            · obtain ⟨g, cap, hv, _, hgb2, _⟩ := row_pos hO2.out (by omega)
              cases hv
              have hf := hO2.out.frozenAt i'
              have hcl := hO2.out.cellAt i' (by omega)
              obtain ⟨u, hu⟩ : ∃ u, us[i']? = some u := ⟨_, List.getElem?_eq_getElem (by have := hO2.out.1; omega)⟩
              rw [hu] at hcl
              have hst := hid (World.ownsRow.stored hO2.out i' (.int .u64 7)).1
              have hD : ∀ w', w' = _root_.Go.World.setCell wr ⟨g, i', none⟩ (.int .u64 7) → Only (fun x => x = g) wr w' := fun w' e => e ▸ Only.setCell (D := fun x => x = g) (Only.refl _ _) (p := ⟨g, i', none⟩) (.inl rfl) _
              have hT2 := hid (TwoO.turn hTr.out ((hD _ rfl).mono (fun x hx => by rw [hx]; simp [Value.ownBlock])) (fun x hx => Nat.le_trans HB0.out (HB2.out x hx)))
              clear hO2 hTr hu hD
              go_wp2_with fail
              go_roundw
              case rel => exact ⟨i' + 1, _, by go_num, by omega, hst, hT2⟩
              case measure => simp [RowKit.intOf] <;> omega
            · obtain rfl : i' = N := by omega
              have hT2 := hid (And.intro HBD.out (TwoO.more (H' := fun _ => False) hTr.out (Below.refl _ _) (fun _ hx => hx.elim)))
              clear hTr hO2 hlt hi'
              go_wp2_with fail
              go_roundw
              case rel => exact ⟨i + 1, s', by go_num, by omega, by omega, hT2⟩
              case measure => simp [RowKit.intOf] <;> omega
    · have hstop : (n : Int) ≤ (i : Int) ∨ ((i : Int) < (n : Int) ∧ (200 : Int) ≤ (i : Int)) := by omega
      have HB := hid (Below.then B1.out hTr.out.2.below)
      clear hlt hTr
      rcases hstop with h0 | ⟨h0, h0'⟩
      all_goals
        go_wp2_with fail
        go_ret
        exact ⟨rfl, HB.out⟩
end Go.Proofs.Ytkhmgigllcgpnaa.Th

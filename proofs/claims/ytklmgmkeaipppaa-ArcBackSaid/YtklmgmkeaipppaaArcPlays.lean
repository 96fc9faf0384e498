/-
  Each call answers what the document says, and ids and ghosts are where it says: the statement, walked. No conditions but those of the calls.
-/
import Derived.Test.YtklmgmkeaipppaaArcDoes
namespace Go.Proofs.Ytklmgmkeaipppaa.Ac
open Go Go.RowKit Go.Lib

/-- A step of a script that came in. -/
structure Op13 (w : World) (b o : Nat) (kd z x : Int) : Prop where
  e0 : w.cell? ⟨b, o, none⟩ = some (.int .i64 kd)
  e1 : w.cell? ⟨b, o + 1, none⟩ = some (.int .i64 z)
  e2 : w.cell? ⟨b, o + 2, none⟩ = some (.int .u64 x)
  lt : b < w.heap.size
  rz : i64ok z
  rx : u64ok x
def Ops (w : World) (a : Option Addr) (n : Nat) : Prop := ∀ i, i < n → ∃ b off kd z x, a = some ⟨b, off, none⟩ ∧ Op13 w b (off + i * 3) kd z x
theorem qr_look {P : Nat} {G : Nat → Prop} {s : Ar} {w : World} (h : QR P G s w) : w.cell? ⟨P, 4, none⟩ = some (.int .i64 (s.p : Int)) ∧ P < w.heap.size ∧ ∃ Q, w.cell? ⟨P, 0, none⟩ = some (.pointer (some ⟨Q, 0, none⟩)) ∧ ∀ r, Calls Try.prog 16 #[.pointer (some ⟨Q, 0, none⟩), .int .i64 r] w fun e w' => ∃ v, e = .returned v ∧ w.ownsRow 0 3 1 v (rowAt s.L r).length (ic (rowAt s.L r)) ∧ w = w' := by
  obtain ⟨ok, Q, Q1, Q2, v, hs, F, hq, hsay, hG⟩ := h
  exact ⟨hq.head.cell (i := 4) rfl, hq.head.lt, Q, hq.head.cell (i := 0) rfl, fun r => rq_all hq.rows r⟩
theorem t2_qr {w0 : World} {P Q : Nat} {s u : Ar} {H : Nat → Prop} {w : World} (h : T2 w0 P Q s u H w) : ∃ G, QR Q G u w := by obtain ⟨F, G, _, k, _⟩ := h.at_; exact ⟨G, k⟩
theorem t2_good {w0 : World} {P Q : Nat} {s u : Ar} {H : Nat → Prop} {w : World} (h : T2 w0 P Q s u H w) : GoodL s.L := by obtain ⟨F, G, k, _⟩ := h.at_; exact k.ok.good
theorem gh_le {i : Nat} {s : Ar} (h : Bd i s) (r : Int) : (s.gh r).length ≤ i := by
  unfold Ar.gh
  split
  · exact h.b1
  · split
    · exact h.b2
    · exact Nat.zero_le _

set_option maxRecDepth 100000 in
set_option maxHeartbeats 4000000 in
theorem plays_law (a : Option Addr) (n c0 : Nat) (w : World) (hx : Ops w a n) :
    Calls Try.prog 3 #[.slice a n c0] w fun e w' => e = .returned (.bool true) ∧ Below w.heap.size w w' := by
  have hX := hid hx
  have hsh := shown_any w
  clear hx
  go_enter Try.func3, Try.ntmps3
  go_wp2_with fail
  refine hsh.mono ?_
  rintro e w1 ⟨rfl, b1⟩
  have B1 := hid b1
  clear hsh b1
  go_wp2_with fail
  refine (ar_new w1).mono ?_
  rintro e w2 ⟨P, F, rfl, h2, b2, f2⟩
  go_wp2_with fail
  refine (qr_new w2).mono ?_
  rintro e w3 ⟨Q, G, rfl, h3, b3, f3⟩
  have HT : Hid (Bd 0 Ar.new ∧ T2 w1 P Q Ar.new Ar.new (fun _ => False) w3) := hid ⟨Bd.new, TwoO.new (ar_ob P _) (qr_ob Q _) ⟨F, h2, b2, f2⟩ ⟨G, h3, b3, f3⟩⟩
  clear h2 b2 f2 h3 b3 f3
  go_wp2_with fail
  go_loopw [6] (fun p wr => ∃ (i : Nat) (s : Ar), p = .int .i64 i ∧ i ≤ 200 ∧ i ≤ n ∧ Hid (Bd i s ∧ T2 w1 P Q s s (fun _ => False) wr)) (fun p _ => 200 - (RowKit.intOf p).toNat)
  case atStart => exact ⟨0, _, rfl, Nat.zero_le _, Nat.zero_le _, HT⟩
  case round =>
    obtain ⟨i, s, rfl, hi, hin, hTr⟩ := hrel
    clear HT
    by_cases hlt : i < n ∧ i < 200
    · obtain ⟨l1, l2⟩ := hlt
      obtain ⟨B, o, kd, zz, xx, rfl, hO⟩ := hX.out i l1
      have hb2 := Below.then B1.out hTr.out.2.below
      have c0' := (hb2.cell (p := ⟨B, o + i * 3, none⟩) hO.lt).trans hO.e0
      have c1 := (hb2.cell (p := ⟨B, o + i * 3 + 1, none⟩) hO.lt).trans hO.e1
      have c2 := (hb2.cell (p := ⟨B, o + i * 3 + 2, none⟩) hO.lt).trans hO.e2
      have hdo := does_any hTr.out.2 hTr.out.1 hi kd zz xx hO.rz hO.rx
      have i1 : (i : Int) < (n : Int) := by omega
      have i2 : (i : Int) < 200 := by omega
      clear hO hb2 hTr
      go_wp2_with fail
      refine hdo.mono ?_
      rintro e w4 ⟨rfl, s', hBd, hT4⟩
      have HBD := hid hBd
      have hp := (qr_look (t2_qr hT4).choose_spec).1
      have HTg : Hid (∀ W, T2 w1 P Q s' s' (fun _ => False) W → Calls Try.prog 12 #[.pointer (some ⟨P, 0, none⟩)] W fun e w' => e = .returned (.int .i64 (s'.p : Int)) ∧ Hid (T2 w1 P Q s' s' (fun _ => False) w') ∧ w'.cell? ⟨Q, 4, none⟩ = some (.int .i64 (s'.p : Int))) := hid (fun W h =>
        (TwoO.lookL h (fun _ k => ar_target k)).mono fun e w' ⟨h1, h2⟩ => ⟨h1, hid (TwoO.after h h2), (qr_look (t2_qr (TwoO.after h h2)).choose_spec).1⟩)
      have hT0 := hid (TwoO.after hT4 (Below.refl _ _).drew)
      replace hp : w4.drew.cell? ⟨Q, 4, none⟩ = some (.int .i64 (s'.p : Int)) := hp
      generalize (s'.p : Int) = pp at *
      clear hdo c0' c1 c2 hT4 hBd
      go_upto_region 10 with fail
      go_cut [51] from 41 to 50 (fun v wx => v = .bool false ∧ Hid (T2 w1 P Q s' s' (fun _ => False) wx))
      case first =>
        go_wp2_with fail
        go_region_held3 (fun w' => w'.cell? ⟨Q, 4, none⟩ = some (.int .i64 pp)) (first | exact hx1 | exact hp) (first
          | (go_at_call 12; refine (HTg.out _ hT0.out).mono ?_; rintro e w5 ⟨rfl, h5, hx1⟩))
        all_goals
          clear HTg
          go_wp2_with fail
          go_meet
          exact ⟨by simp, h5⟩
      case rest =>
      obtain ⟨rfl, HT2⟩ := hcut
      clear HTg hT0 hp
      go_wp2_with fail
      go_loopw [8] (fun p wr => ∃ t : Nat, p = .int .i64 ((t : Int) - 1) ∧ t ≤ 4 ∧ Hid (T2 w1 P Q s' s' (fun _ => False) wr)) (fun p _ => ((3 : Int) - RowKit.intOf p).toNat)
      case atStart => exact ⟨0, rfl, Nat.zero_le _, HT2⟩
      case round =>
        obtain ⟨t, rfl, ht, hTr⟩ := hrel
        clear HT2
        by_cases hle : t ≤ 3
        · have hall := TwoO.lookL hTr.out (fun _ k => ar_all k ((t : Int) - 1))
          have hgg : Hid (∀ W (H : Nat → Prop), T2 w1 P Q s' s' H W → Calls Try.prog 14 #[.pointer (some ⟨P, 0, none⟩), .int .i64 ((t : Int) - 1)] W fun e w' => ∃ v, e = .returned v ∧ w'.ownsRow W.heap.size 29 1 v (s'.gh ((t : Int) - 1)).length (Gh.uc (s'.gh ((t : Int) - 1))) ∧ Below W.heap.size W w') := hid (fun W H h => TwoO.lookL h (fun _ k => ar_ghosts k ((t : Int) - 1)))
          have hqg : Hid (∀ W (H : Nat → Prop), T2 w1 P Q s' s' H W → Calls Try.prog 18 #[.pointer (some ⟨Q, 0, none⟩), .int .i64 ((t : Int) - 1)] W fun e w' => ∃ v, e = .returned v ∧ W.ownsRow 0 29 1 v (s'.gh ((t : Int) - 1)).length (Gh.uc (s'.gh ((t : Int) - 1))) ∧ W = w') := hid (fun W H h => TwoO.lookR h (fun _ k => qr_ghosts k ((t : Int) - 1)))
          have hqa : Hid (∀ W (H : Nat → Prop), T2 w1 P Q s' s' H W → ∃ K, W.cell? ⟨Q, 0, none⟩ = some (.pointer (some ⟨K, 0, none⟩)) ∧ Calls Try.prog 16 #[.pointer (some ⟨K, 0, none⟩), .int .i64 ((t : Int) - 1)] W fun e w' => ∃ v, e = .returned v ∧ W.ownsRow 0 3 1 v (rowAt s'.L ((t : Int) - 1)).length (ic (rowAt s'.L ((t : Int) - 1))) ∧ W = w') := hid (fun W H h => by
            obtain ⟨_, _, K, h1, h2⟩ := qr_look (t2_qr h).choose_spec
            exact ⟨K, h1, h2 _⟩)
          have hlb := row_le (t2_good hTr.out) ((t : Int) - 1)
          have hgb : (s'.gh ((t : Int) - 1)).length ≤ 4194304 := Nat.le_trans (gh_le HBD.out _) (by omega)
          have hTb := hTr.out.below.size
          generalize rowAt s'.L ((t : Int) - 1) = xs at *
          generalize s'.gh ((t : Int) - 1) = ys at *
          have hk1 : (t : Int) - 1 ≤ 2 := by omega
          go_wp2_with fail
          refine hall.mono ?_
          rintro e w5 ⟨v1, rfl, o1, b5⟩
          have hT5 := hid (TwoO.after hTr.out b5)
          have hT6 := hid (TwoO.more (H' := fun x => v1.ownBlock = some x) hTr.out b5 (fun x hx => .inr (own_base_le o1 hx)))
          have hga := hgg.out _ _ hT5.out
          have O1 := hid o1
          have hB5 := b5.size
          obtain ⟨a1, d1, rfl⟩ := row_form o1
          clear hall hTr hgg b5 o1
          obtain ⟨K, hK⟩ : ∃ K, K = xs.length := ⟨_, rfl⟩
          obtain ⟨N, hN⟩ : ∃ N, N = ys.length := ⟨_, rfl⟩
          rw [← hK] at O1 hT6 hlb
          rw [← hN] at hga hgb
          have HK := hid hK
          have HN := hid hN
          have HA5 : Hid (∀ b, (Value.slice a1 K d1).ownBlock = some b → b < w5.heap.size ∧ w1.heap.size ≤ b) := hid (fun b hb => ⟨(own_base_le O1.out hb).2, Nat.le_trans hTb (own_base_le O1.out hb).1⟩)
          have hT15 : w1.heap.size ≤ w5.heap.size := Nat.le_trans hTb hB5
          rw [← hK]
          clear hK hN
          generalize _root_.Array.size (World.heap wr) = B0 at *
          go_wp2_with fail
          refine hga.mono ?_
          rintro e w6 ⟨v2, rfl, o2, b6⟩
          have hT7 := hid (TwoO.more (H' := fun x => (Value.slice a1 K d1).ownBlock = some x ∨ v2.ownBlock = some x) hT6.out b6 (fun x hx => hx.elim .inl (fun hx => .inr (own_base_le o2 hx))))
          obtain ⟨a2, d2, rfl⟩ := row_form o2
          have O2 := hid o2
          have O16 := hid (own_only O1.out (Below.only (D := fun _ => False) b6) (fun _ _ => id))
          have HB2 : Hid (∀ b, (Value.slice a2 N d2).ownBlock = some b → w5.heap.size ≤ b) := hid (fun b hb => (own_base_le O2.out hb).1)
          generalize w5.heap.size = B5 at *
          obtain ⟨KQ, hcq, hqal⟩ := hqa.out _ _ hT7.out
          rw [← HK.out] at hqal
          clear hga o2 b6 hT5 hT6 hqa O1
          go_wp2_with fail
          refine hqal.mono ?_
          rintro e w7 ⟨v3, rfl, o3, rfl⟩
          obtain ⟨a3, d3, rfl⟩ := row_form o3
          have hsm := same_any hlb O16.out o3
          clear hqal o3 hcq
          go_wp2_with fail
          refine hsm.mono ?_
          rintro e w8 ⟨rfl, b8⟩
          have hT8 := hid (TwoO.after hT7.out b8)
          have O28 := hid (own_only O2.out (Below.only (D := fun _ => False) b8) (fun _ _ => id))
          have O18 := hid (own_only O16.out (Below.only (D := fun _ => False) b8) (fun _ _ => id))
          have hqgl := hqg.out _ _ hT8.out
          rw [← HN.out] at hqgl
          clear hsm b8 hT7 O2 O16 hqg
          go_wp2_with fail
          refine hqgl.mono ?_
          rintro e w9 ⟨v4, rfl, o4, rfl⟩
          obtain ⟨a4, d4, rfl⟩ := row_form o4
          have hsu := same_u hgb O28.out o4
          clear hqgl o4
          go_wp2_with fail
          refine hsu.mono ?_
          rintro e w10 ⟨rfl, b10⟩
          have hTa := hid (TwoO.after hT8.out b10)
          have O2a := hid (own_only O28.out (Below.only (D := fun _ => False) b10) (fun _ _ => id))
          have O1a := hid (own_only O18.out (Below.only (D := fun _ => False) b10) (fun _ _ => id))
          generalize ic xs = cs at *
          generalize Gh.uc ys = us at *
          clear hsu b10 hT8 O28 O18 HK HN
          go_wp2_with fail
          go_loopw [13] (fun p wr => ∃ (j : Nat) (cs : List Value), p = .int .i64 j ∧ j ≤ K ∧ Hid (wr.ownsRow B0 3 1 (.slice a1 K d1) K cs) ∧ Hid (wr.ownsRow B5 29 1 (.slice a2 N d2) N us) ∧ Hid (T2 w1 P Q s' s' (fun x => (Value.slice a1 K d1).ownBlock = some x ∨ (Value.slice a2 N d2).ownBlock = some x) wr)) (fun p _ => K - (RowKit.intOf p).toNat)
          case atStart => exact ⟨0, cs, rfl, Nat.zero_le _, O1a, O2a, hTa⟩
          case round =>
            clear hTa O1a O2a
            obtain ⟨j, cs, rfl, hj, hO, hO2, hTr⟩ := hrel
            by_cases hlt : j < K
            · obtain ⟨g, cap, hv, _, hgb2, _⟩ := row_pos hO.out (by omega)
              cases hv
              have hf := hO.out.frozenAt j
              have hcl := hO.out.cellAt j (by omega)
              obtain ⟨u, hu⟩ : ∃ u, cs[j]? = some u := ⟨_, List.getElem?_eq_getElem (by have := hO.out.1; omega)⟩
              rw [hu] at hcl
              have hst := hid (World.ownsRow.stored hO.out j (.int .i64 (-9))).1
              have hD : ∀ w', w' = _root_.Go.World.setCell wr ⟨g, j, none⟩ (.int .i64 (-9)) → Only (fun x => x = g) wr w' := fun w' e => e ▸ Only.setCell (D := fun x => x = g) (Only.refl _ _) (p := ⟨g, j, none⟩) (.inl rfl) _
              have hO3 := hid (own_only hO2.out (hD _ rfl) (fun b hb e => by have h1 := HB2.out b hb; have h2 := (HA5.out g (by simp [Value.ownBlock])).1; omega))
              have hT2 := hid (TwoO.turn hTr.out ((hD _ rfl).mono (fun x hx => .inl (by rw [hx]; simp [Value.ownBlock]))) (fun x hx => hx.elim (fun hx => (HA5.out x hx).2) (fun hx => Nat.le_trans hT15 (HB2.out x hx))))
              clear hO hTr hu hO2 hD
              go_wp2_with fail
              go_roundw
              case rel => exact ⟨j + 1, _, by go_num, by omega, hst, hO3, hT2⟩
              case measure => simp [RowKit.intOf] <;> omega
            · obtain rfl : j = K := by omega
              clear hlt hj hO
              go_wp2_with fail
              go_loopw [14] (fun p wr => ∃ (i : Nat) (us : List Value), p = .int .i64 i ∧ i ≤ N ∧ Hid (wr.ownsRow B5 29 1 (.slice a2 N d2) N us) ∧ Hid (T2 w1 P Q s' s' (fun x => (Value.slice a1 j d1).ownBlock = some x ∨ (Value.slice a2 N d2).ownBlock = some x) wr)) (fun p _ => N - (RowKit.intOf p).toNat)
              case atStart => exact ⟨0, us, rfl, Nat.zero_le _, hO2, hTr⟩
              case round =>
                clear hTr hO2
                obtain ⟨i', us, rfl, hi', hO2, hTr⟩ := hrel
                by_cases hlt : i' < N
                · obtain ⟨g, cap, hv, _, hgb2, _⟩ := row_pos hO2.out (by omega)
                  cases hv
                  have hf := hO2.out.frozenAt i'
                  have hcl := hO2.out.cellAt i' (by omega)
                  obtain ⟨u, hu⟩ : ∃ u, us[i']? = some u := ⟨_, List.getElem?_eq_getElem (by have := hO2.out.1; omega)⟩
                  rw [hu] at hcl
                  have hst := hid (World.ownsRow.stored hO2.out i' (.int .u64 7)).1
                  have hD : ∀ w', w' = _root_.Go.World.setCell wr ⟨g, i', none⟩ (.int .u64 7) → Only (fun x => x = g) wr w' := fun w' e => e ▸ Only.setCell (D := fun x => x = g) (Only.refl _ _) (p := ⟨g, i', none⟩) (.inl rfl) _
                  have hT2 := hid (TwoO.turn hTr.out ((hD _ rfl).mono (fun x hx => .inr (by rw [hx]; simp [Value.ownBlock]))) (fun x hx => hx.elim (fun hx => (HA5.out x hx).2) (fun hx => Nat.le_trans hT15 (HB2.out x hx))))
                  clear hO2 hTr hu hD
                  go_wp2_with fail
                  go_roundw
                  case rel => exact ⟨i' + 1, _, by go_num, by omega, hst, hT2⟩
                  case measure => simp [RowKit.intOf] <;> omega
                · obtain rfl : i' = N := by omega
                  have hT2 := hid (TwoO.more (H' := fun _ => False) hTr.out (Below.refl _ _) (fun _ hx => hx.elim))
                  clear hTr hO2 hlt hi'
                  go_wp2_with fail
                  go_roundw
                  case rel => exact ⟨t + 1, by go_num, by omega, hT2⟩
                  case measure => simp only [RowKit.intOf]; omega
        · obtain rfl : t = 4 := by omega
          have hT2 := hid (And.intro HBD.out hTr.out)
          clear hTr
          go_wp2_with fail
          go_roundw
          case rel => exact ⟨i + 1, s', by go_num, by omega, by omega, hT2⟩
          case measure => simp [RowKit.intOf] <;> omega
    · have hstop : (n : Int) ≤ (i : Int) ∨ ((i : Int) < (n : Int) ∧ (200 : Int) ≤ (i : Int)) := by omega
      have HB := hid (Below.then B1.out hTr.out.2.below)
      clear hlt hTr
      rcases hstop with h0 | ⟨h0, h0'⟩
      all_goals
        go_wp2_with fail
        go_ret
        exact ⟨rfl, HB.out⟩
end Go.Proofs.Ytklmgmkeaipppaa.Ac

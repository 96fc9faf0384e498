/-
  Each call answers what the document says, and ids stand where it says: the statement, walked. Conditions: the shares are 20 and 40 where the call begins.
-/
import Derived.Test.YtenncmjokdacoaaDoorSegClose
import Derived.Deep.CutBlock
import Derived.Deep.RegionHeld3
namespace Go.Proofs.YtenncmjokdacoaaDoor.Sr
open Go Go.RowKit Go.Lib

theorem qa_ob (Q : Nat) (s : Sg) : Ob (fun G w => QA Q G s w) := ⟨fun h => h.lt, fun h => h.only⟩
abbrev T2 (w0 : World) (P Q : Nat) (s u : Sg) (H : Nat → Prop) (w : World) : Prop := TwoO w0 (fun F w => SA P F s w) (fun G w => QA Q G u w) H w
def Bx (X : Nat) (z : Int) (w : World) : Prop := w.cell? ⟨X, 1, none⟩ = some (.int .i64 z)
section
variable {w0 : World} {P Q X : Nat} {s u s' u' : Sg} {w : World} {z : Int} {f : FuncId} {args : Array Value} {R : Ending → Prop}
theorem t2_left (h : T2 w0 P Q s u (fun x => x = X) w) (hb : w.cell? ⟨X, 1, none⟩ = some (.int .i64 z)) (hc : ∀ F, SA P F s w → Calls Tryd.prog f args w fun e w' => R e ∧ ∃ F', SA P F' s' w' ∧ Stp F F' w w') :
    Calls Tryd.prog f args w fun e w' => R e ∧ Hid (T2 w0 P Q s' u (fun x => x = X) w') ∧ w'.cell? ⟨X, 1, none⟩ = some (.int .i64 z) :=
  (TwoO.left h (sa_ob P s') hc).mono fun _ _ ⟨he, k, _, d1, d2⟩ => ⟨he, hid k, (d1.cell (p := ⟨X, 1, none⟩) (cell_lt hb) (d2 X rfl)).trans hb⟩
theorem t2_right (h : T2 w0 P Q s u (fun x => x = X) w) (hb : w.cell? ⟨X, 1, none⟩ = some (.int .i64 z)) (hc : ∀ G, QA Q G u w → Calls Tryd.prog f args w fun e w' => R e ∧ ∃ G', QA Q G' u' w' ∧ Stp G G' w w') :
    Calls Tryd.prog f args w fun e w' => R e ∧ Hid (T2 w0 P Q s u' (fun x => x = X) w') ∧ w'.cell? ⟨X, 1, none⟩ = some (.int .i64 z) :=
  (TwoO.right h (qa_ob Q u') hc).mono fun _ _ ⟨he, k, _, d1, d2⟩ => ⟨he, hid k, (d1.cell (p := ⟨X, 1, none⟩) (cell_lt hb) (d2 X rfl)).trans hb⟩
theorem t2_ok (h : T2 w0 P Q s u (fun x => x = X) w) : s.Ok := by obtain ⟨F, G, k, _⟩ := h.at_; exact k.ok
end
theorem qa_all {P : Nat} {G : Nat → Prop} {s : Sg} {w : World} (h : QA P G s w) : ∃ Q, w.cell? ⟨P, 0, none⟩ = some (.pointer (some ⟨Q, 0, none⟩)) ∧ ∀ r, Calls Tryd.prog 25 #[.pointer (some ⟨Q, 0, none⟩), .int .i64 r] w fun e w' => ∃ v, e = .returned v ∧ w.ownsRow 0 3 1 v (rowAt s.L r).length (ic (rowAt s.L r)) ∧ w = w' := by
  obtain ⟨ok, Q, R, vs, v, xs, hp, _⟩ := h
  exact ⟨Q, hp.head.cell (i := 0) rfl, fun r => qall_any hp.rows r⟩
theorem t2_allr {w0 : World} {P Q : Nat} {s u : Sg} {H : Nat → Prop} {w : World} (h : T2 w0 P Q s u H w) : ∃ K, w.cell? ⟨Q, 0, none⟩ = some (.pointer (some ⟨K, 0, none⟩)) ∧ ∀ r, Calls Tryd.prog 25 #[.pointer (some ⟨K, 0, none⟩), .int .i64 r] w fun e w' => ∃ v, e = .returned v ∧ w.ownsRow 0 3 1 v (rowAt u.L r).length (ic (rowAt u.L r)) ∧ w = w' := by
  obtain ⟨F, G, _, k, _⟩ := h.at_
  exact qa_all k
theorem row_le' {s : Sg} (h : s.Ok) (r : Int) : (rowAt s.L r).length ≤ 4194304 := row_le h.good r

set_option maxRecDepth 100000 in
set_option maxHeartbeats 4000000 in
theorem plays_law (a : Option Addr) (n c0 : Nat) (w : World) (hv : Shr w) (hx : Ops w a n) :
    Calls Tryd.prog 3 #[.slice a n c0] w fun e w' => e = .returned (.bool true) ∧ Below w.heap.size w w' := by
  have hX := hid hx
  have hsh := shown_any hv
  have HV := hid hv
  clear hx hv
  go_enter Tryd.func3, Tryd.ntmps3
  go_wp2_with fail
  refine hsh.mono ?_
  rintro e w1 ⟨rfl, b1⟩
  have HV1 := hid (HV.out.below b1)
  have B1 := hid b1
  clear hsh b1
  go_wp2_with fail
  refine (sa_new w1).mono ?_
  rintro e w2 ⟨P, F, rfl, h2, b2, f2⟩
  go_wp2_with fail
  refine (qa_new w2).mono ?_
  rintro e w3 ⟨Q, G, rfl, h3, b3, f3⟩
  have HT : Hid (T2 w1 P Q Sg.new Sg.new (fun _ => False) w3) := hid (TwoO.new (sa_ob P _) (qa_ob Q _) ⟨F, h2, b2, f2⟩ ⟨G, h3, b3, f3⟩)
  clear h2 b2 f2 h3 b3 f3
  go_wp2_with fail
  go_loopw [6] (fun p wr => ∃ (i : Nat) (s : Sg), p = .int .i64 i ∧ i ≤ 200 ∧ i ≤ n ∧ Hid (T2 w1 P Q s s (fun _ => False) wr)) (fun p _ => 200 - (RowKit.intOf p).toNat)
  case atStart => exact ⟨0, _, rfl, Nat.zero_le _, Nat.zero_le _, HT⟩
  case round =>
    obtain ⟨i, s, rfl, hi, hin, hTr⟩ := hrel
    clear HT
    by_cases hlt : i < n ∧ i < 200
    · obtain ⟨l1, l2⟩ := hlt
      obtain ⟨B, o, kd, zz, rfl, hO⟩ := hX.out i l1
      have hb2 := Below.then B1.out hTr.out.below
      have c0' := (hb2.cell (p := ⟨B, o + i * 2, none⟩) hO.lt).trans hO.e0
      have c1 := (hb2.cell (p := ⟨B, o + i * 2 + 1, none⟩) hO.lt).trans hO.e1
      have hRZ := hid hO.rz
      have hBX := hid (Blk.new wr #[.int .i64 kd, .int .i64 zz] 29)
      have hTA : Hid (T2 w1 P Q s s (fun x => x = wr.heap.size) (wr.alloc (.cells #[.int .i64 kd, .int .i64 zz] 29))) := hid (hTr.out.more (H' := fun x => x = wr.heap.size) (alloc_below wr _) (fun x hx => .inr (by rw [hx]; simp)))
      have hXb : w1.heap.size ≤ wr.heap.size := hTr.out.below.size
      have i1 : (i : Int) < (n : Int) := by omega
      have i2 : (i : Int) < 200 := by omega
      clear hO hb2 hTr
      go_upto_block 2 with fail
      have x0 := hBX.out.cell (i := 0) rfl
      have hx0 : (wr.alloc (.cells #[.int .i64 kd, .int .i64 zz] 29)).drew.cell? ⟨wr.heap.size, 1, none⟩ = some (.int .i64 zz) := hBX.out.cell (i := 1) rfl
      have hx1 := hBX.out.cell (i := 1) rfl
      have hT0 := hid (hTA.out.after (Below.refl _ _).drew)
      clear hBX c0' c1
      generalize wr.alloc (.cells #[.int .i64 kd, .int .i64 zz] 29) = w4 at *
      generalize wr.heap.size = X at *
      go_cut [8] from 38 to 75 (fun ok wx => ok = .bool true ∧ Hid (wx.cell? ⟨X, 1, none⟩ = some (.int .i64 zz)) ∧ ∃ s', Hid (T2 w1 P Q s' s' (fun x => x = X) wx))
      case first =>
        by_cases k1 : kd = 1
        · subst k1
          have HP : Hid (∀ u W, T2 w1 P Q s u (fun x => x = X) W → W.cell? ⟨X, 1, none⟩ = some (.int .i64 zz) → Calls Tryd.prog 11 #[.pointer (some ⟨P, 0, none⟩), .int .i64 zz] W fun e w' => e = .returned (.bool (s.insB zz)) ∧ Hid (T2 w1 P Q (s.ins zz) u (fun x => x = X) w') ∧ w'.cell? ⟨X, 1, none⟩ = some (.int .i64 zz)) := hid (fun u W h hb => t2_left (R := fun e => e = .returned (.bool (s.insB zz))) h hb (fun _ k => sa_insert k zz hRZ.out))
          have HR : Hid (∀ t W, T2 w1 P Q t s (fun x => x = X) W → W.cell? ⟨X, 1, none⟩ = some (.int .i64 zz) → Calls Tryd.prog 12 #[.pointer (some ⟨Q, 0, none⟩), .int .i64 zz] W fun e w' => e = .returned (.bool (s.insB zz)) ∧ Hid (T2 w1 P Q t (s.ins zz) (fun x => x = X) w') ∧ w'.cell? ⟨X, 1, none⟩ = some (.int .i64 zz)) := hid (fun u W h hb => t2_right (R := fun e => e = .returned (.bool (s.insB zz))) h hb (fun _ k => qa_insert k zz))
          generalize (s.insB zz) = A at *
          generalize (s.ins zz) = s' at *
          go_wp2_with fail
          go_region_held3 (fun w' => w'.cell? ⟨X, 1, none⟩ = some (.int .i64 zz)) (first | exact hxj1 | exact hxi1 | exact hx0) (first
            | (go_at_call 11; refine (HP.out _ _ hr2.out hxi1).mono ?_; rintro e w6 ⟨rfl, hst, hxj1⟩)
            | (go_at_call 11; refine (HP.out _ _ hT0.out hx0).mono ?_; rintro e w5 ⟨rfl, hm2, hxi1⟩)
            | (go_at_call 12; refine (HR.out _ _ hm2.out hxi1).mono ?_; rintro e w6 ⟨rfl, hst, hxj1⟩)
            | (go_at_call 12; refine (HR.out _ _ hT0.out hx0).mono ?_; rintro e w5 ⟨rfl, hr2, hxi1⟩))
          all_goals
            clear HP HR
            go_wp2_with fail
            go_meet
            exact ⟨by simp, hid hxj1, _, hst⟩

        · have n1 : (kd == 1) = false := by simpa using k1
          by_cases k2 : kd = 2
          · subst k2
            have HP : Hid (∀ u W, T2 w1 P Q s u (fun x => x = X) W → W.cell? ⟨X, 1, none⟩ = some (.int .i64 zz) → Calls Tryd.prog 13 #[.pointer (some ⟨P, 0, none⟩), .int .i64 zz] W fun e w' => e = .returned (.bool (s.has zz)) ∧ Hid (T2 w1 P Q (s.tch zz) u (fun x => x = X) w') ∧ w'.cell? ⟨X, 1, none⟩ = some (.int .i64 zz)) := hid (fun u W h hb => t2_left (R := fun e => e = .returned (.bool (s.has zz))) h hb (fun _ k => sa_touch k zz hRZ.out))
            have HR : Hid (∀ t W, T2 w1 P Q t s (fun x => x = X) W → W.cell? ⟨X, 1, none⟩ = some (.int .i64 zz) → Calls Tryd.prog 14 #[.pointer (some ⟨Q, 0, none⟩), .int .i64 zz] W fun e w' => e = .returned (.bool (s.has zz)) ∧ Hid (T2 w1 P Q t (s.tch zz) (fun x => x = X) w') ∧ w'.cell? ⟨X, 1, none⟩ = some (.int .i64 zz)) := hid (fun u W h hb => t2_right (R := fun e => e = .returned (.bool (s.has zz))) h hb (fun _ k => qa_touch k zz))
            generalize (s.has zz) = A at *
            generalize (s.tch zz) = s' at *
            go_wp2_with fail
            go_region_held3 (fun w' => w'.cell? ⟨X, 1, none⟩ = some (.int .i64 zz)) (first | exact hxj1 | exact hxi1 | exact hx0) (first
              | (go_at_call 13; refine (HP.out _ _ hr2.out hxi1).mono ?_; rintro e w6 ⟨rfl, hst, hxj1⟩)
              | (go_at_call 13; refine (HP.out _ _ hT0.out hx0).mono ?_; rintro e w5 ⟨rfl, hm2, hxi1⟩)
              | (go_at_call 14; refine (HR.out _ _ hm2.out hxi1).mono ?_; rintro e w6 ⟨rfl, hst, hxj1⟩)
              | (go_at_call 14; refine (HR.out _ _ hT0.out hx0).mono ?_; rintro e w5 ⟨rfl, hr2, hxi1⟩))
            all_goals
              clear HP HR
              go_wp2_with fail
              go_meet
              exact ⟨by simp, hid hxj1, _, hst⟩

          · have n2 : (kd == 2) = false := by simpa using k2
            by_cases k3 : kd = 3
            · subst k3
              have HP : Hid (∀ u W, T2 w1 P Q s u (fun x => x = X) W → W.cell? ⟨X, 1, none⟩ = some (.int .i64 zz) → Calls Tryd.prog 15 #[.pointer (some ⟨P, 0, none⟩), .int .i64 zz] W fun e w' => e = .returned (.bool (s.has zz)) ∧ Hid (T2 w1 P Q (s.rem zz) u (fun x => x = X) w') ∧ w'.cell? ⟨X, 1, none⟩ = some (.int .i64 zz)) := hid (fun u W h hb => t2_left (R := fun e => e = .returned (.bool (s.has zz))) h hb (fun _ k => sa_remove k zz hRZ.out))
              have HR : Hid (∀ t W, T2 w1 P Q t s (fun x => x = X) W → W.cell? ⟨X, 1, none⟩ = some (.int .i64 zz) → Calls Tryd.prog 16 #[.pointer (some ⟨Q, 0, none⟩), .int .i64 zz] W fun e w' => e = .returned (.bool (s.has zz)) ∧ Hid (T2 w1 P Q t (s.rem zz) (fun x => x = X) w') ∧ w'.cell? ⟨X, 1, none⟩ = some (.int .i64 zz)) := hid (fun u W h hb => t2_right (R := fun e => e = .returned (.bool (s.has zz))) h hb (fun _ k => qa_remove k zz))
              generalize (s.has zz) = A at *
              generalize (s.rem zz) = s' at *
              go_wp2_with fail
              go_region_held3 (fun w' => w'.cell? ⟨X, 1, none⟩ = some (.int .i64 zz)) (first | exact hxj1 | exact hxi1 | exact hx0) (first
                | (go_at_call 15; refine (HP.out _ _ hr2.out hxi1).mono ?_; rintro e w6 ⟨rfl, hst, hxj1⟩)
                | (go_at_call 15; refine (HP.out _ _ hT0.out hx0).mono ?_; rintro e w5 ⟨rfl, hm2, hxi1⟩)
                | (go_at_call 16; refine (HR.out _ _ hm2.out hxi1).mono ?_; rintro e w6 ⟨rfl, hst, hxj1⟩)
                | (go_at_call 16; refine (HR.out _ _ hT0.out hx0).mono ?_; rintro e w5 ⟨rfl, hr2, hxi1⟩))
              all_goals
                clear HP HR
                go_wp2_with fail
                go_meet
                exact ⟨by simp, hid hxj1, _, hst⟩

            · have n3 : (kd == 3) = false := by simpa using k3
              clear k1 k2 k3 hT0 hx0
              have hl := t2_left (R := fun e => e = .returned (.bool s.stpB)) hTA.out hx1 (fun _ k => sa_step k (HV1.out.below hTA.out.below))
              have HR : Hid (∀ W, T2 w1 P Q s.stp s (fun x => x = X) W → W.cell? ⟨X, 1, none⟩ = some (.int .i64 zz) → Calls Tryd.prog 18 #[.pointer (some ⟨Q, 0, none⟩)] W fun e w' => e = .returned (.bool s.stpB) ∧ Hid (T2 w1 P Q s.stp s.stp (fun x => x = X) w') ∧ w'.cell? ⟨X, 1, none⟩ = some (.int .i64 zz)) := hid (fun W h hb => t2_right (R := fun e => e = .returned (.bool s.stpB)) h hb (fun _ k => qa_step k))
              generalize s.stpB = A at *
              generalize s.stp = s' at *
              clear hTA hx1
              go_wp2_with fail
              refine hl.mono ?_
              rintro e w5 ⟨rfl, h5, hx5⟩
              have hr := HR.out _ h5.out hx5
              clear hl HR h5 hx5
              go_wp2_with fail
              refine hr.mono ?_
              rintro e w6 ⟨rfl, h6, hx6⟩
              clear hr
              go_wp2_with fail
              go_meet
              exact ⟨by simp, hid hx6, _, h6⟩
      case rest =>
      obtain ⟨rfl, hxw, s', hT'⟩ := hcut
      clear hT0 hx0 x0 hx1 hTA
      have hVL : Hid (∀ W, T2 w1 P Q s' s' (fun x => x = X) W → W.cell? ⟨X, 1, none⟩ = some (.int .i64 zz) → Calls Tryd.prog 19 #[.pointer (some ⟨P, 0, none⟩)] W fun e w' => e = .returned (.int .i64 s'.vic) ∧ Hid (T2 w1 P Q s' s' (fun x => x = X) w') ∧ w'.cell? ⟨X, 1, none⟩ = some (.int .i64 zz)) := hid (fun W h hb => (TwoO.lookL h (fun _ k => sa_victim k)).mono fun e w' ⟨h1, h2⟩ => ⟨h1, hid (h2 ▸ h), h2 ▸ hb⟩)
      have hVR : Hid (∀ W, T2 w1 P Q s' s' (fun x => x = X) W → W.cell? ⟨X, 1, none⟩ = some (.int .i64 zz) → Calls Tryd.prog 20 #[.pointer (some ⟨Q, 0, none⟩)] W fun e w' => e = .returned (.int .i64 s'.vic) ∧ Hid (T2 w1 P Q s' s' (fun x => x = X) w') ∧ w'.cell? ⟨X, 1, none⟩ = some (.int .i64 zz)) := hid (fun W h hb => (TwoO.lookR h (fun _ k => qa_victim k)).mono fun e w' ⟨h1, h2⟩ => ⟨h1, hid (h2 ▸ h), h2 ▸ hb⟩)
      have hAL : Hid (∀ W, T2 w1 P Q s' s' (fun x => x = X) W → W.cell? ⟨X, 1, none⟩ = some (.int .i64 zz) → Calls Tryd.prog 21 #[.pointer (some ⟨P, 0, none⟩), .int .i64 zz] W fun e w' => e = .returned (.bool (s'.a zz)) ∧ Hid (T2 w1 P Q s' s' (fun x => x = X) w') ∧ w'.cell? ⟨X, 1, none⟩ = some (.int .i64 zz)) := hid (fun W h hb => (TwoO.lookL h (fun _ k => sa_active k zz hRZ.out)).mono fun e w' ⟨h1, h2⟩ => ⟨h1, hid (TwoO.after h h2), (h2.cell (p := ⟨X, 1, none⟩) (cell_lt hb)).trans hb⟩)
      have hAR : Hid (∀ W, T2 w1 P Q s' s' (fun x => x = X) W → W.cell? ⟨X, 1, none⟩ = some (.int .i64 zz) → Calls Tryd.prog 22 #[.pointer (some ⟨Q, 0, none⟩), .int .i64 zz] W fun e w' => e = .returned (.bool (s'.a zz)) ∧ Hid (T2 w1 P Q s' s' (fun x => x = X) w') ∧ w'.cell? ⟨X, 1, none⟩ = some (.int .i64 zz)) := hid (fun W h hb => (TwoO.lookR h (fun _ k => qa_active k zz)).mono fun e w' ⟨h1, h2⟩ => ⟨h1, hid (h2 ▸ h), h2 ▸ hb⟩)
      have hx0 : wc.drew.cell? ⟨X, 1, none⟩ = some (.int .i64 zz) := hxw.out
      have hT0 := hid (TwoO.after hT'.out (Below.refl wc.heap.size wc).drew)
      have HOK := hid (t2_ok hT'.out)
      generalize s'.vic = V at *
      generalize s'.a zz = A at *
      clear hT' hxw
      go_upto_region 19 with fail
      go_cut [95] from 76 to 94 (fun v wx => v = .bool false ∧ Hid (T2 w1 P Q s' s' (fun x => x = X) wx))
      case first =>
        go_region_held3 (fun w' => w'.cell? ⟨X, 1, none⟩ = some (.int .i64 zz)) (first | exact hxz | exact hxr2 | exact hxl2 | exact hxv | exact hxr1 | exact hxl1 | exact hx0) (first
          | (go_at_call 19; refine (hVL.out _ hr1.out hxr1).mono ?_; rintro e w6 ⟨rfl, hv2, hxv⟩)
          | (go_at_call 19; refine (hVL.out _ hT0.out hx0).mono ?_; rintro e w5 ⟨rfl, hl1, hxl1⟩)
          | (go_at_call 20; refine (hVR.out _ hl1.out hxl1).mono ?_; rintro e w6 ⟨rfl, hv2, hxv⟩)
          | (go_at_call 20; refine (hVR.out _ hT0.out hx0).mono ?_; rintro e w5 ⟨rfl, hr1, hxr1⟩)
          | (go_at_call 21; refine (hAL.out _ hr2.out hxr2).mono ?_; rintro e w8 ⟨rfl, hz, hxz⟩)
          | (go_at_call 21; refine (hAL.out _ hv2.out hxv).mono ?_; rintro e w7 ⟨rfl, hl2, hxl2⟩)
          | (go_at_call 22; refine (hAR.out _ hl2.out hxl2).mono ?_; rintro e w8 ⟨rfl, hz, hxz⟩)
          | (go_at_call 22; refine (hAR.out _ hv2.out hxv).mono ?_; rintro e w7 ⟨rfl, hr2, hxr2⟩))
        all_goals
          clear hVL hVR hAL hAR
          go_wp2_with fail
          go_meet
          exact ⟨by simp, hz⟩
      case rest =>
      obtain ⟨rfl, hTc⟩ := hcut
      have HT2 := hid (TwoO.more (H' := fun _ => False) hTc.out (Below.refl _ _) (fun _ hx => hx.elim))
      clear hVL hVR hAL hAR hT0 hx0 hTc
      go_wp2_with fail
      go_loopw [9] (fun p wr => ∃ t : Nat, p = .int .i64 ((t : Int) - 1) ∧ t ≤ 5 ∧ Hid (T2 w1 P Q s' s' (fun _ => False) wr)) (fun p _ => ((4 : Int) - RowKit.intOf p).toNat)
      case atStart => exact ⟨0, rfl, Nat.zero_le _, HT2⟩
      case round =>
        obtain ⟨t, rfl, ht, hTr⟩ := hrel
        clear HT2
        by_cases hle : t ≤ 4
        · have hall := TwoO.lookL hTr.out (fun _ k => sa_all k ((t : Int) - 1))
          obtain ⟨KQ, hcq, hqal⟩ := t2_allr hTr.out
          have hlb := row_le' HOK.out ((t : Int) - 1)
          have hTb := hTr.out.below.size
          have hqall := hid (fun w5 (h : T2 w1 P Q s' s' (fun _ => False) w5) => t2_allr h)
          generalize hxs : rowAt s'.L ((t : Int) - 1) = xs at *
          have HXS := hid hxs
          clear hxs hcq hqal
          have hk1 : (t : Int) - 1 ≤ 3 := by omega
          go_wp2_with fail
          refine hall.mono ?_
          rintro e w5 ⟨v1, rfl, o1, b5⟩
          have hT5 := hid (TwoO.after hTr.out b5)
          have hT6 := hid (TwoO.more (H' := fun x => v1.ownBlock = some x) hTr.out b5 (fun x hx => .inr (own_base_le o1 hx)))
          obtain ⟨KQ, hcq, hqa0⟩ := hqall.out w5 hT5.out
          have hqa := hqa0 ((t : Int) - 1)
          rw [HXS.out] at hqa
          obtain ⟨a1, d1, rfl⟩ := row_form o1
          clear hall hTr hqall b5 hqa0
          generalize _root_.Array.size (World.heap wr) = B0 at *
          go_wp2_with fail
          refine hqa.mono ?_
          rintro e w6 ⟨v2, rfl, o2, rfl⟩
          obtain ⟨a2, d2, rfl⟩ := row_form o2
          have hsm := same_any hlb o1 o2
          have HO1 := hid o1
          clear hqa o1 o2 hcq
          go_wp2_with fail
          refine hsm.mono ?_
          rintro e w7 ⟨rfl, b7⟩
          have hT8 := hid (TwoO.after hT6.out b7)
          have HO7 := hid (own_only HO1.out (Below.only (D := fun _ => False) b7) (fun _ _ => id))
          clear hsm b7 HO1 hT5 hT6 HXS
          generalize ic xs = cs at *
          generalize xs.length = K at *
          have HTa := hT8
          have HOa := HO7
          clear hT8 HO7
          go_wp2_with fail
          go_loopw [12] (fun p wr => ∃ (j : Nat) (cs : List Value), p = .int .i64 j ∧ j ≤ K ∧ Hid (wr.ownsRow B0 3 1 (.slice a1 K d1) K cs) ∧ Hid (T2 w1 P Q s' s' (fun x => (Value.slice a1 K d1).ownBlock = some x) wr)) (fun p _ => K - (RowKit.intOf p).toNat)
          case atStart => exact ⟨0, cs, rfl, Nat.zero_le _, HOa, HTa⟩
          case round =>
            obtain ⟨j, cs, rfl, hj, hO, hTr⟩ := hrel
            clear HTa HOa
            by_cases hlt : j < K
            · obtain ⟨g, cap, hv, _, hgb, _⟩ := row_pos hO.out (by omega)
              cases hv
              have hf := hO.out.frozenAt j
              have hcl := hO.out.cellAt j (by omega)
              obtain ⟨u, hu⟩ : ∃ u, cs[j]? = some u := ⟨_, List.getElem?_eq_getElem (by have := hO.out.1; omega)⟩
              rw [hu] at hcl
              have hst := hid (World.ownsRow.stored hO.out j (.int .i64 (-9))).1
              have hT2 := hid (TwoO.turn (w' := _root_.Go.World.setCell _ ⟨g, j, none⟩ (.int .i64 (-9))) hTr.out (Only.setCell (D := fun x => (Value.slice (some ⟨g, 0, none⟩) K d1).ownBlock = some x) (Only.refl _ _) (p := ⟨g, j, none⟩) (.inl rfl) _) (fun x hx => Nat.le_trans hTb (own_base_le hO.out hx).1))
              clear hO hTr hu
              go_wp2_with fail
              go_roundw
              case rel => exact ⟨j + 1, _, by go_num, by omega, hst, hT2⟩
              case measure => simp [RowKit.intOf] <;> omega
            · obtain rfl : j = K := by omega
              have hT2 := hid (TwoO.more (H' := fun _ => False) hTr.out (Below.refl _ _) (fun _ hx => hx.elim))
              clear hTr hO
              go_wp2_with fail
              go_roundw
              case rel => exact ⟨t + 1, by go_num, by omega, hT2⟩
              case measure => simp only [RowKit.intOf]; omega
        · obtain rfl : t = 5 := by omega
          have hT2 := hTr
          clear hTr
          go_wp2_with fail
          go_roundw
          case rel => exact ⟨i + 1, s', by go_num, by omega, by omega, hT2⟩
          case measure => simp [RowKit.intOf] <;> omega
    · have hstop : (n : Int) ≤ (i : Int) ∨ ((i : Int) < (n : Int) ∧ (200 : Int) ≤ (i : Int)) := by omega
      have HB := hid (Below.then B1.out hTr.out.below)
      clear hlt hTr
      rcases hstop with h0 | ⟨h0, h0'⟩
      all_goals
        go_wp2_with fail
        go_ret
        exact ⟨rfl, HB.out⟩
end Go.Proofs.YtenncmjokdacoaaDoor.Sr

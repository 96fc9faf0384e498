/-
  One step on both slabs (ambrylaw07.does) at this program: any other kind. No conditions but that the numbers are an int's.
-/
import Derived.Test.YtldfpacdlephcaaM8
import Derived.Deep.RegionHeld3
import Derived.Deep.DeepCutAuto
namespace Go.Proofs.Ytldfpacdlephcaa
open Go Go.RowKit Go.Lib

theorem Sl.Ok.chunks_le {s : Sl} (ok : s.Ok) (z : Int) : (s.chunks z).length ≤ 1024 := by
  have hU := ok.U_le.2
  unfold Sl.chunks
  cases hk : s.atP z with
  | none => exact Nat.zero_le _
  | some k =>
    have h := chTo_len k.used z.toNat k.used.length
    have e : k.used.length = s.U := by
      unfold Sl.atP at hk
      split at hk
      · exact (ok.ct _ _ hk).2.2.1
      · cases hk
    show (chTo k.used z.toNat k.used.length).length ≤ 1024
    omega

set_option maxHeartbeats 4000000 in
set_option maxRecDepth 100000 in
theorem does7_other {d : Di} {r : Dr} {s : Sl} {tk cl : List Nat} {w : World} (h : Two7 d r s tk cl w) (kd : Int) (k1 : (kd == 1) = false) (k2 : (kd == 2) = false) (k3 : (kd == 3) = false) (k4 : (kd == 4) = false) (k5 : (kd == 5) = false) (k6 : (kd == 6) = false) (k7 : (kd == 7) = false) (k8 : (kd == 8) = false) (A B : Int) (_hA0 : -9223372036854775808 ≤ A) (hA : A ≤ 9223372036854775807) (a : Option Addr) (n c : Nat) (l : List UInt8) (hl : l.length = n) (hnc : n ≤ c) (hc63 : c ≤ 9223372036854775807) (hv : Byts w (.slice a n c) l) (hF : 0 < l.length → ∀ g o, a = some ⟨g, o, none⟩ → ¬ FF d r s g) :
    Calls Try.prog 13 #[.pointer (some ⟨d.P, 0, none⟩), .pointer (some ⟨r.P, 0, none⟩), .agg #[.int .i64 kd, .int .i64 A, .int .i64 B, .slice a n c]] w fun e w' => e = .returned (.bool true) ∧ Go7 d r s w w' := by
  have HT := hid h
  have HC := hid (And.intro hl (And.intro hv hF))
  clear h hl hv hF
  go_enter Try.func13, Try.ntmps13
  go_upto_if 30 with fail
  go_cut [] from 27 to 34 (fun wx => Hid (Cut7 w (FF d r s) kd A B wx))
  case first =>
    obtain ⟨hl, hv, hF⟩ := HC.out
    by_cases hn : n ≤ 2000
    · have HK := hid (cut7_same (kd := kd) (A := A) (B := B) (c := c) hn hl hv hF)
      have ilt : (n : Int) ≤ 2000 := by omega
      clear hv hF hl HC
      go_wp2_with fail
      go_meet
      exact HK
    · obtain ⟨g, o, rfl⟩ : ∃ g o, a = some ⟨g, o, none⟩ := by
        obtain ⟨a', c', e, hx⟩ := hv
        cases e
        obtain ⟨g, o, ha, _⟩ := hx 0 (l[0]'(by omega)) (List.getElem?_eq_getElem _)
        exact ⟨g, o, ha⟩
      have HK := hid (cut7_less (kd := kd) (A := A) (B := B) (c := c) (by omega) hl hv hF)
      have ilt : (2000 : Int) < (n : Int) := by omega
      clear hv hF hl HC
      go_wp2_with fail
      go_meet
      exact HK
  case rest =>
    obtain ⟨a2, n2, c2, l2, hn2, hl2, hv2, hF2, hB2, hb2⟩ := hcut.out
    have hx0 : wc.cell? ⟨w.heap.size, 0, none⟩ = some (.int .i64 kd) := hB2.cell rfl
    have hx1 : wc.cell? ⟨w.heap.size, 1, none⟩ = some (.int .i64 A) := hB2.cell rfl
    have H2 := hid (HT.out.below hb2)
    have hXs : ¬ SFoot d s w.heap.size := fun e => by have := HT.out.m.lt e; omega
    have hXt : ¬ TFoot r s.sz.length w.heap.size := fun e => by have := HT.out.rm.lt e; omega
    have hXlt : w.heap.size < wc.heap.size := hB2.lt
    have HB := hid hB2
    have hbw := hb2
    clear hcut HC hb2 hB2
    clear hF2 hv2 hl2
    obtain ⟨l0, hl0⟩ : ∃ l0, s.chunks A = l0 := ⟨_, rfl⟩
    obtain ⟨L, hL⟩ : ∃ L, l0.length = L := ⟨_, rfl⟩
    have hL16 : L ≤ 1024 := by rw [← hL, ← hl0]; exact H2.out.ok.chunks_le A
    obtain ⟨p1, p2, p3, hp⟩ : ∃ p1 p2 p3, s.wher A = (p1, p2, p3) := ⟨_, _, _, rfl⟩
    obtain ⟨y, hy⟩ : ∃ y, s.usedB A = y := ⟨_, rfl⟩
    have HL := hid hL
    have hch := chunks_any H2.out.m H2.out.ok A
    rw [hl0, hL] at hch
    have HCR : Hid (∀ W, Below wc.heap.size wc W → Calls Try.prog 42 #[.pointer (some ⟨r.P, 0, none⟩), .int .i64 A] W fun e w' => ∃ v, e = .returned v ∧ w'.ownsRow W.heap.size 3 1 v L (nc l0) ∧ Below W.heap.size W w') := hid (fun W hW => by
      have h := ref_chunks (H2.out.below hW).rm H2.out.ok H2.out.ag A
      rw [hl0, hL] at h
      exact h)
    have HWP : Hid (∀ W, Below wc.heap.size wc W → Calls Try.prog 18 #[.pointer (some ⟨d.P, 0, none⟩), .int .i64 A] W fun e w' => e = .returned (.tuple #[.int .i64 p1, .int .i64 p2, .int .i64 p3]) ∧ Below W.heap.size W w') := hid (fun W hW => by
      have h := where_any (H2.out.below hW).m H2.out.ok A hA
      rw [hp] at h
      exact h.mono fun e w' ⟨he, n, hw⟩ => ⟨he, hw ▸ drewN_below _ _⟩)
    have HWR : Hid (∀ W, Below wc.heap.size wc W → Calls Try.prog 43 #[.pointer (some ⟨r.P, 0, none⟩), .int .i64 A] W fun e w' => e = .returned (.tuple #[.int .i64 p1, .int .i64 p2, .int .i64 p3]) ∧ Below W.heap.size W w') := hid (fun W hW => by
      have h := ref_where (H2.out.below hW).rm H2.out.ok H2.out.ag A
      rw [hp] at h
      exact h.mono fun e w' ⟨he, n, hw⟩ => ⟨he, hw ▸ drewN_below _ _⟩)
    have HUP : Hid (∀ W, Below wc.heap.size wc W → ∀ n, Calls Try.prog 27 #[.pointer (some ⟨d.P, 0, none⟩), .int .i64 A] (W.drewN n) fun e w' => e = .returned (.bool y) ∧ ∃ m, w' = W.drewN m) := hid (fun W hW n => by
      have h := used_any ((H2.out.below hW).m.only (D := fun _ => False) (Below.only (drewN_below W n)) (fun _ _ => id)) H2.out.ok A hA
      rw [hy] at h
      exact h.mono fun e w' ⟨he, hw⟩ => ⟨he, n, hw.symm⟩)
    have HUR : Hid (∀ W, Below wc.heap.size wc W → ∀ n, Calls Try.prog 44 #[.pointer (some ⟨r.P, 0, none⟩), .int .i64 A] (W.drewN n) fun e w' => e = .returned (.bool y) ∧ ∃ m, w' = W.drewN m) := hid (fun W hW n => by
      have h := ref_used ((H2.out.below hW).rm.drewN n) H2.out.ok H2.out.ag A
      rw [hy] at h
      exact h.mono fun e w' ⟨he, hw⟩ => ⟨he, n, hw.symm⟩)
    have HGO := hid (Go7.after hbw (Go7.refl H2.out))
    clear hl0 hL hp hy HB H2 HT
    go_wp2_with fail
    refine hch.mono ?_
    rintro e w5 ⟨v1, rfl, hown, b5⟩
    have hx5 := (b5.cell (p := ⟨w.heap.size, 1, none⟩) hXlt).trans hx1
    have hr := HCR.out _ b5
    have HOWN := hid hown
    have HB5 := hid b5
    obtain ⟨a1, c1, rfl⟩ := row_form hown
    clear hch hown b5 hx0 hx1 HCR
    go_wp2_with fail
    refine hr.mono ?_
    rintro e w6 ⟨v2, rfl, hown2, b6⟩
    have b56 := Below.then HB5.out b6
    have HR1 := hid (own_only HOWN.out (Below.only (D := fun _ => False) b6) (fun _ _ => id))
    have HR2 := hid hown2
    have HB6 := hid b56
    have hx6 := (b6.cell (p := ⟨w.heap.size, 1, none⟩) (Nat.lt_of_lt_of_le hXlt HB5.out.size)).trans hx5
    have hw1 := HWP.out _ b56
    obtain ⟨a3, c3, rfl⟩ := row_form hown2
    clear hr hown2 b6 b56 hx5 HWP
    go_wp2_with fail
    refine hw1.mono ?_
    rintro e w7 ⟨rfl, b7⟩
    have b57 := Below.then HB6.out b7
    have HR1' := hid (own_only HR1.out (Below.only (D := fun _ => False) b7) (fun _ _ => id))
    have HR2' := hid (own_only HR2.out (Below.only (D := fun _ => False) b7) (fun _ _ => id))
    have HB7 := hid b57
    have hx7 := (b7.cell (p := ⟨w.heap.size, 1, none⟩) (Nat.lt_of_lt_of_le hXlt HB6.out.size)).trans hx6
    have hw2 := HWR.out _ b57
    clear hw1 b7 b57 hx6 HWR HR1 HR2
    go_wp2_with fail
    refine hw2.mono ?_
    rintro e w8 ⟨rfl, b8⟩
    have b58 := Below.then HB7.out b8
    have HR1 := hid (own_only HR1'.out (Below.only (D := fun _ => False) b8) (fun _ _ => id))
    have HR2 := hid (own_only HR2'.out (Below.only (D := fun _ => False) b8) (fun _ _ => id))
    have HB8 := hid b58
    have hx8 := (b8.cell (p := ⟨w.heap.size, 1, none⟩) (Nat.lt_of_lt_of_le hXlt HB7.out.size)).trans hx7
    have cA := HUP.out _ b58
    have cR := HUR.out _ b58
    have HG1 := hid (own_ge HOWN.out)
    have HG2 := hid (own_lt HOWN.out)
    have HG3 := hid (own_ge HR2.out)
    clear hw2 b8 b58 hx7 HUP HUR HR1' HR2' HOWN HB7 HB6
    go_wp2_with fail
    go_quiet (first | exact cA _ | exact cR _)
    clear cA cR hx8
    have HX1 : Hid (∀ (j x : Nat), l0[j]? = some x → ∃ b, a1 = some ⟨b, 0, none⟩ ∧ (w8.drewN nq).cell? ⟨b, j, none⟩ = some (.int .i64 (x : Int))) := hid (fun j x hj => by
      have h := HR1.out
      rw [← HL.out] at h
      obtain ⟨g, c', e, _, hc, _⟩ := own_cell h hj
      cases e
      exact ⟨g, rfl, hc⟩)
    have HX2 : Hid (∀ (j x : Nat), l0[j]? = some x → ∃ b, a3 = some ⟨b, 0, none⟩ ∧ w5.heap.size ≤ b ∧ (w8.drewN nq).cell? ⟨b, j, none⟩ = some (.int .i64 (x : Int))) := hid (fun j x hj => by
      have h := HR2.out
      rw [← HL.out] at h
      obtain ⟨g, c', e, _, hc, _⟩ := own_cell h hj
      cases e
      exact ⟨g, rfl, HG3.out g rfl, hc⟩)
    have HSL : Hid (Slots (w8.drewN nq) 3 (.slice a1 L c1) L wc.heap.size) := hid ⟨_, HR1.out⟩
    have HQ : Hid (Only (fun b => wc.heap.size ≤ b ∧ b < w5.heap.size) wc (w8.drewN nq)) := hid (Below.only (Below.then HB8.out (drewN_below _ nq)))
    clear HR1 HR2 HG3 HB8 HB5
    go_wp2_with fail
    go_loopw [25, 26] (fun ok iv wr => ∃ k : Nat, k ≤ L ∧ iv = .int .i64 k ∧ ok = .bool true ∧ Hid (∀ (j x : Nat), k ≤ j → l0[j]? = some x → ∃ b, a1 = some ⟨b, 0, none⟩ ∧ wr.cell? ⟨b, j, none⟩ = some (.int .i64 (x : Int))) ∧ Hid (Slots wr 3 (.slice a1 L c1) L wc.heap.size) ∧ Hid (Only (fun b => wc.heap.size ≤ b ∧ b < w5.heap.size) (w8.drewN nq) wr)) (fun _ iv _ => L - (intOf iv).toNat)
    case atStart => exact ⟨0, Nat.zero_le _, rfl, rfl, hid (fun j z _ hj => HX1.out j z hj), HSL, hid (Only.refl _ _)⟩
    case round =>
      obtain ⟨k, hk, rfl, rfl, HJ, HS, HO⟩ := hrel
      clear HSL HX1
      by_cases hkL : k < L
      · obtain ⟨z, hz⟩ : ∃ z, l0[k]? = some z := ⟨_, List.getElem?_eq_getElem (by rw [HL.out]; exact hkL)⟩
        obtain ⟨b1, rfl, hc1⟩ := HJ.out k z (Nat.le_refl _) hz
        obtain ⟨b3, rfl, hb3, hc3⟩ := HX2.out k z hz
        have hc3' : wr.cell? ⟨b3, k, none⟩ = some (.int .i64 (z : Int)) := (HO.out.cell (p := ⟨b3, k, none⟩) (cell_lt hc3) (fun e => absurd e.2 (Nat.not_lt.2 hb3))).trans hc3
        obtain ⟨b1', x, e1, hcx, hfx, hset⟩ := HS.out.at hkL
        cases e1
        have hbd : wc.heap.size ≤ b1 ∧ b1 < w5.heap.size := ⟨HG1.out b1 rfl, HG2.out b1 rfl⟩
        have ilt : (k : Int) < (L : Int) := by omega
        have HS' : Hid (Slots (wr.drew.setCell ⟨b1, k, none⟩ (.int .i64 (-7))) 3 (.slice (some ⟨b1, 0, none⟩) L c1) L wc.heap.size) := hid (slots_drew (hset (.int .i64 (-7))))
        have HJ' : Hid (∀ (j x : Nat), k + 1 ≤ j → l0[j]? = some x → ∃ b, (some ⟨b1, 0, none⟩ : Option Addr) = some ⟨b, 0, none⟩ ∧ (wr.drew.setCell ⟨b1, k, none⟩ (.int .i64 (-7))).cell? ⟨b, j, none⟩ = some (.int .i64 (x : Int))) := hid (fun j z' hj hz' => by
          obtain ⟨b, e, hc⟩ := HJ.out j z' (by omega) hz'
          cases e
          exact ⟨b1, rfl, cell_set_ne hc (by omega)⟩)
        have HO' : Hid (Only (fun b => wc.heap.size ≤ b ∧ b < w5.heap.size) (w8.drewN nq) (wr.drew.setCell ⟨b1, k, none⟩ (.int .i64 (-7)))) := hid (HO.out.drew.setCell (p := ⟨b1, k, none⟩) (.inl hbd) _)
        clear HJ HS HO HX2 HL HGO HQ hset hb3 hc3 hz hbd hbw HG1 HG2
        go_wp2_with fail
        go_region_held3 (fun w' => w'.cell? ⟨b1, k, none⟩ = some (.int .i64 (z : Int)) ∧ w'.cell? ⟨b3, k, none⟩ = some (.int .i64 (z : Int))) (go_keep) (first | fail)
        go_wp2_with fail
        go_roundw
        case rel => exact ⟨k + 1, by omega, by go_num, rfl, HJ', HS', HO'⟩
        case measure => simp [intOf] <;> omega
      · have hst := hid (Go7.more HGO.out (HQ.out.trans HO.out (fun x h => .inl h)) (fun b hb => Nat.le_trans hbw.size hb.1) (fun b _ hb => hb.1))
        clear HJ HS HO HX2 HL HGO HQ hbw HG1 HG2
        go_wp2_with fail
        go_ret
        exact ⟨rfl, hst.out⟩

end Go.Proofs.Ytldfpacdlephcaa

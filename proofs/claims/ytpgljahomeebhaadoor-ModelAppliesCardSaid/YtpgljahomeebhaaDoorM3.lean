/-
  The contract of get. Conditions: the items stand in order, and are not over many; now is a moment; the item's end is not below 0.
  The contracts of refusal, stored, store. Conditions: the items stand in order, and are not over many; now is a moment; texts are not over long.
-/
import Derived.Test.YtpgljahomeebhaaDoorMpRem
namespace Go.Proofs.YtpgljahomeebhaaDoor.Md
open Go Go.RowKit Go.Lib

def Wk.wins (s : Wk) : Bool := !s.x.won && (s.x.stale || s.soon)
def Wk.got (s : Wk) : It := { s.x with won := s.x.won || s.wins, exp := s.nexp, last := s.now }
def Wk.getR (s : Wk) : An × Wk := (⟨1, s.got, 0, s.wins, s.x.stale, s.x.won⟩, { s with l := s.kept s.got })
section
variable {B : Nat} {F : Nat → Prop} {s : Wk} {w : World}
set_option maxHeartbeats 2000000 in
set_option maxRecDepth 100000 in
theorem wk_get (h : WP B F s w) (hs : Sorted s.l) (hlen : s.l.length ≤ 4194304) (hi : s.ix < s.l.length) (n1 : 1 ≤ s.now) (n2 : s.now ≤ 1099511627776) (e1 : 0 ≤ s.x.exp) (e2 : s.x.exp ≤ 9223372036854775807) :
    Calls Tryd.prog 52 #[.pointer (some ⟨B, 0, none⟩)] w fun e w' => e = .returned s.getR.1.v ∧ ∃ F', WP B F' s.getR.2 w' ∧ Stp F F' w w' := by
  obtain ⟨M, hM⟩ : ∃ M, M = s.nexp := ⟨_, rfl⟩
  obtain ⟨K, hK⟩ : ∃ K, K = s.wins := ⟨_, rfl⟩
  obtain ⟨L, hL⟩ : ∃ L, L = (s.x.won || K) := ⟨_, rfl⟩
  have hmo := fun W (hW : WR B s W) => wk_nexp hW n1 n2
  have hso := fun W (hW : WR B s W) => wk_soon hW n1 n2 e1 e2
  have hkp := fun W (hW : WP B F s W) => wk_keep hW hs hlen hi 1 { s.x with won := L, exp := M, last := s.now }
  simp only [an_lit] at hkp
  rw [← hM] at hmo
  have HK := hid (show K = (!s.x.won && (s.x.stale || s.soon)) from hK)
  obtain ⟨R, hR⟩ : ∃ R, R = s.getR := ⟨_, rfl⟩
  rw [← hR]
  have hR2 : R = (An.mk 1 (It.mk s.x.key s.x.flags s.x.val M s.x.cas s.now s.x.stale L) 0 K s.x.stale s.x.won, { s with l := s.kept { s.x with won := L, exp := M, last := s.now } }) := by rw [hR, hM, hL, hK]; rfl
  have HL := hid hL
  clear hR hM hK hL hs hlen hi n1 n2 e1 e2
  subst hR2
  --GEN open
  obtain ⟨A, hA⟩ : ∃ A, A = w.heap.size := ⟨_, rfl⟩
  obtain ⟨W1, h1⟩ : ∃ W1, w.alloc (.cells #[.int .i64 0, .string ⟨#[]⟩, .int .u32 0, .string ⟨#[]⟩, .int .i64 0, .int .u64 0, .int .i64 0, .bool false, .bool false, .int .u64 0, .bool false, .bool false, .bool false] 35) = W1 := ⟨_, rfl⟩
  have hb1 : Below w.heap.size w W1 := by rw [← h1]; exact abelow _ _
  have HA : Hid (Ka w.heap.size A F [.int .i64 0, .string ⟨#[]⟩, .int .u32 0, .string ⟨#[]⟩, .int .i64 0, .int .u64 0, .int .i64 0, .bool false, .bool false, .int .u64 0, .bool false, .bool false, .bool false] W1) := hid (by rw [← h1, hA]; exact Ka.begin h.lt #[.int .i64 0, .string ⟨#[]⟩, .int .u32 0, .string ⟨#[]⟩, .int .i64 0, .int .u64 0, .int .i64 0, .bool false, .bool false, .int .u64 0, .bool false, .bool false, .bool false])
  have HW := hid (h.below hb1)
  have HS : Hid (Stp F F w W1) := hid (Stp.of_below hb1)
  rw [eq_comm] at hA
  clear h hb1
  go_enter Tryd.func52, Tryd.ntmps52
  go_upto_region 1 with fail
  clear h1
  obtain ⟨X, hX⟩ : ∃ X, W1.heap.size = X := ⟨_, rfl⟩
  obtain ⟨W2, h2⟩ : ∃ W2, W1.alloc (.cells #[.string s.x.key, .int .u32 s.x.flags, .string s.x.val, .int .i64 s.x.exp, .int .u64 s.x.cas, .int .i64 s.x.last, .bool s.x.stale, .bool s.x.won] 33) = W2 := ⟨_, rfl⟩
  have hb2 : Below W1.heap.size W1 W2 := by rw [← h2]; exact abelow _ _
  have HB2 : Hid (Kb w.heap.size A X F [.int .i64 0, .string ⟨#[]⟩, .int .u32 0, .string ⟨#[]⟩, .int .i64 0, .int .u64 0, .int .i64 0, .bool false, .bool false, .int .u64 0, .bool false, .bool false, .bool false] [.string s.x.key, .int .u32 s.x.flags, .string s.x.val, .int .i64 s.x.exp, .int .u64 s.x.cas, .int .i64 s.x.last, .bool s.x.stale, .bool s.x.won] W2) := hid (by rw [← h2, ← hX]; exact Kb.begin HA.out HW.out.lt #[.string s.x.key, .int .u32 s.x.flags, .string s.x.val, .int .i64 s.x.exp, .int .u64 s.x.cas, .int .i64 s.x.last, .bool s.x.stale, .bool s.x.won])
  have HW2 := hid (HW.out.below hb2)
  have HS2 := hid (HS.out.below hb2)
  have H2 := hid h2
  obtain ⟨v, G, hB, -⟩ := HW.out
  have b22 := hB.cell (i := 22) rfl
  have b23 := hB.cell (i := 23) rfl
  have b24 := hB.cell (i := 24) rfl
  have b25 := hB.cell (i := 25) rfl
  have b26 := hB.cell (i := 26) rfl
  have b27 := hB.cell (i := 27) rfl
  have b28 := hB.cell (i := 28) rfl
  have b29 := hB.cell (i := 29) rfl
  clear hB
  clear h2 hb2 HA HW HS
  go_upto_region 2 with fail
  try rw [hX]
  try rw [H2.out]
  clear hX H2 b22 b23 b24 b25 b26 b27 b28 b29
  --END
  have x7 := HB2.out.bx.cell (i := 7) rfl
  have x6 := HB2.out.bx.cell (i := 6) rfl
  have hsn := hso W2 HW2.out.head
  clear hso
  go_cut [4] from 6 to 20 (fun v wx => v = .bool K ∧ Below W2.heap.size W2 wx)
  case first =>
    cases hw : s.x.won
    · cases ht : s.x.stale
      · have hk := HK.out
        rw [hw, ht] at hk
        rw [hw] at x7
        rw [ht] at x6
        generalize s.soon = so at *
        have HKK := hid hk
        clear hk HK hw ht
        go_wp2_with fail
        refine hsn.mono ?_
        rintro e wx ⟨rfl, hb⟩
        go_wp2_with fail
        go_meet
        exact ⟨by rw [HKK.out]; rfl, hb⟩
      · have hk := HK.out
        rw [hw, ht] at hk
        rw [hw] at x7
        rw [ht] at x6
        have HKK := hid hk
        clear hk HK hw ht
        go_wp2_with fail
        go_meet
        exact ⟨by rw [HKK.out]; rfl, Below.refl _ _⟩
    · have hk := HK.out
      rw [hw] at hk
      rw [hw] at x7
      have HKK := hid hk
      clear hk HK hw
      go_wp2_with fail
      go_meet
      exact ⟨by rw [HKK.out]; rfl, Below.refl _ _⟩
  case rest =>
    obtain ⟨rfl, hb3⟩ := hcut
    have HB3 := hid (HB2.out.step hb3)
    have HW3 := hid (HW2.out.below hb3)
    have HS3 := hid (HS2.out.below hb3)
    clear hb3 HB2 HW2 HS2 x6 x7 hsn HK
    generalize wc = W3 at *
    have x7 := HB3.out.bx.cell (i := 7) rfl
    have g7 := HB3.out.bx.frozen 7
    have lX := HB3.out.bx.lt
    go_upto_region 3 with fail
    go_cut [] from 21 to 26 (fun wx => wx = W3.setCell ⟨X, 7, none⟩ (.bool L))
    case first =>
      cases hw : s.x.won
      · have hl := hid (show L = K by rw [HL.out, hw]; rfl)
        rw [hw] at x7
        clear hw HL
        go_wp2_with fail
        go_meet
        rw [hl.out]
      · have hl := hid (show L = true by rw [HL.out, hw]; rfl)
        rw [hw] at x7
        clear hw HL
        go_wp2_with fail
        go_meet
        rw [hl.out]
    case rest =>
      subst hcut
      have HB4 := hid (HB3.out.setx 7 (.bool L))
      have HW4 := hid (wp_own HW3.out HB3.out.nx 7 (.bool L))
      have HS4 := hid (stp_own HS3.out (b := X) (by have := HB3.out.ga; have := HB3.out.gx; omega) 7 (.bool L))
      clear x7 g7 lX HB3 HW3 HS3 HL
      generalize W3.setCell ⟨X, 7, none⟩ (.bool L) = W4 at *
      --GEN more
      have hm := hmo W4 HW4.out.head
      clear hmo
      have x3 := HB4.out.bx.cell (i := 3) rfl
      have g3 := HB4.out.bx.frozen 3
      have lX := HB4.out.bx.lt
      have HB5 := hid (HB4.out.setx 3 (.int .i64 M))
      have HW5 := hid (wp_own HW4.out HB4.out.nx 3 (.int .i64 M))
      have HS5 := hid (stp_own HS4.out (b := X) (by have := HB4.out.ga; have := HB4.out.gx; omega) 3 (.int .i64 M))
      clear HB4 HW4 HS4 
      go_wp2_with fail
      refine hm.mono ?_
      rintro e _ ⟨rfl, rfl⟩
      go_upto_region 5 with fail
      generalize W4.setCell ⟨X, 3, none⟩ (.int .i64 M) = W5 at *
      clear x3 g3 lX
      clear hm
      obtain ⟨v, G, hB, -⟩ := HW5.out
      have b19 := hB.cell (i := 19) rfl
      clear hB
      change W5.cell? ⟨B, 19, none⟩ = some (.int .i64 s.now) at b19
      have x5 := HB5.out.bx.cell (i := 5) rfl
      have g5 := HB5.out.bx.frozen 5
      have lX := HB5.out.bx.lt
      have HB6 := hid (HB5.out.setx 5 (.int .i64 s.now))
      have HW6 := hid (wp_own HW5.out HB5.out.nx 5 (.int .i64 s.now))
      have HS6 := hid (stp_own HS5.out (b := X) (by have := HB5.out.ga; have := HB5.out.gx; omega) 5 (.int .i64 s.now))
      clear HB5 HW5 HS5 

      go_upto_region 6 with fail
      generalize W5.setCell ⟨X, 5, none⟩ (.int .i64 s.now) = W6 at *
      clear x5 g5 lX
      clear b19
      have x0 := HB6.out.bx.cell (i := 0) rfl
      have x1 := HB6.out.bx.cell (i := 1) rfl
      have x2 := HB6.out.bx.cell (i := 2) rfl
      have x3 := HB6.out.bx.cell (i := 3) rfl
      have x4 := HB6.out.bx.cell (i := 4) rfl
      have x5 := HB6.out.bx.cell (i := 5) rfl
      have x6 := HB6.out.bx.cell (i := 6) rfl
      have x7 := HB6.out.bx.cell (i := 7) rfl
      have hk := hkp W6 HW6.out
      clear hkp
      go_wp2_with fail
      refine hk.mono ?_
      rintro e W7 ⟨rfl, F7, h4, k4⟩
      have HB7 := hid (HB6.out.stp k4)
      have HW7 := hid h4
      have HS7 := hid (HS6.out.trans k4)
      clear h4 k4 hk x0 x1 x2 x3 x4 x5 x6 x7 HB6 HW6 HS6
      obtain ⟨W8, h8⟩ : ∃ W8, W7.alloc (.cells #[.int .i64 1, .string s.x.key, .int .u32 s.x.flags, .string s.x.val, .int .i64 M, .int .u64 s.x.cas, .int .i64 s.now, .bool s.x.stale, .bool L, .int .u64 0, .bool false, .bool false, .bool false] 35) = W8 := ⟨_, rfl⟩
      have hb8 : Below W7.heap.size W7 W8 := by rw [← h8]; exact abelow _ _
      have HD8 : Hid (Blk W8 W7.heap.size 35 [.int .i64 1, .string s.x.key, .int .u32 s.x.flags, .string s.x.val, .int .i64 M, .int .u64 s.x.cas, .int .i64 s.now, .bool s.x.stale, .bool L, .int .u64 0, .bool false, .bool false, .bool false]) := hid (by rw [← h8]; exact Blk.new W7 #[.int .i64 1, .string s.x.key, .int .u32 s.x.flags, .string s.x.val, .int .i64 M, .int .u64 s.x.cas, .int .i64 s.now, .bool s.x.stale, .bool L, .int .u64 0, .bool false, .bool false, .bool false] _)
      have HB8 := hid (HB7.out.step hb8)
      have HW8 := hid (HW7.out.below hb8)
      have HS8 := hid (HS7.out.below hb8)
      have HN : Hid (¬ F7 W7.heap.size ∧ X < W7.heap.size) := hid ⟨HW7.out.new (Nat.le_refl _), HB7.out.bx.lt⟩
      generalize hD : W7.heap.size = D at *
      have H8 := hid h8
      clear h8 hb8 HB7 HW7 HS7
      go_upto_region 7 with fail
      try rw [hD]
      try rw [H8.out]
      clear H8 hD
      have x6 := HB8.out.bx.cell (i := 6) rfl
      obtain ⟨v, G, hB, -⟩ := HW8.out
      have b29 := hB.cell (i := 29) rfl
      clear hB
      have d10 := HD8.out.cell (i := 10) rfl
      have d11 := HD8.out.cell (i := 11) rfl
      have d12 := HD8.out.cell (i := 12) rfl
      have g10 := HD8.out.frozen 10
      have g11 := HD8.out.frozen 11
      have g12 := HD8.out.frozen 12
      have lD := HD8.out.lt
      have nXD : X ≠ D := by have := HN.out.2; omega
      have nDX : D ≠ X := fun e => nXD e.symm
      have nBD : B ≠ D := fun e => HN.out.1 (by rw [← e]; exact HW8.out.FB)
      have nDB : D ≠ B := fun e => nBD e.symm
      change W8.cell? ⟨X, 6, none⟩ = some (.bool s.x.stale) at x6
      change W8.cell? ⟨B, 29, none⟩ = some (.bool s.x.won) at b29
      go_region_held3 (fun W => W.cell? ⟨X, 6, none⟩ = some (.bool s.x.stale) ∧ W.cell? ⟨B, 29, none⟩ = some (.bool s.x.won)) (go_keep) (first | fail)
      have hz : Below W8.heap.size W8 W8.drew := Below.drew (Below.refl _ _)
      have HB9 := hid (((((HB8.out.step hz).oth HN.out.2 10 (.bool K)).oth HN.out.2 11 (.bool s.x.stale))).oth HN.out.2 12 (.bool s.x.won))
      have HW9 := hid (wp_own (wp_own (wp_own (HW8.out.below hz) HN.out.1 10 (.bool K)) HN.out.1 11 (.bool s.x.stale)) HN.out.1 12 (.bool s.x.won))
      have hgD : w.heap.size ≤ D := by have := HN.out.2; have := HB8.out.ga; have := HB8.out.gx; omega
      have HS9 := hid (stp_own (stp_own (stp_own (HS8.out.below hz) hgD 10 (.bool K)) hgD 11 (.bool s.x.stale)) hgD 12 (.bool s.x.won))
      have HD9 := hid ((((HD8.out.drew).set 10 (.bool K)).set 11 (.bool s.x.stale)).set 12 (.bool s.x.won))
      clear hz hgD HB8 HW8 HS8 HD8 x6 b29 d10 d11 d12 g10 g11 g12 lD nXD nDX nBD nDB
      change Exit.then _ _ Exit.normal _ (((W8.drew.setCell ⟨D, 10, none⟩ (.bool K)).setCell ⟨D, 11, none⟩ (.bool s.x.stale)).setCell ⟨D, 12, none⟩ (.bool s.x.won))
      generalize ((W8.drew.setCell ⟨D, 10, none⟩ (.bool K)).setCell ⟨D, 11, none⟩ (.bool s.x.stale)).setCell ⟨D, 12, none⟩ (.bool s.x.won) = W9 at *
      have d0 := HD9.out.cell (i := 0) rfl
      have d1 := HD9.out.cell (i := 1) rfl
      have d2 := HD9.out.cell (i := 2) rfl
      have d3 := HD9.out.cell (i := 3) rfl
      have d4 := HD9.out.cell (i := 4) rfl
      have d5 := HD9.out.cell (i := 5) rfl
      have d6 := HD9.out.cell (i := 6) rfl
      have d7 := HD9.out.cell (i := 7) rfl
      have d8 := HD9.out.cell (i := 8) rfl
      have d9 := HD9.out.cell (i := 9) rfl
      have d10 := HD9.out.cell (i := 10) rfl
      have d11 := HD9.out.cell (i := 11) rfl
      have d12 := HD9.out.cell (i := 12) rfl
      have e0 := HB9.out.ba.cell (i := 0) rfl
      have f0 := HB9.out.ba.frozen 0
      have e1 := HB9.out.ba.cell (i := 1) rfl
      have f1 := HB9.out.ba.frozen 1
      have e2 := HB9.out.ba.cell (i := 2) rfl
      have f2 := HB9.out.ba.frozen 2
      have e3 := HB9.out.ba.cell (i := 3) rfl
      have f3 := HB9.out.ba.frozen 3
      have e4 := HB9.out.ba.cell (i := 4) rfl
      have f4 := HB9.out.ba.frozen 4
      have e5 := HB9.out.ba.cell (i := 5) rfl
      have f5 := HB9.out.ba.frozen 5
      have e6 := HB9.out.ba.cell (i := 6) rfl
      have f6 := HB9.out.ba.frozen 6
      have e7 := HB9.out.ba.cell (i := 7) rfl
      have f7 := HB9.out.ba.frozen 7
      have e8 := HB9.out.ba.cell (i := 8) rfl
      have f8 := HB9.out.ba.frozen 8
      have e9 := HB9.out.ba.cell (i := 9) rfl
      have f9 := HB9.out.ba.frozen 9
      have e10 := HB9.out.ba.cell (i := 10) rfl
      have f10 := HB9.out.ba.frozen 10
      have e11 := HB9.out.ba.cell (i := 11) rfl
      have f11 := HB9.out.ba.frozen 11
      have e12 := HB9.out.ba.cell (i := 12) rfl
      have f12 := HB9.out.ba.frozen 12
      go_wp2_with fail
      change bodyPost _ _ _ _ _ (stc W9 A (An.mk 1 (It.mk s.x.key s.x.flags s.x.val M s.x.cas s.now s.x.stale L) 0 K s.x.stale s.x.won).cells 0)
      exact bodyPost_ret (res_ans (a := An.mk 1 (It.mk s.x.key s.x.flags s.x.val M s.x.cas s.now s.x.stale L) 0 K s.x.stale s.x.won) rfl (stc_all HB9.out.ba rfl) rfl) rfl ⟨rfl, F7, wp_stc HW9.out HB9.out.na _ _, stp_stc HS9.out HB9.out.ga _ _⟩
      --END
end
end Go.Proofs.YtpgljahomeebhaaDoor.Md
namespace Go.Proofs.YtpgljahomeebhaaDoor.Md
open Go Go.RowKit Go.Lib

def Wk.refu (s : Wk) : Int :=
  if s.there then (if s.c.mode = 1 then 3 else if s.oth && !(s.c.inv && decide (s.c.cas < s.x.cas)) then 4 else 0)
  else (if 2 ≤ s.c.mode then 3 else if s.c.hasCas then 5 else 0)
def ccs (c : Cm) : Array Value := #[.int .i64 c.op, .int .i64 c.mode, .string c.key, .string c.val, .int .u32 c.flags, .int .i64 c.exp, .bool c.hasExp, .int .u64 c.cas, .bool c.hasCas, .int .u64 c.delta, .int .u64 c.init, .bool c.down, .bool c.viv, .int .i64 c.vive, .int .i64 c.rcc, .bool c.inv]
section
variable {B : Nat} {F : Nat → Prop} {s : Wk} {w : World}
set_option maxHeartbeats 1000000 in
set_option maxRecDepth 100000 in
theorem wk_refusal (h : WR B s w) : Calls Tryd.prog 56 #[.pointer (some ⟨B, 0, none⟩)] w fun e w' => e = .returned (.int .i64 s.refu) ∧ Below w.heap.size w w' := by
  obtain ⟨C, hC⟩ : ∃ C, C = w.heap.size := ⟨_, rfl⟩
  obtain ⟨W1, h1⟩ : ∃ W1, w.alloc (.cells #[.int .i64 s.c.op, .int .i64 s.c.mode, .string s.c.key, .string s.c.val, .int .u32 s.c.flags, .int .i64 s.c.exp, .bool s.c.hasExp, .int .u64 s.c.cas, .bool s.c.hasCas, .int .u64 s.c.delta, .int .u64 s.c.init, .bool s.c.down, .bool s.c.viv, .int .i64 s.c.vive, .int .i64 s.c.rcc, .bool s.c.inv] 28) = W1 := ⟨_, rfl⟩
  have hb1 : Below w.heap.size w W1 := by rw [← h1]; exact abelow _ _
  have hX : Blk W1 C 28 [.int .i64 s.c.op, .int .i64 s.c.mode, .string s.c.key, .string s.c.val, .int .u32 s.c.flags, .int .i64 s.c.exp, .bool s.c.hasExp, .int .u64 s.c.cas, .bool s.c.hasCas, .int .u64 s.c.delta, .int .u64 s.c.init, .bool s.c.down, .bool s.c.viv, .int .i64 s.c.vive, .int .i64 s.c.rcc, .bool s.c.inv] := by rw [← h1, hC]; exact Blk.new w #[.int .i64 s.c.op, .int .i64 s.c.mode, .string s.c.key, .string s.c.val, .int .u32 s.c.flags, .int .i64 s.c.exp, .bool s.c.hasExp, .int .u64 s.c.cas, .bool s.c.hasCas, .int .u64 s.c.delta, .int .u64 s.c.init, .bool s.c.down, .bool s.c.viv, .int .i64 s.c.vive, .int .i64 s.c.rcc, .bool s.c.inv] _
  have HH1 := hid (h.below hb1)
  obtain ⟨v, hB⟩ := h
  --GEN cells
  have b3 := hB.cell (i := 3) rfl
  have b4 := hB.cell (i := 4) rfl
  have b5 := hB.cell (i := 5) rfl
  have b6 := hB.cell (i := 6) rfl
  have b7 := hB.cell (i := 7) rfl
  have b8 := hB.cell (i := 8) rfl
  have b9 := hB.cell (i := 9) rfl
  have b10 := hB.cell (i := 10) rfl
  have b11 := hB.cell (i := 11) rfl
  have b12 := hB.cell (i := 12) rfl
  have b13 := hB.cell (i := 13) rfl
  have b14 := hB.cell (i := 14) rfl
  have b15 := hB.cell (i := 15) rfl
  have b16 := hB.cell (i := 16) rfl
  have b17 := hB.cell (i := 17) rfl
  have b18 := hB.cell (i := 18) rfl
  --END
  have m1 := hX.cell (i := 1) rfl
  have m7 := hX.cell (i := 7) rfl
  have m8 := hX.cell (i := 8) rfl
  have m15 := hX.cell (i := 15) rfl
  obtain ⟨v1, hB1⟩ := HH1.out
  have k26 := hB1.cell (i := 26) rfl
  change W1.cell? ⟨B, 26, none⟩ = some (.int .u64 s.x.cas) at k26
  have ht := wk_there HH1.out
  have hot := fun n => (wk_oth' (HH1.out.below (below_drewN' W1 n))).mono (fun e w' (hq : e = .returned (.bool s.oth) ∧ ∃ m, w' = (W1.drewN n).drewN m) => (show e = .returned (.bool s.oth) ∧ ∃ m, w' = W1.drewN m from ⟨hq.1, n + hq.2.choose, hq.2.choose_spec.trans (World.drewN_drewN _ _ _)⟩))
  have HB1 := hid hb1
  have HD := fun n => hb1.trans ((below_drewN' W1 n).mono hb1.size)
  obtain ⟨R, hR⟩ : ∃ R, R = s.refu := ⟨_, rfl⟩
  rw [← hR]
  have HR := hid (show R = if s.there then (if s.c.mode = 1 then 3 else if s.oth && !(s.c.inv && decide (s.c.cas < s.x.cas)) then 4 else 0) else (if 2 ≤ s.c.mode then 3 else if s.c.hasCas then 5 else 0) from hR)
  have HO := hid (show s.oth = (s.c.hasCas && decide (s.c.cas ≠ s.x.cas)) from rfl)
  have hC2 := hC.symm
  have H1 := hid h1
  clear hR hB hB1 hX hC hb1 h1 HH1
  go_enter Tryd.func56, Tryd.ntmps56
  go_upto_region 2 with fail
  try rw [hC2]
  rw [H1.out]
  --GEN clr
  clear b3 b4 b5 b6 b7 b8 b9 b10 b11 b12 b13 b14 b15 b16 b17 b18
  --END
  cases hth : s.there
  · rw [hth] at ht
    by_cases hm : 2 ≤ s.c.mode
    · have hR3 : R = 3 := by rw [HR.out, hth, if_neg (by decide), if_pos hm]
      subst hR3
      clear HR HO hth hot
      generalize s.c.mode = md at *
      go_wp2_with (refine ht.mono ?_; rintro e _ ⟨rfl, rfl⟩)
      go_ret
      exact ⟨rfl, HB1.out⟩
    · cases hca : s.c.hasCas
      · have ho : s.oth = false := by rw [HO.out, hca]; rfl
        rw [ho] at hot
        rw [hca] at m8
        have hR3 : R = 0 := by rw [HR.out, hth, if_neg (by decide), if_neg hm, hca]; rfl
        subst hR3
        clear HR HO hth hca ho
        generalize s.c.mode = md at *
        go_wp2_with (refine ht.mono ?_; rintro e _ ⟨rfl, rfl⟩)
        go_quiet (exact hot _)
        go_wp2_with fail
        go_ret
        exact ⟨rfl, HD _⟩
      · rw [hca] at m8
        have hR3 : R = 5 := by rw [HR.out, hth, if_neg (by decide), if_neg hm, hca]; rfl
        subst hR3
        clear HR HO hth hca hot
        generalize s.c.mode = md at *
        go_wp2_with (refine ht.mono ?_; rintro e _ ⟨rfl, rfl⟩)
        go_ret
        exact ⟨rfl, HB1.out⟩
  · rw [hth] at ht
    by_cases hm : s.c.mode = 1
    · rw [hm] at m1
      have hR3 : R = 3 := by rw [HR.out, hth, if_pos rfl, if_pos hm]
      subst hR3
      clear HR HO hth hot hm
      generalize s.c.mode = md at *
      go_wp2_with (refine ht.mono ?_; rintro e _ ⟨rfl, rfl⟩)
      go_ret
      exact ⟨rfl, HB1.out⟩
    · have hm' : (s.c.mode == 1) = false := beq_eq_false_iff_ne.2 hm
      cases ho : s.oth
      · rw [ho] at hot
        have hR3 : R = 0 := by rw [HR.out, hth, if_pos rfl, if_neg hm, ho]; rfl
        subst hR3
        clear HR HO hth ho
        generalize s.c.mode = md at *
        go_wp2_with (refine ht.mono ?_; rintro e _ ⟨rfl, rfl⟩)
        go_quiet (exact hot _)
        go_wp2_with fail
        go_ret
        exact ⟨rfl, HD _⟩
      · rw [ho] at hot
        cases hv : s.c.inv
        · rw [hv] at m15
          have hR3 : R = 4 := by rw [HR.out, hth, if_pos rfl, if_neg hm, ho, hv]; rfl
          subst hR3
          clear HR HO hth ho hv
          generalize s.c.mode = md at *
          go_wp2_with (refine ht.mono ?_; rintro e _ ⟨rfl, rfl⟩)
          go_quiet (exact hot _)
          go_wp2_with fail
          go_ret
          exact ⟨rfl, HD _⟩
        · rw [hv] at m15
          by_cases hl : s.c.cas < s.x.cas
          · have hl' : (s.c.cas : Int) < (s.x.cas : Int) := by omega
            have hR3 : R = 0 := by rw [HR.out, hth, if_pos rfl, if_neg hm, ho, hv, decide_eq_true hl]; rfl
            subst hR3
            clear HR HO hth ho hv
            generalize s.c.mode = md at *
            go_wp2_with (refine ht.mono ?_; rintro e _ ⟨rfl, rfl⟩)
            go_quiet (exact hot _)
            go_wp2_with fail
            go_ret
            exact ⟨rfl, HD _⟩
          · have hl' : decide ((s.c.cas : Int) < (s.x.cas : Int)) = false := decide_eq_false (by omega)
            have hl2 : decide (s.c.cas < s.x.cas) = false := decide_eq_false hl
            have hR3 : R = 4 := by rw [HR.out, hth, if_pos rfl, if_neg hm, ho, hv, hl2]; rfl
            subst hR3
            clear HR HO hth ho hv
            generalize s.c.mode = md at *
            go_wp2_with (refine ht.mono ?_; rintro e _ ⟨rfl, rfl⟩)
            go_quiet (exact hot _)
            go_wp2_with fail
            go_ret
            exact ⟨rfl, HD _⟩
end
end Go.Proofs.YtpgljahomeebhaaDoor.Md

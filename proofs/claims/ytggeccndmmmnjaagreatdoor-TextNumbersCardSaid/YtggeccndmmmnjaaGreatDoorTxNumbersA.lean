/-
  The law TextNumbers at this program, fewer than no seconds, without noreply. Conditions: as listed.
-/
import Derived.Test.YtggeccndmmmnjaaGreatDoorTxSays
namespace Go.Proofs.YtggeccndmmmnjaaGreatDoor.Tx
open Go Go.RowKit Go.Lib Md

set_option maxHeartbeats 4000000 in
set_option maxRecDepth 100000 in
theorem numbers_a (K N T E : ByteArray) (hKs : K.size ≤ 250) (hNs : N.size ≤ 20) (hTs : T.size ≤ 21) (n : Nat) (sec : Int) (quiet : Bool) (h0 : -1099511627776 ≤ sec) (h1 : sec ≤ 1099511627776)
    (hkey : ∀ w, Calls Tryz.prog 10 #[.string K] w fun e w' => e = .returned (.bool true) ∧ w' = w) (hnr : (K.toList == [110, 111, 114, 101, 112, 108, 121]) = false)
    (hQ : quiet = false) (hE : E = ⟨#[13, 10]⟩)
    (m u : Nat) (X T' : ByteArray) (hm : 0 < m) (hsec : sec = -(m : Int)) (hw : IntKind.u64.wrap (-(m : Int)) = (u : Int)) (hX : Tells u X) (hT : Tells m T') (hTs' : T'.size ≤ 20) (hTT : T = ⟨#[45]⟩ ++ T')
    (hN : Tells n N)
    (m0 : Nat) (hP0 : Says (⟨#[105, 110, 99, 114, 32]⟩ ++ K ++ ⟨#[32]⟩ ++ N ++ E) (⟨3, 0, K, ⟨#[]⟩, 0, 0, false, 0, false, n, 0, false, false, 0, -1, false⟩ : Cm) quiet m0)
    (m1 : Nat) (hP1 : Says (⟨#[100, 101, 99, 114, 32]⟩ ++ K ++ ⟨#[32]⟩ ++ N ++ E) (⟨3, 0, K, ⟨#[]⟩, 0, 0, false, 0, false, n, 0, true, false, 0, -1, false⟩ : Cm) quiet m1)
    (m2 : Nat) (hP2 : Says (⟨#[116, 111, 117, 99, 104, 32]⟩ ++ K ++ ⟨#[32]⟩ ++ T ++ E) (⟨4, 0, K, ⟨#[]⟩, 0, sec, false, 0, false, 0, 0, false, false, 0, -1, false⟩ : Cm) quiet m2)
    (m3 : Nat) (hP3 : Says (⟨#[103, 97, 116, 32]⟩ ++ T ++ ⟨#[32]⟩ ++ K ++ ⟨#[13, 10]⟩) (⟨1, 0, K, ⟨#[]⟩, 0, sec, true, 0, false, 0, 0, false, false, 0, -1, false⟩ : Cm) false m3)
    (m4 : Nat) (hP4 : Says (⟨#[102, 108, 117, 115, 104, 95, 97, 108, 108, 32]⟩ ++ T ++ E) (⟨6, 0, ⟨#[]⟩, ⟨#[]⟩, 0, sec, false, 0, false, 0, 0, false, false, 0, -1, false⟩ : Cm) quiet m4)
    (w : World) (hv : Nu.Vars w) :
    Calls Tryz.prog 6 #[.string K, .int .u64 (n : Int), .int .i64 sec, .bool quiet] w fun e w' => e = .returned (.bool true) ∧ Below w.heap.size w w' := by
  have hvb : ∀ W, Below w.heap.size w W → Nu.Vars W := fun W hb => hv.below hb
  have HP0 := hidc hP0
  have HP1 := hidc hP1
  have HP2 := hidc hP2
  have HP3 := hidc hP3
  have HP4 := hidc hP4
  clear hP0 hP1 hP2 hP3 hP4
  have HN := hidc hN
  subst hQ hE
  have HSEC := hidc hsec
  clear hsec
  clear hN
  go_enter Tryz.func6, Tryz.ntmps6
  go_wp2_with fail
  refine (shown_any _ hv).mono ?_
  rintro e w1 ⟨rfl, b1⟩
  have HB := hidc b1
  clear b1
  go_wp2_with fail
  refine (hkey _).mono ?_
  rintro e w1' ⟨rfl, rfl⟩
  clear hkey
  have hsec := HSEC.out
  clear HSEC
  have hi : sec < 0 := by omega
  have hu : IntKind.u64.wrap sec = (u : Int) := by rw [hsec]; exact hw
  have hneg : -sec = (m : Int) := by omega
  have hmm : IntKind.u64.wrap (m : Int) = (m : Int) := by rw [IntKind.wrap_u64]; omega
  clear hsec hw hm
  go_wp2_with fail
  refine (hX _ (hvb _ HB.out)).mono ?_
  rintro e w2 ⟨rfl, b2⟩
  have HB2 := hidc (Below.then HB.out b2)
  clear HB b2 hX
  go_wp2_with fail
  refine (hT _ (hvb _ HB2.out)).mono ?_
  rintro e w3 ⟨rfl, b3⟩
  have HB3 := hidc (Below.then HB2.out b3)
  clear HB2 b3 hT
  subst hTT
  go_wp2_with fail
  refine (HN.out _ (hvb _ HB3.out)).mono ?_
  rintro e w3 ⟨rfl, b3⟩
  have HB0 := hidc (Below.then HB3.out b3)
  clear HB3 b3
  go_wp2_with fail
  refine (HP0.out _ (hvb _ HB0.out)).mono ?_
  rintro e u0 ⟨cs0, rfl, hC0, b0⟩
  have HOK0 := hidc (rq_ok (oneQ (⟨3, 0, K, ⟨#[]⟩, 0, 0, false, 0, false, n, 0, false, false, 0, -1, false⟩ : Cm) false) (hvs hC0))
  have HC0 := hidc hC0
  have HU0 := hidc (Below.then HB0.out b0)
  clear hC0 b0 HP0 HB0
  go_wp2_with (refine stRq rfl rfl rfl rfl rfl (alloc1 u0 #[.int .i64 0, .slice none 0 0, .bool false, .bool false, .string ⟨#[]⟩, .string ⟨#[]⟩, .int .i64 0, .bool false, .string ⟨#[]⟩, .slice none 0 0, .string ⟨#[]⟩] 26).1 rfl rfl HOK0.out ?_; intro D0 hD oD; have HX0_1 := hidc (bq_laid HC0.out hD oD); have HB1 := hidc (Below.then HU0.out (laid_below oD)); clear hD oD HC0 HU0 HOK0)
  refine (HN.out _ (hvb _ HB1.out)).mono ?_
  rintro e v1 ⟨rfl, bt⟩
  have HB1' := hidc (Below.then HB1.out bt)
  have HX0_1' := hidc (HX0_1.out.below bt)
  clear bt HX0_1 HB1
  go_wp2_with fail
  refine (HP1.out _ (hvb _ HB1'.out)).mono ?_
  rintro e u1 ⟨cs1, rfl, hC1, b1⟩
  have HOK1 := hidc (rq_ok (oneQ (⟨3, 0, K, ⟨#[]⟩, 0, 0, false, 0, false, n, 0, true, false, 0, -1, false⟩ : Cm) false) (hvs hC1))
  have HC1 := hidc hC1
  have HU1 := hidc (Below.then HB1'.out b1)
  have HX0_10 := hidc (HX0_1'.out.below b1)
  clear HX0_1'
  clear hC1 b1 HP1 HB1'
  go_wp2_with (refine stRq rfl rfl rfl rfl rfl (alloc1 u1 #[.int .i64 0, .slice none 0 0, .bool false, .bool false, .string ⟨#[]⟩, .string ⟨#[]⟩, .int .i64 0, .bool false, .string ⟨#[]⟩, .slice none 0 0, .string ⟨#[]⟩] 26).1 rfl rfl HOK1.out ?_; intro D1 hD oD; have HX1_11 := hidc (bq_laid HC1.out hD oD); have HB2 := hidc (Below.then HU1.out (laid_below oD)); have HX0_11 := hidc (HX0_10.out.below (laid_below oD)); clear HX0_10; clear hD oD HC1 HU1 HOK1)
  refine (HP2.out _ (hvb _ HB2.out)).mono ?_
  rintro e u2 ⟨cs2, rfl, hC2, b2⟩
  have HOK2 := hidc (rq_ok (oneQ (⟨4, 0, K, ⟨#[]⟩, 0, sec, false, 0, false, 0, 0, false, false, 0, -1, false⟩ : Cm) false) (hvs hC2))
  have HC2 := hidc hC2
  have HU2 := hidc (Below.then HB2.out b2)
  have HX0_20 := hidc (HX0_11.out.below b2)
  clear HX0_11
  have HX1_20 := hidc (HX1_11.out.below b2)
  clear HX1_11
  clear hC2 b2 HP2 HB2
  go_wp2_with (refine stRq rfl rfl rfl rfl rfl (alloc1 u2 #[.int .i64 0, .slice none 0 0, .bool false, .bool false, .string ⟨#[]⟩, .string ⟨#[]⟩, .int .i64 0, .bool false, .string ⟨#[]⟩, .slice none 0 0, .string ⟨#[]⟩] 26).1 rfl rfl HOK2.out ?_; intro D2 hD oD; have HX2_21 := hidc (bq_laid HC2.out hD oD); have HB3 := hidc (Below.then HU2.out (laid_below oD)); have HX0_21 := hidc (HX0_20.out.below (laid_below oD)); clear HX0_20; have HX1_21 := hidc (HX1_20.out.below (laid_below oD)); clear HX1_20; clear hD oD HC2 HU2 HOK2)
  refine (HP3.out _ (hvb _ HB3.out)).mono ?_
  rintro e u3 ⟨cs3, rfl, hC3, b3⟩
  have HOK3 := hidc (rq_ok (oneQ (⟨1, 0, K, ⟨#[]⟩, 0, sec, true, 0, false, 0, 0, false, false, 0, -1, false⟩ : Cm) false) (hvs hC3))
  have HC3 := hidc hC3
  have HU3 := hidc (Below.then HB3.out b3)
  have HX0_30 := hidc (HX0_21.out.below b3)
  clear HX0_21
  have HX1_30 := hidc (HX1_21.out.below b3)
  clear HX1_21
  have HX2_30 := hidc (HX2_21.out.below b3)
  clear HX2_21
  clear hC3 b3 HP3 HB3
  go_wp2_with (refine stRq rfl rfl rfl rfl rfl (alloc1 u3 #[.int .i64 0, .slice none 0 0, .bool false, .bool false, .string ⟨#[]⟩, .string ⟨#[]⟩, .int .i64 0, .bool false, .string ⟨#[]⟩, .slice none 0 0, .string ⟨#[]⟩] 26).1 rfl rfl HOK3.out ?_; intro D3 hD oD; have HX3_31 := hidc (bq_laid HC3.out hD oD); have HB4 := hidc (Below.then HU3.out (laid_below oD)); have HX0_31 := hidc (HX0_30.out.below (laid_below oD)); clear HX0_30; have HX1_31 := hidc (HX1_30.out.below (laid_below oD)); clear HX1_30; have HX2_31 := hidc (HX2_30.out.below (laid_below oD)); clear HX2_30; clear hD oD HC3 HU3 HOK3)
  refine (HP4.out _ (hvb _ HB4.out)).mono ?_
  rintro e u4 ⟨cs4, rfl, hC4, b4⟩
  have HOK4 := hidc (rq_ok (oneQ (⟨6, 0, ⟨#[]⟩, ⟨#[]⟩, 0, sec, false, 0, false, 0, 0, false, false, 0, -1, false⟩ : Cm) false) (hvs hC4))
  have HC4 := hidc hC4
  have HU4 := hidc (Below.then HB4.out b4)
  have HX0_40 := hidc (HX0_31.out.below b4)
  clear HX0_31
  have HX1_40 := hidc (HX1_31.out.below b4)
  clear HX1_31
  have HX2_40 := hidc (HX2_31.out.below b4)
  clear HX2_31
  have HX3_40 := hidc (HX3_31.out.below b4)
  clear HX3_31
  clear hC4 b4 HP4 HB4
  go_upto_region 15 with (refine stRq rfl rfl rfl rfl rfl (alloc1 u4 #[.int .i64 0, .slice none 0 0, .bool false, .bool false, .string ⟨#[]⟩, .string ⟨#[]⟩, .int .i64 0, .bool false, .string ⟨#[]⟩, .slice none 0 0, .string ⟨#[]⟩] 26).1 rfl rfl HOK4.out ?_; intro D4 hD oD; have HX4_41 := hidc (bq_laid HC4.out hD oD); have HB5 := hidc (Below.then HU4.out (laid_below oD)); have HX0_41 := hidc (HX0_40.out.below (laid_below oD)); clear HX0_40; have HX1_41 := hidc (HX1_40.out.below (laid_below oD)); clear HX1_40; have HX2_41 := hidc (HX2_40.out.below (laid_below oD)); clear HX2_40; have HX3_41 := hidc (HX3_40.out.below (laid_below oD)); clear HX3_40; clear hD oD HC4 HU4 HOK4)
  have X0 := HX0_41.out
  obtain ⟨b0, o0, c0, rfl, hcm0⟩ := cms_single X0.cms
  have p0 : D4.cell? ⟨u0.heap.size, 1, none⟩ = some (.slice (some ⟨b0, o0, none⟩) 1 c0) := X0.blk.cell (i := 1) rfl
  have q0 : D4.cell? ⟨u0.heap.size, 2, none⟩ = some (.bool false) := X0.blk.cell (i := 2) rfl
  have HR0 := hidc hcm0
  clear X0 hcm0 HX0_41
  have X1 := HX1_41.out
  obtain ⟨b1, o1, c1, rfl, hcm1⟩ := cms_single X1.cms
  have p1 : D4.cell? ⟨u1.heap.size, 1, none⟩ = some (.slice (some ⟨b1, o1, none⟩) 1 c1) := X1.blk.cell (i := 1) rfl
  have q1 : D4.cell? ⟨u1.heap.size, 2, none⟩ = some (.bool false) := X1.blk.cell (i := 2) rfl
  have HR1 := hidc hcm1
  clear X1 hcm1 HX1_41
  have X2 := HX2_41.out
  obtain ⟨b2, o2, c2, rfl, hcm2⟩ := cms_single X2.cms
  have p2 : D4.cell? ⟨u2.heap.size, 1, none⟩ = some (.slice (some ⟨b2, o2, none⟩) 1 c2) := X2.blk.cell (i := 1) rfl
  have q2 : D4.cell? ⟨u2.heap.size, 2, none⟩ = some (.bool false) := X2.blk.cell (i := 2) rfl
  have HR2 := hidc hcm2
  clear X2 hcm2 HX2_41
  have X3 := HX3_41.out
  obtain ⟨b3, o3, c3, rfl, hcm3⟩ := cms_single X3.cms
  have p3 : D4.cell? ⟨u3.heap.size, 1, none⟩ = some (.slice (some ⟨b3, o3, none⟩) 1 c3) := X3.blk.cell (i := 1) rfl
  have q3 : D4.cell? ⟨u3.heap.size, 2, none⟩ = some (.bool false) := X3.blk.cell (i := 2) rfl
  have HR3 := hidc hcm3
  clear X3 hcm3 HX3_41
  have X4 := HX4_41.out
  obtain ⟨b4, o4, c4, rfl, hcm4⟩ := cms_single X4.cms
  have p4 : D4.cell? ⟨u4.heap.size, 1, none⟩ = some (.slice (some ⟨b4, o4, none⟩) 1 c4) := X4.blk.cell (i := 1) rfl
  have q4 : D4.cell? ⟨u4.heap.size, 2, none⟩ = some (.bool false) := X4.blk.cell (i := 2) rfl
  have HR4 := hidc hcm4
  clear X4 hcm4 HX4_41
  go_wp2_with (first | (refine eqlG (c := (⟨3, 0, K, ⟨#[]⟩, 0, 0, false, 0, false, n, 0, false, false, 0, -1, false⟩ : Cm)) (by rfl) rfl rfl rfl ?_) | (refine eqlG (c := (⟨3, 0, K, ⟨#[]⟩, 0, 0, false, 0, false, n, 0, true, false, 0, -1, false⟩ : Cm)) (by rfl) rfl rfl rfl ?_) | (refine eqlG (c := (⟨4, 0, K, ⟨#[]⟩, 0, sec, false, 0, false, 0, 0, false, false, 0, -1, false⟩ : Cm)) (by rfl) rfl rfl rfl ?_) | (refine eqlG (c := (⟨1, 0, K, ⟨#[]⟩, 0, sec, true, 0, false, 0, 0, false, false, 0, -1, false⟩ : Cm)) (by rfl) rfl rfl rfl ?_) | (refine eqlG (c := (⟨6, 0, ⟨#[]⟩, ⟨#[]⟩, 0, sec, false, 0, false, 0, 0, false, false, 0, -1, false⟩ : Cm)) (by rfl) rfl rfl rfl ?_) | (refine ldG (by rfl) rfl rfl HR0.out rfl ?_) | (refine ldG (by rfl) rfl rfl HR1.out rfl ?_) | (refine ldG (by rfl) rfl rfl HR2.out rfl ?_) | (refine ldG (by rfl) rfl rfl HR3.out rfl ?_) | (refine ldG (by rfl) rfl rfl HR4.out rfl ?_))
  go_ret
  exact ⟨rfl, HB5.out⟩
end Go.Proofs.YtggeccndmmmnjaaGreatDoor.Tx

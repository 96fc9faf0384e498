/-
  The law ChainMeans at this program: a table tells of each key what was set last, however it grows. Condition: the numbers lie in memory.
-/
import Derived.Test.YtfbkfbghejeknaaChainMeansMath
namespace Go.Proofs.Ytfbkfbghejeknaa
open Go Go.Shelf Go.RowKit Go.Lib

def Nums (w : World) (a : Option Addr) (n : Nat) (zs : List Int) : Prop := zs.length = n ∧ ∀ j z, zs[j]? = some z → ∃ b o, a = some ⟨b, o, none⟩ ∧ b < w.heap.size ∧ w.cell? ⟨b, o + j, none⟩ = some (.int .i64 z)

theorem infoHeld : (Try.prog.info? 40).map (fun i => (i.zero, i.size)) = some (some (.agg (Array.replicate 256 (.int .i64 0))), 256) := by kernel_rfl
/-- The cells of the row held. -/
def hc (hs : List Nat) : List Value := hs.map fun h : Nat => Value.int .i64 (h : Int)
theorem hc_at {hs : List Nat} {k h : Nat} (e : hs[k]? = some h) : (hc hs)[k]? = some (.int .i64 (h : Int)) := by simp [hc, e]
theorem hc_set (hs : List Nat) (k h : Nat) : hc (hs.set k h) = (hc hs).set k (.int .i64 (h : Int)) := by simp [hc, List.map_set]
theorem hc_len (hs : List Nat) : (hc hs).length = hs.length := by simp [hc]
theorem rep_cells (n : Nat) : (Array.replicate n (Value.int .i64 0)).toList = hc (List.replicate n 0) := by simp [hc]
theorem held_made : ∃ Z : Array Value, Z.toList = hc (List.replicate 256 0) ∧ ∀ W : World, (zeroValue 40).run Try.prog W = .ok (.agg Z) W := by
  refine ⟨Array.replicate 256 (.int .i64 0), rep_cells 256, fun W => ?_⟩
  obtain ⟨i0, hi, hx⟩ := Option.map_eq_some_iff.1 infoHeld
  simp only [Prod.mk.injEq] at hx
  generalize Array.replicate 256 (Value.int .i64 0) = Z at *
  simp [zeroValue, typeInfo, hi, hx.1]

set_option maxRecDepth 100000 in
set_option maxHeartbeats 2000000 in
theorem means_law (a : Option Addr) (n c0 : Nat) (zs : List Int) (w : World) (hz : Nums w a n zs) :
    Calls Try.prog 4 #[.slice a n c0] w fun e w' => e = .returned (.bool true) ∧ Below w.heap.size w w' := by
  go_enter Try.func4, Try.ntmps4
  go_wp2_with fail
  refine (shown_any w).mono ?_
  rintro e w1 ⟨rfl, b1⟩
  go_wp2_with fail
  refine (has_new w1).mono ?_
  rintro e w2 ⟨P, c, rfl, hT⟩
  obtain ⟨Z, hZ, hzv⟩ := held_made
  have hB0 := Blk.new w2 Z 40
  rw [hZ] at hB0
  have hT2 : HasT w1 P (Tb.first c) (fun x => x = w2.heap.size) (w2.alloc (.cells Z 40)) := hT.more ((Below.refl _ _).alloc (Nat.le_refl _) _) (fun x hx => .inr (by rw [hx]; simp))
  have hLb : w1.heap.size ≤ w2.heap.size := hT.below.size
  go_wp2_with fail
  generalize w2.alloc (.cells Z 40) = w3 at *
  generalize w2.heap.size = L at *
  have HB := hid hB0
  have HT := hid hT2
  have HM := hid (me_first c)
  clear hB0 hT2 hT hZ hzv
  go_loopw [6, 7] (fun v p wr => ∃ (i : Nat) (s : Tb) (hs : List Nat), p = .int .i64 i ∧ v = .int .i64 s.cnt ∧ i ≤ 600 ∧ i ≤ n ∧ s.cnt ≤ i ∧ Hid (Me s hs) ∧ Hid (Blk wr L 40 (hc hs)) ∧ Hid (HasT w1 P s (fun x => x = L) wr)) (fun _ p _ => 600 - (RowKit.intOf p).toNat)
  case atStart => exact ⟨0, _, _, rfl, rfl, Nat.zero_le _, Nat.zero_le _, Nat.le_refl _, HM, HB, HT⟩
  case round =>
    obtain ⟨i, s, hs, rfl, rfl, hi, hin, hcn, hM, hB, hT⟩ := hrel
    clear HM HB HT
    by_cases hlt : i < n ∧ i < 600
    · obtain ⟨l1, l2⟩ := hlt
      obtain ⟨z, hzi⟩ : ∃ z, zs[i]? = some z := ⟨_, List.getElem?_eq_getElem (by rw [hz.1]; exact l1)⟩
      obtain ⟨Bz, o, rfl, hBz, hcz⟩ := hz.2 i z hzi
      have hcw := ((Below.then b1 hT.out.below).cell (p := ⟨Bz, o + i, none⟩) hBz).trans hcz
      obtain ⟨k, hk, hk2⟩ : ∃ k : Nat, bits .and .i64 z 255 = (k : Int) ∧ k < 256 := ⟨(z % 256).toNat, by rw [i64_and255]; omega, by omega⟩
      clear hzi
      have hcv := conv_pair (97 + k / 16) (97 + k % 16) (by omega) (by omega)
      have e1 : ((97 + k / 16 : Nat) : Int) = 97 + (k : Int) / 16 := by omega
      have e2 : ((97 + k % 16 : Nat) : Int) = 97 + (k : Int) % 16 := by omega
      rw [e1, e2] at hcv
      clear e1 e2
      have hsz : (two (97 + k / 16) (97 + k % 16)).size = 2 := rfl
      have hkey : mkey k = ⟨#[107]⟩ ++ two (97 + k / 16) (97 + k % 16) := rfl
      generalize two (97 + k / 16) (97 + k % 16) = X at *
      have hcw2 := cell_alloc hcw (Obj.cells #[Value.int IntKind.u8 (97 + (k : Int) / 16), Value.int IntKind.u8 (97 + (k : Int) % 16)] 5)
      have hT4 := hT.out.after ((Below.refl _ wr).alloc (Nat.le_refl _) (Obj.cells #[Value.int IntKind.u8 (97 + (k : Int) / 16), Value.int IntKind.u8 (97 + (k : Int) % 16)] 5))
      have hB4 := hB.out.alloc (Obj.cells #[Value.int IntKind.u8 (97 + (k : Int) / 16), Value.int IntKind.u8 (97 + (k : Int) % 16)] 5)
      go_upto_region 13 with fail
      generalize (wr.alloc (Obj.cells #[Value.int IntKind.u8 (97 + (k : Int) / 16), Value.int IntKind.u8 (97 + (k : Int) % 16)] 5)) = w4 at *
      obtain ⟨q, hq, hq4⟩ : ∃ q : Nat, bits .and .i64 (z / 256) 3 = (q : Int) ∧ q < 4 := ⟨(z / 256 % 4).toNat, by rw [i64_and3]; omega, by omega⟩
      rw [hq]
      have hKs : (⟨#[107]⟩ ++ X : ByteArray).size = 3 := by rw [← hkey]; exact mkey_size k
      generalize hmk : (⟨#[107]⟩ ++ X : ByteArray) = K at *
      rename mkey k = K => hmk
      clear hq hcv hsz hcw2
      obtain ⟨h, hh, h6, hgk⟩ := hM.out.at hk2
      have hgK : s.get K = said h := by rw [← hmk]; exact hgk
      clear hgk
      have hcl : w4.cell? ⟨L, k, none⟩ = some (.int .i64 (h : Int)) := hB4.cell (hc_at hh)
      have hk2i : (k : Int) < 256 := by omega
      generalize hN : s.cnt = N at *
      rcases (show q = 0 ∨ q = 1 ∨ q = 2 ∨ q = 3 by omega) with rfl | rfl | rfl | rfl
      · have hset := has_set hT4 K (by omega) (i : Int) (by rw [hN]; omega)
        have hcnt := fun b c => hT4.ok.cnt_set b c K (i : Int)
        have HMs : ∀ b c, Hid (Me (s.set b c K (i : Int)) (hs.set k (i + 1))) := fun b c => hid (by rw [← hmk]; exact hM.out.set hT.out.ok b c hk2 l2)
        have hapart := (hT4.apart L rfl).2
        have hgs : ∀ b c, (s.set b c K (i : Int)).get K = some (i : Int) := fun b c => by rw [hT4.ok.get_set, if_pos rfl]
        rw [hgK] at hcnt
        have hlen : k < (hc hs).length := by rw [hc_len, hM.out.len]; exact hk2
        clear hT4 hM hT hB
        go_wp2_with fail
        refine hset.mono ?_
        rintro e w5 ⟨rfl, b, c', hT5, o5⟩
        have hB5 := hB4.only o5 hapart
        have hcnt := hcnt b c'
        have HM6 := HMs b c'
        have hgs := hgs b c'
        generalize s.set b c' K (i : Int) = s1 at *
        have hc5 := hB5.cell (hc_at hh)
        have hf5 := hB5.frozen k
        have hT6 := hT5.turn (only_set w5 ⟨L, k, none⟩ (.int .i64 ((i : Int) + 1))) (fun x hx => by have hx : x = L := hx; rw [hx]; exact hLb)
        have hB6 : Blk (w5.setCell ⟨L, k, none⟩ (.int .i64 ((i : Int) + 1))) L 40 (hc (hs.set k (i + 1))) := by rw [hc_set]; exact hB5.set k _
        have HT6 := hid hT6
        have HB6 := hid hB6
        have hat : (hs.set k (i + 1))[k]? = some (i + 1) := by rw [List.getElem?_set, if_pos rfl, if_pos (by rw [hc_len] at hlen; exact hlen)]
        clear hset HMs hapart hB4 hT5 o5 hB5 hT6 hB6
        rcases Nat.eq_zero_or_pos h with h0 | h0
        · subst h0
          rw [if_pos (show said 0 = none from rfl), hN] at hcnt
          have hg := has_get HT6.out K (by omega)
          rw [hgs] at hg
          have hl : ∀ w7, Hid (HasT w1 P s1 (fun x => x = L) w7) → Hid (Calls Try.prog 12 #[.pointer (some ⟨P, 0, none⟩)] w7 fun e w' => e = .returned (.int .i64 s1.cnt) ∧ w7 = w') := fun w7 h7 => hid (len_any h7.out.tm)
          go_wp2_with fail
          refine hg.mono ?_
          rintro e w7 ⟨rfl, hT7, b7⟩
          have HT7 := hid hT7
          have HB7 := hid (HB6.out.below b7)
          have hl7 := hl w7 HT7
          have hc7 := HB7.out.cell (hc_at hat)
          clear hg hl hT7 b7 HT6 HB6
          go_wp2_with fail
          refine hl7.out.mono ?_
          rintro e w8 ⟨rfl, rfl⟩
          go_wp2_with fail
          go_roundw
          case rel => exact ⟨i + 1, s1, hs.set k (i + 1), by go_num, by rw [hcnt]; go_num, by omega, by omega, by omega, HM6, HB7, HT7⟩
          case measure => simp [RowKit.intOf] <;> omega
        · have h0i : (0 : Int) < (h : Int) := by omega
          have h0n : ((h : Int) == 0) = false := by rw [beq_eq_false_iff_ne]; omega
          rw [if_neg (by unfold said; rw [if_neg (by omega)]; simp), hN] at hcnt
          have hg := has_get HT6.out K (by omega)
          rw [hgs] at hg
          have hl : ∀ w7, Hid (HasT w1 P s1 (fun x => x = L) w7) → Hid (Calls Try.prog 12 #[.pointer (some ⟨P, 0, none⟩)] w7 fun e w' => e = .returned (.int .i64 s1.cnt) ∧ w7 = w') := fun w7 h7 => hid (len_any h7.out.tm)
          go_wp2_with fail
          refine hg.mono ?_
          rintro e w7 ⟨rfl, hT7, b7⟩
          have HT7 := hid hT7
          have HB7 := hid (HB6.out.below b7)
          have hl7 := hl w7 HT7
          have hc7 := HB7.out.cell (hc_at hat)
          clear hg hl hT7 b7 HT6 HB6
          go_wp2_with fail
          refine hl7.out.mono ?_
          rintro e w8 ⟨rfl, rfl⟩
          go_wp2_with fail
          go_roundw
          case rel => exact ⟨i + 1, s1, hs.set k (i + 1), by go_num, by rw [hcnt], by omega, by omega, by omega, HM6, HB7, HT7⟩
          case measure => simp [RowKit.intOf] <;> omega
      · have hset := has_set hT4 K (by omega) (i : Int) (by rw [hN]; omega)
        have hcnt := fun b c => hT4.ok.cnt_set b c K (i : Int)
        have HMs : ∀ b c, Hid (Me (s.set b c K (i : Int)) (hs.set k (i + 1))) := fun b c => hid (by rw [← hmk]; exact hM.out.set hT.out.ok b c hk2 l2)
        have hapart := (hT4.apart L rfl).2
        have hgs : ∀ b c, (s.set b c K (i : Int)).get K = some (i : Int) := fun b c => by rw [hT4.ok.get_set, if_pos rfl]
        rw [hgK] at hcnt
        have hlen : k < (hc hs).length := by rw [hc_len, hM.out.len]; exact hk2
        clear hT4 hM hT hB
        go_wp2_with fail
        refine hset.mono ?_
        rintro e w5 ⟨rfl, b, c', hT5, o5⟩
        have hB5 := hB4.only o5 hapart
        have hcnt := hcnt b c'
        have HM6 := HMs b c'
        have hgs := hgs b c'
        generalize s.set b c' K (i : Int) = s1 at *
        have hc5 := hB5.cell (hc_at hh)
        have hf5 := hB5.frozen k
        have hT6 := hT5.turn (only_set w5 ⟨L, k, none⟩ (.int .i64 ((i : Int) + 1))) (fun x hx => by have hx : x = L := hx; rw [hx]; exact hLb)
        have hB6 : Blk (w5.setCell ⟨L, k, none⟩ (.int .i64 ((i : Int) + 1))) L 40 (hc (hs.set k (i + 1))) := by rw [hc_set]; exact hB5.set k _
        have HT6 := hid hT6
        have HB6 := hid hB6
        have hat : (hs.set k (i + 1))[k]? = some (i + 1) := by rw [List.getElem?_set, if_pos rfl, if_pos (by rw [hc_len] at hlen; exact hlen)]
        clear hset HMs hapart hB4 hT5 o5 hB5 hT6 hB6
        rcases Nat.eq_zero_or_pos h with h0 | h0
        · subst h0
          rw [if_pos (show said 0 = none from rfl), hN] at hcnt
          have hg := has_get HT6.out K (by omega)
          rw [hgs] at hg
          have hl : ∀ w7, Hid (HasT w1 P s1 (fun x => x = L) w7) → Hid (Calls Try.prog 12 #[.pointer (some ⟨P, 0, none⟩)] w7 fun e w' => e = .returned (.int .i64 s1.cnt) ∧ w7 = w') := fun w7 h7 => hid (len_any h7.out.tm)
          go_wp2_with fail
          refine hg.mono ?_
          rintro e w7 ⟨rfl, hT7, b7⟩
          have HT7 := hid hT7
          have HB7 := hid (HB6.out.below b7)
          have hl7 := hl w7 HT7
          have hc7 := HB7.out.cell (hc_at hat)
          clear hg hl hT7 b7 HT6 HB6
          go_wp2_with fail
          refine hl7.out.mono ?_
          rintro e w8 ⟨rfl, rfl⟩
          go_wp2_with fail
          go_roundw
          case rel => exact ⟨i + 1, s1, hs.set k (i + 1), by go_num, by rw [hcnt]; go_num, by omega, by omega, by omega, HM6, HB7, HT7⟩
          case measure => simp [RowKit.intOf] <;> omega
        · have h0i : (0 : Int) < (h : Int) := by omega
          have h0n : ((h : Int) == 0) = false := by rw [beq_eq_false_iff_ne]; omega
          rw [if_neg (by unfold said; rw [if_neg (by omega)]; simp), hN] at hcnt
          have hg := has_get HT6.out K (by omega)
          rw [hgs] at hg
          have hl : ∀ w7, Hid (HasT w1 P s1 (fun x => x = L) w7) → Hid (Calls Try.prog 12 #[.pointer (some ⟨P, 0, none⟩)] w7 fun e w' => e = .returned (.int .i64 s1.cnt) ∧ w7 = w') := fun w7 h7 => hid (len_any h7.out.tm)
          go_wp2_with fail
          refine hg.mono ?_
          rintro e w7 ⟨rfl, hT7, b7⟩
          have HT7 := hid hT7
          have HB7 := hid (HB6.out.below b7)
          have hl7 := hl w7 HT7
          have hc7 := HB7.out.cell (hc_at hat)
          clear hg hl hT7 b7 HT6 HB6
          go_wp2_with fail
          refine hl7.out.mono ?_
          rintro e w8 ⟨rfl, rfl⟩
          go_wp2_with fail
          go_roundw
          case rel => exact ⟨i + 1, s1, hs.set k (i + 1), by go_num, by rw [hcnt], by omega, by omega, by omega, HM6, HB7, HT7⟩
          case measure => simp [RowKit.intOf] <;> omega
      · have hdel := has_del (hT4.after (Below.refl _ w4).drew) K (by omega) (by rw [hN]; omega)
        have hcnt := hT4.ok.cnt_del K
        have HM6 : Hid (Me (s.del K) (hs.set k 0)) := hid (by rw [← hmk]; exact hM.out.del hT.out.ok hk2)
        have hapart := (hT4.apart L rfl).2
        have hgs : (s.del K).get K = none := by rw [hT4.ok.get_del, if_pos rfl]
        have hlen : k < hs.length := by rw [hM.out.len]; exact hk2
        have hat : (hs.set k 0)[k]? = some 0 := by rw [List.getElem?_set, if_pos rfl, if_pos hlen]
        have hB4' := hB4.drew
        have hpos := hT4.ok.cnt_pos (x := K)
        rw [hgK] at hpos hcnt hdel
        clear hT4 hM hT hB hB4
        rcases Nat.eq_zero_or_pos h with h0 | h0
        · subst h0
          clear hpos
          rw [if_pos (show said 0 = none from rfl), hN] at hcnt
          rw [show said 0 = none from rfl] at hdel
          have hcl' : w4.drew.cell? ⟨L, k, none⟩ = some (.int .i64 0) := hcl
          clear hcl
          go_wp2_with fail
          go_region_held3 (fun w' => w'.cell? ⟨L, k, none⟩ = some (.int .i64 0)) (first | exact hc5 | exact hcl') (first | (go_at_call 20; refine hdel.mono ?_; rintro e w5 ⟨rfl, hT5, o5⟩; have hB5 := hB4'.only o5 hapart; have hc5 := hB5.cell (hc_at hh)))
          have hf5 := hB5.frozen k
          have hT6 := hT5.turn (only_set w5 ⟨L, k, none⟩ (.int .i64 0)) (fun x hx => by have hx : x = L := hx; rw [hx]; exact hLb)
          have hB6 : Blk (w5.setCell ⟨L, k, none⟩ (.int .i64 0)) L 40 (hc (hs.set k 0)) := by rw [hc_set]; exact hB5.set k _
          have HT6 := hid hT6
          have HB6 := hid hB6
          clear hdel hapart hT5 o5 hB5 hT6 hB6 hB4'
          generalize s.del K = s1 at *
          have hg := has_get HT6.out K (by omega)
          rw [hgs] at hg
          have hl : ∀ w7, Hid (HasT w1 P s1 (fun x => x = L) w7) → Hid (Calls Try.prog 12 #[.pointer (some ⟨P, 0, none⟩)] w7 fun e w' => e = .returned (.int .i64 s1.cnt) ∧ w7 = w') := fun w7 h7 => hid (len_any h7.out.tm)
          rw [hcnt] at hl
          go_wp2_with fail
          refine hg.mono ?_
          rintro e w7 ⟨rfl, hT7, b7⟩
          have HT7 := hid hT7
          have HB7 := hid (HB6.out.below b7)
          have hl7 := hl w7 HT7
          have hc7 := HB7.out.cell (hc_at hat)
          clear hg hl hT7 b7 HT6 HB6
          go_wp2_with fail
          refine hl7.out.mono ?_
          rintro e w8 ⟨rfl, rfl⟩
          go_wp2_with fail
          go_roundw
          case rel => exact ⟨i + 1, s1, hs.set k 0, by go_num, by rw [hcnt], by omega, by omega, by omega, HM6, HB7, HT7⟩
          case measure => simp [RowKit.intOf] <;> omega
        · have h0i : (0 : Int) < (h : Int) := by omega
          have hsa : said h = some ((h : Int) - 1) := by unfold said; rw [if_neg (by omega)]
          rw [hsa] at hcnt hpos hdel
          rw [if_neg (by simp), hN] at hcnt
          have hp1 : 1 ≤ N := by rw [← hN]; exact hpos (by simp)
          have hcnt : (s.del K).cnt = N - 1 := hcnt
          clear hpos
          have hcl' : w4.drew.cell? ⟨L, k, none⟩ = some (.int .i64 (h : Int)) := hcl
          clear hcl
          go_wp2_with fail
          go_region_held3 (fun w' => w'.cell? ⟨L, k, none⟩ = some (.int .i64 (h : Int))) (first | exact hc5 | exact hcl') (first | (go_at_call 20; refine hdel.mono ?_; rintro e w5 ⟨rfl, hT5, o5⟩; have hB5 := hB4'.only o5 hapart; have hc5 := hB5.cell (hc_at hh)))
          have hf5 := hB5.frozen k
          have hT6 := hT5.turn (only_set w5 ⟨L, k, none⟩ (.int .i64 0)) (fun x hx => by have hx : x = L := hx; rw [hx]; exact hLb)
          have hB6 : Blk (w5.setCell ⟨L, k, none⟩ (.int .i64 0)) L 40 (hc (hs.set k 0)) := by rw [hc_set]; exact hB5.set k _
          have HT6 := hid hT6
          have HB6 := hid hB6
          clear hdel hapart hT5 o5 hB5 hT6 hB6 hB4'
          generalize s.del K = s1 at *
          have hg := has_get HT6.out K (by omega)
          rw [hgs] at hg
          have hl : ∀ w7, Hid (HasT w1 P s1 (fun x => x = L) w7) → Hid (Calls Try.prog 12 #[.pointer (some ⟨P, 0, none⟩)] w7 fun e w' => e = .returned (.int .i64 s1.cnt) ∧ w7 = w') := fun w7 h7 => hid (len_any h7.out.tm)
          rw [hcnt] at hl
          go_wp2_with fail
          refine hg.mono ?_
          rintro e w7 ⟨rfl, hT7, b7⟩
          have HT7 := hid hT7
          have HB7 := hid (HB6.out.below b7)
          have hl7 := hl w7 HT7
          have hc7 := HB7.out.cell (hc_at hat)
          clear hg hl hT7 b7 HT6 HB6
          go_wp2_with fail
          refine hl7.out.mono ?_
          rintro e w8 ⟨rfl, rfl⟩
          go_wp2_with fail
          go_roundw
          case rel => exact ⟨i + 1, s1, hs.set k 0, by go_num, by rw [hcnt]; go_num, by omega, by omega, by omega, HM6, HB7, HT7⟩
          case measure => simp [RowKit.intOf] <;> omega
      · have hst := has_step hT4
        have hcnt := hT4.ok.cnt_step
        have HM6 : Hid (Me s.step hs) := hid (hM.out.step hT.out.ok)
        have hapart := (hT4.apart L rfl).2
        have hgs : s.step.get K = said h := by rw [hT4.ok.get_step, hgK]
        rw [hN] at hcnt
        clear hT4 hM hT hB
        go_wp2_with fail
        refine hst.mono ?_
        rintro e w5 ⟨rfl, hT5, o5⟩
        have HB6 := hid (hB4.only o5 hapart)
        have HT6 := hid hT5
        generalize s.step = s1 at *
        clear hst o5 hT5 hB4 hapart
        rcases Nat.eq_zero_or_pos h with h0 | h0
        · subst h0
          rw [show said 0 = none from rfl] at hgs
          have hg := has_get HT6.out K (by omega)
          rw [hgs] at hg
          have hl : ∀ w7, Hid (HasT w1 P s1 (fun x => x = L) w7) → Hid (Calls Try.prog 12 #[.pointer (some ⟨P, 0, none⟩)] w7 fun e w' => e = .returned (.int .i64 s1.cnt) ∧ w7 = w') := fun w7 h7 => hid (len_any h7.out.tm)
          rw [hcnt] at hl
          go_wp2_with fail
          refine hg.mono ?_
          rintro e w7 ⟨rfl, hT7, b7⟩
          have HT7 := hid hT7
          have HB7 := hid (HB6.out.below b7)
          have hl7 := hl w7 HT7
          have hc7 := HB7.out.cell (hc_at hh)
          clear hg hl hT7 b7 HT6 HB6
          go_wp2_with fail
          refine hl7.out.mono ?_
          rintro e w8 ⟨rfl, rfl⟩
          go_wp2_with fail
          go_roundw
          case rel => exact ⟨i + 1, s1, hs, by go_num, by rw [hcnt], by omega, by omega, by omega, HM6, HB7, HT7⟩
          case measure => simp [RowKit.intOf] <;> omega
        · have h0i : (0 : Int) < (h : Int) := by omega
          rw [show said h = some ((h : Int) - 1) by unfold said; rw [if_neg (by omega)]] at hgs
          have hg := has_get HT6.out K (by omega)
          rw [hgs] at hg
          have hl : ∀ w7, Hid (HasT w1 P s1 (fun x => x = L) w7) → Hid (Calls Try.prog 12 #[.pointer (some ⟨P, 0, none⟩)] w7 fun e w' => e = .returned (.int .i64 s1.cnt) ∧ w7 = w') := fun w7 h7 => hid (len_any h7.out.tm)
          rw [hcnt] at hl
          go_wp2_with fail
          refine hg.mono ?_
          rintro e w7 ⟨rfl, hT7, b7⟩
          have HT7 := hid hT7
          have HB7 := hid (HB6.out.below b7)
          have hl7 := hl w7 HT7
          have hc7 := HB7.out.cell (hc_at hh)
          clear hg hl hT7 b7 HT6 HB6
          go_wp2_with fail
          refine hl7.out.mono ?_
          rintro e w8 ⟨rfl, rfl⟩
          go_wp2_with fail
          go_roundw
          case rel => exact ⟨i + 1, s1, hs, by go_num, by rw [hcnt], by omega, by omega, by omega, HM6, HB7, HT7⟩
          case measure => simp [RowKit.intOf] <;> omega
    · have hcase : i = n ∨ (i < n ∧ i = 600) := by omega
      clear hlt
      rcases hcase with h0 | ⟨h0, h1⟩
      · have h0' : (n : Int) ≤ (i : Int) := by omega
        clear h0 hin
        have hks := keys_see hT.out.tm hT.out.ok.mid (by rw [← hT.out.ok.cnt]; omega)
        have htm := hT.out.ok.times
        have hN : (s.ents.map En.k).length = s.cnt := by rw [List.length_map, hT.out.ok.cnt]
        generalize s.ents.map En.k = xs at *
        generalize s.cnt = N at *
        go_wp2_with fail
        refine hks.mono ?_
        rintro e w6 ⟨v6, rfl, o6, b6⟩
        obtain ⟨a6, c6, rfl⟩ := row_form o6
        have hrd : ∀ q y, xs[q]? = some y → ∃ g, a6 = some ⟨g, 0, none⟩ ∧ g < w6.heap.size ∧ w6.cell? ⟨g, q, none⟩ = some (.string y) := fun q y hq => by
          have hql : q < xs.length := (List.getElem?_eq_some_iff.1 hq).1
          rcases o6.2 with ⟨h1, h2⟩ | ⟨g, cap, cur, h1, -⟩
          · omega
          · obtain ⟨rfl, -⟩ : a6 = some ⟨g, 0, none⟩ ∧ c6 = cap := by simpa using h1
            have h3 := o6.cellAt q (by omega)
            have h4 : (kc xs)[q]? = some (.string y) := by simp [kc, hq]
            rw [h4] at h3
            exact ⟨g, rfl, cell_lt h3, h3⟩
        have HT6 := hid (hT.out.after b6)
        have HB6 := hid (hB.out.below b6)
        rw [hN] at o6 htm
        have hNx : xs.length = N := hN
        clear hks hT hB o6 b6 hN
        rw [hNx]
        go_wp2_with fail
        go_loopw [13] (fun p wr => ∃ k : Nat, p = .int .i64 k ∧ k ≤ 256 ∧ Below w6.heap.size w6 wr) (fun p _ => 256 - (RowKit.intOf p).toNat)
        case atStart => exact ⟨0, rfl, Nat.zero_le _, Below.refl _ _⟩
        case round =>
          obtain ⟨k, rfl, hk, hb⟩ := hrel
          by_cases hlt : k < 256
          · have hki : (k : Int) < 256 := by omega
            have hcv := conv_pair (97 + k / 16) (97 + k % 16) (by omega) (by omega)
            have e1 : ((97 + k / 16 : Nat) : Int) = 97 + (k : Int) / 16 := by omega
            have e2 : ((97 + k % 16 : Nat) : Int) = 97 + (k : Int) % 16 := by omega
            rw [e1, e2] at hcv
            clear e1 e2
            have hsz : (two (97 + k / 16) (97 + k % 16)).size = 2 := rfl
            have hkey : mkey k = ⟨#[107]⟩ ++ two (97 + k / 16) (97 + k % 16) := rfl
            obtain ⟨h, hh, h6, hgk⟩ := hM.out.at hlt
            have ht := htm (mkey k)
            rw [hgk] at ht
            have hKs : (mkey k).size = 3 := mkey_size k
            have hbA : Below w6.heap.size w6 (wr.alloc (Obj.cells #[Value.int IntKind.u8 (97 + (k : Int) / 16), Value.int IntKind.u8 (97 + (k : Int) % 16)] 5)) := hb.alloc hb.size _
            have hg := has_get (HT6.out.after hbA) (mkey k) (by omega)
            rw [hgk] at hg
            have HK := hid hkey
            clear hgk
            generalize mkey k = K at *
            rw [hkey] at hg
            clear hkey
            generalize two (97 + k / 16) (97 + k % 16) = X at *
            rcases Nat.eq_zero_or_pos h with h0 | h0
            · subst h0
              rw [if_pos (show said 0 = none from rfl)] at ht
              rw [show said 0 = none from rfl] at hg
              go_wp2_with fail
              refine hg.mono ?_
              rintro e w7 ⟨rfl, hT7, b7⟩
              have hb7 := hbA.trans (b7.mono hbA.size)
              have hc7 := (HB6.out.below hb7).cell (hc_at hh)
              clear hg hT7 hcv hbA b7
              go_wp2_with fail
              rw [← HK.out]
              clear HK hsz
              go_loop [17, 18] (fun t q => ∃ j : Nat, q = .int .i64 j ∧ t = .int .i64 (cn K xs j) ∧ j ≤ N) (fun _ q => N - (RowKit.intOf q).toNat)
              case atStart => exact ⟨0, rfl, rfl, Nat.zero_le _⟩
              case round =>
                obtain ⟨j, rfl, rfl, hj⟩ := hrel
                by_cases hjl : j < N
                · obtain ⟨y, hy⟩ : ∃ y, xs[j]? = some y := ⟨_, List.getElem?_eq_getElem (by omega)⟩
                  obtain ⟨g, rfl, hgl, hcy⟩ := hrd j y hy
                  have hcy7 := (hb7.cell (p := ⟨g, j, none⟩) hgl).trans hcy
                  have hS := hid (cn_succ (x := K) hy)
                  have hle := cn_le K xs j
                  have hN6 : N ≤ 600 := by omega
                  clear hcy hy hrd
                  generalize cn K xs j = C at *
                  by_cases hyk : y = K
                  · have hq : (y.toList == K.toList) = true := (str_eq y K).2 hyk
                    have hS' : Hid (cn K xs (j + 1) = C + 1) := hid (by rw [hS.out, if_pos hyk])
                    clear hyk hS
                    go_wp2_with fail
                    go_round
                    case rel => exact ⟨j + 1, by go_num, by rw [hS'.out]; go_num, by omega⟩
                    case measure => simp [RowKit.intOf] <;> omega
                  · have hq : (y.toList == K.toList) = false := Bool.eq_false_iff.2 (fun e => hyk ((str_eq y K).1 e))
                    have hS' : Hid (cn K xs (j + 1) = C) := hid (by rw [hS.out, if_neg hyk])
                    clear hyk hS
                    go_wp2_with fail
                    go_round
                    case rel => exact ⟨j + 1, by go_num, by rw [hS'.out], by omega⟩
                    case measure => simp [RowKit.intOf] <;> omega
                · obtain rfl : j = N := by omega
                  rw [ht]
                  clear hrd hjl
                  go_wp2_with fail
                  go_roundw
                  case rel => exact ⟨k + 1, by go_num, by omega, hb7⟩
                  case measure => simp [RowKit.intOf] <;> omega
            · have h0i : (0 : Int) < (h : Int) := by omega
              have hsa : said h = some ((h : Int) - 1) := by unfold said; rw [if_neg (by omega)]
              rw [if_neg (by rw [hsa]; simp)] at ht
              rw [hsa] at hg
              go_wp2_with fail
              refine hg.mono ?_
              rintro e w7 ⟨rfl, hT7, b7⟩
              have hb7 := hbA.trans (b7.mono hbA.size)
              have hc7 := (HB6.out.below hb7).cell (hc_at hh)
              clear hg hT7 hcv hbA b7
              go_wp2_with fail
              rw [← HK.out]
              clear HK hsz
              go_loop [17, 18] (fun t q => ∃ j : Nat, q = .int .i64 j ∧ t = .int .i64 (cn K xs j) ∧ j ≤ N) (fun _ q => N - (RowKit.intOf q).toNat)
              case atStart => exact ⟨0, rfl, rfl, Nat.zero_le _⟩
              case round =>
                obtain ⟨j, rfl, rfl, hj⟩ := hrel
                by_cases hjl : j < N
                · obtain ⟨y, hy⟩ : ∃ y, xs[j]? = some y := ⟨_, List.getElem?_eq_getElem (by omega)⟩
                  obtain ⟨g, rfl, hgl, hcy⟩ := hrd j y hy
                  have hcy7 := (hb7.cell (p := ⟨g, j, none⟩) hgl).trans hcy
                  have hS := hid (cn_succ (x := K) hy)
                  have hle := cn_le K xs j
                  have hN6 : N ≤ 600 := by omega
                  clear hcy hy hrd
                  generalize cn K xs j = C at *
                  by_cases hyk : y = K
                  · have hq : (y.toList == K.toList) = true := (str_eq y K).2 hyk
                    have hS' : Hid (cn K xs (j + 1) = C + 1) := hid (by rw [hS.out, if_pos hyk])
                    clear hyk hS
                    go_wp2_with fail
                    go_round
                    case rel => exact ⟨j + 1, by go_num, by rw [hS'.out]; go_num, by omega⟩
                    case measure => simp [RowKit.intOf] <;> omega
                  · have hq : (y.toList == K.toList) = false := Bool.eq_false_iff.2 (fun e => hyk ((str_eq y K).1 e))
                    have hS' : Hid (cn K xs (j + 1) = C) := hid (by rw [hS.out, if_neg hyk])
                    clear hyk hS
                    go_wp2_with fail
                    go_round
                    case rel => exact ⟨j + 1, by go_num, by rw [hS'.out], by omega⟩
                    case measure => simp [RowKit.intOf] <;> omega
                · obtain rfl : j = N := by omega
                  rw [ht]
                  clear hrd hjl
                  go_wp2_with fail
                  go_roundw
                  case rel => exact ⟨k + 1, by go_num, by omega, hb7⟩
                  case measure => simp [RowKit.intOf] <;> omega
          · obtain rfl : k = 256 := by omega
            go_wp2_with fail
            go_ret
            exact ⟨rfl, Below.then b1 (HT6.out.after hb).below⟩
      · have h0' : (i : Int) < (n : Int) := by omega
        have h1' : (600 : Int) ≤ (i : Int) := by omega
        clear h0 h1 hin
        have hks := keys_see hT.out.tm hT.out.ok.mid (by rw [← hT.out.ok.cnt]; omega)
        have htm := hT.out.ok.times
        have hN : (s.ents.map En.k).length = s.cnt := by rw [List.length_map, hT.out.ok.cnt]
        generalize s.ents.map En.k = xs at *
        generalize s.cnt = N at *
        go_wp2_with fail
        refine hks.mono ?_
        rintro e w6 ⟨v6, rfl, o6, b6⟩
        obtain ⟨a6, c6, rfl⟩ := row_form o6
        have hrd : ∀ q y, xs[q]? = some y → ∃ g, a6 = some ⟨g, 0, none⟩ ∧ g < w6.heap.size ∧ w6.cell? ⟨g, q, none⟩ = some (.string y) := fun q y hq => by
          have hql : q < xs.length := (List.getElem?_eq_some_iff.1 hq).1
          rcases o6.2 with ⟨h1, h2⟩ | ⟨g, cap, cur, h1, -⟩
          · omega
          · obtain ⟨rfl, -⟩ : a6 = some ⟨g, 0, none⟩ ∧ c6 = cap := by simpa using h1
            have h3 := o6.cellAt q (by omega)
            have h4 : (kc xs)[q]? = some (.string y) := by simp [kc, hq]
            rw [h4] at h3
            exact ⟨g, rfl, cell_lt h3, h3⟩
        have HT6 := hid (hT.out.after b6)
        have HB6 := hid (hB.out.below b6)
        rw [hN] at o6 htm
        have hNx : xs.length = N := hN
        clear hks hT hB o6 b6 hN
        rw [hNx]
        go_wp2_with fail
        go_loopw [13] (fun p wr => ∃ k : Nat, p = .int .i64 k ∧ k ≤ 256 ∧ Below w6.heap.size w6 wr) (fun p _ => 256 - (RowKit.intOf p).toNat)
        case atStart => exact ⟨0, rfl, Nat.zero_le _, Below.refl _ _⟩
        case round =>
          obtain ⟨k, rfl, hk, hb⟩ := hrel
          by_cases hlt : k < 256
          · have hki : (k : Int) < 256 := by omega
            have hcv := conv_pair (97 + k / 16) (97 + k % 16) (by omega) (by omega)
            have e1 : ((97 + k / 16 : Nat) : Int) = 97 + (k : Int) / 16 := by omega
            have e2 : ((97 + k % 16 : Nat) : Int) = 97 + (k : Int) % 16 := by omega
            rw [e1, e2] at hcv
            clear e1 e2
            have hsz : (two (97 + k / 16) (97 + k % 16)).size = 2 := rfl
            have hkey : mkey k = ⟨#[107]⟩ ++ two (97 + k / 16) (97 + k % 16) := rfl
            obtain ⟨h, hh, h6, hgk⟩ := hM.out.at hlt
            have ht := htm (mkey k)
            rw [hgk] at ht
            have hKs : (mkey k).size = 3 := mkey_size k
            have hbA : Below w6.heap.size w6 (wr.alloc (Obj.cells #[Value.int IntKind.u8 (97 + (k : Int) / 16), Value.int IntKind.u8 (97 + (k : Int) % 16)] 5)) := hb.alloc hb.size _
            have hg := has_get (HT6.out.after hbA) (mkey k) (by omega)
            rw [hgk] at hg
            have HK := hid hkey
            clear hgk
            generalize mkey k = K at *
            rw [hkey] at hg
            clear hkey
            generalize two (97 + k / 16) (97 + k % 16) = X at *
            rcases Nat.eq_zero_or_pos h with h0 | h0
            · subst h0
              rw [if_pos (show said 0 = none from rfl)] at ht
              rw [show said 0 = none from rfl] at hg
              go_wp2_with fail
              refine hg.mono ?_
              rintro e w7 ⟨rfl, hT7, b7⟩
              have hb7 := hbA.trans (b7.mono hbA.size)
              have hc7 := (HB6.out.below hb7).cell (hc_at hh)
              clear hg hT7 hcv hbA b7
              go_wp2_with fail
              rw [← HK.out]
              clear HK hsz
              go_loop [17, 18] (fun t q => ∃ j : Nat, q = .int .i64 j ∧ t = .int .i64 (cn K xs j) ∧ j ≤ N) (fun _ q => N - (RowKit.intOf q).toNat)
              case atStart => exact ⟨0, rfl, rfl, Nat.zero_le _⟩
              case round =>
                obtain ⟨j, rfl, rfl, hj⟩ := hrel
                by_cases hjl : j < N
                · obtain ⟨y, hy⟩ : ∃ y, xs[j]? = some y := ⟨_, List.getElem?_eq_getElem (by omega)⟩
                  obtain ⟨g, rfl, hgl, hcy⟩ := hrd j y hy
                  have hcy7 := (hb7.cell (p := ⟨g, j, none⟩) hgl).trans hcy
                  have hS := hid (cn_succ (x := K) hy)
                  have hle := cn_le K xs j
                  have hN6 : N ≤ 600 := by omega
                  clear hcy hy hrd
                  generalize cn K xs j = C at *
                  by_cases hyk : y = K
                  · have hq : (y.toList == K.toList) = true := (str_eq y K).2 hyk
                    have hS' : Hid (cn K xs (j + 1) = C + 1) := hid (by rw [hS.out, if_pos hyk])
                    clear hyk hS
                    go_wp2_with fail
                    go_round
                    case rel => exact ⟨j + 1, by go_num, by rw [hS'.out]; go_num, by omega⟩
                    case measure => simp [RowKit.intOf] <;> omega
                  · have hq : (y.toList == K.toList) = false := Bool.eq_false_iff.2 (fun e => hyk ((str_eq y K).1 e))
                    have hS' : Hid (cn K xs (j + 1) = C) := hid (by rw [hS.out, if_neg hyk])
                    clear hyk hS
                    go_wp2_with fail
                    go_round
                    case rel => exact ⟨j + 1, by go_num, by rw [hS'.out], by omega⟩
                    case measure => simp [RowKit.intOf] <;> omega
                · obtain rfl : j = N := by omega
                  rw [ht]
                  clear hrd hjl
                  go_wp2_with fail
                  go_roundw
                  case rel => exact ⟨k + 1, by go_num, by omega, hb7⟩
                  case measure => simp [RowKit.intOf] <;> omega
            · have h0i : (0 : Int) < (h : Int) := by omega
              have hsa : said h = some ((h : Int) - 1) := by unfold said; rw [if_neg (by omega)]
              rw [if_neg (by rw [hsa]; simp)] at ht
              rw [hsa] at hg
              go_wp2_with fail
              refine hg.mono ?_
              rintro e w7 ⟨rfl, hT7, b7⟩
              have hb7 := hbA.trans (b7.mono hbA.size)
              have hc7 := (HB6.out.below hb7).cell (hc_at hh)
              clear hg hT7 hcv hbA b7
              go_wp2_with fail
              rw [← HK.out]
              clear HK hsz
              go_loop [17, 18] (fun t q => ∃ j : Nat, q = .int .i64 j ∧ t = .int .i64 (cn K xs j) ∧ j ≤ N) (fun _ q => N - (RowKit.intOf q).toNat)
              case atStart => exact ⟨0, rfl, rfl, Nat.zero_le _⟩
              case round =>
                obtain ⟨j, rfl, rfl, hj⟩ := hrel
                by_cases hjl : j < N
                · obtain ⟨y, hy⟩ : ∃ y, xs[j]? = some y := ⟨_, List.getElem?_eq_getElem (by omega)⟩
                  obtain ⟨g, rfl, hgl, hcy⟩ := hrd j y hy
                  have hcy7 := (hb7.cell (p := ⟨g, j, none⟩) hgl).trans hcy
                  have hS := hid (cn_succ (x := K) hy)
                  have hle := cn_le K xs j
                  have hN6 : N ≤ 600 := by omega
                  clear hcy hy hrd
                  generalize cn K xs j = C at *
                  by_cases hyk : y = K
                  · have hq : (y.toList == K.toList) = true := (str_eq y K).2 hyk
                    have hS' : Hid (cn K xs (j + 1) = C + 1) := hid (by rw [hS.out, if_pos hyk])
                    clear hyk hS
                    go_wp2_with fail
                    go_round
                    case rel => exact ⟨j + 1, by go_num, by rw [hS'.out]; go_num, by omega⟩
                    case measure => simp [RowKit.intOf] <;> omega
                  · have hq : (y.toList == K.toList) = false := Bool.eq_false_iff.2 (fun e => hyk ((str_eq y K).1 e))
                    have hS' : Hid (cn K xs (j + 1) = C) := hid (by rw [hS.out, if_neg hyk])
                    clear hyk hS
                    go_wp2_with fail
                    go_round
                    case rel => exact ⟨j + 1, by go_num, by rw [hS'.out], by omega⟩
                    case measure => simp [RowKit.intOf] <;> omega
                · obtain rfl : j = N := by omega
                  rw [ht]
                  clear hrd hjl
                  go_wp2_with fail
                  go_roundw
                  case rel => exact ⟨k + 1, by go_num, by omega, hb7⟩
                  case measure => simp [RowKit.intOf] <;> omega
          · obtain rfl : k = 256 := by omega
            go_wp2_with fail
            go_ret
            exact ⟨rfl, Below.then b1 (HT6.out.after hb).below⟩
end Go.Proofs.Ytfbkfbghejeknaa

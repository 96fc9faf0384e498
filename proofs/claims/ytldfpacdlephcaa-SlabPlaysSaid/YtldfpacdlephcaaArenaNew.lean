/-
  math/bits.Mul at 1, slices.Repeat of one -1, and arena.New at this program. No conditions but the numbers' bounds.
-/
import Derived.Test.YtldfpacdlephcaaArenaB
import Derived.BigRegion
import Derived.Deep.RegionLaw
import Derived.Laws.BitsLemmas
namespace Go.Proofs.Ytldfpacdlephcaa
open Go Go.RowKit Go.Lib

theorem wraps_u64 (n : Int) (h₀ : 0 ≤ n) (h₁ : n < 2 ^ 64) : IntKind.u64.wrap n = n := by rw [IntKind.wrap_u64]; omega
theorem mask32 (n : Nat) (h : n ≤ 1024) : bits .and .u64 (n : Int) 4294967295 = (n : Int) := by
  have := bits_mask .u64 64 (by decide) wraps_u64 32 (by decide) (n : Int) (by omega) (by omega)
  rw [show ((2 : Int) ^ 32 - 1) = 4294967295 from rfl] at this
  rw [this]; omega
theorem mask32_0 : bits .and .u64 0 4294967295 = 0 := mask32 0 (by decide)
theorem mask32_1 : bits .and .u64 1 4294967295 = 1 := mask32 1 (by decide)

set_option maxHeartbeats 1000000 in
set_option maxRecDepth 100000 in
theorem mul64_one (n : Nat) (hn : n ≤ 1024) (w : World) :
    Calls Try.prog 79 #[.int .u64 1, .int .u64 n] w fun e w' => e = .returned (.tuple #[.int .u64 0, .int .u64 n]) ∧ w = w' := by
  have h1 := mask32 n hn
  have h2 := mask32_0
  have h3 := mask32_1
  have h4 : (n : Int) / 4294967296 = 0 := by omega
  go_enter Try.func79, Try.ntmps79
  go_wp2_with fail
  go_ret2
  exact ⟨rfl, rfl⟩

set_option maxHeartbeats 1000000 in
set_option maxRecDepth 100000 in
theorem mul_one (n : Nat) (hn : n ≤ 1024) (w : World) :
    Calls Try.prog 59 #[.int .u64 1, .int .u64 n] w fun e w' => e = .returned (.tuple #[.int .u64 0, .int .u64 n]) ∧ w = w' := by
  have hm := fun w => mul64_one n hn w
  go_enter Try.func59, Try.ntmps59
  go_wp2_with fail
  refine (hm _).mono ?_
  rintro e w' ⟨rfl, rfl⟩
  clear hm
  go_wp2_with fail
  go_ret2
  exact ⟨rfl, rfl⟩

theorem infoInt : (Try.prog.info? 3).map (fun i => (i.zero, i.size, i.bytes)) = some (some (.int .i64 0), 1, 8) := by kernel_rfl
theorem infoByte : (Try.prog.info? 5).map (fun i => (i.zero, i.size, i.bytes)) = some (some (.int .u8 0), 1, 1) := by kernel_rfl
theorem sizeInt : (Try.prog.info? 3).map (·.size) = some 1 := by kernel_rfl
theorem sizeByte : (Try.prog.info? 5).map (·.size) = some 1 := by kernel_rfl

theorem blk_of_full {w : World} {base g n : Nat} {e : TypeId} {xs : List Value} (h : w.ownsRow base e 1 (.slice (some ⟨g, 0, none⟩) n n) n xs) : Blk w g e xs := by
  rcases h.2 with ⟨h1, _⟩ | ⟨g', cap, cur, hv, hb, hg, h1, h2, h3, h4⟩
  · cases h1
  · cases hv
    unfold Blk
    rw [Nat.mul_one] at h3 h4
    rw [List.take_of_length_le (by simp [h3])] at h4
    rw [← h4]; simpa using hg
theorem below_of_grown {w w' : World} (h : w.grownBy w' none) : Below w.heap.size w w' := ⟨h.os, h.tape, h.output, h.size, fun k hk => h.block k hk (by simp)⟩

/-- The row while it is filled: k of n are -1. -/
def fillOf (n k : Nat) : List Int := List.replicate k (-1) ++ List.replicate (n - k) 0
theorem fill_len {n k : Nat} (h : k ≤ n) : (fillOf n k).length = n := by simp [fillOf]; omega
theorem fill_all (n : Nat) : fillOf n n = List.replicate n (-1) := by simp [fillOf]
theorem fill_at {n k : Nat} (_ : k ≤ n) (j : Nat) : (ic (fillOf n k))[j]? = if j < k then some (.int .i64 (-1)) else if j < n then some (.int .i64 0) else none := by
  unfold fillOf ic
  simp only [List.map_append, List.map_replicate, List.getElem?_append, List.length_replicate, List.getElem?_replicate]
  by_cases h1 : j < k
  · simp [h1]
  · by_cases h2 : j < n
    · simp [h1, h2]; omega
    · simp [h1, h2]; omega
theorem fill_step {n k m : Nat} (h : k + m ≤ n) : splice (ic (fillOf n k)) k (ic (List.replicate m (-1))) = ic (fillOf n (k + m)) := by
  apply List.ext_getElem?
  intro j
  rw [splice_at (by rw [ic_len, ic_len, fill_len (by omega), List.length_replicate]; exact h), fill_at (by omega), fill_at h, ic_len, List.length_replicate]
  by_cases h1 : j < k
  · rw [if_pos h1, if_pos h1, if_pos (by omega)]
  · rw [if_neg h1, if_neg h1]
    by_cases h2 : j < k + m
    · rw [if_pos h2, if_pos h2, ic_at (z := -1)]
      rw [List.getElem?_replicate, if_pos (by omega)]
    · rw [if_neg h2, if_neg h2]
theorem fill_zero (n : Nat) : (madeCells (Value.int .i64 0).cells (n * 1)).toList = ic (fillOf n 0) := by
  rw [made_cells _ _ rfl]; simp [fillOf, ic]

theorem fill_one {n : Nat} (h : 1 ≤ n) : splice (ic (fillOf n 0)) 0 (ic [-1]) = ic (fillOf n 1) := by
  have := fill_step (n := n) (k := 0) (m := 1) (by omega)
  exact this
theorem one_src {w : World} {X : Nat} (h : w.cell? ⟨X, 0, none⟩ = some (.int .i64 (-1))) : ∀ j v, (ic [-1])[j]? = some v → w.cell? ((⟨X, 0, none⟩ : Addr).add j) = some v := by
  intro j v hj
  match j, hj with
  | 0, hj => simp [ic] at hj; subst hj; simpa [Addr.add] using h
  | j + 1, hj => simp [ic] at hj

theorem fill_src {w : World} {O n k m : Nat} (h : Blk w O 3 (ic (fillOf n k))) (hm : m ≤ k) (hk : k ≤ n) : ∀ j v, (ic (List.replicate m (-1)))[j]? = some v → w.drew.cell? ((⟨O, 0, none⟩ : Addr).add j) = some v := by
  intro j v hj
  have hjm : j < m := by
    have := (List.getElem?_eq_some_iff.1 hj).1
    rwa [ic_len, List.length_replicate] at this
  rw [ic_at (z := -1) (by rw [List.getElem?_replicate, if_pos hjm])] at hj
  rw [addr_plain, Nat.zero_add]
  exact h.drew.cell (by rw [fill_at hk, if_pos (by omega)]; exact hj)

set_option maxHeartbeats 1000000 in
set_option maxRecDepth 100000 in
theorem repeat_one (X : Nat) (n : Nat) (h1 : 1 ≤ n) (hn : n ≤ 1024) (w : World) (hX : w.cell? ⟨X, 0, none⟩ = some (.int .i64 (-1))) (hlt : X < w.heap.size) :
    Calls Try.prog 29 #[.slice (some ⟨X, 0, none⟩) 1 1, .int .i64 n] w fun e w' => ∃ O, e = .returned (.slice (some ⟨O, 0, none⟩) n n) ∧ w.heap.size ≤ O ∧ Blk w' O 3 (ic (List.replicate n (-1))) ∧ Below w.heap.size w w' := by
  obtain ⟨i0, hi, hz0, hz1, hz2⟩ := info_parts infoInt
  have hm := fun w => mul_one n hn w
  have g1 : (1 : Int) ≤ (n : Int) := by omega
  have g2 : (n : Int) ≤ 1024 := by omega
  go_enter Try.func29, Try.ntmps29
  go_wp2_with fail
  refine (hm _).mono ?_
  rintro e w1 ⟨rfl, rfl⟩
  clear hm
  go_wp2_with (first
    | (at_make; refine wpList_make_full _ rfl _ _ 22 rfl w.heap.size 3 i0 (.int .i64 0) 1 Try.underlying22 hi hz0 hz1 .i64 .i64 _ _ n rfl rfl (by omega) (by omega) (by rw [hz2]; omega) (by unfold maxLen; omega) (Nat.le_refl _) ?_; intro w2 hown hgrow; rw [fill_zero] at hown; have hB0 := hid (blk_of_full hown); have hb0 := below_of_grown hgrow; have hX2 := hid ((hb0.cell (p := ⟨X, 0, none⟩) hlt).trans hX); clear hown hgrow)
    | (refine wpList_copy_splice rfl (.tmp 31) (.tmp 32) 22 22 rfl 3 Try.underlying22 sizeInt (some ⟨w.heap.size, 0, none⟩) (some ⟨X, 0, none⟩) n n 1 1 rfl rfl w.heap.size 0 (ic (fillOf n 0)) 3 hB0.out (ic [-1]) (Nat.min_eq_left h1).symm (fun _ => ⟨rfl, ⟨X, 0, none⟩, rfl, one_src hX2.out⟩) (by rw [ic_len, ic_len, fill_len (Nat.zero_le _)]; simpa using h1) (ic_ok _) w.heap.size w hb0 (Nat.le_refl _) ?_; intro w3 hB1 hb1))
  have hB2 : Blk w3 w.heap.size 3 (ic (fillOf n 1)) := by
    have h := hB1.out
    rw [fill_one h1] at h; exact h
  clear hB0 hb0 hX2 hB1
  go_wp2_with fail
  go_loopw [8] (fun z wr => ∃ k : Nat, 1 ≤ k ∧ k ≤ n ∧ z = .int .i64 k ∧ Hid (Blk wr w.heap.size 3 (ic (fillOf n k))) ∧ Below w.heap.size w wr) (fun z _ => n - (intOf z).toNat)
  case atStart => exact ⟨1, by omega, h1, rfl, hid hB2, hb1⟩
  case round =>
    obtain ⟨k, hk1, hk, rfl, HB, hb⟩ := hrel
    clear hB2 hb1
    by_cases hlt : k < n
    · have ilt : (k : Int) < (n : Int) := by omega
      obtain ⟨m, hm⟩ : ∃ m, m = Nat.min k (n - k) := ⟨_, rfl⟩
      have hm1 : m ≤ k ∧ m ≤ n - k ∧ 0 < m := by rw [hm]; simp only [Nat.min_def]; split <;> omega
      obtain ⟨cs, hcs⟩ : ∃ cs, cs = ic (List.replicate m (-1)) := ⟨_, rfl⟩
      have hcl : cs.length = m := by rw [hcs, ic_len, List.length_replicate]
      have HM : Hid (cs.length = Nat.min k (n - k)) := hid (hcl.trans hm)
      have HS := hid (fill_src HB.out hm1.1 hk)
      have HF := hid (fill_step (n := n) (k := k) (m := m) (by omega))
      have HO := hid (ic_ok (List.replicate m (-1)))
      have HT : Hid (k + cs.length ≤ (ic (fillOf n k)).length) := hid (by rw [ic_len, fill_len hk, hcl]; omega)
      rw [← hcs] at HS HF HO
      have hnk : ¬ n = k := by omega
      have hwr : IntKind.i64.wrap ((k : Int) + (m : Int)) = (k : Int) + (m : Int) := by rw [IntKind.wrap_i64]; omega
      clear hm hcs
      go_wp2_with fail
      go_region_law (refine step_copy_splice rfl (.tmp 41) (.tmp 44) 22 22 rfl 3 Try.underlying22 sizeInt (some ⟨w.heap.size, k, none⟩) (some ⟨w.heap.size, 0, none⟩) (n - k) (n - k) k n (by simp [Act.eval, Act.put]) (by simp [Act.eval, Act.put]) w.heap.size k (ic (fillOf n k)) 3 HB.out.drew cs HM.out (fun _ => ⟨rfl, ⟨w.heap.size, 0, none⟩, rfl, HS.out⟩) HT.out HO.out w.heap.size w hb.drew (Nat.le_refl _) ?_; intro w4 hg4 hb4)
      have HB4 : Hid (Blk w4 w.heap.size 3 (ic (fillOf n (k + m)))) := hid (by
        have h := hg4.out
        rw [HF.out] at h; exact h)
      clear hg4 HF HS HO HT HM HB hb
      go_simp
      go_roundw
      case rel => first | exact ⟨k + m, by omega, by omega, by go_num, HB4, hb4⟩ | ((repeat apply Exists.intro); exact ⟨⟨k + m, by omega, by omega, by go_num, HB4, hb4⟩, rfl⟩)
      case measure => simp [intOf] <;> omega
    · obtain rfl : k = n := by omega
      go_wp2_with fail
      go_ret
      refine ⟨_, rfl, Nat.le_refl _, ?_, hb⟩
      have h := HB.out
      rw [fill_all] at h; exact h

/-- May a page have so many bytes? -/
def pageB (n : Int) : Bool := decide (512 ≤ n ∧ n ≤ 65536 ∧ n % 8 = 0)

set_option maxRecDepth 100000 in
theorem isPage_any (n : Int) (w : World) : Calls Try.prog 28 #[.int .i64 n] w fun e w' => e = .returned (.bool (pageB n)) ∧ w = w' := by
  obtain ⟨b, hb⟩ : ∃ b, b = pageB n := ⟨_, rfl⟩
  rw [← hb]
  unfold pageB at hb
  by_cases h1 : 512 ≤ n
  · by_cases h2 : n ≤ 65536
    · by_cases h3 : n % 8 = 0
      · obtain rfl : b = true := by rw [hb]; simp [h1, h2, h3]
        clear hb
        go_enter Try.func28, Try.ntmps28
        go_wp2
        go_ret
        exact ⟨rfl, rfl⟩
      · have h4 : (n % 8 == 0) = false := by simpa using h3
        obtain rfl : b = false := by rw [hb]; simp [h3]
        clear hb
        go_enter Try.func28, Try.ntmps28
        go_wp2
        go_ret
        exact ⟨rfl, rfl⟩
    · obtain rfl : b = false := by rw [hb]; simp [h2]
      clear hb
      go_enter Try.func28, Try.ntmps28
      go_wp2
      go_ret
      exact ⟨rfl, rfl⟩
  · obtain rfl : b = false := by rw [hb]; simp [h1]
    clear hb
    go_enter Try.func28, Try.ntmps28
    go_wp2
    go_ret
    exact ⟨rfl, rfl⟩

/-- An arena at first: all pages free, of noughts. -/
def newSt (n size : Nat) : St := { size := size, ow := List.replicate n (-1), pg := fun _ => List.replicate size 0 }
theorem newSt_ok {n size : Nat} (n1 : 1 ≤ n) (n2 : n ≤ 1024) (s1 : 512 ≤ size) (s2 : size ≤ 65536) : (newSt n size).Ok := by
  refine ⟨?_, ?_, s1, s2, fun z hz => ?_, fun p _ => ?_⟩
  · simpa [newSt] using n1
  · simpa [newSt] using n2
  · have := List.eq_of_mem_replicate hz; omega
  · simp [newSt]
theorem rows_zero (n size : Nat) : Rows n size (newSt n size).pg (bc (List.replicate (n * size) 0)) := by
  refine ⟨by rw [bc_len, List.length_replicate], fun p i b hp hb => ?_⟩
  have hb' : (List.replicate size (0 : UInt8))[i]? = some b := hb
  rw [List.getElem?_replicate] at hb'
  split at hb'
  · rename_i hi
    cases hb'
    refine bc_at ?_
    rw [List.getElem?_replicate, if_pos]
    calc p * size + i < p * size + size := by omega
      _ = (p + 1) * size := by rw [Nat.add_mul, Nat.one_mul]
      _ ≤ n * size := Nat.mul_le_mul_right _ hp
  · cases hb'
theorem made_bytes (n : Nat) : (madeCells (Value.int .u8 0).cells (n * 1)).toList = bc (List.replicate n 0) := by
  rw [made_cells _ _ rfl]; simp [bc]
theorem mul_bound {n size : Nat} (hn : n ≤ 1024) (hs : size ≤ 65536) : n * size ≤ 67108864 := Nat.mul_le_mul hn hs

theorem new_is {n size M O : Nat} {w1 w2 : World} (n1 : 1 ≤ n) (n2 : n ≤ 1024) (s1 : 512 ≤ size) (s2 : size ≤ 65536) (hM : M = n * size) (hB : Blk w1 O 3 (ic (List.replicate n (-1))))
    (hR : Blk w2 w1.heap.size 5 (bc (List.replicate M 0))) (hb : Below w1.heap.size w1 w2) :
    AIs w2.heap.size O w1.heap.size (newSt n size) (w2.alloc (.cells #[.int .i64 (size : Int), .slice (some ⟨O, 0, none⟩) n n, .slice (some ⟨w1.heap.size, 0, none⟩) M M] 65)) := by
  have l1 := hB.lt
  have l2 := hR.lt
  have hl : (newSt n size).ow.length = n := by simp [newSt]
  refine ⟨newSt_ok n1 n2 s1 s2, by omega, by omega, by omega, ?_, (hB.below hb).alloc _, _, hR.alloc _, ?_⟩
  · rw [hl]
    have := Blk.new w2 #[.int .i64 (size : Int), .slice (some ⟨O, 0, none⟩) n n, .slice (some ⟨w1.heap.size, 0, none⟩) M M] 65
    rw [hM] at this ⊢; exact this
  · rw [hl, hM]; exact rows_zero n size

set_option maxHeartbeats 1000000 in
set_option maxRecDepth 100000 in
theorem new_ok (n size : Nat) (n1 : 1 ≤ n) (n2 : n ≤ 1024) (s1 : 512 ≤ size) (s2 : size ≤ 65536) (hpB : pageB (size : Int) = true) (w : World) :
    Calls Try.prog 9 #[.int .i64 n, .int .i64 size] w fun e w' => ∃ P O R, e = .returned (.tuple #[.pointer (some ⟨P, 0, none⟩), .int .i64 0]) ∧ AIs P O R (newSt n size) w' ∧ Below w.heap.size w w' ∧ w.heap.size ≤ P ∧ w.heap.size ≤ O ∧ w.heap.size ≤ R := by
  obtain ⟨i0, hi, hz0, hz1, hz2⟩ := info_parts infoByte
  have hpg := fun w => isPage_any (size : Int) w
  rw [hpB] at hpg
  have hX0 := (Blk.new w #[.int .i64 (-1)] 3)
  have hrep := repeat_one w.heap.size n n1 n2 (w.alloc (.cells #[.int .i64 (-1)] 3)) (hX0.cell rfl) hX0.lt
  have hw0 := hid ((Below.refl w.heap.size w).alloc (Nat.le_refl _) (.cells #[.int .i64 (-1)] 3))
  obtain ⟨M, hM⟩ : ∃ M, M = n * size := ⟨_, rfl⟩
  have hMb := mul_bound n2 s2
  rw [← hM] at hMb
  have e1 : (n : Int) * (size : Int) = (M : Int) := by rw [hM, Int.natCast_mul]
  have HM := hid hM
  have g1 : (1 : Int) ≤ (n : Int) := by omega
  have g2 : (n : Int) ≤ 1024 := by omega
  clear hpB hX0 hM
  go_enter Try.func9, Try.ntmps9
  go_wp2_with fail
  refine (hpg _).mono ?_
  rintro e w1 ⟨rfl, rfl⟩
  clear hpg
  go_wp2_with fail
  refine hrep.mono ?_
  rintro e w1 ⟨O, rfl, hO, hB, hb⟩
  clear hrep
  have hO2 : w.heap.size + 1 ≤ O := by simpa using hO
  have hb2 : Below w.heap.size w w1 := hw0.out.trans (hb.mono (by simp))
  have HB := hid hB
  clear hO hb hB hw0
  go_wp2_with (at_make; refine wpList_make_full _ rfl _ _ 39 rfl w1.heap.size 5 i0 (.int .u8 0) 1 Try.underlying39 hi hz0 hz1 .i64 .i64 _ _ M rfl rfl (by omega) (by omega) (by rw [hz2]; omega) (by unfold maxLen; omega) (Nat.le_refl _) ?_; intro w2 hown hgrow; rw [made_bytes] at hown; have HR := hid (blk_of_full hown); have hb3 := below_of_grown hgrow; clear hown hgrow)
  go_ret2
  have hsz := hb3.size
  have hb0 := hb2.size
  exact ⟨w2.heap.size, O, w1.heap.size, rfl, new_is n1 n2 s1 s2 HM.out HB.out HR.out hb3, (hb2.trans (hb3.mono hb0)).alloc (by omega) _, by omega, by omega, hb0⟩

set_option maxHeartbeats 1000000 in
set_option maxRecDepth 100000 in
theorem new_bad (n size : Int) (h : (1 ≤ n ∧ n ≤ 1024 ∧ pageB size = true) → False) (w : World) :
    Calls Try.prog 9 #[.int .i64 n, .int .i64 size] w fun e w' => e = .returned (.tuple #[.pointer none, .int .i64 1]) ∧ w = w' := by
  have hpg := fun w => isPage_any size w
  have hcase : n < 1 ∨ (¬ n < 1 ∧ 1024 < n) ∨ (1 ≤ n ∧ n ≤ 1024 ∧ pageB size = false) := by
    cases hp : pageB size with
    | false => by_cases a : n < 1
               · exact .inl a
               · by_cases b : 1024 < n
                 · exact .inr (.inl ⟨a, b⟩)
                 · exact .inr (.inr ⟨by omega, by omega, rfl⟩)
    | true => by_cases a : n < 1
              · exact .inl a
              · by_cases b : 1024 < n
                · exact .inr (.inl ⟨a, b⟩)
                · exact (h ⟨by omega, by omega, hp⟩).elim
  clear h
  rcases hcase with h1 | ⟨h1, h2⟩ | ⟨h1, h2, h3⟩
  · clear hpg
    go_enter Try.func9, Try.ntmps9
    go_wp2_with fail
    go_ret2
    exact ⟨rfl, rfl⟩
  · clear hpg
    go_enter Try.func9, Try.ntmps9
    go_wp2_with fail
    go_ret2
    exact ⟨rfl, rfl⟩
  · rw [h3] at hpg
    clear h3
    go_enter Try.func9, Try.ntmps9
    go_wp2_with fail
    refine (hpg _).mono ?_
    rintro e w' ⟨rfl, rfl⟩
    clear hpg
    go_wp2_with fail
    go_ret2
    exact ⟨rfl, rfl⟩
end Go.Proofs.Ytldfpacdlephcaa

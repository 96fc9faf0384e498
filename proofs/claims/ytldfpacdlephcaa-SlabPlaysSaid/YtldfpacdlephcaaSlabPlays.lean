/-
  The law SlabPlays at this program, first part: one step of any kind; what all classes have; two slabs behind any steps. No conditions but that the numbers are an int's.
-/
import Derived.Test.YtldfpacdlephcaaSlabDoesA
import Derived.Test.YtldfpacdlephcaaSlabDoesB
import Derived.Test.YtldfpacdlephcaaSlabDoesC
import Derived.Test.YtldfpacdlephcaaSlabDoesD
namespace Go.Proofs.Ytldfpacdlephcaa
open Go Go.RowKit Go.Lib

theorem does7_any {d : Di} {r : Dr} {s : Sl} {tk cl : List Nat} {w : World} (h : Two7 d r s tk cl w) (kd A B : Int) (hA0 : -9223372036854775808 ≤ A) (hA : A ≤ 9223372036854775807) (a : Option Addr) (n c : Nat) (l : List UInt8) (hl : l.length = n) (hnc : n ≤ c) (hc63 : c ≤ 9223372036854775807) (hv : Byts w (.slice a n c) l) (hF : 0 < l.length → ∀ g o, a = some ⟨g, o, none⟩ → ¬ FF d r s g) :
    Calls Try.prog 13 #[.pointer (some ⟨d.P, 0, none⟩), .pointer (some ⟨r.P, 0, none⟩), .agg #[.int .i64 kd, .int .i64 A, .int .i64 B, .slice a n c]] w fun e w' => e = .returned (.bool true) ∧ Go7 d r s w w' := by
  by_cases h1 : kd = 1
  · subst h1; exact does7_alloc h A B hA0 hA a n c l hl hnc hc63 hv hF
  by_cases h2 : kd = 2
  · subst h2; exact does7_free h A B hA0 hA a n c l hl hnc hc63 hv hF
  by_cases h3 : kd = 3
  · subst h3; exact does7_close h A B hA0 hA a n c l hl hnc hc63 hv hF
  by_cases h4 : kd = 4
  · subst h4; exact does7_open h A B hA0 hA a n c l hl hnc hc63 hv hF
  by_cases h5 : kd = 5
  · subst h5; exact does7_move h A B hA0 hA a n c l hl hnc hc63 hv hF
  by_cases h6 : kd = 6
  · subst h6; exact does7_put h A B hA0 hA a n c l hl hnc hc63 hv hF
  by_cases h7 : kd = 7
  · subst h7; exact does7_get h A B hA0 hA a n c l hl hnc hc63 hv hF
  by_cases h8 : kd = 8
  · subst h8; exact does7_last h A B hA0 hA a n c l hl hnc hc63 hv hF
  exact does7_other h kd (by simpa using h1) (by simpa using h2) (by simpa using h3) (by simpa using h4) (by simpa using h5) (by simpa using h6) (by simpa using h7) (by simpa using h8) A B hA0 hA a n c l hl hnc hc63 hv hF

set_option maxHeartbeats 4000000 in
set_option maxRecDepth 100000 in
theorem counts7 {d : Di} {r : Dr} {s : Sl} {tk cl : List Nat} {w : World} (h : Two7 d r s tk cl w) :
    Calls Try.prog 14 #[.pointer (some ⟨d.P, 0, none⟩), .pointer (some ⟨r.P, 0, none⟩)] w fun e w' => e = .returned (.bool true) ∧ Below w.heap.size w w' := by
  have HT := hid h
  obtain ⟨N, hN⟩ : ∃ N, N = s.sz.length := ⟨_, rfl⟩
  have hn : N ≤ 63 := hN ▸ h.ok.n2
  have HN := hid hN
  clear h hN
  go_enter Try.func14, Try.ntmps14
  go_wp2_with fail
  go_loopw [5] (fun i wr => ∃ z : Int, -1 ≤ z ∧ z ≤ (N : Int) + 1 ∧ i = .int .i64 z ∧ Hid (Below w.heap.size w wr)) (fun i _ => ((N : Int) + 1 - intOf i).toNat)
  case atStart => exact ⟨-1, by omega, by omega, rfl, hid (Below.refl _ _)⟩
  case round =>
    obtain ⟨z, hz0, hz1, rfl, HB⟩ := hrel
    have HTr := hid (HT.out.below HB.out)
    have c1 : wr.cell? ⟨r.P, 1, none⟩ = some (.slice (some ⟨r.Z, 0, none⟩) N r.cZ) := by rw [HN.out]; exact HTr.out.rm.h1
    by_cases hle : z ≤ (N : Int)
    · obtain ⟨x1, x2, x3, hx⟩ : ∃ x1 x2 x3, s.counts z = (x1, x2, x3) := ⟨_, _, _, rfl⟩
      have hc := counts_any HTr.out.m HTr.out.ok z
      rw [hx] at hc
      have HR : Hid (∀ W, Below wr.heap.size wr W → Calls Try.prog 45 #[.pointer (some ⟨r.P, 0, none⟩), .int .i64 z] W fun e w' => e = .returned (.tuple #[.int .i64 x1, .int .i64 x2, .int .i64 x3]) ∧ Below W.heap.size W w') := hid (fun W hW => by
        have h := ref_counts (HTr.out.below hW).rm HTr.out.ok HTr.out.ag z
        rw [hx] at h
        exact h)
      clear hx
      go_wp2_with fail
      refine hc.mono ?_
      rintro e w3 ⟨rfl, m, hw3⟩
      have b3 : Below wr.heap.size wr w3 := by rw [hw3]; exact drewN_below _ _
      have hr := HR.out _ b3
      have B3 := hid b3
      clear hc HR hw3 b3 c1
      go_wp2_with fail
      refine hr.mono ?_
      rintro e w4 ⟨rfl, b4⟩
      have HB4 := hid (Below.then HB.out (Below.then B3.out b4))
      clear hr b4 B3 HB HTr HT
      go_wp2_with fail
      go_roundw
      case rel => exact ⟨z + 1, by omega, by omega, by go_num, HB4⟩
      case measure => simp [intOf] <;> omega
    · clear HTr HT
      go_wp2_with fail
      go_ret
      exact ⟨rfl, HB.out⟩

/-- Two slabs in one state, behind any steps: where they lie, and where their arenas. -/
def St7 (B P P' A A' : Nat) (w : World) : Prop := ∃ d r s tk cl, Two7 d r s tk cl w ∧ d.P = P ∧ r.P = P' ∧ d.A = A ∧ r.A = A' ∧ s.a.size = 512 ∧ ∀ b, FF d r s b → B ≤ b
theorem St7.below {B P P' A A' : Nat} {w w' : World} (h : St7 B P P' A A' w) (hb : Below w.heap.size w w') : St7 B P P' A A' w' := by
  obtain ⟨d, r, s, tk, cl, h1, h2, h3, h4, h5, h6, h7⟩ := h
  exact ⟨d, r, s, tk, cl, h1.below hb, h2, h3, h4, h5, h6, h7⟩

/-- One element of the script: its cells, and what its data read as. -/
structure OpAt7 (w : World) (b o : Nat) (kd A B : Int) (a : Option Addr) (n c : Nat) (l : List UInt8) : Prop where
  e0 : w.cell? ⟨b, o, none⟩ = some (.int .i64 kd)
  e1 : w.cell? ⟨b, o + 1, none⟩ = some (.int .i64 A)
  e2 : w.cell? ⟨b, o + 2, none⟩ = some (.int .i64 B)
  e3 : w.cell? ⟨b, o + 3, none⟩ = some (.slice a n c)
  lt : b < w.heap.size
  hA0 : -9223372036854775808 ≤ A
  hA : A ≤ 9223372036854775807
  hl : l.length = n
  hnc : n ≤ c
  hc : c ≤ 9223372036854775807
  hv : Byts w (.slice a n c) l

theorem St7.does {w0 w : World} {P P' A A' : Nat} (h : St7 w0.heap.size P P' A A' w) (hb : Below w0.heap.size w0 w) {b o n c : Nat} {kd X Y : Int} {a : Option Addr} {l : List UInt8} (ho : OpAt7 w0 b o kd X Y a n c l) :
    Calls Try.prog 13 #[.pointer (some ⟨P, 0, none⟩), .pointer (some ⟨P', 0, none⟩), .agg #[.int .i64 kd, .int .i64 X, .int .i64 Y, .slice a n c]] w fun e w' => e = .returned (.bool true) ∧ St7 w0.heap.size P P' A A' w' ∧ Below w0.heap.size w0 w' := by
  obtain ⟨d, r, s, tk, cl, hT, rfl, rfl, rfl, rfl, hs, hf⟩ := h
  refine (does7_any hT kd X Y ho.hA0 ho.hA a n c l ho.hl ho.hnc ho.hc (byts_in ho.hv hb) (fun h0 g o' e hfg => ?_)).mono fun e w' ⟨he, hg⟩ => ?_
  · obtain ⟨a', c', e', hx⟩ := ho.hv
    cases e'
    obtain ⟨g', o'', e2, hlt, _⟩ := hx 0 (l[0]'h0) (List.getElem?_eq_getElem h0)
    rw [e] at e2
    cases e2
    have := hf g hfg
    omega
  · obtain ⟨d', r', s', tk', cl', h1, h2, h3, ⟨_, h5, h6, h7⟩, h8, h9⟩ := hg
    exact ⟨he, ⟨d', r', s', tk', cl', h1, h2, h3, h5, h6, h7.trans hs, fun b hb' => (h8 b hb').elim (hf b) (Nat.le_trans hb.size)⟩, hb.trans (h9.below hb.size (fun b hb' => hf b hb'))⟩
theorem St7.counts {B P P' A A' : Nat} {w : World} (h : St7 B P P' A A' w) :
    Calls Try.prog 14 #[.pointer (some ⟨P, 0, none⟩), .pointer (some ⟨P', 0, none⟩)] w fun e w' => e = .returned (.bool true) ∧ St7 B P P' A A' w' ∧ Below w.heap.size w w' := by
  obtain ⟨d, r, s, tk, cl, hT, rfl, rfl, rfl, rfl, hs, hf⟩ := h
  exact (counts7 hT).mono fun e w' ⟨he, hb⟩ => ⟨he, ⟨d, r, s, tk, cl, hT.below hb, rfl, rfl, rfl, rfl, hs, hf⟩, hb⟩

set_option maxHeartbeats 1000000 in
set_option maxRecDepth 100000 in
theorem ref_new7_full {P0 O B cO cB : Nat} {bl : Nat → Option Nat} {a : St} {w : World} (h : RIs P0 O B cO cB bl a w) (hc : 0 < cnt a.ow) (v : Option Addr) (N c : Nat) (h1 : 1 ≤ N) (h2 : N ≤ 63) :
    Calls Try.prog 12 #[.pointer (some ⟨P0, 0, none⟩), .slice v N c] w fun e w' => e = .returned (.tuple #[.pointer none, .int .i64 1]) ∧ w = w' := by
  have hg := ref_count h
  have g0 : (0 : Int) < (cnt a.ow : Nat) := by omega
  have g1 : ¬ (63 : Int) < (N : Int) := by omega
  have g2 : ((N : Int) == 0) = false := by rw [beq_eq_false_iff_ne]; omega
  clear h hc
  generalize cnt a.ow = n at *
  go_enter Try.func12, Try.ntmps12
  go_wp2_with fail
  refine hg.mono ?_
  rintro e w' ⟨rfl, rfl⟩
  clear hg
  go_wp2_with fail
  go_ret2
  exact ⟨rfl, rfl⟩

set_option maxHeartbeats 1000000 in
set_option maxRecDepth 100000 in
theorem ref_new7_len {P0 : Nat} {w : World} (v : Option Addr) (N c : Nat) (hb : ¬ (1 ≤ N ∧ N ≤ 63)) :
    Calls Try.prog 12 #[.pointer (some ⟨P0, 0, none⟩), .slice v N c] w fun e w' => e = .returned (.tuple #[.pointer none, .int .i64 1]) ∧ w = w' := by
  have hcase : N = 0 ∨ 63 < N := by omega
  clear hb
  rcases hcase with rfl | h1
  · go_enter Try.func12, Try.ntmps12
    go_wp2_with fail
    go_ret2
    exact ⟨rfl, rfl⟩
  · have g1 : (63 : Int) < (N : Int) := by omega
    have g2 : ((N : Int) == 0) = false := by rw [beq_eq_false_iff_ne]; omega
    go_enter Try.func12, Try.ntmps12
    go_wp2_with fail
    go_ret2
    exact ⟨rfl, rfl⟩

/-- What both New answer once more. -/
def Both (A A' : Nat) (v v' : Value) (w : World) (B : Nat → Nat → World → Prop) : Prop :=
  ∃ er : Int, Calls Try.prog 11 #[.pointer (some ⟨A, 0, none⟩), v] w fun e w1 => ∃ q, e = .returned (.tuple #[.pointer q, .int .i64 er]) ∧ Below w.heap.size w w1 ∧
    Calls Try.prog 12 #[.pointer (some ⟨A', 0, none⟩), v'] w1 fun e w2 => ∃ q', e = .returned (.tuple #[.pointer q', .int .i64 er]) ∧ Below w.heap.size w w2 ∧ ((q = none ∧ q' = none ∧ er = 1) ∨ ∃ P P', q = some ⟨P, 0, none⟩ ∧ q' = some ⟨P', 0, none⟩ ∧ er = 0 ∧ B P P' w2)
theorem sizes_len {zs : List Int} {p : Int} (h : sizesB zs p = true) : 1 ≤ zs.length ∧ zs.length ≤ 63 := by
  unfold sizesB at h
  rw [Bool.and_eq_true, decide_eq_true_iff] at h
  exact h.1
theorem ints_some {w : World} {a : Option Addr} {n c : Nat} {zs : List Int} (h : Sz.Ints w (.slice a n c) zs) (h0 : 0 < zs.length) : ∃ ad, a = some ad := by
  obtain ⟨a', c', e, hx⟩ := h
  cases e
  obtain ⟨b, o, e, _⟩ := hx 0 (zs[0]'h0) (List.getElem?_eq_getElem h0)
  exact ⟨_, e⟩

theorem both_new {A O B A' O' B' cO cB : Nat} {bl : Nat → Option Nat} {a : St} {w : World} (hA : AIs A O B a w) (hR : RIs A' O' B' cO cB bl a w) (sa sb : Option Addr) (N c c' : Nat) (zs : List Int) (hzN : zs.length = N) (hN : N ≤ 1000) (hZ : Sz.Ints w (.slice sa N c) zs) (hZ' : Sz.Ints w (.slice sb N c') zs) :
    Both A A' (.slice sa N c) (.slice sb N c') w (fun P P' w2 => cnt a.ow = 0 ∧ sizesB zs (a.size : Int) = true ∧ ∃ w1 r, Made A O B a (zs.map Int.toNat) w P w1 ∧ RMade A' O' B' bl a (zs.map Int.toNat) w1 r w2 ∧ r.P = P') := by
  subst hzN
  by_cases h0 : cnt a.ow = 0
  · by_cases hs : sizesB zs (a.size : Int) = true
    · obtain ⟨n1, n2⟩ := sizes_len hs
      obtain ⟨ad, rfl⟩ := ints_some hZ (by omega)
      refine ⟨0, (new_slab hA h0 ad c zs.length zs rfl hZ hs n1 n2).mono fun e w1 ⟨P, he, hM⟩ => ⟨_, he, hM.below, ?_⟩⟩
      refine (ref_new7 (hR.below hM.below) h0 sb c' zs hN (hZ'.below hM.below)).mono fun e w2 hh => ?_
      rcases hh with ⟨_, r, he2, hr⟩ | ⟨hb, _⟩
      · exact ⟨_, he2, hM.below.trans (hr.2.2.1.mono hM.below.size), .inr ⟨_, _, rfl, rfl, rfl, h0, hs, w1, r, hM, hr, rfl⟩⟩
      · rw [hs] at hb; cases hb
    · have hs' : sizesB zs (a.size : Int) = false := by simpa using hs
      refine ⟨1, (new_refused hA sa c zs (by omega) hZ (.inr ⟨h0, hs'⟩)).mono fun e w1 ⟨he, hw⟩ => ⟨none, he, hw ▸ Below.refl _ _, ?_⟩⟩
      subst hw
      refine (ref_new7 hR h0 sb c' zs hN hZ').mono fun e w2 hh => ?_
      rcases hh with ⟨hb, _⟩ | ⟨_, he2, hb2⟩
      · rw [hs'] at hb; cases hb
      · exact ⟨none, he2, hb2, .inl ⟨rfl, rfl, rfl⟩⟩
  · refine ⟨1, (new_refused hA sa c zs (by omega) hZ (.inl (by omega))).mono fun e w1 ⟨he, hw⟩ => ⟨none, he, hw ▸ Below.refl _ _, ?_⟩⟩
    subst hw
    by_cases hs : 1 ≤ zs.length ∧ zs.length ≤ 63
    · exact (ref_new7_full hR (by omega) sb zs.length c' hs.1 hs.2).mono fun e w2 ⟨he2, hw2⟩ => ⟨none, he2, hw2 ▸ Below.refl _ _, .inl ⟨rfl, rfl, rfl⟩⟩
    · exact (ref_new7_len sb zs.length c' hs).mono fun e w2 ⟨he2, hw2⟩ => ⟨none, he2, hw2 ▸ Below.refl _ _, .inl ⟨rfl, rfl, rfl⟩⟩
theorem Both.mono {A A' : Nat} {v v' : Value} {w : World} {B C : Nat → Nat → World → Prop} (h : Both A A' v v' w B) (hBC : ∀ p p' w', B p p' w' → C p p' w') : Both A A' v v' w C := by
  obtain ⟨er, hc⟩ := h
  refine ⟨er, hc.mono fun e w1 ⟨q, he, hb, hr⟩ => ⟨q, he, hb, hr.mono fun e2 w2 ⟨q', he2, hb2, hq⟩ => ⟨q', he2, hb2, hq.imp id ?_⟩⟩⟩
  rintro ⟨P, P', h1, h2, h3, h4⟩
  exact ⟨P, P', h1, h2, h3, hBC _ _ _ h4⟩
theorem St7.again {B P P' A A' : Nat} {w : World} (h : St7 B P P' A A' w) (sa : Option Addr) (N c : Nat) (zs : List Int) (hzN : zs.length = N) (hN : N ≤ 1000) (hZ : Sz.Ints w (.slice sa N c) zs) :
    Both A A' (.slice sa N c) (.slice sa N c) w (fun _ _ _ => True) := by
  obtain ⟨d, r, s, tk, cl, hT, rfl, rfl, rfl, rfl, hs, hf⟩ := h
  exact (both_new hT.m.ar hT.rm.ar sa sa N c c zs hzN hN hZ hZ).mono fun _ _ _ _ => trivial
theorem St7.only {B P P' A A' : Nat} {w w' : World} {D : Nat → Prop} (h : St7 B P P' A A' w) (ho : Only D w w') (hD : ∀ b, D b → b < B) : St7 B P P' A A' w' := by
  obtain ⟨d, r, s, tk, cl, h1, h2, h3, h4, h5, h6, h7⟩ := h
  exact ⟨d, r, s, tk, cl, h1.only ho (fun b hb hd => by have := h7 b hb; have := hD b hd; omega), h2, h3, h4, h5, h6, h7⟩
theorem St7.weak {B B' P P' A A' : Nat} {w : World} (h : St7 B P P' A A' w) (hB : B' ≤ B) : St7 B' P P' A A' w := by
  obtain ⟨d, r, s, tk, cl, h1, h2, h3, h4, h5, h6, h7⟩ := h
  exact ⟨d, r, s, tk, cl, h1, h2, h3, h4, h5, h6, fun b hb => Nat.le_trans hB (h7 b hb)⟩

/-- Two slabs that were just made. -/
theorem St7.made {A O B A' O' B' P : Nat} {k : Nat} {zs : List Int} {w w1 w2 w0 : World} {r : Dr} (hM : Made A O B (newSt k 512) (zs.map Int.toNat) w P w1) (hr : RMade A' O' B' (fun _ => none) (newSt k 512) (zs.map Int.toNat) w1 r w2) (D : Nat)
    (hA : D ≤ A ∧ D ≤ O ∧ D ≤ B) (hR : w0.heap.size ≤ A' ∧ w0.heap.size ≤ O' ∧ w0.heap.size ≤ B') (_hD : D ≤ w0.heap.size) (h0 : w0.heap.size ≤ w.heap.size) (hlt : A < w0.heap.size ∧ O < w0.heap.size ∧ B < w0.heap.size) (hRl : ∀ b, RFoot A' O' B' (fun _ => none) b → b < w.heap.size) :
    St7 D P r.P A A' w2 := by
  obtain ⟨d, hd, hm, hf, hda⟩ := hM.is
  obtain ⟨hrm, hrf, hrb, hra⟩ := hr
  have hRF : ∀ b, RFoot A' O' B' (fun _ => none) b → w0.heap.size ≤ b := fun b hb => by
    rcases hb with e | e | e | ⟨i, e⟩
    · omega
    · omega
    · omega
    · cases e
  have hs1 := hM.below.size
  have ez : (newSl (newSt k 512) (zs.map Int.toNat)).sz.length = (zs.map Int.toNat).length := rfl
  refine ⟨d, r, newSl (newSt k 512) (zs.map Int.toNat), [], [], ⟨hM.ok, hm.only (D := fun _ => False) (Below.only hrb) (fun _ _ => id), hrm, newSl_ag _ _, fun b hb ht => ?_⟩, hd, rfl, hda, hra, rfl, fun b hb => ?_⟩
  · rw [ez] at ht
    have hbl : b < w1.heap.size := hm.lt hb
    rcases hrf b ht with e | e
    · have h1 := hRF b e
      have h2 := hRl b e
      rcases hf b hb with e2 | e2 | e2 | e2
      · omega
      · omega
      · omega
      · omega
    · omega
  · rcases hb with hb | hb
    · rcases hf b hb with e2 | e2 | e2 | e2
      · omega
      · omega
      · omega
      · omega
    · rw [ez] at hb
      rcases hrf b hb with e | e
      · have := hRF b e
        omega
      · omega

theorem ints_take {w : World} {a : Option Addr} {n c k : Nat} {zs : List Int} (h : Sz.Ints w (.slice a n c) zs) (hk : k ≤ n) : Sz.Ints w (.slice a k c) (zs.take k) := by
  obtain ⟨a', c', e, hx⟩ := h
  cases e
  refine ⟨a, c, by rw [List.length_take, Nat.min_eq_left hk], fun j z hj => ?_⟩
  rw [List.getElem?_take] at hj
  split at hj
  · exact hx j z hj
  · cases hj
theorem ints_src {w W : World} {ad : Addr} {n c : Nat} {zs : List Int} (h : Sz.Ints w (.slice (some ad) n c) zs) (hb : Below w.heap.size w W) (o : Obj) : ∀ j v, (ic zs)[j]? = some v → (W.alloc o).cell? (ad.add j) = some v := fun j v hj => by
  unfold ic at hj
  rw [List.getElem?_map] at hj
  obtain ⟨z, hz, rfl⟩ := Option.map_eq_some_iff.1 hj
  obtain ⟨a', c', e, hx⟩ := h
  cases e
  obtain ⟨b, q, e, hl, hc⟩ := hx j z hz
  cases e
  rw [addr_plain]
  exact cell_alloc ((hb.cell (p := ⟨b, q + j, none⟩) hl).trans hc) _
theorem ints_own {w : World} {base n c : Nat} {a : Option Addr} {zs : List Int} (h : w.ownsRow base 3 1 (.slice a n c) n (ic zs)) (hn : zs.length = n) : Sz.Ints w (.slice a n c) zs := by
  subst hn
  refine ⟨a, c, rfl, fun j z hj => ?_⟩
  have hlt := (List.getElem?_eq_some_iff.1 hj).1
  rcases h.2 with ⟨_, h0⟩ | ⟨g, cap, cur, e, _, hg, hn, _, hsz, ht⟩
  · omega
  · cases e
    have hb : Blk w g 3 cur.toList := by unfold Blk; rw [Array.toArray_toList]; exact hg
    refine ⟨g, 0, rfl, hb.lt, ?_⟩
    rw [Nat.zero_add]
    refine hb.cell ?_
    have h2 := ic_at hj
    rw [← ht, Nat.mul_one, List.getElem?_take, if_pos hlt] at h2
    exact h2
end Go.Proofs.Ytldfpacdlephcaa

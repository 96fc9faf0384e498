/-
  Package slab at this program: New, of any arena without granted pages and any sizes. No conditions but that the numbers are an int's.
-/
import Derived.Test.YtldfpacdlephcaaSlabNew
import Derived.Deep.RegionWith
namespace Go.Proofs.Ytldfpacdlephcaa
open Go Go.RowKit Go.Lib

def newSl (a : St) (sz : List Nat) : Sl := { a := a, sz := sz, rows := fun _ => [], cut := fun _ => none }
theorem newSl_ok {a : St} (ha : a.Ok) (hf : ∀ z ∈ a.ow, z = -1) {sz : List Nat} (n1 : 1 ≤ sz.length) (n2 : sz.length ≤ 63) (hs : ∀ z ∈ sz, 64 ≤ z ∧ z ≤ a.size) : (newSl a sz).Ok :=
  ⟨ha, n1, n2, fun _ _ h => hs _ (List.mem_of_getElem? h), fun _ _ h => (by cases h), fun p _ hp => (by
    have h1 : a.ow[p]? = some (a.ow[p]'hp) := List.getElem?_eq_getElem hp
    show a.ow[p]? = _
    exact h1.trans (congrArg some (hf _ (List.getElem_mem hp)))), fun _ _ _ h => (by cases h), fun _ _ => List.nodup_nil⟩

theorem infoRow : (Try.prog.info? 22).map (fun i => (i.zero, i.size, i.bytes)) = some (some (.slice none 0 0), 1, 24) := by kernel_rfl
theorem infoCut : (Try.prog.info? 78).map (fun i => (i.zero, i.size, i.bytes)) = some (some (.pointer none), 1, 8) := by kernel_rfl

theorem make_cuts (M : Nat) (hM : M ≤ 2000) (W : World) : (Instr.makeSlice 73 (.int .i64 (M : Int)) (.int .i64 (M : Int))).run Try.prog W = .ok (.slice (some ⟨W.heap.size, 0, none⟩) M M) (W.alloc (.cells (List.replicate M (Value.pointer none)).toArray 78)) := by
  obtain ⟨i0, hi, hz0, hz1, hz2⟩ := info_parts infoCut
  have := run_make (P := Try.prog) W 73 78 i0 (.pointer none) Try.underlying73 hi hz0 .i64 .i64 (M : Int) (M : Int) (by omega) (by omega) (by rw [hz2]; omega) (by omega)
  rw [hz1, Int.toNat_natCast] at this
  rw [this, ← made_cells _ _ rfl]

theorem ints_toNat {zs : List Int} (h : ∀ z ∈ zs, 0 ≤ z) : Sz.ints (zs.map Int.toNat) = zs := by
  unfold Sz.ints
  rw [List.map_map]
  conv => rhs; rw [← List.map_id zs]
  exact List.map_congr_left (fun z hz => by have := h z hz; show ((z.toNat : Nat) : Int) = z; omega)
theorem cnt_zero {ow : List Int} (h : cnt ow = 0) : ∀ z ∈ ow, z = -1 := by
  intro z hz
  unfold cnt cntTo at h
  rw [List.take_length, List.length_eq_zero_iff, List.filter_eq_nil_iff] at h
  have := h z hz
  simpa using this
theorem blk2 (w : World) (o : Obj) (cs : Array Value) (t : TypeId) : Blk ((w.alloc o).alloc (.cells cs t)) (w.heap.size + 1) t cs.toList := by
  have := Blk.new (w.alloc o) cs t
  rw [World.size_alloc] at this; exact this

theorem tab_const {f : Nat → Value} {n : Nat} {v : Value} (h : ∀ i, i < n → f i = v) : tab f n = List.replicate n v := by
  apply List.ext_getElem?
  intro i
  rw [List.getElem?_replicate]
  by_cases hi : i < n
  · rw [tab_at hi, if_pos hi, h i hi]
  · rw [List.getElem?_eq_none (by rw [tab_len]; omega), if_neg hi]

theorem own_base {w : World} {b b' : Nat} {e : TypeId} {v : Value} {n : Nat} {xs : List Value} (h : w.ownsRow b e 1 v n xs) (hb : b' ≤ b) : w.ownsRow b' e 1 v n xs := by
  refine ⟨h.1, h.2.imp id ?_⟩
  rintro ⟨g, cap, cur, hv, h0, r⟩
  exact ⟨g, cap, cur, hv, Nat.le_trans hb h0, r⟩

/-- What New leaves. -/
structure Made (A O B : Nat) (a : St) (sz : List Nat) (w : World) (P : Nat) (w' : World) : Prop where
  ok : (newSl a sz).Ok
  is : ∃ d : Di, d.P = P ∧ MIs d (newSl a sz) w' ∧ (∀ b, SFoot d (newSl a sz) b → (b = A ∨ b = O ∨ b = B ∨ w.heap.size ≤ b)) ∧ d.A = A
  below : Below w.heap.size w w'
theorem new_end {A O B : Nat} {a : St} {w W : World} (h : AIs A O B a w) (hc : cnt a.ow = 0) {zs : List Int} {N : Nat} (hzN : zs.length = N) (hb : sizesB zs (a.size : Int) = true) (hn1 : 1 ≤ N) (hn2 : N ≤ 63) {P R C c3 : Nat} {a3 : Option Addr} (hP : P = W.heap.size) (hbel : Below w.heap.size w W)
    (hR : Blk W R 22 (List.replicate N (.slice none 0 0))) (hC : Blk W C 78 (List.replicate 1024 (.pointer none))) (hR2 : w.heap.size ≤ R) (hC2 : w.heap.size ≤ C) (hown : W.ownsRow w.heap.size 3 1 (.slice a3 N c3) N (ic zs)) :
    Made A O B a (zs.map Int.toNat) w P (W.alloc (.cells #[.pointer (some ⟨A, 0, none⟩), .slice a3 N c3, .slice (some ⟨R, 0, none⟩) N N, .slice (some ⟨C, 0, none⟩) 1024 1024] 75)) := by
  have hr : ∀ z ∈ zs, 63 < z ∧ z ≤ (a.size : Int) := by
    unfold sizesB at hb
    rw [Bool.and_eq_true] at hb
    exact rises_all hb.2
  have hl : (zs.map Int.toNat).length = N := by rw [List.length_map]; exact hzN
  have hok : (newSl a (zs.map Int.toNat)).Ok := newSl_ok h.ok (cnt_zero hc) (by omega) (by omega) (fun z hz => by
    obtain ⟨y, hy, rfl⟩ := List.mem_map.1 hz
    have := hr y hy
    omega)
  rcases hown.2 with ⟨_, h0⟩ | ⟨g, cap, cur, hv, hg0, hg, hcap, hm, hsz, htk⟩
  · omega
  cases hv
  rw [Nat.mul_one] at hsz htk
  have hZ : Blk W g 3 cur.toList := by unfold Blk; rw [Array.toArray_toList]; exact hg
  have hlt := h.lt
  refine ⟨hok, ⟨{ P := P, A := A, O := O, B := B, Z := g, R := R, C := C, cZ := c3, rv := fun _ => .slice none 0 0, cb := fun _ => 0, ub := fun _ => 0 }, rfl, ⟨(h.only (D := fun b => w.heap.size ≤ b) ⟨hbel.os, hbel.tape, hbel.output, hbel.size, fun k hk _ => hbel.block k hk⟩ (by omega) (by omega) (by omega)).below ((Below.refl _ W).alloc (Nat.le_refl _) _), ?_, ⟨cur.toList, hZ.alloc _, fun i z hi => ?_⟩, ?_, fun c hc => ?_, ?_, fun p k hk => (by cases hk), fun p q k l hk => (by cases hk), fun p q k l hk => (by cases hk), fun c c' b _ _ e => (by simp [Value.ownBlock] at e), fun c _ => ⟨by simp [Value.ownBlock], by simp [Value.ownBlock]⟩, ?_⟩, fun b hb => ?_, rfl⟩, hbel.alloc hbel.size _⟩
  · have h1 := Blk.new W #[.pointer (some ⟨A, 0, none⟩), .slice (some ⟨g, 0, none⟩) N c3, .slice (some ⟨R, 0, none⟩) N N, .slice (some ⟨C, 0, none⟩) 1024 1024] 75
    rw [← hP] at h1
    show Blk _ P _ [_, .slice _ (zs.map Int.toNat).length _, .slice _ (zs.map Int.toNat).length (zs.map Int.toNat).length, _]
    rw [hl]
    exact h1
  · have hi' : (zs.map Int.toNat)[i]? = some z := hi
    rw [List.getElem?_map] at hi'
    obtain ⟨y, hy, rfl⟩ := Option.map_eq_some_iff.1 hi'
    have h2 := ic_at hy
    rw [← htk, List.getElem?_take] at h2
    split at h2
    · rw [h2]
      have := hr y (List.mem_of_getElem? hy)
      rw [show ((y.toNat : Nat) : Int) = y by omega]
    · cases h2
  · show Blk _ R _ (tab _ (zs.map Int.toNat).length)
    rw [hl]
    have e : tab (fun _ => Value.slice none 0 0) N = List.replicate N (.slice none 0 0) := tab_const (fun _ _ => rfl)
    rw [e]; exact hR.alloc _
  · exact World.ownsRow_nil _ _ _ _
  · have e : tab (cutV (newSl a (zs.map Int.toNat)).cut fun _ => 0) 1024 = List.replicate 1024 (.pointer none) := tab_const (fun _ _ => cutV_none rfl)
    show Blk _ C _ (tab _ 1024)
    rw [e]; exact hC.alloc _
  · show g ≠ O
    omega
  · rcases hb with e | e | e | e | e | e | e | ⟨c, _, e⟩ | ⟨p, k, hk, _⟩
    · have e' : b = P := e
      have := hbel.size
      exact .inr (.inr (.inr (by omega)))
    · exact .inl e
    · exact .inr (.inl e)
    · exact .inr (.inr (.inl e))
    · have e' : b = g := e
      exact .inr (.inr (.inr (by omega)))
    · have e' : b = R := e
      exact .inr (.inr (.inr (by omega)))
    · have e' : b = C := e
      exact .inr (.inr (.inr (by omega)))
    · have e' : (Value.slice none 0 0).ownBlock = some b := e
      simp [Value.ownBlock] at e'
    · cases hk

set_option maxHeartbeats 4000000 in
set_option maxRecDepth 100000 in
theorem new_slab {A O B : Nat} {a : St} {w : World} (h : AIs A O B a w) (hc : cnt a.ow = 0) (ad : Addr) (c N : Nat) (zs : List Int) (hzN : zs.length = N) (hZ : Sz.Ints w (.slice (some ad) N c) zs) (hb : sizesB zs (a.size : Int) = true) (hn1 : 1 ≤ N) (hn2 : N ≤ 63) :
    Calls Try.prog 11 #[.pointer (some ⟨A, 0, none⟩), .slice (some ad) N c] w fun e w' => ∃ P, e = .returned (.tuple #[.pointer (some ⟨P, 0, none⟩), .int .i64 0]) ∧ Made A O B a (zs.map Int.toNat) w P w' := by
  have hg := granted_count h
  have hp := page_size h
  rw [hc] at hg
  have hcv : ∀ j v, (ic zs)[j]? = some v → w.cell? (ad.add j) = some v := fun j v hj => by
    unfold ic at hj
    rw [List.getElem?_map] at hj
    obtain ⟨z, hz, rfl⟩ := Option.map_eq_some_iff.1 hj
    obtain ⟨a', c', e, hx⟩ := hZ
    obtain ⟨b, o, ha, _, hc⟩ := hx j z hz
    have e1 : some ad = a' := by injection e
    rw [← e1] at ha
    cases ha
    rw [addr_plain]; exact hc
  have HE := hid (fun (W : World) (P R C c3 : Nat) (a3 : Option Addr) => new_end (W := W) (P := P) (R := R) (C := C) (c3 := c3) (a3 := a3) h hc hzN hb hn1 hn2)
  have hA := areSizes_any (some ad) c zs (a.size : Int) w (by omega) (by rw [hzN]; exact hZ)
  have hcl := fun W (hv : ∀ j v, (ic zs)[j]? = some v → W.cell? (ad.add j) = some v) => cloneI_any ad c zs (by omega) W hv
  rw [hb, hzN] at hA
  rw [hzN] at hcl
  obtain ⟨Z1, hZ1⟩ : ∃ Z : Array Value, Z = (List.replicate N (Value.slice none 0 0)).toArray := ⟨_, rfl⟩
  obtain ⟨Z2, hZ2⟩ : ∃ Z : Array Value, Z = (List.replicate 1024 (Value.pointer none)).toArray := ⟨_, rfl⟩
  have hm1 : ∀ W : World, (Instr.makeSlice 72 (.int .i64 (N : Int)) (.int .i64 (N : Int))).run Try.prog W = .ok (.slice (some ⟨W.heap.size, 0, none⟩) N N) (W.alloc (.cells Z1 22)) := fun W => by
    obtain ⟨i0, hi, hz0, hz1, hz2⟩ := info_parts infoRow
    have := run_make (P := Try.prog) W 72 22 i0 (.slice none 0 0) Try.underlying72 hi hz0 .i64 .i64 (N : Int) (N : Int) (by omega) (by omega) (by rw [hz2]; omega) (by omega)
    rw [hz1, Int.toNat_natCast] at this
    rw [this, hZ1, ← made_cells _ _ rfl]
  have hm2 := make_cuts 1024 (by decide)
  rw [show ((1024 : Nat) : Int) = 1024 from rfl, ← hZ2] at hm2
  have HZ1 : Hid (Z1.toList = List.replicate N (Value.slice none 0 0)) := hid (by rw [hZ1])
  have HZ2 : Hid (Z2.toList = List.replicate 1024 (Value.pointer none)) := hid (by rw [hZ2])
  clear h hZ hb hc hZ1 hZ2 hzN
  go_enter Try.func11, Try.ntmps11
  go_wp2_with fail
  refine hg.mono ?_
  rintro e w' ⟨rfl, rfl⟩
  clear hg
  go_wp2_with fail
  refine hp.mono ?_
  rintro e w' ⟨rfl, rfl⟩
  clear hp
  go_wp2_with fail
  refine hA.mono ?_
  rintro e w' ⟨rfl, rfl⟩
  clear hA
  go_wp2_with fail
  go_region_with (first
    | (go_at_call 33; refine (hcl _ (by first | exact hcv | exact fun j v hj => cell_alloc (hcv j v hj) _ | exact fun j v hj => cell_alloc (cell_alloc (hcv j v hj) _) _)).mono ?_; rintro e w1 ⟨v, rfl, hown, hbel⟩; obtain ⟨a3, c3, rfl⟩ := row_form hown))
  all_goals
    go_wp2_with fail
    go_ret2
    refine ⟨_, rfl, ?_⟩
  · have hbw : Below w.heap.size w w1 := ((Below.refl w.heap.size w).drew).trans hbel
    have hb1 := hbw.size
    have r1 := Blk.new w1 Z1 22
    have r2 := blk2 w1 (.cells Z1 22) Z2 78
    rw [HZ1.out] at r1
    rw [HZ2.out] at r2
    exact HE.out _ _ _ _ _ _ (by simp) ((hbw.alloc hb1 _).alloc (by simp; omega) _) (r1.alloc _) r2 hb1 (by omega) ((hown.alloc _).alloc _)
  · have hbw : Below w.heap.size w w1 := ((Below.refl w.heap.size w).drew).trans hbel
    have hb1 := hbw.size
    have r1 := blk2 w1 (.cells Z2 78) Z1 22
    have r2 := Blk.new w1 Z2 78
    rw [HZ1.out] at r1
    rw [HZ2.out] at r2
    exact HE.out _ _ _ _ _ _ (by simp) ((hbw.alloc hb1 _).alloc (by simp; omega) _) r1 (r2.alloc _) (by omega) hb1 ((hown.alloc _).alloc _)
  · have hb1 := hbel.size
    have hs : (w.alloc (.cells Z1 22)).drew.heap.size = w.heap.size + 1 := World.size_alloc ..
    have r1 := Blk.new w Z1 22
    have r2 := Blk.new w1 Z2 78
    rw [HZ1.out] at r1
    rw [HZ2.out] at r2
    have hbw : Below w.heap.size w w1 := ((Below.refl _ w).alloc (Nat.le_refl _) (.cells Z1 22)).drew.trans (hbel.mono (by omega))
    exact HE.out _ _ _ _ _ _ (by simp) (hbw.alloc hbw.size _) ((Blk.below (w := (w.alloc (.cells Z1 22)).drew) r1 hbel).alloc _) r2 (Nat.le_refl _) hbw.size ((own_base hown (by omega)).alloc _)
  · have hs : ((w.alloc (.cells Z1 22)).alloc (.cells Z2 78)).drew.heap.size = w.heap.size + 2 := by show ((w.alloc (.cells Z1 22)).alloc (.cells Z2 78)).heap.size = _; simp
    have r1 := (Blk.new w Z1 22).alloc (.cells Z2 78)
    have r2 := blk2 w (.cells Z1 22) Z2 78
    rw [HZ1.out] at r1
    rw [HZ2.out] at r2
    have hbw : Below w.heap.size w w1 := (((Below.refl _ w).alloc (Nat.le_refl _) (.cells Z1 22)).alloc (by simp) (.cells Z2 78)).drew.trans (hbel.mono (by omega))
    exact HE.out _ _ _ _ _ _ rfl hbw (Blk.below (w := ((w.alloc (.cells Z1 22)).alloc (.cells Z2 78)).drew) r1 hbel) (Blk.below (w := ((w.alloc (.cells Z1 22)).alloc (.cells Z2 78)).drew) r2 hbel) (Nat.le_refl _) (by omega) (own_base hown (by omega))
  · have hs : (w.alloc (.cells Z2 78)).drew.heap.size = w.heap.size + 1 := World.size_alloc ..
    have r1 := Blk.new w1 Z1 22
    have r2 := Blk.new w Z2 78
    rw [HZ1.out] at r1
    rw [HZ2.out] at r2
    have hbw : Below w.heap.size w w1 := ((Below.refl _ w).alloc (Nat.le_refl _) (.cells Z2 78)).drew.trans (hbel.mono (by omega))
    exact HE.out _ _ _ _ _ _ (by simp) (hbw.alloc hbw.size _) r1 ((Blk.below (w := (w.alloc (.cells Z2 78)).drew) r2 hbel).alloc _) hbw.size (Nat.le_refl _) ((own_base hown (by omega)).alloc _)
  · have hs : ((w.alloc (.cells Z2 78)).alloc (.cells Z1 22)).drew.heap.size = w.heap.size + 2 := by show ((w.alloc (.cells Z2 78)).alloc (.cells Z1 22)).heap.size = _; simp
    have r1 := blk2 w (.cells Z2 78) Z1 22
    have r2 := (Blk.new w Z2 78).alloc (.cells Z1 22)
    rw [HZ1.out] at r1
    rw [HZ2.out] at r2
    have hbw : Below w.heap.size w w1 := (((Below.refl _ w).alloc (Nat.le_refl _) (.cells Z2 78)).alloc (by simp) (.cells Z1 22)).drew.trans (hbel.mono (by omega))
    exact HE.out _ _ _ _ _ _ rfl hbw (Blk.below (w := ((w.alloc (.cells Z2 78)).alloc (.cells Z1 22)).drew) r1 hbel) (Blk.below (w := ((w.alloc (.cells Z2 78)).alloc (.cells Z1 22)).drew) r2 hbel) (by omega) (Nat.le_refl _) (own_base hown (by omega))
end Go.Proofs.Ytldfpacdlephcaa

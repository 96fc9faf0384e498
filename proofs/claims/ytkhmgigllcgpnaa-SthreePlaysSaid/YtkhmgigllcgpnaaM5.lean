/-
  The contract of All. Conditions: the ghost lies in memory.
  The contract of New. No conditions.
-/
import Derived.Test.YtkhmgigllcgpnaaGhostAdd
import Derived.Lib.Builder
namespace Go.Proofs.Ytkhmgigllcgpnaa.Gh
open Go Go.RowKit Go.Lib

/-- The cells of numbers. -/
def uc (zs : List Int) : List Value := zs.map fun z => Value.int .u64 z
theorem uc_len (zs : List Int) : (uc zs).length = zs.length := by simp [uc]
theorem uc_at {zs : List Int} {i : Nat} {z : Int} (h : zs[i]? = some z) : (uc zs)[i]? = some (.int .u64 z) := by simp [uc, h]
theorem uc_set (zs : List Int) (i : Nat) (z : Int) : uc (zs.set i z) = (uc zs).set i (.int .u64 z) := by simp [uc, List.map_set]
theorem uc_ok (zs : List Int) : ∀ u ∈ uc zs, u.oneCell' = true := by
  intro u hu; obtain ⟨z, _, rfl⟩ := List.mem_map.1 hu; rfl
theorem uc_snoc (zs : List Int) (z : Int) : uc (zs ++ [z]) = uc zs ++ [.int .u64 z] := by simp [uc]
theorem one_u64 (x : Int) : ∀ u ∈ [Value.int .u64 x], u.oneCell' = true := by
  intro u hu; simp at hu; subst hu; rfl
theorem infoU64 : (Try.prog.info? 29).map (fun i => (i.zero, i.size, i.bytes)) = some (some (.int .u64 0), 1, 8) := by kernel_rfl
theorem below_of_grown {w w1 : World} (h : w.grownBy w1 none) : Below w.heap.size w w1 := ⟨h.os, h.tape, h.output, h.size, fun k hk => h.block k hk (by simp)⟩
def slLen : Value → Nat
  | .slice _ n _ => n
  | _ => 0
theorem drop_cons {α : Type} {l : List α} {j : Nat} {x : α} (h : l[j]? = some x) : l.drop j = x :: l.drop (j + 1) := by
  obtain ⟨h1, rfl⟩ := List.getElem?_eq_some_iff.1 h
  exact List.drop_eq_getElem_cons h1
theorem take_snoc {α : Type} {l : List α} {j : Nat} {x : α} (h : l[j]? = some x) : l.take (j + 1) = l.take j ++ [x] := by
  rw [List.take_add_one, h]; rfl
theorem GM.step {P M m : Nat} {l : List Nd} {w : World} (h : GM P M m l w) {j : Nat} {x : Nd} (hj : l[j]? = some x) :
    w.cell? ⟨x.b, 0, none⟩ = some (.int .u64 x.id) ∧ w.cell? ⟨x.b, 2, none⟩ = some (.pointer (some ⟨(fst (edge P) (pts (l.drop (j + 1)))).b, (fst (edge P) (pts (l.drop (j + 1)))).o, none⟩)) := by
  have hx : x ∈ l := List.mem_of_getElem? hj
  refine ⟨h.node x hx, ?_⟩
  have hseq := h.seq
  have e : l = l.take j ++ x :: l.drop (j + 1) := by rw [← drop_cons hj, List.take_append_drop]
  rw [e, pts_app, pts_cons] at hseq
  exact (ring_mid hseq).2
theorem infoMark : (Try.prog.info? 85).map (fun i => (i.zero, i.size, i.bytes)) = some (some (.agg #[.int .u64 0, .pointer none, .pointer none]), 3, 24) := by kernel_rfl
theorem ptr_eql {w : World} (a : Addr) : (binOp .neq 83 (.pointer (some a)) (.pointer (some a))).run Try.prog w = .ok (.bool false) w := by
  obtain ⟨i0, hi, hz0, hz1, hz2⟩ := info_parts infoMark
  exact run_neq_ptr_same w a Try.underlying83 hi
theorem ptr_neq {w : World} {b c o p : Nat} (hne : b ≠ c) (ha : Plain w b) (hb : Plain w c) : (binOp .neq 83 (.pointer (some ⟨b, o, none⟩)) (.pointer (some ⟨c, p, none⟩))).run Try.prog w = .ok (.bool true) w := by
  obtain ⟨i0, hi, hz0, hz1, hz2⟩ := info_parts infoMark
  obtain ⟨t, cs, ha⟩ := ha
  obtain ⟨u, ds, hb⟩ := hb
  have hsa := run_sameAddr_other (P := Try.prog) w (a := ⟨b, o, none⟩) (b := ⟨c, p, none⟩) (fun e => hne (congrArg Addr.block e)) (ca := cs.toArray) (ta := t) (cb := ds.toArray) (tb := u) ha hb
  have h : ∀ d : Nat, (Op.equalIn (d + 1) 83 (.pointer (some ⟨b, o, none⟩)) (.pointer (some ⟨c, p, none⟩))).run Try.prog w = .ok false w := fun d => by
    simp [Op.equalIn, run_underlying Try.underlying83, sizeOf, typeInfo, hi, hz1, hsa]
  simp only [binOp]
  simp [Op.equal, Op.maxDepth, h 9999]

set_option maxRecDepth 100000 in
set_option maxHeartbeats 1000000 in
theorem all_any {P M m : Nat} {l : List Nd} {w : World} (h : GM P M m l w) :
   Calls Try.prog 35 #[.pointer (some ⟨P, 0, none⟩)] w fun e w' => ∃ v, e = .returned v ∧ w'.ownsRow w.heap.size 29 1 v (idl l).length (uc (idl l)) ∧ Below w.heap.size w w' := by
  have c4 := h.p4
  have c3 : w.cell? ⟨P, 3, none⟩ = some (.pointer (some ⟨(fst (edge P) (pts (l.drop 0))).b, (fst (edge P) (pts (l.drop 0))).o, none⟩)) := (ring_at (a := []) (b := pts l) h.seq).1
  have hK := h.len
  have hP := h.lt P (.inl rfl)
  have hMm := hid h.map
  have hxs : Hid (∀ x ∈ l, x.b ≠ P ∧ x.b < w.heap.size) := hid (fun x hx => ⟨(h.xs x hx).1, h.lt x.b (.inr (.inr ⟨x, hx, rfl⟩))⟩)
  rw [idl_len]
  have HR := hid h
  have hpl : Hid (Plain w P ∧ ∀ x ∈ l, Plain w x.b) := hid ⟨h.fP, h.fx⟩
  obtain ⟨i0, hi0, hz0, hz1, hz2⟩ := info_parts infoU64
  obtain ⟨K, hKl⟩ : ∃ K, K = l.length := ⟨_, rfl⟩
  rw [← hKl] at hK hMm ⊢
  have HK := hid hKl
  obtain ⟨vb, hvb⟩ : ∃ vb, vb = (fst (edge P) (pts (l.drop 0))).b := ⟨_, rfl⟩
  obtain ⟨vo, hvo⟩ : ∃ vo, vo = (fst (edge P) (pts (l.drop 0))).o := ⟨_, rfl⟩
  rw [← hvb, ← hvo] at c3
  have HV := hid (And.intro hvb hvo)
  clear h hKl hvb hvo
  go_enter Try.func35, Try.ntmps35
  go_wp2_with (first | (at_len; refine wpList_pm_len rfl _ rfl rfl hMm ?_) | (at_make; refine wpList_make_own _ rfl _ _ 32 rfl w.heap.size 29 i0 (.int .u64 0) 1 Try.underlying32 hi0 hz0 hz1 .i64 .i64 _ K rfl rfl (by omega) (by rw [hz2]; omega) (by unfold maxLen; omega) (Nat.le_refl _) ?_; intro w2 hown hgrow; have hb0 := below_of_grown hgrow; have d3 := (hb0.cell (p := ⟨P, 3, none⟩) hP).trans c3))
  have HO := hid hown
  have HB := hid hb0
  clear hown hb0 hgrow d3 c4 c3 hMm
  go_loopw [3, 4] (fun p q wr => ∃ j : Nat, j ≤ K ∧ p = .slice (some ⟨w.heap.size, 0, none⟩) j K ∧ q = .pointer (some ⟨(fst (edge P) (pts (l.drop j))).b, (fst (edge P) (pts (l.drop j))).o, none⟩) ∧ Hid (wr.ownsRow w.heap.size 29 1 (.slice (some ⟨w.heap.size, 0, none⟩) j K) j (uc ((idl l).take j))) ∧ Hid (Below w.heap.size w wr)) (fun p _ _ => K - slLen p)
  case atStart => exact ⟨0, Nat.zero_le _, rfl, by rw [HV.out.1, HV.out.2], HO, HB⟩
  case round =>
    obtain ⟨j, hj, rfl, hq, hOw, hBw⟩ := hrel
    clear HO HB HV
    by_cases hlt : j < K
    · obtain ⟨x, hx⟩ : ∃ x, l[j]? = some x := ⟨_, List.getElem?_eq_getElem (by rw [← HK.out]; exact hlt)⟩
      obtain ⟨s1, s2⟩ := HR.out.step hx
      obtain ⟨x1, x2⟩ := hxs.out x (List.mem_of_getElem? hx)
      have e1 := (hBw.out.cell (p := ⟨x.b, 0, none⟩) x2).trans s1
      have e2 := (hBw.out.cell (p := ⟨x.b, 2, none⟩) x2).trans s2
      have hfs : fst (edge P) (pts (l.drop j)) = x.pt := by rw [drop_cons hx]; rfl
      rw [hfs] at hq
      replace hq : _ = Value.pointer (some ⟨x.b, 0, none⟩) := hq
      subst hq
      have hxt : Hid ((idl l).take (j + 1) = (idl l).take j ++ [x.id]) := hid (take_snoc (by rw [idl, List.getElem?_map, hx]; rfl))
      obtain ⟨nb, hnb⟩ : ∃ nb, nb = (fst (edge P) (pts (l.drop (j + 1)))).b := ⟨_, rfl⟩
      obtain ⟨no, hno⟩ : ∃ no, no = (fst (edge P) (pts (l.drop (j + 1)))).o := ⟨_, rfl⟩
      rw [← hnb, ← hno] at e2
      have HN := hid (And.intro hnb hno)
      clear s1 s2 hfs hnb hno
      have HX := hid hx
      clear hx
      have hpo := (hpl.out.1).keep (hBw.out.block P hP)
      have hpx := (hpl.out.2 x (List.mem_of_getElem? HX.out)).keep (hBw.out.block x.b x2)
      have hne := ptr_neq (w := wr) (o := 0) (p := 1) x1 hpx hpo
      have hox := hOw.out
      clear hpo hpx
      have x1' := hid x1
      clear x1
      generalize x.b = X at *
      generalize x.id = z at *
      generalize (idl l).take j = zs at *
      go_wp2_with (at_builtin; refine wpList_append_fits _ rfl _ _ 32 rfl w.heap.size 29 i0 1 Try.underlying32 hi0 hz1 w.heap.size j K _ rfl (hox.alloc _) ⟨wr.heap.size, 0, none⟩ 1 1 [.int .u64 z] rfl rfl (one_cell _ _ _) (one_u64 _) (by omega) ?_; intro w3 hown3 hgrow3; have hb3 := hBw.out.trans (own_grown hox hBw.out.size hgrow3); have e4 := (hb3.cell (p := ⟨X, 2, none⟩) x2).trans ((hBw.out.cell (p := ⟨X, 2, none⟩) x2).symm.trans e2))
      go_roundw
      case rel => exact ⟨j + 1, by omega, rfl, by rw [HN.out.1, HN.out.2], hid (by rw [hxt.out, uc_snoc]; exact hown3), hid hb3⟩
      case measure => simp [slLen]; omega
    · obtain rfl : j = K := by omega
      have hq2 : fst (edge P) (pts (l.drop j)) = edge P := by rw [HK.out, List.drop_length]; rfl
      rw [hq2] at hq
      replace hq : _ = Value.pointer (some ⟨P, 1, none⟩) := hq
      subst hq
      have hne := ptr_eql (w := wr) ⟨P, 1, none⟩
      have hown := hOw.out
      rw [List.take_of_length_le (by rw [idl, List.length_map, ← HK.out]; exact Nat.le_refl _)] at hown
      have HW := hid hown
      clear hown
      go_wp2_with fail
      go_ret
      exact ⟨_, rfl, HW.out, hBw.out⟩
end Go.Proofs.Ytkhmgigllcgpnaa.Gh
namespace Go.Proofs.Ytkhmgigllcgpnaa.Gh
open Go Go.RowKit Go.Lib

/-- What New leaves. -/
theorem new_gm {P M : Nat} {mo : Int} {w : World} {t : TypeId} (hP : Blk w P t [.int .i64 mo, .int .u64 0, .pointer (some ⟨P, 1, none⟩), .pointer (some ⟨P, 1, none⟩), .map (some M)]) (hM : PM w M 0 (fun _ => none)) (q : P ≠ M) : GM P M mo.toNat [] w :=
  ⟨List.nodup_nil, fun x hx => (by cases hx), by simp, ⟨mo, hP.cell (i := 0) rfl, rfl⟩, hP.cell (i := 4) rfl, ⟨hP.cell (i := 3) rfl, hP.cell (i := 2) rfl, trivial⟩, fun x hx => (by cases hx), hM, List.nodup_nil, q, fun x hx => (by cases hx), ⟨_, _, hP⟩, fun x hx => (by cases hx)⟩
set_option maxRecDepth 100000 in
set_option maxHeartbeats 1000000 in
theorem new_any (mo : Int) (w : World) : Calls Try.prog 25 #[.int .i64 mo] w fun e w' => ∃ P M, e = .returned (.pointer (some ⟨P, 0, none⟩)) ∧ GM P M mo.toNat [] w' ∧ Below w.heap.size w w' ∧ w.heap.size ≤ P ∧ w.heap.size ≤ M := by
  have hmm := @run_makeMap Try.prog
  have hF : Hid (∀ w3, ((w.alloc (.map #[] 0)).alloc (.cells #[.int .i64 mo, .int .u64 0, .pointer none, .pointer none, .map (some w.heap.size)] 87)) = w3 → w3.cell? ⟨w.heap.size + 1, 2, none⟩ = some (.pointer none) ∧ (w3.setCell ⟨w.heap.size + 1, 2, none⟩ (.pointer (some ⟨w.heap.size + 1, 1, none⟩))).cell? ⟨w.heap.size + 1, 3, none⟩ = some (.pointer none) ∧ w3.frozen? ⟨w.heap.size + 1, 2, none⟩ = false ∧ w3.frozen? ⟨w.heap.size + 1, 3, none⟩ = false ∧
      Hid (∀ w4, ((w3.setCell ⟨w.heap.size + 1, 2, none⟩ (.pointer (some ⟨w.heap.size + 1, 1, none⟩))).setCell ⟨w.heap.size + 1, 3, none⟩ (.pointer (some ⟨w.heap.size + 1, 1, none⟩))).drew = w4 → GM (w.heap.size + 1) w.heap.size mo.toNat [] w4 ∧ Below w.heap.size w w4)) := hid (by
    have hM := PM.new w
    have hz1 : (w.alloc (.map #[] 0)).heap.size = w.heap.size + 1 := by simp
    have hB := Blk.new (w.alloc (.map #[] 0)) #[.int .i64 mo, .int .u64 0, .pointer none, .pointer none, .map (some w.heap.size)] 87
    rw [hz1] at hB
    have hb : Below w.heap.size w ((w.alloc (.map #[] 0)).alloc (.cells #[.int .i64 mo, .int .u64 0, .pointer none, .pointer none, .map (some w.heap.size)] 87)) := ((Below.refl _ _).alloc (Nat.le_refl _) _).alloc (by omega) _
    replace hM : PM ((w.alloc (.map #[] 0)).alloc (.cells #[.int .i64 mo, .int .u64 0, .pointer none, .pointer none, .map (some w.heap.size)] 87)) w.heap.size 0 (fun _ => none) := hM.keep (Below.heap_alloc _ _ _ (by omega))
    rintro w3 rfl
    refine ⟨hB.cell (i := 2) rfl, setc_other (hB.cell (i := 3) rfl) (fun e => by have := congrArg Addr.off e; simp at this), hB.frozen 2, hB.frozen 3, hid ?_⟩
    rintro w4 rfl
    have hB4 := (hB.set 2 (.pointer (some ⟨w.heap.size + 1, 1, none⟩))).set 3 (.pointer (some ⟨w.heap.size + 1, 1, none⟩))
    have ho : Only (fun b => b = w.heap.size + 1) ((w.alloc (.map #[] 0)).alloc (.cells #[.int .i64 mo, .int .u64 0, .pointer none, .pointer none, .map (some w.heap.size)] 87)) (((((w.alloc (.map #[] 0)).alloc (.cells #[.int .i64 mo, .int .u64 0, .pointer none, .pointer none, .map (some w.heap.size)] 87)).setCell ⟨w.heap.size + 1, 2, none⟩ (.pointer (some ⟨w.heap.size + 1, 1, none⟩))).setCell ⟨w.heap.size + 1, 3, none⟩ (.pointer (some ⟨w.heap.size + 1, 1, none⟩))).drew) := (((Only.refl (fun b => b = w.heap.size + 1) _).setCell (p := ⟨w.heap.size + 1, 2, none⟩) (.inl rfl) _).setCell (p := ⟨w.heap.size + 1, 3, none⟩) (.inl rfl) _).drew
    refine ⟨new_gm hB4.drew (hM.keep (ho.block _ (by simp; omega) (by omega))) (by omega), hb.trans (ho.below (by simp; omega) (fun x hx => by omega))⟩)
  go_enter Try.func25, Try.ntmps25
  go_wp2_with fail
  generalize hw3 : ((w.alloc (.map #[] 0)).alloc (.cells #[.int .i64 mo, .int .u64 0, .pointer none, .pointer none, .map (some w.heap.size)] 87)) = w3
  obtain ⟨d2, d3, f2, f3, HF⟩ := hF.out w3 hw3
  clear hF hw3 hmm
  go_region
  generalize hw4 : ((w3.setCell ⟨w.heap.size + 1, 2, none⟩ (.pointer (some ⟨w.heap.size + 1, 1, none⟩))).setCell ⟨w.heap.size + 1, 3, none⟩ (.pointer (some ⟨w.heap.size + 1, 1, none⟩))).drew = w4
  obtain ⟨hg, hb⟩ := HF.out w4 hw4
  have HG := hid hg
  clear HF hw4 hg d2 d3 f2 f3
  go_wp2_with fail
  go_ret
  exact ⟨_, _, rfl, HG.out, hb, by omega, Nat.le_refl _⟩
end Go.Proofs.Ytkhmgigllcgpnaa.Gh

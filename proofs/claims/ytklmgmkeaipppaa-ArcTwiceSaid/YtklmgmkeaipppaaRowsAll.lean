/-
  The contract of All. Conditions: the rows lie in memory.
-/
import Derived.Test.YtklmgmkeaipppaaRowsPut
import Derived.Lib.Builder
namespace Go.Proofs.Ytklmgmkeaipppaa
open Go Go.RowKit Go.Lib

theorem infoInt : (Try.prog.info? 3).map (fun i => (i.zero, i.size, i.bytes)) = some (some (.int .i64 0), 1, 8) := by kernel_rfl
theorem below_of_grown {w w1 : World} (h : w.grownBy w1 none) : Below w.heap.size w w1 := ⟨h.os, h.tape, h.output, h.size, fun k hk => h.block k hk (by simp)⟩
def slLen : Value → Nat
  | .slice _ n _ => n
  | _ => 0
theorem drop_cons {α : Type} {l : List α} {j : Nat} {x : α} (h : l[j]? = some x) : l.drop j = x :: l.drop (j + 1) := by
  obtain ⟨h1, rfl⟩ := List.getElem?_eq_some_iff.1 h
  exact List.drop_eq_getElem_cons h1
theorem take_snoc {α : Type} {l : List α} {j : Nat} {x : α} (h : l[j]? = some x) : l.take (j + 1) = l.take j ++ [x] := by
  rw [List.take_add_one, h]; rfl
theorem RowAt.step {w : World} {O i : Nat} {l : List Nd} (h : RowAt w O i l) {j : Nat} {x : Nd} (hj : l[j]? = some x) :
    w.cell? ⟨x.b, 0, none⟩ = some (.int .i64 x.id) ∧ w.cell? ⟨x.b, 3, none⟩ = some (.pointer (some ⟨(fst (edge O i) (pts (l.drop (j + 1)))).b, (fst (edge O i) (pts (l.drop (j + 1)))).o, none⟩)) := by
  have hx : x ∈ l := List.mem_of_getElem? hj
  refine ⟨(h.node x hx).1, ?_⟩
  have hseq := h.seq
  have e : l = l.take j ++ x :: l.drop (j + 1) := by rw [← drop_cons hj, List.take_append_drop]
  rw [e, pts_app, pts_cons] at hseq
  exact (ring_mid hseq).2
theorem infoSpot : (Try.prog.info? 78).map (fun i => (i.zero, i.size, i.bytes)) = some (some (.agg #[.int .i64 0, .int .i64 0, .pointer none, .pointer none]), 4, 32) := by kernel_rfl
theorem ptr_eql {w : World} (a : Addr) : (binOp .neq 76 (.pointer (some a)) (.pointer (some a))).run Try.prog w = .ok (.bool false) w := by
  obtain ⟨i0, hi, hz0, hz1, hz2⟩ := info_parts infoSpot
  exact run_neq_ptr_same w a Try.underlying76 hi
theorem ptr_neq {w : World} {b c o p : Nat} (hne : b ≠ c) (ha : Plain w b) (hb : Plain w c) : (binOp .neq 76 (.pointer (some ⟨b, o, none⟩)) (.pointer (some ⟨c, p, none⟩))).run Try.prog w = .ok (.bool true) w := by
  obtain ⟨i0, hi, hz0, hz1, hz2⟩ := info_parts infoSpot
  obtain ⟨t, cs, ha⟩ := ha
  obtain ⟨u, ds, hb⟩ := hb
  have hsa := run_sameAddr_other (P := Try.prog) w (a := ⟨b, o, none⟩) (b := ⟨c, p, none⟩) (fun e => hne (congrArg Addr.block e)) (ca := cs.toArray) (ta := t) (cb := ds.toArray) (tb := u) ha hb
  have h : ∀ d : Nat, (Op.equalIn (d + 1) 76 (.pointer (some ⟨b, o, none⟩)) (.pointer (some ⟨c, p, none⟩))).run Try.prog w = .ok false w := fun d => by
    simp [Op.equalIn, run_underlying Try.underlying76, sizeOf, typeInfo, hi, hz1, hsa]
  simp only [binOp]
  simp [Op.equal, Op.maxDepth, h 9999]
theorem ic_snoc (zs : List Int) (z : Int) : ic (zs ++ [z]) = ic zs ++ [.int .i64 z] := by simp [ic]

set_option maxRecDepth 100000 in
set_option maxHeartbeats 1000000 in
theorem all_any {P O M : Nat} {N : List (List Nd)} {w : World} (h : RM P O M N w) (r : Int) :
   Calls Try.prog 36 #[.pointer (some ⟨P, 0, none⟩), .int .i64 r] w fun e w' => ∃ v, e = .returned v ∧ w'.ownsRow w.heap.size 3 1 v (rowAt (ids N) r).length (ic (rowAt (ids N) r)) ∧ Below w.heap.size w w' := by
  have hc := isrow_any h r
  by_cases hr : 0 ≤ r ∧ r < N.length
  · rw [decide_eq_true hr] at hc
    obtain ⟨i, rfl⟩ : ∃ i : Nat, r = i := ⟨r.toNat, by omega⟩
    have hi : i < N.length := by omega
    obtain ⟨l, hl⟩ : ∃ l, N[i]? = some l := ⟨_, List.getElem?_eq_getElem hi⟩
    clear hr
    have hR := h.row i _ hl
    have c0 := h.p0
    have c1 := hR.ct
    replace c1 : w.cell? ⟨O, i * 5 + 4, none⟩ = some (.int .i64 (l.length : Nat)) := c1
    have c3 : w.cell? ⟨O, i * 5 + 3, none⟩ = some (.pointer (some ⟨(fst (edge O i) (pts (l.drop 0))).b, (fst (edge O i) (pts (l.drop 0))).o, none⟩)) := (ring_at (a := []) (b := pts l) hR.seq).1
    have hK := h.len hl
    have hO := h.lt O (.inr (.inl rfl))
    have hP := h.lt P (.inl rfl)
    have hxs : Hid (∀ x ∈ l, x.b ≠ O ∧ x.b < w.heap.size) := hid (fun x hx => ⟨(h.xs x (mem_flat hl hx)).2.1, h.lt x.b (.inr (.inr (.inr ⟨x, mem_flat hl hx, rfl⟩)))⟩)
    rw [rowAt_nat (ids_at hl), show (idl l).length = l.length from List.length_map _]
    have HR := hid hR
    have hpl : Hid (Plain w O ∧ ∀ x ∈ l, Plain w x.b) := hid ⟨h.fO, fun x hx => h.fx x (mem_flat hl hx)⟩
    obtain ⟨i0, hi0, hz0, hz1, hz2⟩ := info_parts infoInt
    obtain ⟨K, hKl⟩ : ∃ K, K = l.length := ⟨_, rfl⟩
    rw [← hKl] at c1 hK ⊢
    have HK := hid hKl
    generalize N.length = n at *
    obtain ⟨vb, hvb⟩ : ∃ vb, vb = (fst (edge O i) (pts (l.drop 0))).b := ⟨_, rfl⟩
    obtain ⟨vo, hvo⟩ : ∃ vo, vo = (fst (edge O i) (pts (l.drop 0))).o := ⟨_, rfl⟩
    rw [← hvb, ← hvo] at c3
    have HV := hid (And.intro hvb hvo)
    clear h hl hR hKl hvb hvo
    go_enter Try.func36, Try.ntmps36
    go_wp2_with fail
    refine hc.mono ?_
    rintro e w1 ⟨rfl, rfl⟩
    go_wp2_with (at_make; refine wpList_make_own _ rfl _ _ 38 rfl w.heap.size 3 i0 (.int .i64 0) 1 Try.underlying38 hi0 hz0 hz1 .i64 .i64 _ K rfl rfl (by omega) (by rw [hz2]; omega) (by unfold maxLen; omega) (Nat.le_refl _) ?_; intro w2 hown hgrow; have hb0 := below_of_grown hgrow; have d0 := (hb0.cell (p := ⟨P, 0, none⟩) hP).trans c0; have d3 := (hb0.cell (p := ⟨O, i * 5 + 3, none⟩) hO).trans c3)
    have HO := hid hown
    have HB := hid hb0
    clear hown hb0 hgrow d0 d3 c0 c1 c3
    go_loopw [5, 7] (fun p q wr => ∃ j : Nat, j ≤ K ∧ p = .slice (some ⟨w.heap.size, 0, none⟩) j K ∧ q = .pointer (some ⟨(fst (edge O i) (pts (l.drop j))).b, (fst (edge O i) (pts (l.drop j))).o, none⟩) ∧ Hid (wr.ownsRow w.heap.size 3 1 (.slice (some ⟨w.heap.size, 0, none⟩) j K) j (ic ((idl l).take j))) ∧ Hid (Below w.heap.size w wr)) (fun p _ _ => K - slLen p)
    case atStart => exact ⟨0, Nat.zero_le _, rfl, by rw [HV.out.1, HV.out.2], HO, HB⟩
    case round =>
      obtain ⟨j, hj, rfl, hq, hOw, hBw⟩ := hrel
      clear HO HB HV
      by_cases hlt : j < K
      · obtain ⟨x, hx⟩ : ∃ x, l[j]? = some x := ⟨_, List.getElem?_eq_getElem (by rw [← HK.out]; exact hlt)⟩
        obtain ⟨s1, s2⟩ := HR.out.step hx
        obtain ⟨x1, x2⟩ := hxs.out x (List.mem_of_getElem? hx)
        have e1 := (hBw.out.cell (p := ⟨x.b, 0, none⟩) x2).trans s1
        have e2 := (hBw.out.cell (p := ⟨x.b, 3, none⟩) x2).trans s2
        have hfs : fst (edge O i) (pts (l.drop j)) = x.pt := by rw [drop_cons hx]; rfl
        rw [hfs] at hq
        replace hq : _ = Value.pointer (some ⟨x.b, 0, none⟩) := hq
        subst hq
        have hxt : Hid ((idl l).take (j + 1) = (idl l).take j ++ [x.id]) := hid (take_snoc (by rw [idl, List.getElem?_map, hx]; rfl))
        obtain ⟨nb, hnb⟩ : ∃ nb, nb = (fst (edge O i) (pts (l.drop (j + 1)))).b := ⟨_, rfl⟩
        obtain ⟨no, hno⟩ : ∃ no, no = (fst (edge O i) (pts (l.drop (j + 1)))).o := ⟨_, rfl⟩
        rw [← hnb, ← hno] at e2
        have HN := hid (And.intro hnb hno)
        clear s1 s2 hfs hnb hno
        have HX := hid hx
        clear hx
        have hpo := (hpl.out.1).keep (hBw.out.block O hO)
        have hpx := (hpl.out.2 x (List.mem_of_getElem? HX.out)).keep (hBw.out.block x.b x2)
        have hne := ptr_neq (w := wr) (o := 0) (p := i * 5) x1 hpx hpo
        have hox := hOw.out
        clear hpo hpx
        have x1' := hid x1
        clear x1
        generalize x.b = X at *
        generalize x.id = z at *
        generalize (idl l).take j = zs at *
        go_wp2_with (at_builtin; refine wpList_append_fits _ rfl _ _ 38 rfl w.heap.size 3 i0 1 Try.underlying38 hi0 hz1 w.heap.size j K _ rfl (hox.alloc _) ⟨wr.heap.size, 0, none⟩ 1 1 [.int .i64 z] rfl rfl (one_cell _ _ _) (one_ok _) (by omega) ?_; intro w3 hown3 hgrow3; have hb3 := hBw.out.trans (own_grown hox hBw.out.size hgrow3); have e4 := (hb3.cell (p := ⟨X, 3, none⟩) x2).trans ((hBw.out.cell (p := ⟨X, 3, none⟩) x2).symm.trans e2))
        go_roundw
        case rel => exact ⟨j + 1, by omega, rfl, by rw [HN.out.1, HN.out.2], hid (by rw [hxt.out, ic_snoc]; exact hown3), hid hb3⟩
        case measure => simp [slLen]; omega
      · obtain rfl : j = K := by omega
        have hq2 : fst (edge O i) (pts (l.drop j)) = edge O i := by rw [HK.out, List.drop_length]; rfl
        rw [hq2] at hq
        replace hq : _ = Value.pointer (some ⟨O, i * 5, none⟩) := hq
        subst hq
        have hne := ptr_eql (w := wr) ⟨O, i * 5, none⟩
        have hown := hOw.out
        rw [List.take_of_length_le (by rw [idl, List.length_map, ← HK.out]; exact Nat.le_refl _)] at hown
        have HW := hid hown
        clear hown
        go_wp2_with fail
        go_ret
        exact ⟨_, rfl, HW.out, hBw.out⟩
  · rw [decide_eq_false hr] at hc
    have hv := hid (rowAt_no (L := ids N) (by rw [ids_len]; exact hr))
    clear h hr
    go_enter Try.func36, Try.ntmps36
    go_wp2_with fail
    refine hc.mono ?_
    rintro e w1 ⟨rfl, rfl⟩
    go_wp2_with fail
    go_ret
    exact ⟨.slice none 0 0, rfl, by rw [hv.out]; exact World.ownsRow_nil _ _ _ _, Below.refl _ _⟩
end Go.Proofs.Ytklmgmkeaipppaa

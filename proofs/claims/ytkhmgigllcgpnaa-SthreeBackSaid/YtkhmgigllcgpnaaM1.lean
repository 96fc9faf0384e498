/-
  The contracts of Front and Back. Conditions: the rows lie in memory.
  The contract of All. Conditions: the rows lie in memory.
-/
import Derived.Test.YtkhmgigllcgpnaaRowsStand
import Derived.Lib.Builder
namespace Go.Proofs.Ytkhmgigllcgpnaa
open Go Go.RowKit Go.Lib

theorem Go10.refl {P O M : Nat} {N : List (List Nd)} {w : World} (h : RM P O M N w) : Go10 P O M N w N w := ⟨h, Only.refl _ _, fun _ hb => .inl hb⟩
theorem Go10.trans {P O M : Nat} {N N1 N2 : List (List Nd)} {w w1 w2 : World} (h : Go10 P O M N w N1 w1) (k : Go10 P O M N1 w1 N2 w2) : Go10 P O M N w N2 w2 :=
  ⟨k.rm, h.only.trans k.only h.foot, fun b hb => (k.foot b hb).elim (h.foot b) (fun e => .inr (Nat.le_trans h.only.size e))⟩
theorem ins_foot {P O M : Nat} {N : List (List Nd)} {i : Nat} {a b : List Nd} {x : Nd} (hi : N[i]? = some (a ++ b)) (c : Nat) (h : Ft P O M (N.set i (a ++ x :: b)) c) : Ft P O M N c ∨ c = x.b := by
  rcases h with h | h | h | ⟨y, hy, h⟩
  · exact .inl (.inl h)
  · exact .inl (.inr (.inl h))
  · exact .inl (.inr (.inr (.inl h)))
  · rcases List.mem_cons.1 ((flat_ins x hi).mem_iff.1 hy) with rfl | hy
    · exact .inr h.symm
    · exact .inl (.inr (.inr (.inr ⟨y, hy, h⟩)))
/-- stand, as a step. -/
theorem stand_go {P O M : Nat} {N : List (List Nd)} {w : World} (h : RM P O M N w) {i : Nat} {a b : List Nd} (hi : N[i]? = some (a ++ b)) {z : Int} (hz : look N z = none) (h0 : 0 ≤ z) (h1 : z ≤ 4194303) {ub uo : Nat} (hu : lst (edge O i) (pts a) = ⟨ub, uo⟩) :
   Calls Try.prog 58 #[.pointer (some ⟨P, 0, none⟩), .int .i64 i, .int .i64 z, .pointer (some ⟨ub, uo, none⟩)] w fun e w' => e = .returned (.tuple #[]) ∧ ∃ N', Go10 P O M N w N' w' ∧ ids N' = (ids N).set i (idl a ++ z :: idl b) :=
  (stand_any h hi hz h0 h1 hu).mono fun _ _ ⟨he, k1, k2⟩ => ⟨he, _, ⟨k1, k2, fun c hc => (ins_foot hi c hc).imp id (fun e => by rw [e]; exact Nat.le_refl _)⟩, by rw [ids_set, idl_split]⟩
/-- What the two Puts are asked. -/
def asked (n : Nat) (r z : Int) : Bool := decide (May n r z)
theorem may_rows {n : Nat} {r z : Int} : May n r z ↔ (0 ≤ r ∧ r < n) ∧ (0 ≤ z ∧ z ≤ 4194303) := by unfold May; constructor <;> intro h <;> omega
def opFront (L : List (List Int)) (r z : Int) : List (List Int) := if May L.length r z then frontL L r.toNat z else L
def opBack (L : List (List Int)) (r z : Int) : List (List Int) := if May L.length r z then backL L r.toNat z else L

theorem front_stand {P O M : Nat} {N N1 : List (List Nd)} {w w1 : World} {i : Nat} (hil : i < N.length) {z : Int} (h0 : 0 ≤ z) (h1 : z ≤ 4194303) (g : Go10 P O M N w N1 w1) (e1 : ids N1 = takeL (ids N) z) (e2 : look N1 z = none) :
    Calls Try.prog 58 #[.pointer (some ⟨P, 0, none⟩), .int .i64 i, .int .i64 z, .pointer (some ⟨O, i * 5, none⟩)] w1 fun e w' => e = .returned (.tuple #[]) ∧ ∃ N', Go10 P O M N w N' w' ∧ ids N' = frontL (ids N) i z := by
  have hl : i < N1.length := by rw [← ids_len, e1, takeL_len, ids_len]; exact hil
  obtain ⟨l, hl⟩ : ∃ l, N1[i]? = some l := ⟨_, List.getElem?_eq_getElem hl⟩
  refine (stand_go (a := []) (b := l) g.rm hl e2 h0 h1 rfl).mono ?_
  rintro e w' ⟨he, N', k1, k2⟩
  refine ⟨he, N', g.trans k1, ?_⟩
  have hgd : (takeL (ids N) z)[i]?.getD [] = idl l := by rw [← e1, ids_at hl]; rfl
  unfold frontL
  rw [k2, hgd, e1]; rfl
set_option maxRecDepth 100000 in
set_option maxHeartbeats 1000000 in
theorem front_any {P O M : Nat} {N : List (List Nd)} {w : World} (h : RM P O M N w) (r z : Int) (hz : i64ok z) :
   Calls Try.prog 40 #[.pointer (some ⟨P, 0, none⟩), .int .i64 r, .int .i64 z] w fun e w' => e = .returned (.bool (decide (May (ids N).length r z))) ∧ ∃ N', Go10 P O M N w N' w' ∧ ids N' = opFront (ids N) r z := by
  have hR := isrow_any h r
  have hI := isid_any z w
  rw [ids_len]
  by_cases hr : 0 ≤ r ∧ r < N.length
  · by_cases hi : 0 ≤ z ∧ z ≤ 4194303
    · have hm : May N.length r z := may_rows.2 ⟨hr, hi⟩
      rw [decide_eq_true hr] at hR
      rw [decide_eq_true hi] at hI
      have hop : Hid (opFront (ids N) r z = frontL (ids N) r.toNat z) := hid (by unfold opFront; rw [ids_len, if_pos hm])
      have hT := take_any h z hz
      rw [decide_eq_true hm]
      obtain ⟨i, rfl⟩ : ∃ i : Nat, r = i := ⟨r.toNat, by omega⟩
      have hil : i < N.length := by omega
      have hs := fun N1 w1 => front_stand (P := P) (O := O) (M := M) (N := N) (N1 := N1) (w := w) (w1 := w1) hil hi.1 hi.2
      generalize (rowOf (ids N) z).isSome = B at *
      have HS := hid hs
      clear hs hm h hr
      go_enter Try.func40, Try.ntmps40
      go_wp2_with fail
      refine hR.mono ?_
      rintro e w1 ⟨rfl, rfl⟩
      go_wp2_with fail
      refine hI.mono ?_
      rintro e w1 ⟨rfl, rfl⟩
      go_wp2_with fail
      refine hT.mono ?_
      rintro e w1 ⟨rfl, N1, g1, e1, e2⟩
      have c0 := g1.rm.p0
      have hln : N1.length = N.length := by rw [← ids_len, e1, takeL_len, ids_len]
      have hil1 : i < N1.length := by omega
      have hn8 := g1.rm.n8
      have hst := HS.out N1 w1 g1 e1 e2
      have hop2 : Hid (opFront (ids N) (i : Int) z = frontL (ids N) i z) := hop
      clear HS hT hR hI hln g1 e1 e2 hop
      go_wp2_with fail
      refine hst.mono ?_
      rintro e w2 ⟨rfl, N2, g2, k2⟩
      go_wp2_with fail
      go_ret
      exact ⟨rfl, N2, g2, k2.trans hop2.out.symm⟩
    · have hm : ¬ May N.length r z := fun e => hi (may_rows.1 e).2
      rw [decide_eq_true hr] at hR
      rw [decide_eq_false hi] at hI
      have hop : Hid (opFront (ids N) r z = ids N) := hid (by unfold opFront; rw [ids_len, if_neg hm])
      rw [decide_eq_false hm]
      have H := hid h
      clear hm h hr hi
      go_enter Try.func40, Try.ntmps40
      go_wp2_with fail
      refine hR.mono ?_
      rintro e w1 ⟨rfl, rfl⟩
      go_wp2_with fail
      refine hI.mono ?_
      rintro e w1 ⟨rfl, rfl⟩
      go_wp2_with fail
      go_ret
      exact ⟨rfl, N, Go10.refl H.out, hop.out.symm⟩
  · have hm : ¬ May N.length r z := fun e => hr (may_rows.1 e).1
    rw [decide_eq_false hr] at hR
    have hop : Hid (opFront (ids N) r z = ids N) := hid (by unfold opFront; rw [ids_len, if_neg hm])
    rw [decide_eq_false hm]
    have H := hid h
    clear hm h hr hI
    go_enter Try.func40, Try.ntmps40
    go_wp2_with fail
    refine hR.mono ?_
    rintro e w1 ⟨rfl, rfl⟩
    go_wp2_with fail
    go_ret
    exact ⟨rfl, N, Go10.refl H.out, hop.out.symm⟩
end Go.Proofs.Ytkhmgigllcgpnaa
namespace Go.Proofs.Ytkhmgigllcgpnaa
open Go Go.RowKit Go.Lib

theorem infoInt : (Try.prog.info? 3).map (fun i => (i.zero, i.size, i.bytes)) = some (some (.int .i64 0), 1, 8) := by kernel_rfl
theorem below_of_grown {w w1 : World} (h : w.grownBy w1 none) : Below w.heap.size w w1 := ⟨h.os, h.tape, h.output, h.size, fun k hk => h.block k hk (by simp)⟩
def slLen : Value → Nat
  | .slice _ n _ => n
  | _ => 0
theorem drop_cons {α : Type} {l : List α} {j : Nat} {x : α} (h : l[j]? = some x) : l.drop j = x :: l.drop (j + 1) := by
  obtain ⟨h1, rfl⟩ := List.getElem?_eq_some_iff.1 h
  exact List.drop_eq_getElem_cons h1
theorem take_snoc {α : Type} {l : List α} {j : Nat} {x : α} (h : l[j]? = some x) : l.take (j + 1) = l.take j ++ [x] := by
  rw [List.take_add_one, h]; rfl
theorem RowAt.step {w : World} {O i : Nat} {l : List Nd} (h : RowAt w O i l) {j : Nat} {x : Nd} (hj : l[j]? = some x) :
    w.cell? ⟨x.b, 0, none⟩ = some (.int .i64 x.id) ∧ w.cell? ⟨x.b, 3, none⟩ = some (.pointer (some ⟨(fst (edge O i) (pts (l.drop (j + 1)))).b, (fst (edge O i) (pts (l.drop (j + 1)))).o, none⟩)) := by
  have hx : x ∈ l := List.mem_of_getElem? hj
  refine ⟨(h.node x hx).1, ?_⟩
  have hseq := h.seq
  have e : l = l.take j ++ x :: l.drop (j + 1) := by rw [← drop_cons hj, List.take_append_drop]
  rw [e, pts_app, pts_cons] at hseq
  exact (ring_mid hseq).2
theorem infoSpot : (Try.prog.info? 79).map (fun i => (i.zero, i.size, i.bytes)) = some (some (.agg #[.int .i64 0, .int .i64 0, .pointer none, .pointer none]), 4, 32) := by kernel_rfl
theorem ptr_eql {w : World} (a : Addr) : (binOp .neq 77 (.pointer (some a)) (.pointer (some a))).run Try.prog w = .ok (.bool false) w := by
  obtain ⟨i0, hi, hz0, hz1, hz2⟩ := info_parts infoSpot
  exact run_neq_ptr_same w a Try.underlying77 hi
theorem ptr_neq {w : World} {b c o p : Nat} (hne : b ≠ c) (ha : Plain w b) (hb : Plain w c) : (binOp .neq 77 (.pointer (some ⟨b, o, none⟩)) (.pointer (some ⟨c, p, none⟩))).run Try.prog w = .ok (.bool true) w := by
  obtain ⟨i0, hi, hz0, hz1, hz2⟩ := info_parts infoSpot
  obtain ⟨t, cs, ha⟩ := ha
  obtain ⟨u, ds, hb⟩ := hb
  have hsa := run_sameAddr_other (P := Try.prog) w (a := ⟨b, o, none⟩) (b := ⟨c, p, none⟩) (fun e => hne (congrArg Addr.block e)) (ca := cs.toArray) (ta := t) (cb := ds.toArray) (tb := u) ha hb
  have h : ∀ d : Nat, (Op.equalIn (d + 1) 77 (.pointer (some ⟨b, o, none⟩)) (.pointer (some ⟨c, p, none⟩))).run Try.prog w = .ok false w := fun d => by
    simp [Op.equalIn, run_underlying Try.underlying77, sizeOf, typeInfo, hi, hz1, hsa]
  simp only [binOp]
  simp [Op.equal, Op.maxDepth, h 9999]
theorem ic_snoc (zs : List Int) (z : Int) : ic (zs ++ [z]) = ic zs ++ [.int .i64 z] := by simp [ic]

set_option maxRecDepth 100000 in
set_option maxHeartbeats 1000000 in
theorem all_any {P O M : Nat} {N : List (List Nd)} {w : World} (h : RM P O M N w) (r : Int) :
   Calls Try.prog 37 #[.pointer (some ⟨P, 0, none⟩), .int .i64 r] w fun e w' => ∃ v, e = .returned v ∧ w'.ownsRow w.heap.size 3 1 v (rowAt (ids N) r).length (ic (rowAt (ids N) r)) ∧ Below w.heap.size w w' := by
  have hc := isrow_any h r
  by_cases hr : 0 ≤ r ∧ r < N.length
  · rw [decide_eq_true hr] at hc
    obtain ⟨i, rfl⟩ : ∃ i : Nat, r = i := ⟨r.toNat, by omega⟩
    have hi : i < N.length := by omega
    obtain ⟨l, hl⟩ : ∃ l, N[i]? = some l := ⟨_, List.getElem?_eq_getElem hi⟩
    clear hr
    have hR := h.row i _ hl
    have c0 := h.p0
    have c1 := hR.ct
    replace c1 : w.cell? ⟨O, i * 5 + 4, none⟩ = some (.int .i64 (l.length : Nat)) := c1
    have c3 : w.cell? ⟨O, i * 5 + 3, none⟩ = some (.pointer (some ⟨(fst (edge O i) (pts (l.drop 0))).b, (fst (edge O i) (pts (l.drop 0))).o, none⟩)) := (ring_at (a := []) (b := pts l) hR.seq).1
    have hK := h.len hl
    have hO := h.lt O (.inr (.inl rfl))
    have hP := h.lt P (.inl rfl)
    have hxs : Hid (∀ x ∈ l, x.b ≠ O ∧ x.b < w.heap.size) := hid (fun x hx => ⟨(h.xs x (mem_flat hl hx)).2.1, h.lt x.b (.inr (.inr (.inr ⟨x, mem_flat hl hx, rfl⟩)))⟩)
    rw [rowAt_nat (ids_at hl), show (idl l).length = l.length from List.length_map _]
    have HR := hid hR
    have hpl : Hid (Plain w O ∧ ∀ x ∈ l, Plain w x.b) := hid ⟨h.fO, fun x hx => h.fx x (mem_flat hl hx)⟩
    obtain ⟨i0, hi0, hz0, hz1, hz2⟩ := info_parts infoInt
    obtain ⟨K, hKl⟩ : ∃ K, K = l.length := ⟨_, rfl⟩
    rw [← hKl] at c1 hK ⊢
    have HK := hid hKl
    generalize N.length = n at *
    obtain ⟨vb, hvb⟩ : ∃ vb, vb = (fst (edge O i) (pts (l.drop 0))).b := ⟨_, rfl⟩
    obtain ⟨vo, hvo⟩ : ∃ vo, vo = (fst (edge O i) (pts (l.drop 0))).o := ⟨_, rfl⟩
    rw [← hvb, ← hvo] at c3
    have HV := hid (And.intro hvb hvo)
    clear h hl hR hKl hvb hvo
    go_enter Try.func37, Try.ntmps37
    go_wp2_with fail
    refine hc.mono ?_
    rintro e w1 ⟨rfl, rfl⟩
    go_wp2_with (at_make; refine wpList_make_own _ rfl _ _ 43 rfl w.heap.size 3 i0 (.int .i64 0) 1 Try.underlying43 hi0 hz0 hz1 .i64 .i64 _ K rfl rfl (by omega) (by rw [hz2]; omega) (by unfold maxLen; omega) (Nat.le_refl _) ?_; intro w2 hown hgrow; have hb0 := below_of_grown hgrow; have d0 := (hb0.cell (p := ⟨P, 0, none⟩) hP).trans c0; have d3 := (hb0.cell (p := ⟨O, i * 5 + 3, none⟩) hO).trans c3)
    have HO := hid hown
    have HB := hid hb0
    clear hown hb0 hgrow d0 d3 c0 c1 c3
    go_loopw [5, 7] (fun p q wr => ∃ j : Nat, j ≤ K ∧ p = .slice (some ⟨w.heap.size, 0, none⟩) j K ∧ q = .pointer (some ⟨(fst (edge O i) (pts (l.drop j))).b, (fst (edge O i) (pts (l.drop j))).o, none⟩) ∧ Hid (wr.ownsRow w.heap.size 3 1 (.slice (some ⟨w.heap.size, 0, none⟩) j K) j (ic ((idl l).take j))) ∧ Hid (Below w.heap.size w wr)) (fun p _ _ => K - slLen p)
    case atStart => exact ⟨0, Nat.zero_le _, rfl, by rw [HV.out.1, HV.out.2], HO, HB⟩
    case round =>
      obtain ⟨j, hj, rfl, hq, hOw, hBw⟩ := hrel
      clear HO HB HV
      by_cases hlt : j < K
      · obtain ⟨x, hx⟩ : ∃ x, l[j]? = some x := ⟨_, List.getElem?_eq_getElem (by rw [← HK.out]; exact hlt)⟩
        obtain ⟨s1, s2⟩ := HR.out.step hx
        obtain ⟨x1, x2⟩ := hxs.out x (List.mem_of_getElem? hx)
        have e1 := (hBw.out.cell (p := ⟨x.b, 0, none⟩) x2).trans s1
        have e2 := (hBw.out.cell (p := ⟨x.b, 3, none⟩) x2).trans s2
        have hfs : fst (edge O i) (pts (l.drop j)) = x.pt := by rw [drop_cons hx]; rfl
        rw [hfs] at hq
        replace hq : _ = Value.pointer (some ⟨x.b, 0, none⟩) := hq
        subst hq
        have hxt : Hid ((idl l).take (j + 1) = (idl l).take j ++ [x.id]) := hid (take_snoc (by rw [idl, List.getElem?_map, hx]; rfl))
        obtain ⟨nb, hnb⟩ : ∃ nb, nb = (fst (edge O i) (pts (l.drop (j + 1)))).b := ⟨_, rfl⟩
        obtain ⟨no, hno⟩ : ∃ no, no = (fst (edge O i) (pts (l.drop (j + 1)))).o := ⟨_, rfl⟩
        rw [← hnb, ← hno] at e2
        have HN := hid (And.intro hnb hno)
        clear s1 s2 hfs hnb hno
        have HX := hid hx
        clear hx
        have hpo := (hpl.out.1).keep (hBw.out.block O hO)
        have hpx := (hpl.out.2 x (List.mem_of_getElem? HX.out)).keep (hBw.out.block x.b x2)
        have hne := ptr_neq (w := wr) (o := 0) (p := i * 5) x1 hpx hpo
        have hox := hOw.out
        clear hpo hpx
        have x1' := hid x1
        clear x1
        generalize x.b = X at *
        generalize x.id = z at *
        generalize (idl l).take j = zs at *
        go_wp2_with (at_builtin; refine wpList_append_fits _ rfl _ _ 43 rfl w.heap.size 3 i0 1 Try.underlying43 hi0 hz1 w.heap.size j K _ rfl (hox.alloc _) ⟨wr.heap.size, 0, none⟩ 1 1 [.int .i64 z] rfl rfl (one_cell _ _ _) (one_ok _) (by omega) ?_; intro w3 hown3 hgrow3; have hb3 := hBw.out.trans (own_grown hox hBw.out.size hgrow3); have e4 := (hb3.cell (p := ⟨X, 3, none⟩) x2).trans ((hBw.out.cell (p := ⟨X, 3, none⟩) x2).symm.trans e2))
        go_roundw
        case rel => exact ⟨j + 1, by omega, rfl, by rw [HN.out.1, HN.out.2], hid (by rw [hxt.out, ic_snoc]; exact hown3), hid hb3⟩
        case measure => simp [slLen]; omega
      · obtain rfl : j = K := by omega
        have hq2 : fst (edge O i) (pts (l.drop j)) = edge O i := by rw [HK.out, List.drop_length]; rfl
        rw [hq2] at hq
        replace hq : _ = Value.pointer (some ⟨O, i * 5, none⟩) := hq
        subst hq
        have hne := ptr_eql (w := wr) ⟨O, i * 5, none⟩
        have hown := hOw.out
        rw [List.take_of_length_le (by rw [idl, List.length_map, ← HK.out]; exact Nat.le_refl _)] at hown
        have HW := hid hown
        clear hown
        go_wp2_with fail
        go_ret
        exact ⟨_, rfl, HW.out, hBw.out⟩
  · rw [decide_eq_false hr] at hc
    have hv := hid (rowAt_no (L := ids N) (by rw [ids_len]; exact hr))
    clear h hr
    go_enter Try.func37, Try.ntmps37
    go_wp2_with fail
    refine hc.mono ?_
    rintro e w1 ⟨rfl, rfl⟩
    go_wp2_with fail
    go_ret
    exact ⟨.slice none 0 0, rfl, by rw [hv.out]; exact World.ownsRow_nil _ _ _ _, Below.refl _ _⟩
end Go.Proofs.Ytkhmgigllcgpnaa

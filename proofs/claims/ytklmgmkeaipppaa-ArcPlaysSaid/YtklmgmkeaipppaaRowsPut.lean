/-
  The contracts of Front and Back. Conditions: the rows lie in memory.
-/
import Derived.Test.YtklmgmkeaipppaaRowsStand
namespace Go.Proofs.Ytklmgmkeaipppaa
open Go Go.RowKit Go.Lib

theorem Go10.refl {P O M : Nat} {N : List (List Nd)} {w : World} (h : RM P O M N w) : Go10 P O M N w N w := ⟨h, Only.refl _ _, fun _ hb => .inl hb⟩
theorem Go10.trans {P O M : Nat} {N N1 N2 : List (List Nd)} {w w1 w2 : World} (h : Go10 P O M N w N1 w1) (k : Go10 P O M N1 w1 N2 w2) : Go10 P O M N w N2 w2 :=
  ⟨k.rm, h.only.trans k.only h.foot, fun b hb => (k.foot b hb).elim (h.foot b) (fun e => .inr (Nat.le_trans h.only.size e))⟩
theorem ins_foot {P O M : Nat} {N : List (List Nd)} {i : Nat} {a b : List Nd} {x : Nd} (hi : N[i]? = some (a ++ b)) (c : Nat) (h : Ft P O M (N.set i (a ++ x :: b)) c) : Ft P O M N c ∨ c = x.b := by
  rcases h with h | h | h | ⟨y, hy, h⟩
  · exact .inl (.inl h)
  · exact .inl (.inr (.inl h))
  · exact .inl (.inr (.inr (.inl h)))
  · rcases List.mem_cons.1 ((flat_ins x hi).mem_iff.1 hy) with rfl | hy
    · exact .inr h.symm
    · exact .inl (.inr (.inr (.inr ⟨y, hy, h⟩)))
/-- stand, as a step. -/
theorem stand_go {P O M : Nat} {N : List (List Nd)} {w : World} (h : RM P O M N w) {i : Nat} {a b : List Nd} (hi : N[i]? = some (a ++ b)) {z : Int} (hz : look N z = none) (h0 : 0 ≤ z) (h1 : z ≤ 4194303) {ub uo : Nat} (hu : lst (edge O i) (pts a) = ⟨ub, uo⟩) :
   Calls Try.prog 60 #[.pointer (some ⟨P, 0, none⟩), .int .i64 i, .int .i64 z, .pointer (some ⟨ub, uo, none⟩)] w fun e w' => e = .returned (.tuple #[]) ∧ ∃ N', Go10 P O M N w N' w' ∧ ids N' = (ids N).set i (idl a ++ z :: idl b) :=
  (stand_any h hi hz h0 h1 hu).mono fun _ _ ⟨he, k1, k2⟩ => ⟨he, _, ⟨k1, k2, fun c hc => (ins_foot hi c hc).imp id (fun e => by rw [e]; exact Nat.le_refl _)⟩, by rw [ids_set, idl_split]⟩
/-- What the two Puts are asked. -/
def asked (n : Nat) (r z : Int) : Bool := decide (May n r z)
theorem may_rows {n : Nat} {r z : Int} : May n r z ↔ (0 ≤ r ∧ r < n) ∧ (0 ≤ z ∧ z ≤ 4194303) := by unfold May; constructor <;> intro h <;> omega
def opFront (L : List (List Int)) (r z : Int) : List (List Int) := if May L.length r z then frontL L r.toNat z else L
def opBack (L : List (List Int)) (r z : Int) : List (List Int) := if May L.length r z then backL L r.toNat z else L

theorem front_stand {P O M : Nat} {N N1 : List (List Nd)} {w w1 : World} {i : Nat} (hil : i < N.length) {z : Int} (h0 : 0 ≤ z) (h1 : z ≤ 4194303) (g : Go10 P O M N w N1 w1) (e1 : ids N1 = takeL (ids N) z) (e2 : look N1 z = none) :
    Calls Try.prog 60 #[.pointer (some ⟨P, 0, none⟩), .int .i64 i, .int .i64 z, .pointer (some ⟨O, i * 5, none⟩)] w1 fun e w' => e = .returned (.tuple #[]) ∧ ∃ N', Go10 P O M N w N' w' ∧ ids N' = frontL (ids N) i z := by
  have hl : i < N1.length := by rw [← ids_len, e1, takeL_len, ids_len]; exact hil
  obtain ⟨l, hl⟩ : ∃ l, N1[i]? = some l := ⟨_, List.getElem?_eq_getElem hl⟩
  refine (stand_go (a := []) (b := l) g.rm hl e2 h0 h1 rfl).mono ?_
  rintro e w' ⟨he, N', k1, k2⟩
  refine ⟨he, N', g.trans k1, ?_⟩
  have hgd : (takeL (ids N) z)[i]?.getD [] = idl l := by rw [← e1, ids_at hl]; rfl
  unfold frontL
  rw [k2, hgd, e1]; rfl
set_option maxRecDepth 100000 in
set_option maxHeartbeats 1000000 in
theorem front_any {P O M : Nat} {N : List (List Nd)} {w : World} (h : RM P O M N w) (r z : Int) (hz : i64ok z) :
   Calls Try.prog 40 #[.pointer (some ⟨P, 0, none⟩), .int .i64 r, .int .i64 z] w fun e w' => e = .returned (.bool (decide (May (ids N).length r z))) ∧ ∃ N', Go10 P O M N w N' w' ∧ ids N' = opFront (ids N) r z := by
  have hR := isrow_any h r
  have hI := isid_any z w
  rw [ids_len]
  by_cases hr : 0 ≤ r ∧ r < N.length
  · by_cases hi : 0 ≤ z ∧ z ≤ 4194303
    · have hm : May N.length r z := may_rows.2 ⟨hr, hi⟩
      rw [decide_eq_true hr] at hR
      rw [decide_eq_true hi] at hI
      have hop : Hid (opFront (ids N) r z = frontL (ids N) r.toNat z) := hid (by unfold opFront; rw [ids_len, if_pos hm])
      have hT := take_any h z hz
      rw [decide_eq_true hm]
      obtain ⟨i, rfl⟩ : ∃ i : Nat, r = i := ⟨r.toNat, by omega⟩
      have hil : i < N.length := by omega
      have hs := fun N1 w1 => front_stand (P := P) (O := O) (M := M) (N := N) (N1 := N1) (w := w) (w1 := w1) hil hi.1 hi.2
      generalize (rowOf (ids N) z).isSome = B at *
      have HS := hid hs
      clear hs hm h hr
      go_enter Try.func40, Try.ntmps40
      go_wp2_with fail
      refine hR.mono ?_
      rintro e w1 ⟨rfl, rfl⟩
      go_wp2_with fail
      refine hI.mono ?_
      rintro e w1 ⟨rfl, rfl⟩
      go_wp2_with fail
      refine hT.mono ?_
      rintro e w1 ⟨rfl, N1, g1, e1, e2⟩
      have c0 := g1.rm.p0
      have hln : N1.length = N.length := by rw [← ids_len, e1, takeL_len, ids_len]
      have hil1 : i < N1.length := by omega
      have hn8 := g1.rm.n8
      have hst := HS.out N1 w1 g1 e1 e2
      have hop2 : Hid (opFront (ids N) (i : Int) z = frontL (ids N) i z) := hop
      clear HS hT hR hI hln g1 e1 e2 hop
      go_wp2_with fail
      refine hst.mono ?_
      rintro e w2 ⟨rfl, N2, g2, k2⟩
      go_wp2_with fail
      go_ret
      exact ⟨rfl, N2, g2, k2.trans hop2.out.symm⟩
    · have hm : ¬ May N.length r z := fun e => hi (may_rows.1 e).2
      rw [decide_eq_true hr] at hR
      rw [decide_eq_false hi] at hI
      have hop : Hid (opFront (ids N) r z = ids N) := hid (by unfold opFront; rw [ids_len, if_neg hm])
      rw [decide_eq_false hm]
      have H := hid h
      clear hm h hr hi
      go_enter Try.func40, Try.ntmps40
      go_wp2_with fail
      refine hR.mono ?_
      rintro e w1 ⟨rfl, rfl⟩
      go_wp2_with fail
      refine hI.mono ?_
      rintro e w1 ⟨rfl, rfl⟩
      go_wp2_with fail
      go_ret
      exact ⟨rfl, N, Go10.refl H.out, hop.out.symm⟩
  · have hm : ¬ May N.length r z := fun e => hr (may_rows.1 e).1
    rw [decide_eq_false hr] at hR
    have hop : Hid (opFront (ids N) r z = ids N) := hid (by unfold opFront; rw [ids_len, if_neg hm])
    rw [decide_eq_false hm]
    have H := hid h
    clear hm h hr hI
    go_enter Try.func40, Try.ntmps40
    go_wp2_with fail
    refine hR.mono ?_
    rintro e w1 ⟨rfl, rfl⟩
    go_wp2_with fail
    go_ret
    exact ⟨rfl, N, Go10.refl H.out, hop.out.symm⟩
end Go.Proofs.Ytklmgmkeaipppaa

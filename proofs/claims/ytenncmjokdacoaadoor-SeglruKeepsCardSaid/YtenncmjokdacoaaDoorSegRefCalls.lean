/-
  The document's own segmented row as an object whose blocks are hidden; the contracts of New, Active, Insert, Touch, Remove and Victim. Conditions: it lies in memory.
-/
import Derived.Test.YtenncmjokdacoaaDoorSegRef
namespace Go.Proofs.YtenncmjokdacoaaDoor.Sr
open Go Go.RowKit Go.Lib

/-- What a call leaves of it. -/
structure QPG (P Q R : Nat) (vs : List Value) (v : Value) (w : World) (vs' : List Value) (v' : Value) (L' : List (List Int)) (xs' : List Int) (w' : World) : Prop where
  qp : QP P Q R vs' v' L' xs' w'
  only : Only (QPF P Q R vs v) w w'
  foot : ∀ b, QPF P Q R vs' v' b → QPF P Q R vs v b ∨ w.heap.size ≤ b
theorem QPG.trans {P Q R : Nat} {vs vs1 vs2 : List Value} {v v1 v2 : Value} {w w1 w2 : World} {L1 L2 : List (List Int)} {x1 x2 : List Int} (h : QPG P Q R vs v w vs1 v1 L1 x1 w1) (k : QPG P Q R vs1 v1 w1 vs2 v2 L2 x2 w2) : QPG P Q R vs v w vs2 v2 L2 x2 w2 :=
  ⟨k.qp, h.only.trans k.only h.foot, fun b hb => (k.foot b hb).elim (h.foot b) (fun e => .inr (Nat.le_trans h.only.size e))⟩
theorem QPG.below {P Q R : Nat} {vs : List Value} {v : Value} {w w' : World} {L : List (List Int)} {xs : List Int} (h : QP P Q R vs v L xs w) (hb : Below w.heap.size w w') : QPG P Q R vs v w vs v L xs w' :=
  ⟨h.below hb, Below.only hb, fun _ hb => .inl hb⟩
/-- The document's segmented row s lies at P, in the blocks G. -/
def QA (P : Nat) (G : Nat → Prop) (s : Sg) (w : World) : Prop :=
  s.Ok ∧ ∃ Q R vs v xs, QP P Q R vs v s.L xs w ∧ xs.Nodup ∧ (∀ z, z ∈ xs ↔ s.a z = true) ∧ ∀ b, G b ↔ QPF P Q R vs v b
theorem QA.ok {P : Nat} {G : Nat → Prop} {s : Sg} {w : World} (h : QA P G s w) : s.Ok := h.1
theorem QA.lt {P : Nat} {G : Nat → Prop} {s : Sg} {w : World} (h : QA P G s w) {b : Nat} (hb : G b) : b < w.heap.size := by
  obtain ⟨_, Q, R, vs, v, xs, hp, _, _, hG⟩ := h
  exact hp.lt ((hG b).1 hb)
theorem QA.only {P : Nat} {G D : Nat → Prop} {s : Sg} {w w' : World} (h : QA P G s w) (ho : Only D w w') (hd : ∀ b, G b → ¬ D b) : QA P G s w' := by
  obtain ⟨k, Q, R, vs, v, xs, hp, h1, h2, hG⟩ := h
  exact ⟨k, Q, R, vs, v, xs, hp.only ho (fun b hb => hd b ((hG b).2 hb)), h1, h2, hG⟩
theorem QA.below {P : Nat} {G : Nat → Prop} {s : Sg} {w w' : World} (h : QA P G s w) (hb : Below w.heap.size w w') : QA P G s w' := h.only (D := fun _ => False) (Below.only hb) (fun _ _ => id)
theorem qa_go {P Q R : Nat} {vs vs' : List Value} {v v' : Value} {G : Nat → Prop} {w w' : World} {s' : Sg} {L' : List (List Int)} {xs' : List Int} (hG : ∀ b, G b ↔ QPF P Q R vs v b) (g : QPG P Q R vs v w vs' v' L' xs' w') (ok : s'.Ok) (e : s'.L = L') (hn : xs'.Nodup) (ha : ∀ z, z ∈ xs' ↔ s'.a z = true) :
    ∃ G', QA P G' s' w' ∧ Stp G G' w w' :=
  ⟨QPF P Q R vs' v', ⟨ok, Q, R, vs', v', xs', e ▸ g.qp, hn, ha, fun _ => Iff.rfl⟩, ⟨g.only.mono (fun b hb => (hG b).2 hb), fun b hb => (g.foot b hb).imp (hG b).2 id⟩⟩
theorem stp_same {G : Nat → Prop} (w : World) : Stp G G w w := ⟨Only.refl _ _, fun _ hb => .inl hb⟩
theorem act_filter {xs : List Int} {a : Int → Bool} (h : ∀ z, z ∈ xs ↔ a z = true) (z y : Int) : y ∈ xs.filter (fun x => decide (x ≠ z)) ↔ updB a z false y = true := by
  rw [List.mem_filter, h y]
  by_cases e : y = z
  · rw [e, updB_same]; simp
  · rw [updB_other e]; simp [e]
theorem upd_no {a : Int → Bool} {z : Int} (h : a z = false) : updB a z false = a := by
  funext y
  by_cases e : y = z
  · rw [e, updB_same, h]
  · exact updB_other e false
theorem qp_front {P Q R : Nat} {vs : List Value} {v : Value} {L : List (List Int)} {xs : List Int} {w : World} (h : QP P Q R vs v L xs w) (r z : Int) :
    Calls Tryd.prog 31 #[.pointer (some ⟨Q, 0, none⟩), .int .i64 r, .int .i64 z] w fun e w' => e = .returned (.bool (decide (May L.length r z))) ∧ ∃ vs', QPG P Q R vs v w vs' v (opFront L r z) xs w' := by
  refine (qfront_any h.rows r z).mono ?_
  rintro e w' ⟨he, vs', g⟩
  obtain ⟨k1, k2, k3⟩ := h.go g
  exact ⟨he, vs', k1, k2, k3⟩
theorem qp_take {P Q R : Nat} {vs : List Value} {v : Value} {L : List (List Int)} {xs : List Int} {w : World} (h : QP P Q R vs v L xs w) (z : Int) :
    Calls Tryd.prog 34 #[.pointer (some ⟨Q, 0, none⟩), .int .i64 z] w fun e w' => e = .returned (.bool (rowOf L z).isSome) ∧ ∃ vs', QPG P Q R vs v w vs' v (takeL L z) xs w' := by
  refine (qtake_any h.rows z).mono ?_
  rintro e w' ⟨he, vs', g⟩
  obtain ⟨k1, k2, k3⟩ := h.go g
  exact ⟨he, vs', k1, k2, k3⟩
theorem qp_idle' {P Q R : Nat} {vs : List Value} {v : Value} {L : List (List Int)} {xs : List Int} {w : World} (h : QP P Q R vs v L xs w) (z : Int) :
    Calls Tryd.prog 32 #[.pointer (some ⟨P, 0, none⟩), .int .i64 z] w fun e w' => e = .returned (.tuple #[]) ∧ ∃ v', QPG P Q R vs v w vs v' L (xs.filter (fun y => decide (y ≠ z))) w' :=
  (qp_idle h z).mono fun _ _ ⟨he, v', k1, k2, k3⟩ => ⟨he, v', k1, k2, k3⟩
theorem qa_active {P : Nat} {G : Nat → Prop} {s : Sg} {w : World} (h : QA P G s w) (z : Int) :
    Calls Tryd.prog 22 #[.pointer (some ⟨P, 0, none⟩), .int .i64 z] w fun e w' => e = .returned (.bool (s.a z)) ∧ w = w' := by
  obtain ⟨_, Q, R, vs, v, xs, hp, _, h2, _⟩ := h
  refine (qp_active hp z).mono ?_
  rintro e w' ⟨he, hw⟩
  refine ⟨?_, hw⟩
  rw [he]
  cases e2 : s.a z
  · rw [decide_eq_false (fun hm => by rw [(h2 z).1 hm] at e2; cases e2)]
  · rw [decide_eq_true ((h2 z).2 e2)]

set_option maxRecDepth 100000 in
theorem qa_new (w : World) : Calls Tryd.prog 10 #[] w fun e w' => ∃ P G, e = .returned (.pointer (some ⟨P, 0, none⟩)) ∧ QA P G Sg.new w' ∧ Below w.heap.size w w' ∧ ∀ b, G b → w.heap.size ≤ b := by
  have hn := qnew_any 3 (by decide) (by decide) w
  go_enter Tryd.func10, Tryd.ntmps10
  go_wp2_with fail
  refine hn.mono ?_
  rintro e w1 ⟨Q, R, vs, rfl, h, hb, hf⟩
  have HF : Hid (∀ w2, w1.alloc (.cells #[.pointer (some ⟨Q, 0, none⟩), .slice none 0 0] 37) = w2 → QA w1.heap.size (QPF w1.heap.size Q R vs (.slice none 0 0)) Sg.new w2 ∧ Below w.heap.size w w2 ∧ ∀ b, QPF w1.heap.size Q R vs (.slice none 0 0) b → w.heap.size ≤ b) := hid (by
    rintro w2 rfl
    have b2 : Below w1.heap.size w1 (w1.alloc (.cells #[.pointer (some ⟨Q, 0, none⟩), .slice none 0 0] 37)) := (Below.refl _ _).alloc (Nat.le_refl _) _
    refine ⟨⟨Sg.new_ok, Q, R, vs, .slice none 0 0, [], ⟨Blk.new w1 #[.pointer (some ⟨Q, 0, none⟩), .slice none 0 0] 37, h.below b2, World.ownsRow_nil _ _ _ _, by simp, fun hq => absurd (h.lt hq) (Nat.lt_irrefl _), fun b hb => by simp [Value.ownBlock] at hb⟩, List.nodup_nil, fun z => by simp [Sg.new], fun _ => Iff.rfl⟩, hb.trans (b2.mono hb.size), fun b hb2 => ?_⟩
    rcases hb2 with rfl | hb2 | hb2
    · exact hb.size
    · exact hf b hb2
    · simp [Value.ownBlock] at hb2)
  clear h hb hf hn
  go_wp2_with fail
  go_ret
  obtain ⟨k1, k2, k3⟩ := HF.out _ rfl
  exact ⟨_, _, rfl, k1, k2, k3⟩
theorem rv_some {L : List (List Int)} {z : Int} {i : Nat} (h : rowOf L z = some i) : rv (rowOf L z) = (i : Int) := by rw [h]; rfl
theorem rv_none {L : List (List Int)} {z : Int} (h : rowOf L z = none) : rv (rowOf L z) = -1 := by rw [h]; rfl

set_option maxRecDepth 100000 in
theorem qa_insert {P : Nat} {G : Nat → Prop} {s : Sg} {w : World} (h : QA P G s w) (z : Int) :
    Calls Tryd.prog 12 #[.pointer (some ⟨P, 0, none⟩), .int .i64 z] w fun e w' => e = .returned (.bool (s.insB z)) ∧ ∃ G', QA P G' (s.ins z) w' ∧ Stp G G' w w' := by
  have HQ := hid h
  obtain ⟨ok, Q, R, vs, v, xs, hp, nd, ha, hG⟩ := h
  have c0 := hp.head.cell (i := 0) rfl
  have hr := qrow_any hp.rows z
  have hfr := qp_front hp 0 z
  have oki := ok.ins z
  cases hrow : rowOf s.L z with
  | none =>
    rw [rv_none hrow] at hr
    have hh : s.has z = false := by unfold Sg.has; rw [hrow]; rfl
    have e1 : Hid (s.insB z = decide (May s.L.length 0 z)) := hid (by unfold Sg.insB; rw [hh]; rfl)
    have HG : Hid (∀ vs' w', QPG P Q R vs v w vs' v (opFront s.L 0 z) xs w' → ∃ G', QA P G' (s.ins z) w' ∧ Stp G G' w w') := hid (fun vs' w' g => qa_go hG g oki (by unfold Sg.ins; rw [hh]; rfl) nd (fun y => by rw [ha y]; unfold Sg.ins; rw [hh]; rfl))
    generalize decide (May s.L.length 0 z) = A at *
    clear hp nd ha hG ok oki hh hrow HQ
    go_enter Tryd.func12, Tryd.ntmps12
    go_wp2_with fail
    refine hr.mono ?_
    rintro e w1 ⟨rfl, rfl⟩
    go_wp2_with fail
    refine hfr.mono ?_
    rintro e w2 ⟨rfl, vs', g⟩
    have HR := hid (HG.out _ _ g)
    clear g hfr HG hr c0
    go_wp2_with fail
    go_ret
    exact ⟨ret_bool e1.out.symm, HR.out⟩
  | some i =>
    rw [rv_some hrow] at hr
    have hh : s.has z = true := by unfold Sg.has; rw [hrow]; rfl
    have e1 : Hid (s.insB z = false) := hid (by unfold Sg.insB; rw [hh]; rfl)
    have e2 : Hid (s.ins z = s) := hid (by unfold Sg.ins; rw [hh]; rfl)
    clear hp nd ha hG ok oki hh hrow hfr
    go_enter Tryd.func12, Tryd.ntmps12
    go_wp2_with fail
    refine hr.mono ?_
    rintro e w1 ⟨rfl, rfl⟩
    go_wp2_with fail
    go_ret
    exact ⟨ret_bool e1.out.symm, G, by rw [e2.out]; exact HQ.out, stp_same _⟩

set_option maxRecDepth 100000 in
theorem qa_remove {P : Nat} {G : Nat → Prop} {s : Sg} {w : World} (h : QA P G s w) (z : Int) :
    Calls Tryd.prog 16 #[.pointer (some ⟨P, 0, none⟩), .int .i64 z] w fun e w' => e = .returned (.bool (s.has z)) ∧ ∃ G', QA P G' (s.rem z) w' ∧ Stp G G' w w' := by
  obtain ⟨ok, Q, R, vs, v, xs, hp, nd, ha, hG⟩ := h
  have hi := qp_idle' hp z
  have HT : Hid (∀ v' W, QP P Q R vs v' s.L (xs.filter (fun y => decide (y ≠ z))) W → Calls Tryd.prog 34 #[.pointer (some ⟨Q, 0, none⟩), .int .i64 z] W fun e w' => e = .returned (.bool (s.has z)) ∧ ∃ vs', QPG P Q R vs v' W vs' v' (takeL s.L z) (xs.filter (fun y => decide (y ≠ z))) w') := hid (fun v' W k => qp_take k z)
  have HG : Hid (∀ vs' v' w', QPG P Q R vs v w vs' v' (takeL s.L z) (xs.filter (fun y => decide (y ≠ z))) w' → ∃ G', QA P G' (s.rem z) w' ∧ Stp G G' w w') := hid (fun vs' v' w' g => qa_go hG g (ok.rem z) rfl (nd.filter _) (fun y => act_filter ha z y))
  generalize s.has z = A at *
  generalize xs.filter (fun y => decide (y ≠ z)) = ys at *
  clear hp nd ha hG ok
  go_enter Tryd.func16, Tryd.ntmps16
  go_wp2_with fail
  refine hi.mono ?_
  rintro e w1 ⟨rfl, v', g1⟩
  have c0 := g1.qp.head.cell (i := 0) rfl
  have ht := HT.out _ _ g1.qp
  have G1 := hid g1
  clear g1 hi HT
  go_wp2_with fail
  refine ht.mono ?_
  rintro e w2 ⟨rfl, vs', g2⟩
  have HR := hid (HG.out _ _ _ (G1.out.trans g2))
  clear g2 ht HG G1
  go_wp2_with fail
  go_ret
  exact ⟨rfl, HR.out⟩

set_option maxRecDepth 100000 in
theorem qa_victim {P : Nat} {G : Nat → Prop} {s : Sg} {w : World} (h : QA P G s w) :
    Calls Tryd.prog 20 #[.pointer (some ⟨P, 0, none⟩)] w fun e w' => e = .returned (.int .i64 s.vic) ∧ w = w' := by
  obtain ⟨ok, Q, R, vs, v, xs, hp, nd, ha, hG⟩ := h
  have c0 := hp.head.cell (i := 0) rfl
  have h0 := qlast_any hp.rows 0
  have h1 := qlast_any hp.rows 1
  have h2 := qlast_any hp.rows 2
  clear hp nd ha hG ok
  have hv : Hid (s.vic = if 0 ≤ lastOf (rowAt s.L 2) then lastOf (rowAt s.L 2) else if 0 ≤ lastOf (rowAt s.L 1) then lastOf (rowAt s.L 1) else lastOf (rowAt s.L 0)) := hid rfl
  generalize lastOf (rowAt s.L 0) = V0 at *
  generalize lastOf (rowAt s.L 1) = V1 at *
  generalize lastOf (rowAt s.L 2) = V2 at *
  by_cases k2 : 0 ≤ V2
  · have hv2 : Hid (s.vic = V2) := hid (by rw [hv.out, if_pos k2])
    clear hv
    go_enter Tryd.func20, Tryd.ntmps20
    go_wp2_with fail
    refine h2.mono ?_
    rintro e w1 ⟨rfl, rfl⟩
    go_wp2_with fail
    refine h2.mono ?_
    rintro e w1 ⟨rfl, rfl⟩
    go_wp2_with fail
    go_ret
    exact ⟨ret_i64 hv2.out.symm, rfl⟩
  · by_cases k1 : 0 ≤ V1
    · have hv2 : Hid (s.vic = V1) := hid (by rw [hv.out, if_neg k2, if_pos k1])
      clear hv
      go_enter Tryd.func20, Tryd.ntmps20
      go_wp2_with fail
      refine h2.mono ?_
      rintro e w1 ⟨rfl, rfl⟩
      go_wp2_with fail
      refine h1.mono ?_
      rintro e w1 ⟨rfl, rfl⟩
      go_wp2_with fail
      refine h1.mono ?_
      rintro e w1 ⟨rfl, rfl⟩
      go_wp2_with fail
      go_ret
      exact ⟨ret_i64 hv2.out.symm, rfl⟩
    · have hv2 : Hid (s.vic = V0) := hid (by rw [hv.out, if_neg k2, if_neg k1])
      clear hv
      go_enter Tryd.func20, Tryd.ntmps20
      go_wp2_with fail
      refine h2.mono ?_
      rintro e w1 ⟨rfl, rfl⟩
      go_wp2_with fail
      refine h1.mono ?_
      rintro e w1 ⟨rfl, rfl⟩
      go_wp2_with fail
      refine h0.mono ?_
      rintro e w1 ⟨rfl, rfl⟩
      go_wp2_with fail
      go_ret
      exact ⟨ret_i64 hv2.out.symm, rfl⟩
end Go.Proofs.YtenncmjokdacoaaDoor.Sr

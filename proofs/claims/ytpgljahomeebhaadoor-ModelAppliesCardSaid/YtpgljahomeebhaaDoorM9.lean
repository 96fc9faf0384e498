/-
  The contract of the document's own Apply, all cases together. Conditions: the state is not over great, its items' keys are no empty texts; numbers are in their types' ranges.
  ModelApplies: a state whose items are its own. Conditions: the state's items can be read, they are no more than four million.
-/
import Derived.Test.YtpgljahomeebhaaDoorRfApply
import Derived.Test.YtpgljahomeebhaaDoorM8
import Derived.Test.YtpgljahomeebhaaDoorM7
import Derived.Test.YtpgljahomeebhaaDoorModLive
namespace Go.Proofs.YtpgljahomeebhaaDoor.Md
open Go Go.RowKit Go.Lib

theorem ref_apply {s : Ms} {w : World} {V : Value} {N B : Nat} (HS : Sv w V s) {op mode exp vive rc now most : Int} {k cv : ByteArray} {fg cs de ini : Nat} {hx dn vv hc iv : Bool} (hks : k.size < 9223372036854775807) (hF : Fit N B s) (hN : N ≤ 4194304) (hK : Keyed s.its) (hBd : B ≤ 1048576) (hini : ini ≤ 18446744073709551615) :
    Calls Tryd.prog 16 #[V, .int .i64 now, .agg #[.int .i64 op, .int .i64 mode, .string k, .string cv, .int .u32 fg, .int .i64 exp, .bool hx, .int .u64 cs, .bool hc, .int .u64 de, .int .u64 ini, .bool dn, .bool vv, .int .i64 vive, .int .i64 rc, .bool iv], .int .i64 most] w fun e w' => ∃ V', e = .returned (.tuple #[V', (apply s now ⟨op, mode, k, cv, fg, exp, hx, cs, hc, de, ini, dn, vv, vive, rc, iv⟩ most).2.v]) ∧ Sv w' V' (apply s now ⟨op, mode, k, cv, fg, exp, hx, cs, hc, de, ini, dn, vv, vive, rc, iv⟩ most).1 ∧ Below w.heap.size w w' := by
  obtain ⟨v, rfl, HI⟩ := HS
  obtain ⟨a, ca, rfl⟩ := HI.form
  cases hf : fine now ⟨op, mode, k, cv, fg, exp, hx, cs, hc, de, ini, dn, vv, vive, rc, iv⟩ with
  | false =>
    cases hmay : may ⟨op, mode, k, cv, fg, exp, hx, cs, hc, de, ini, dn, vv, vive, rc, iv⟩ with
    | false => exact rapply_may hks hf hmay
    | true =>
      by_cases hl : now < 1
      · exact rapply_low hks hf hmay hl
      · refine rapply_high hks hf hmay hl ?_
        have h := hf
        simp only [fine, hmay, Bool.true_and, Bool.and_eq_false_iff, decide_eq_false_iff_not] at h
        omega
  | true =>
    have h := hf
    simp only [fine, Bool.and_eq_true, decide_eq_true_eq] at h
    exact rapply_yes (hid HI) hks hF hN hK hf h.2.1 h.2.2 hBd hini

end Go.Proofs.YtpgljahomeebhaaDoor.Md
namespace Go.Proofs.YtpgljahomeebhaaDoor.Md
open Go Go.RowKit Go.Lib

theorem copied_end {w0 w1 : World} {P : Nat} {x y z p q r v' : Value} {l : List It} (hP : Blk w1 P 25 [x, y, z]) (hR : Blk w1 (P + 1) 25 [p, q, r]) (ho : w1.ownsRow (P + 1 + 1) 33 8 v' l.length (ics l)) (hb : Below P w0 w1) :
    ∃ w2, w1.setCell ⟨P, 0, none⟩ v' = w2 ∧ Blk w2 P 25 [v', y, z] ∧ Blk w2 (P + 1) 25 [p, q, r] ∧ ∃ w3, ((w2.setCell ⟨P + 1, 0, none⟩ v').setCell ⟨P + 1, 1, none⟩ y).setCell ⟨P + 1, 2, none⟩ z = w3 ∧ Blk w3 (P + 1) 25 [v', y, z] ∧ Rw (fun b => P ≤ b ∧ b < w3.heap.size) w3 v' l ∧ Below P w0 w3 := by
  have h2 := hP.set 0 v'
  have h3 : Blk (w1.setCell ⟨P, 0, none⟩ v') (P + 1) 25 [p, q, r] := hR.setOther (by show P + 1 ≠ P; omega) _
  refine ⟨_, rfl, h2, h3, _, rfl, ((h3.set 0 v').set 1 y).set 2 z, ?_, ?_⟩
  · have ho2 : Only (fun b => b = P ∨ b = P + 1) w1 ((((w1.setCell ⟨P, 0, none⟩ v').setCell ⟨P + 1, 0, none⟩ v').setCell ⟨P + 1, 1, none⟩ y).setCell ⟨P + 1, 2, none⟩ z) :=
      ((((Only.refl _ w1).setCell (.inl (.inl rfl)) v').setCell (.inl (.inr rfl)) v').setCell (.inl (.inr rfl)) y).setCell (.inl (.inr rfl)) z
    have h4 := (Rw.new ho).only ho2 (fun b hb e => by rcases e with e | e <;> omega)
    exact ⟨h4.1, fun b hb => ⟨by have := (h4.2 b hb).1; omega, Nat.lt_of_lt_of_le (h4.2 b hb).2 ho2.size⟩⟩
  · have ho2 : Only (fun b => P ≤ b) w1 ((((w1.setCell ⟨P, 0, none⟩ v').setCell ⟨P + 1, 0, none⟩ v').setCell ⟨P + 1, 1, none⟩ y).setCell ⟨P + 1, 2, none⟩ z) :=
      ((((Only.refl (fun b => P ≤ b) w1).setCell (p := ⟨P, 0, none⟩) (.inl (Nat.le_refl P)) v').setCell (p := ⟨P + 1, 0, none⟩) (.inl (Nat.le_succ P)) v').setCell (p := ⟨P + 1, 1, none⟩) (.inl (Nat.le_succ P)) y).setCell (p := ⟨P + 1, 2, none⟩) (.inl (Nat.le_succ P)) z
    exact Below.trans hb (ho2.below (by have := hP.lt; omega) (fun x h => h))

set_option maxRecDepth 100000 in
set_option maxHeartbeats 16000000 in
theorem copied_any {s : Ms} {w : World} {V : Value} (HS : Sv w V s) (hlen : s.its.length ≤ 4194304) : Calls Tryd.prog 15 #[V] w fun e w' => ∃ v', e = .returned (.agg #[v', .int .u64 s.cas, .int .i64 s.fl]) ∧ Rw (fun b => w.heap.size ≤ b ∧ b < w'.heap.size) w' v' s.its ∧ Below w.heap.size w w' := by
  obtain ⟨v, rfl, HI0⟩ := HS
  obtain ⟨a, c, rfl⟩ := HI0.form
  unfold msv
  obtain ⟨N, hN⟩ : ∃ N, N = s.its.length := ⟨_, rfl⟩
  rw [← hN] at HI0 hlen ⊢
  have HN := hid hN
  clear hN
  have HI := hid HI0
  clear HI0
  have HB : Hid (∀ W, (w.alloc (.cells #[.slice a N c, .int .u64 s.cas, .int .i64 s.fl] 25)).alloc (.cells #[.slice none 0 0, .int .u64 0, .int .i64 0] 25) = W → Bxr w [(w.heap.size + 1, 25, [.slice none 0 0, .int .u64 0, .int .i64 0]), (w.heap.size, 25, [.slice a N c, .int .u64 s.cas, .int .i64 s.fl])] [] W ∧ W.heap.size = w.heap.size + 1 + 1) := hid (by
    rintro W rfl
    have h := ((Bxr.begin w).new #[.slice a N c, .int .u64 s.cas, .int .i64 s.fl] 25).new #[.slice none 0 0, .int .u64 0, .int .i64 0] 25
    have z : (w.alloc (.cells #[.slice a N c, .int .u64 s.cas, .int .i64 s.fl] 25)).heap.size = w.heap.size + 1 := by simp
    rw [z] at h
    exact ⟨h, by simp⟩)
  go_enter Tryd.func15, Tryd.ntmps15
  go_upto_region 1 with fail
  generalize hW0 : (w.alloc (.cells #[.slice a N c, .int .u64 s.cas, .int .i64 s.fl] 25)).alloc (.cells #[.slice none 0 0, .int .u64 0, .int .i64 0] 25) = W0 at *
  obtain ⟨hb, hsz⟩ := HB.out W0 rfl
  clear hW0 HB
  obtain ⟨W1, hW1⟩ : ∃ W1, W0.alloc (.cells #[] 33) = W1 := ⟨_, rfl⟩
  have hbel : Below (w.heap.size + 1 + 1) W0 W1 := by rw [← hW1, ← hsz]; exact abelow _ _
  have hb1 := hb.step (by rw [hsz]; exact hbel)
  have hP := (hb1.1.get 1 rfl)
  have hR := (hb1.1.get 0 rfl)
  have c0 := hP.cell (i := 0) rfl
  have c1 := hP.cell (i := 1) rfl
  have c2 := hP.cell (i := 2) rfl
  have HO := hid (own_none8 W0 W0.heap.size 33 (Nat.le_refl _))
  rw [hW1] at HO
  rw [hsz] at HO
  have HB1 := hid hb1
  have HZ : Hid (w.heap.size + 1 + 1 ≤ W1.heap.size) := hid (by rw [← hsz]; exact hbel.size)
  have HBl := hid hbel
  have HI1 := hid (HI.out.below (Below.then hb.1.1 (by rw [hsz]; exact hbel)))
  obtain ⟨i0, hi0, hz0, hz1, hz2⟩ := info_parts infoItem
  have hcl : (ics s.its).length = N * 8 := by rw [ics_len, ← HN.out]
  have hok := ics_ok s.its
  have hfin : Hid (∀ v' w1, w1.ownsRow (w.heap.size + 1 + 1) 33 8 v' (0 + N) ([] ++ ics s.its) → W1.grownBy w1 (some (w.heap.size + 1 + 1)) → ∃ a' c', v' = .slice a' N c' ∧ Blk w1 w.heap.size 25 [.slice a N c, .int .u64 s.cas, .int .i64 s.fl] ∧ Blk w1 (w.heap.size + 1) 25 [.slice none 0 0, .int .u64 0, .int .i64 0] ∧ w1.ownsRow (w.heap.size + 1 + 1) 33 8 v' s.its.length (ics s.its) ∧ Below w.heap.size w w1) := hid (fun v' w1 hown hgrow => by
    rw [List.nil_append, Nat.zero_add] at hown
    obtain ⟨a', c', e⟩ := row_form hown
    have ho : Only (fun b => b = w.heap.size + 1 + 1) W1 w1 := ⟨hgrow.os, hgrow.tape, hgrow.output, hgrow.size, fun k hk hn => hgrow.block k hk (fun e => hn (by injection e with e <;> omega))⟩
    refine ⟨a', c', e, hP.only ho (by omega), hR.only ho (by omega), by rw [← HN.out]; exact hown, Below.trans (Below.then hb.1.1 (by rw [hsz]; exact hbel)) (ho.below (by have := hP.lt; omega) (fun x h => by omega))⟩)
  cases a with
  | none =>
    have hN0 : N = 0 ∧ c = 0 ∧ s.its = [] := by
      obtain ⟨a', c', hv, hc, hn, hx⟩ := HI1.out
      injection hv with h1 h2 h3
      have hc0 : c = 0 := by rw [h3]; exact hn h1.symm
      have : s.its.length = 0 := by omega
      exact ⟨by omega, hc0, List.eq_nil_of_length_eq_zero this⟩
    obtain ⟨hN0, hc0, hl⟩ := hN0
    subst hN0 hc0
    obtain ⟨w2, hw2, hP2, hR2, w3, hw3, hR3, hrw, hbb⟩ := copied_end (l := []) hP hR (HO.out) (Below.then hb.1.1 (by rw [hsz]; exact hbel))
    have hrw' : Rw (fun b => w.heap.size ≤ b ∧ b < w3.heap.size) w3 (.slice (some ⟨w.heap.size + 1 + 1, 0, none⟩) 0 0) s.its := by rw [hl]; exact hrw
    have q1 := hP.frozen 0
    have q2 := hP2.cell (i := 0) rfl
    have q3 := hP2.cell (i := 1) rfl
    have q4 := hP2.cell (i := 2) rfl
    have r0 := hR2.cell (i := 0) rfl
    have r1 := hR2.cell (i := 1) rfl
    have r2 := hR2.cell (i := 2) rfl
    have r3 := hR2.frozen 0
    have r4 := hR2.frozen 1
    have r5 := hR2.frozen 2
    have t0 := hR3.cell (i := 0) rfl
    have t1 := hR3.cell (i := 1) rfl
    have t2 := hR3.cell (i := 2) rfl
    have HR3 := hid hR3
    have HRW := hid hrw'
    have HBB := hid hbb
    clear hb hbel hb1 hP hR HI HI1 hP2 hR2 hR3 hrw hrw' hbb hl hfin hok hcl
    go_wp2_with fail
    exact bodyPost_ret (res_state rfl HR3.out rfl) rfl ⟨_, rfl, HRW.out, HBB.out⟩
  | some ad =>
    have hcells := its_cells HI1.out
    clear hb hbel hb1 hP hR HI HI1
    go_wp2_with (at_builtin; refine wpList_append_own _ rfl _ _ 22 rfl (w.heap.size + 1 + 1) 33 i0 _ 8 72 Tryd.underlying22 hi0 hz0 hz1 hz2 rfl (by decide) (.slice (some ⟨(w.heap.size + 1 + 1), 0, none⟩) 0 0) 0 [] rfl HO.out ad N c (ics s.its) rfl hcl hcells hok (by unfold maxLen; omega) (by omega) HZ.out ?_; intro v' w1 hown hgrow _; obtain ⟨a', c', rfl, hP, hR, ho, hbl⟩ := hfin.out v' w1 hown hgrow; obtain ⟨w2, hw2, hP2, hR2, w3, hw3, hR3, hrw, hbb⟩ := copied_end hP hR ho hbl; clear hown hgrow ho hbl; have q0 := hP.cell (i := 0) rfl; have q1 := hP.frozen 0; have q2 := hP2.cell (i := 0) rfl; have q3 := hP2.cell (i := 1) rfl; have q4 := hP2.cell (i := 2) rfl; have r0 := hR2.cell (i := 0) rfl; have r1 := hR2.cell (i := 1) rfl; have r2 := hR2.cell (i := 2) rfl; have r3 := hR2.frozen 0; have r4 := hR2.frozen 1; have r5 := hR2.frozen 2; have t0 := hR3.cell (i := 0) rfl; have t1 := hR3.cell (i := 1) rfl; have t2 := hR3.cell (i := 2) rfl; have HR3 := hid hR3; have HRW := hid hrw; have HBB := hid hbb; clear hP hR hP2 hR2 hR3 hrw hbb)
    exact bodyPost_ret (res_state rfl HR3.out rfl) rfl ⟨_, rfl, HRW.out, HBB.out⟩
end Go.Proofs.YtpgljahomeebhaaDoor.Md

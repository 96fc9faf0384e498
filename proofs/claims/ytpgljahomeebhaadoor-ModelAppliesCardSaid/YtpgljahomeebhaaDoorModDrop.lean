/-
  The contract of the document's own Drop. Conditions: the state's items can be read, and stand in order.
-/
import Derived.Test.YtpgljahomeebhaaDoorModPut
namespace Go.Proofs.YtpgljahomeebhaaDoor.Md
open Go Go.RowKit Go.Lib

theorem drp_parts {l : List It} (h : Sorted l) (k : ByteArray) : drp l k = l.filter (fun y => klt y.key k) ++ l.filter (fun y => klt k y.key) := by
  induction l with
  | nil => rfl
  | cons x l ih =>
    have h' := List.pairwise_cons.1 h
    have ih := ih h'.2
    unfold drp at ih ⊢
    rw [List.filter_cons, List.filter_cons, List.filter_cons]
    cases e : klt x.key k
    · have h0 : l.filter (fun y => klt y.key k) = [] := List.filter_eq_nil_iff.2 (fun y hy => by rw [all_below h e y hy]; decide)
      by_cases ek : x.key = k
      · have e2 : klt k x.key = false := by rw [ek]; exact klt_irrefl k
        rw [h0, List.nil_append] at ih
        rw [h0, e2]
        simp only [ek, ne_eq, not_true_eq_false, decide_false, Bool.false_eq_true, if_false, List.nil_append]
        exact ih
      · have e2 : klt k x.key = true := by
          cases e3 : klt k x.key
          · exact absurd (klt_total e e3) ek
          · rfl
        rw [h0, List.nil_append] at ih
        rw [h0, e2]
        simp only [ek, ne_eq, not_false_eq_true, decide_true, Bool.false_eq_true, if_true, if_false, List.nil_append]
        rw [ih]
    · have ek : x.key ≠ k := klt_ne e
      rw [klt_asymm e]
      simp only [ek, ne_eq, not_false_eq_true, decide_true, Bool.false_eq_true, if_true, if_false, List.cons_append]
      rw [ih]
theorem drp_no {l : List It} {k : ByteArray} (h : isAt l k = false) : drp l k = l := by
  unfold isAt at h
  have hn : find l k = none := by
    cases e : find l k with
    | none => rfl
    | some x => rw [e] at h; cases h
  exact List.filter_eq_self.2 (fun y hy => decide_eq_true (find_none.1 hn y hy))
theorem res_state2 {fn : Func} {R T : Nat} (h : fn.results = #[.cell R 25, .tmp T]) {tmps : Array Value} {w : World} {B : Nat} {a : Option Addr} {n c : Nat} {cas fl : Int} {b : Bool} (hb : Blk w B 25 [.slice a n c, .int .u64 cas, .int .i64 fl]) (h2 : tmps[R]?.getD undef = .pointer (some ⟨B, 0, none⟩)) (h3 : tmps[T]?.getD undef = .bool b) :
    (results fn tmps).run Tryd.prog w = .ok (.tuple #[.agg #[.slice a n c, .int .u64 cas, .int .i64 fl], .bool b]) w := by
  have q0 := hb.cell (i := 0) rfl
  have q1 := hb.cell (i := 1) rfl
  have q2 := hb.cell (i := 2) rfl
  simp [results, h, h2, h3, go_sem, q0, q1, q2]
/-- Drop, under way. -/
structure DW (w0 : World) (vs : Value) (cas : Nat) (fl : Int) (W : World) : Prop where
  b0 : Blk W w0.heap.size 25 [vs, .int .u64 cas, .int .i64 fl]
  b1 : Blk W (w0.heap.size + 1) 25 [.slice none 0 0, .int .u64 0, .int .i64 0]
  below : Below w0.heap.size w0 W
theorem DW.step {w0 W W' : World} {vs : Value} {cas : Nat} {fl : Int} (h : DW w0 vs cas fl W) (hb : Below W.heap.size W W') : DW w0 vs cas fl W' := ⟨h.b0.below hb, h.b1.below hb, Below.then h.below hb⟩
theorem DW.begin (w : World) (vs : Value) (cas : Nat) (fl : Int) : DW w vs cas fl ((w.alloc (.cells #[vs, .int .u64 cas, .int .i64 fl] 25)).alloc (.cells #[.slice none 0 0, .int .u64 0, .int .i64 0] 25)) := by
  have hB0 := Blk.new w #[vs, .int .u64 cas, .int .i64 fl] 25
  have b1 := abelow w (.cells #[vs, .int .u64 cas, .int .i64 fl] 25)
  generalize hw1 : w.alloc (.cells #[vs, .int .u64 cas, .int .i64 fl] 25) = w1 at *
  have z1 : w1.heap.size = w.heap.size + 1 := by rw [← hw1]; simp
  have hB1 := Blk.new w1 #[.slice none 0 0, .int .u64 0, .int .i64 0] 25
  rw [z1] at hB1
  have b2 := abelow w1 (.cells #[.slice none 0 0, .int .u64 0, .int .i64 0] 25)
  exact ⟨hB0.below b2, hB1, Below.then b1 b2⟩
/-- What is left to do: the state's box is read, and laid into the result's. -/
def DropEnd (w0 : World) (V0 : Value) (cas : Nat) (fl : Int) (t : Ms) (v : Value) (W : World) : Prop :=
  (W.cell? ⟨w0.heap.size, 0, none⟩ = some v ∧ W.cell? ⟨w0.heap.size, 1, none⟩ = some (.int .u64 cas) ∧ W.cell? ⟨w0.heap.size, 2, none⟩ = some (.int .i64 fl)) ∧
  (W.cell? ⟨w0.heap.size + 1, 0, none⟩ = some (.slice none 0 0) ∧ W.cell? ⟨w0.heap.size + 1, 1, none⟩ = some (.int .u64 0) ∧ W.cell? ⟨w0.heap.size + 1, 2, none⟩ = some (.int .i64 0)) ∧
  (W.frozen? ⟨w0.heap.size + 1, 0, none⟩ = false ∧ W.frozen? ⟨w0.heap.size + 1, 1, none⟩ = false ∧ W.frozen? ⟨w0.heap.size + 1, 2, none⟩ = false) ∧
  (Blk (((W.setCell ⟨w0.heap.size + 1, 0, none⟩ v).setCell ⟨w0.heap.size + 1, 1, none⟩ (.int .u64 cas)).setCell ⟨w0.heap.size + 1, 2, none⟩ (.int .i64 fl)) (w0.heap.size + 1) 25 [v, .int .u64 cas, .int .i64 fl] ∧
    (Sv (((W.setCell ⟨w0.heap.size + 1, 0, none⟩ v).setCell ⟨w0.heap.size + 1, 1, none⟩ (.int .u64 cas)).setCell ⟨w0.heap.size + 1, 2, none⟩ (.int .i64 fl)) (.agg #[v, .int .u64 cas, .int .i64 fl]) t ∧ (.agg #[v, .int .u64 cas, .int .i64 fl] = V0 ∨ New w0.heap.size (.agg #[v, .int .u64 cas, .int .i64 fl]))) ∧
    Below w0.heap.size w0 (((W.setCell ⟨w0.heap.size + 1, 0, none⟩ v).setCell ⟨w0.heap.size + 1, 1, none⟩ (.int .u64 cas)).setCell ⟨w0.heap.size + 1, 2, none⟩ (.int .i64 fl)))
theorem drop_end {w0 w7 : World} {V0 vs v : Value} {cas : Nat} {fl : Int} {base n : Nat} {l : List It} (h : DW w0 vs cas fl w7) (ho : w7.ownsRow base 33 8 v n (ics l)) (hn : n = l.length) (hb : w0.heap.size + 1 < base) :
    DropEnd w0 V0 cas fl ⟨l, cas, fl⟩ v (w7.setCell ⟨w0.heap.size, 0, none⟩ v) := by
  have hB0 := h.b0.set 0 v
  have hB2 := h.b1.setOther (p := ⟨w0.heap.size, 0, none⟩) (by show w0.heap.size + 1 ≠ w0.heap.size; omega) v
  have ho1 := own_setc ho (p := ⟨w0.heap.size, 0, none⟩) (by show w0.heap.size < base; omega) v
  have hbl := h.below.setCell (p := ⟨w0.heap.size, 0, none⟩) (Nat.le_refl _) v
  have ho2 := own_setc (own_setc (own_setc ho1 (p := ⟨w0.heap.size + 1, 0, none⟩) hb v) (p := ⟨w0.heap.size + 1, 1, none⟩) hb (.int .u64 cas)) (p := ⟨w0.heap.size + 1, 2, none⟩) hb (.int .i64 fl)
  have q : w0.heap.size ≤ w0.heap.size + 1 := by omega
  exact ⟨⟨hB0.cell (i := 0) rfl, hB0.cell (i := 1) rfl, hB0.cell (i := 2) rfl⟩, ⟨hB2.cell (i := 0) rfl, hB2.cell (i := 1) rfl, hB2.cell (i := 2) rfl⟩, ⟨hB2.frozen 0, hB2.frozen 1, hB2.frozen 2⟩, ((hB2.set 0 v).set 1 _).set 2 _, ⟨⟨v, rfl, its_of_row ho2 hn⟩, Or.inr (new_row ho (by omega))⟩,
    ((hbl.setCell (p := ⟨w0.heap.size + 1, 0, none⟩) q _).setCell (p := ⟨w0.heap.size + 1, 1, none⟩) q _).setCell (p := ⟨w0.heap.size + 1, 2, none⟩) q _⟩
set_option maxRecDepth 100000 in
set_option maxHeartbeats 4000000 in
theorem ref_drop {s : Ms} {V : Value} {w : World} (h : Sv w V s) (hs : Sorted s.its) (hlen : s.its.length ≤ 4194304) (k : ByteArray) :
    Calls Tryd.prog 41 #[V, .string k] w fun e w' => ∃ V', e = .returned (.tuple #[V', .bool (isAt s.its k)]) ∧ (Sv w' V' ⟨drp s.its k, s.cas, s.fl⟩ ∧ (V' = V ∨ New w.heap.size V')) ∧ Below w.heap.size w w' := by
  obtain ⟨v, rfl, hI⟩ := h
  obtain ⟨a, c, rfl⟩ := hI.form
  have HI := hid hI
  have HS := hid hs
  unfold msv
  have HF := hid (fun W (hb : Below w.heap.size w W) => ref_find (s := s) (V := .agg #[.slice a s.its.length c, .int .u64 s.cas, .int .i64 s.fl]) (w := W) ⟨_, rfl, hI.below hb⟩ hs hlen k)
  obtain ⟨N, hN⟩ : ∃ N, N = s.its.length := ⟨_, rfl⟩
  rw [← hN] at HI hlen HF ⊢
  have hpn : pos s.its k ≤ N := by rw [hN]; exact pos_le _ _
  have HN := hid hN
  clear hN hs hI
  have hd0 := DW.begin w (.slice a N c) s.cas s.fl
  generalize hP : pos s.its k = P at *
  generalize hA : isAt s.its k = A at *
  have hf := HF.out _ hd0.below
  have HP0 := hid hd0
  clear HF hd0
  go_enter Tryd.func41, Tryd.ntmps41
  go_wp2_with fail
  refine hf.mono ?_
  rintro e wc ⟨rfl, hb⟩
  have HP := hid (HP0.out.step hb)
  have c0 := HP.out.b0.cell (i := 0) rfl
  have c1 := HP.out.b0.cell (i := 1) rfl
  have c2 := HP.out.b0.cell (i := 2) rfl
  have f0 := HP.out.b0.frozen 0
  clear HP0 hb hf
  have p0 : (0 : Int) ≤ (P : Int) := by omega
  have pn : (P : Int) ≤ (N : Int) := by omega
  have hcn : N ≤ c := by
    obtain ⟨a', c', q, hc', -⟩ := HI.out
    injection q with q1 q2 q3
    omega
  cases A
  · have HE : Hid (DropEnd w (.agg #[.slice a N c, .int .u64 s.cas, .int .i64 s.fl]) s.cas s.fl ⟨drp s.its k, s.cas, s.fl⟩ (.slice a N c) wc) := hid (by
      have hq := HP.out
      have q : w.heap.size ≤ w.heap.size + 1 := by omega
      refine ⟨⟨hq.b0.cell (i := 0) rfl, hq.b0.cell (i := 1) rfl, hq.b0.cell (i := 2) rfl⟩, ⟨hq.b1.cell (i := 0) rfl, hq.b1.cell (i := 1) rfl, hq.b1.cell (i := 2) rfl⟩, ⟨hq.b1.frozen 0, hq.b1.frozen 1, hq.b1.frozen 2⟩, ((hq.b1.set 0 _).set 1 _).set 2 _, ?_, ?_⟩
      · rw [drp_no hA]
        refine ⟨⟨_, rfl, ?_⟩, .inl rfl⟩
        have := HI.out
        have hb3 : ∀ (v : World) j u, Its v (.slice a N c) s.its → (∀ (b o : Nat), a = some ⟨b, o, none⟩ → s.its ≠ [] → b ≠ w.heap.size + 1) → Its (v.setCell ⟨w.heap.size + 1, j, none⟩ u) (.slice a N c) s.its := fun v j u hv hne => by
          obtain ⟨a', c', q, hc', hn', hx⟩ := hv
          refine ⟨a', c', q, hc', hn', fun i x hi => ?_⟩
          obtain ⟨b, o, ha, hy⟩ := hx i x hi
          refine ⟨b, o, ha, fun j2 u2 hj => ?_⟩
          have hab : a = some ⟨b, o, none⟩ := by injection q with q1 _ _; rw [q1]; exact ha
          exact (World.cell?_setCell_other _ _ _ _ (fun e2 => hne b o hab (fun e => by rw [e] at hi; simp at hi) (congrArg Addr.block e2).symm)).trans (hy j2 u2 hj)
        have hne : ∀ (b o : Nat), a = some ⟨b, o, none⟩ → s.its ≠ [] → b ≠ w.heap.size + 1 := fun b o ha hne0 e2 => by
          obtain ⟨a', c', q, hc', hn', hx⟩ := HI.out
          obtain ⟨x, hx0⟩ : ∃ x, s.its[0]? = some x := by
            cases hl : s.its with
            | nil => exact absurd hl hne0
            | cons x l => exact ⟨x, rfl⟩
          obtain ⟨b', o', ha', hy⟩ := hx 0 x hx0
          have h1 := cell_lt (hy 0 _ rfl)
          injection q with q1 _ _
          rw [← q1, ha] at ha'
          cases ha'
          have h2 : b < w.heap.size := h1
          omega
        exact hb3 _ _ _ (hb3 _ _ _ (hb3 _ _ _ (HI.out.below hq.below) hne) hne) hne
      · exact ((hq.below.setCell (p := ⟨w.heap.size + 1, 0, none⟩) q _).setCell (p := ⟨w.heap.size + 1, 1, none⟩) q _).setCell (p := ⟨w.heap.size + 1, 2, none⟩) q _)
    clear HI HS HP hA hP
    obtain ⟨⟨e0, e1, e2⟩, ⟨g0, g1, g2⟩, ⟨h0, h1, h2⟩, hfin⟩ := HE.out
    have HFN := hid hfin
    clear HE hfin
    go_wp2_with fail
    obtain ⟨X1, X2, X3⟩ := HFN.out
    exact bodyPost_ret (res_state2 rfl X1 rfl rfl) rfl ⟨_, rfl, ⟨X2.1, .inl rfl⟩, X3⟩
  · have hPN : P < N := by
      have := pos_at HS.out k hA
      rw [hP] at this
      unfold isAt at hA
      rw [← this] at hA
      obtain ⟨y, hy⟩ := Option.isSome_iff_exists.1 hA
      rw [HN.out]; exact (List.getElem?_eq_some_iff.1 hy).1
    obtain ⟨q, hq⟩ : ∃ q, q = P + 1 := ⟨_, rfl⟩
    have q0 : (0 : Int) ≤ (q : Int) := by omega
    have qn : (q : Int) ≤ (N : Int) := by omega
    have q2 : (P : Int) + 1 = (q : Int) := by omega
    have pc : (P : Int) ≤ (c : Int) := by omega
    have qw : IntKind.i64.wrap (q : Int) = (q : Int) := by rw [IntKind.wrap_i64]; omega
    have HR : Hid (Srcs8 wc (.slice (fromA a c q) (N - q) (c - q)) (N - q) (ics (s.its.filter (fun y => klt k y.key)))) := hid (by
      have h1 := pos_drop HS.out k
      rw [hA, hP] at h1
      have h2 := (HI.out.below HP.out.below).srcs q (N - q) (by have := HN.out; omega)
      rw [List.take_of_length_le (by rw [List.length_drop]; have := HN.out; omega), hq] at h2
      rw [if_pos rfl] at h1
      rw [h1] at h2
      rw [hq]
      exact h2)
    obtain ⟨S, hSd⟩ : ∃ S : World → Prop, S = fun w' => w'.cell? ⟨w.heap.size, 0, none⟩ = some (.slice a N c) ∧ w'.frozen? ⟨w.heap.size, 0, none⟩ = false := ⟨_, rfl⟩
    have hS : S wc.drew := by rw [hSd]; exact ⟨c0, f0⟩
    have HSK : Hid (Srcs8 wc (.slice a P c) P (ics (s.its.take P))) := hid ((HI.out.below HP.out.below).srcs_head P (by have := HN.out; omega))
    have HSb : Hid (∀ W, Below wc.heap.size wc W → S W) := hid (fun W hb => by
      rw [hSd]
      have q := HP.out.step hb
      exact ⟨q.b0.cell (i := 0) rfl, q.b0.frozen 0⟩)
    have HFIN : Hid (∀ a7 c7 w7, w7.ownsRow wc.heap.size 33 8 (.slice a7 (P + (N - q)) c7) (P + (N - q)) (([] ++ ics (s.its.take P)) ++ ics (s.its.filter (fun y => klt k y.key))) → Below wc.heap.size wc w7 → DropEnd w (.agg #[.slice a N c, .int .u64 s.cas, .int .i64 s.fl]) s.cas s.fl ⟨drp s.its k, s.cas, s.fl⟩ (.slice a7 (P + (N - q)) c7) (w7.setCell ⟨w.heap.size, 0, none⟩ (.slice a7 (P + (N - q)) c7))) := hid (fun a7 c7 w7 ho hb => by
      have e1 : ([] ++ ics (s.its.take P)) ++ ics (s.its.filter (fun y => klt k y.key)) = ics (drp s.its k) := by
        rw [drp_parts HS.out k, ics_app, ← hP, pos_take HS.out k, List.nil_append]
      rw [e1] at ho
      have e2 : P + (N - q) = (drp s.its k).length := by have := ho.1; rw [ics_len] at this; omega
      exact drop_end (HP.out.step hb) ho e2 (Nat.lt_of_lt_of_le HP.out.b1.lt (Nat.le_refl _)))
    have HSd := hid hSd
    obtain ⟨i0, hi0, hz0, hz1, hz2⟩ := info_parts infoItem
    have bA : Below wc.heap.size wc (wc.alloc (.cells #[] 33)).drew := alloc_drew wc _
    clear HI HS hP hA HP hq
    by_cases hcp : c = q
    · have e : fromA a c q = a := by unfold fromA; rw [if_pos hcp]
      have HR2 := HR.out
      have e6 : N - q = 0 := by omega
      have e7 : c - q = 0 := by omega
      rw [e, e6, e7] at HR2
      have HR2 := hid HR2
      clear HR e e6 e7
      have n1 : N = c := by omega
      have n2 : N = q := by omega
      clear hcp
      subst n1
      subst n2
      simp only [Nat.sub_self, Nat.add_zero] at HFIN
      go_wp2_with fail
      refine wp_region_E S 13 (by kernel_rfl) ?_
      --TAKES wpAnyE_take | 2 | 1=.pointer (some ⟨w.heap.size, 0, none⟩) ; 2=.slice a N N ; 3=.int .i64 (P : Int) ; 4=.slice a P N ; 6=.pointer (some ⟨w.heap.size, 0, none⟩) ; 7=.slice a N N ; 8=.int .i64 (P : Int) ; 9=.int .i64 (N : Int) ; 10=.slice a 0 0
      refine wpAnyE_take (i := 1) (v := .pointer (some ⟨w.heap.size, 0, none⟩)) rfl (by kernel_rfl) (by kernel_rfl) (by kernel_rfl) (fun _ _ _ h => h) (by kernel_rfl) (by kernel_rfl) hS (Or.inl ⟨by rfl, ?_⟩) ?_
      · intro w' hw'
        rw [hSd] at hw'; obtain ⟨s0, s1⟩ := hw'
        go_simp
      refine wpAnyE_take (i := 2) (v := .slice a N N) rfl (by kernel_rfl) (by kernel_rfl) (by kernel_rfl) (fun _ _ _ h => h) (by kernel_rfl) (by kernel_rfl) hS (Or.inl ⟨by rfl, ?_⟩) ?_
      · intro w' hw'
        rw [hSd] at hw'; obtain ⟨s0, s1⟩ := hw'
        go_simp
      refine wpAnyE_take (i := 3) (v := .int .i64 (P : Int)) rfl (by kernel_rfl) (by kernel_rfl) (by kernel_rfl) (fun _ _ _ h => h) (by kernel_rfl) (by kernel_rfl) hS (Or.inl ⟨by rfl, ?_⟩) ?_
      · intro w' hw'
        rw [hSd] at hw'; obtain ⟨s0, s1⟩ := hw'
        go_simp
      refine wpAnyE_take (i := 4) (v := .slice a P N) rfl (by kernel_rfl) (by kernel_rfl) (by kernel_rfl) (fun _ _ _ h => h) (by kernel_rfl) (by kernel_rfl) hS (Or.inl ⟨by rfl, ?_⟩) ?_
      · intro w' hw'
        rw [hSd] at hw'; obtain ⟨s0, s1⟩ := hw'
        go_simp
      refine wpAnyE_take (i := 6) (v := .pointer (some ⟨w.heap.size, 0, none⟩)) rfl (by kernel_rfl) (by kernel_rfl) (by kernel_rfl) (fun _ _ _ h => h) (by kernel_rfl) (by kernel_rfl) hS (Or.inl ⟨by rfl, ?_⟩) ?_
      · intro w' hw'
        rw [hSd] at hw'; obtain ⟨s0, s1⟩ := hw'
        go_simp
      refine wpAnyE_take (i := 7) (v := .slice a N N) rfl (by kernel_rfl) (by kernel_rfl) (by kernel_rfl) (fun _ _ _ h => h) (by kernel_rfl) (by kernel_rfl) hS (Or.inl ⟨by rfl, ?_⟩) ?_
      · intro w' hw'
        rw [hSd] at hw'; obtain ⟨s0, s1⟩ := hw'
        go_simp
      refine wpAnyE_take (i := 8) (v := .int .i64 (P : Int)) rfl (by kernel_rfl) (by kernel_rfl) (by kernel_rfl) (fun _ _ _ h => h) (by kernel_rfl) (by kernel_rfl) hS (Or.inl ⟨by rfl, ?_⟩) ?_
      · intro w' hw'
        rw [hSd] at hw'; obtain ⟨s0, s1⟩ := hw'
        go_simp
      refine wpAnyE_take (i := 9) (v := .int .i64 (N : Int)) rfl (by kernel_rfl) (by kernel_rfl) (by kernel_rfl) (fun _ _ _ h => h) (by kernel_rfl) (by kernel_rfl) hS (Or.inl ⟨by rfl, ?_⟩) ?_
      · intro w' hw'
        rw [hSd] at hw'; obtain ⟨s0, s1⟩ := hw'
        go_simp
      refine wpAnyE_take (i := 10) (v := .slice a 0 0) rfl (by kernel_rfl) (by kernel_rfl) (by kernel_rfl) (fun _ _ _ h => h) (by kernel_rfl) (by kernel_rfl) hS (Or.inl ⟨by rfl, ?_⟩) ?_
      · intro w' hw'
        rw [hSd] at hw'; obtain ⟨s0, s1⟩ := hw'
        go_simp
      --END
      clear f0 c0 c1 c2
      refine wpAnyE_one (i := 0) rfl (by kernel_rfl) (fun K hK => ?_)
      go_simp
      refine hK _ _ (fun _ => HSb.out _ bA) ?_
      clear hK K
      refine wpAnyE_one (i := 5) rfl (by kernel_rfl) (fun K hK => ?_)
      refine step_append_src8 _ (by rfl) _ _ _ (by rfl) wc.heap.size 33 i0 _ 72 Tryd.underlying22 hi0 hz0 hz1 hz2 rfl (.slice (some ⟨wc.heap.size, 0, none⟩) 0 0) 0 [] (by rfl) ((own_none8 wc wc.heap.size 33 (Nat.le_refl _)).drew) _ P _ (by rfl) (HSK.out.below bA) (ics_ok _) (by unfold maxLen; omega) (by omega) (by simp) P (Nat.zero_add P) ?_
      intro v1 w3 hown3 hg3 hat3
      have b3 := below_app bA hg3 (own_ge8 ((own_none8 wc wc.heap.size 33 (Nat.le_refl _)).drew))
      refine hK _ _ (fun _ => HSb.out _ b3) ?_
      clear hK K
      refine wpAnyE_one (i := 11) rfl (by kernel_rfl) (fun K hK => ?_)
      refine step_append_src8 _ (by rfl) _ _ _ (by rfl) wc.heap.size 33 i0 _ 72 Tryd.underlying22 hi0 hz0 hz1 hz2 rfl v1 P _ (by rfl) hown3 _ 0 _ (by rfl) (HR2.out.below b3) (ics_ok _) (by unfold maxLen; omega) (by omega) b3.size P rfl ?_
      intro v3 w7 hown7 hg7 hat7
      obtain ⟨a7, c7, rfl⟩ := row_form hown7
      have b7 := below_app b3 hg7 (own_ge8 hown3)
      have hS7 := HSb.out _ b7
      refine hK _ _ (fun _ => hS7) ?_
      clear hK K hg7 hat7 hown3 b3
      refine wpAnyE_one (i := 12) rfl (by kernel_rfl) (fun K hK => ?_)
      go_simp
      refine hK _ _ (fun _ => hS7) ?_
      clear hK K
      refine wpAnyE_one (i := 13) rfl (by kernel_rfl) (fun K hK => ?_)
      rw [HSd.out] at hS7
      obtain ⟨s0, s1⟩ := hS7
      go_simp
      refine hK _ _ (fun h => (by cases (show true = false from h))) (wpAnyE_done (by kernel_rfl) ?_ _)
      clear hK K s0 s1 hS bA
      obtain ⟨⟨e0, e1, e2⟩, ⟨g0, g1, g2⟩, ⟨h0, h1, h2⟩, hfin⟩ := HFIN.out a7 c7 w7 hown7 b7
      have HFN := hid hfin
      clear hown7 b7 HFIN hfin
      go_wp2_with fail
      obtain ⟨X1, X2, X3⟩ := HFN.out
      exact bodyPost_ret (res_state2 rfl X1 rfl rfl) rfl ⟨_, rfl, X2, X3⟩
    · have e : fromA a c q = a.map (fun x => x.add (q * 8)) := by unfold fromA; rw [if_neg hcp]
      have HR2 := HR.out
      rw [e] at HR2
      have HR2 := hid HR2
      clear HR e
      go_wp2_with fail
      refine wp_region_E S 13 (by kernel_rfl) ?_
      --TAKES wpAnyE_take | 2 | 1=.pointer (some ⟨w.heap.size, 0, none⟩) ; 2=.slice a N c ; 3=.int .i64 (P : Int) ; 4=.slice a P c ; 6=.pointer (some ⟨w.heap.size, 0, none⟩) ; 7=.slice a N c ; 8=.int .i64 (P : Int) ; 9=.int .i64 (q : Int) ; 10=.slice (a.map (fun x => x.add (q * 8))) (N - q) (c - q)
      refine wpAnyE_take (i := 1) (v := .pointer (some ⟨w.heap.size, 0, none⟩)) rfl (by kernel_rfl) (by kernel_rfl) (by kernel_rfl) (fun _ _ _ h => h) (by kernel_rfl) (by kernel_rfl) hS (Or.inl ⟨by rfl, ?_⟩) ?_
      · intro w' hw'
        rw [hSd] at hw'; obtain ⟨s0, s1⟩ := hw'
        go_simp
      refine wpAnyE_take (i := 2) (v := .slice a N c) rfl (by kernel_rfl) (by kernel_rfl) (by kernel_rfl) (fun _ _ _ h => h) (by kernel_rfl) (by kernel_rfl) hS (Or.inl ⟨by rfl, ?_⟩) ?_
      · intro w' hw'
        rw [hSd] at hw'; obtain ⟨s0, s1⟩ := hw'
        go_simp
      refine wpAnyE_take (i := 3) (v := .int .i64 (P : Int)) rfl (by kernel_rfl) (by kernel_rfl) (by kernel_rfl) (fun _ _ _ h => h) (by kernel_rfl) (by kernel_rfl) hS (Or.inl ⟨by rfl, ?_⟩) ?_
      · intro w' hw'
        rw [hSd] at hw'; obtain ⟨s0, s1⟩ := hw'
        go_simp
      refine wpAnyE_take (i := 4) (v := .slice a P c) rfl (by kernel_rfl) (by kernel_rfl) (by kernel_rfl) (fun _ _ _ h => h) (by kernel_rfl) (by kernel_rfl) hS (Or.inl ⟨by rfl, ?_⟩) ?_
      · intro w' hw'
        rw [hSd] at hw'; obtain ⟨s0, s1⟩ := hw'
        go_simp
      refine wpAnyE_take (i := 6) (v := .pointer (some ⟨w.heap.size, 0, none⟩)) rfl (by kernel_rfl) (by kernel_rfl) (by kernel_rfl) (fun _ _ _ h => h) (by kernel_rfl) (by kernel_rfl) hS (Or.inl ⟨by rfl, ?_⟩) ?_
      · intro w' hw'
        rw [hSd] at hw'; obtain ⟨s0, s1⟩ := hw'
        go_simp
      refine wpAnyE_take (i := 7) (v := .slice a N c) rfl (by kernel_rfl) (by kernel_rfl) (by kernel_rfl) (fun _ _ _ h => h) (by kernel_rfl) (by kernel_rfl) hS (Or.inl ⟨by rfl, ?_⟩) ?_
      · intro w' hw'
        rw [hSd] at hw'; obtain ⟨s0, s1⟩ := hw'
        go_simp
      refine wpAnyE_take (i := 8) (v := .int .i64 (P : Int)) rfl (by kernel_rfl) (by kernel_rfl) (by kernel_rfl) (fun _ _ _ h => h) (by kernel_rfl) (by kernel_rfl) hS (Or.inl ⟨by rfl, ?_⟩) ?_
      · intro w' hw'
        rw [hSd] at hw'; obtain ⟨s0, s1⟩ := hw'
        go_simp
      refine wpAnyE_take (i := 9) (v := .int .i64 (q : Int)) rfl (by kernel_rfl) (by kernel_rfl) (by kernel_rfl) (fun _ _ _ h => h) (by kernel_rfl) (by kernel_rfl) hS (Or.inl ⟨by rfl, ?_⟩) ?_
      · intro w' hw'
        rw [hSd] at hw'; obtain ⟨s0, s1⟩ := hw'
        go_simp
      refine wpAnyE_take (i := 10) (v := .slice (a.map (fun x => x.add (q * 8))) (N - q) (c - q)) rfl (by kernel_rfl) (by kernel_rfl) (by kernel_rfl) (fun _ _ _ h => h) (by kernel_rfl) (by kernel_rfl) hS (Or.inl ⟨by rfl, ?_⟩) ?_
      · intro w' hw'
        rw [hSd] at hw'; obtain ⟨s0, s1⟩ := hw'
        go_simp
      --END
      clear f0 c0 c1 c2
      refine wpAnyE_one (i := 0) rfl (by kernel_rfl) (fun K hK => ?_)
      go_simp
      refine hK _ _ (fun _ => HSb.out _ bA) ?_
      clear hK K
      refine wpAnyE_one (i := 5) rfl (by kernel_rfl) (fun K hK => ?_)
      refine step_append_src8 _ (by rfl) _ _ _ (by rfl) wc.heap.size 33 i0 _ 72 Tryd.underlying22 hi0 hz0 hz1 hz2 rfl (.slice (some ⟨wc.heap.size, 0, none⟩) 0 0) 0 [] (by rfl) ((own_none8 wc wc.heap.size 33 (Nat.le_refl _)).drew) _ P _ (by rfl) (HSK.out.below bA) (ics_ok _) (by unfold maxLen; omega) (by omega) (by simp) P (Nat.zero_add P) ?_
      intro v1 w3 hown3 hg3 hat3
      have b3 := below_app bA hg3 (own_ge8 ((own_none8 wc wc.heap.size 33 (Nat.le_refl _)).drew))
      refine hK _ _ (fun _ => HSb.out _ b3) ?_
      clear hK K
      refine wpAnyE_one (i := 11) rfl (by kernel_rfl) (fun K hK => ?_)
      refine step_append_src8 _ (by rfl) _ _ _ (by rfl) wc.heap.size 33 i0 _ 72 Tryd.underlying22 hi0 hz0 hz1 hz2 rfl v1 P _ (by rfl) hown3 _ (N - q) _ (by rfl) (HR2.out.below b3) (ics_ok _) (by unfold maxLen; omega) (by omega) b3.size (P + (N - q)) rfl ?_
      intro v3 w7 hown7 hg7 hat7
      obtain ⟨a7, c7, rfl⟩ := row_form hown7
      have b7 := below_app b3 hg7 (own_ge8 hown3)
      have hS7 := HSb.out _ b7
      refine hK _ _ (fun _ => hS7) ?_
      clear hK K hg7 hat7 hown3 b3
      refine wpAnyE_one (i := 12) rfl (by kernel_rfl) (fun K hK => ?_)
      go_simp
      refine hK _ _ (fun _ => hS7) ?_
      clear hK K
      refine wpAnyE_one (i := 13) rfl (by kernel_rfl) (fun K hK => ?_)
      rw [HSd.out] at hS7
      obtain ⟨s0, s1⟩ := hS7
      go_simp
      refine hK _ _ (fun h => (by cases (show true = false from h))) (wpAnyE_done (by kernel_rfl) ?_ _)
      clear hK K s0 s1 hS bA
      obtain ⟨⟨e0, e1, e2⟩, ⟨g0, g1, g2⟩, ⟨h0, h1, h2⟩, hfin⟩ := HFIN.out a7 c7 w7 hown7 b7
      have HFN := hid hfin
      clear hown7 b7 HFIN hfin
      go_wp2_with fail
      obtain ⟨X1, X2, X3⟩ := HFN.out
      exact bodyPost_ret (res_state2 rfl X1 rfl rfl) rfl ⟨_, rfl, X2, X3⟩
end Go.Proofs.YtpgljahomeebhaaDoor.Md

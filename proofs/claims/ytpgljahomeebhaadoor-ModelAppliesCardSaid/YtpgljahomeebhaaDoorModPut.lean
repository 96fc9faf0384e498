/-
  The contracts of the document's own Put, Drop. Conditions: the state's items can be read, and stand in order.
-/
import Derived.Test.YtpgljahomeebhaaDoorM1
import Derived.Deep.DeepCutAuto
namespace Go.Proofs.YtpgljahomeebhaaDoor.Md
open Go Go.RowKit Go.Lib

/-- Put, under way. -/
structure PW (w0 : World) (vs : Value) (cas : Nat) (fl : Int) (xc : List Value) (W : World) : Prop where
  b0 : Blk W w0.heap.size 25 [vs, .int .u64 cas, .int .i64 fl]
  b1 : Blk W (w0.heap.size + 1) 33 xc
  b2 : Blk W (w0.heap.size + 1 + 1) 25 [.slice none 0 0, .int .u64 0, .int .i64 0]
  below : Below w0.heap.size w0 W
theorem PW.step {w0 W W' : World} {vs : Value} {cas : Nat} {fl : Int} {xc : List Value} (h : PW w0 vs cas fl xc W) (hb : Below W.heap.size W W') : PW w0 vs cas fl xc W' := ⟨h.b0.below hb, h.b1.below hb, h.b2.below hb, Below.then h.below hb⟩
theorem PW.begin (w : World) (vs : Value) (cas : Nat) (fl : Int) (xc : Array Value) : PW w vs cas fl xc.toList (((w.alloc (.cells #[vs, .int .u64 cas, .int .i64 fl] 25)).alloc (.cells xc 33)).alloc (.cells #[.slice none 0 0, .int .u64 0, .int .i64 0] 25)) := by
  have hB0 := Blk.new w #[vs, .int .u64 cas, .int .i64 fl] 25
  have b1 := abelow w (.cells #[vs, .int .u64 cas, .int .i64 fl] 25)
  generalize hw1 : w.alloc (.cells #[vs, .int .u64 cas, .int .i64 fl] 25) = w1 at *
  have z1 : w1.heap.size = w.heap.size + 1 := by rw [← hw1]; simp
  have hB1 := Blk.new w1 xc 33
  rw [z1] at hB1
  have b2 := abelow w1 (.cells xc 33)
  generalize hw2 : w1.alloc (.cells xc 33) = w2 at *
  have z2 : w2.heap.size = w.heap.size + 1 + 1 := by rw [← hw2]; simp [z1]
  have hB2 := Blk.new w2 #[.slice none 0 0, .int .u64 0, .int .i64 0] 25
  rw [z2] at hB2
  have b3 := abelow w2 (.cells #[.slice none 0 0, .int .u64 0, .int .i64 0] 25)
  exact ⟨(hB0.below b2).below b3, hB1.below b3, hB2, Below.then (Below.then b1 b2) b3⟩
theorem own_setc {w : World} {base : Nat} {e : TypeId} {size : Nat} {v : Value} {n : Nat} {xs : List Value} (h : w.ownsRow base e size v n xs) {p : Addr} (hp : p.block < base) (u : Value) : (w.setCell p u).ownsRow base e size v n xs :=
  ⟨h.1, h.2.imp id (fun ⟨g, cap, cur, hv, h0, hg, r⟩ => ⟨g, cap, cur, hv, h0, (Below.heap_setCell w p u g (by omega)).trans hg, r⟩)⟩
theorem own_none82 (w : World) (o : Obj) (e : TypeId) : ((w.alloc o).alloc (.cells #[] e)).ownsRow w.heap.size e 8 (.slice (some ⟨w.heap.size + 1, 0, none⟩) 0 0) 0 [] := by
  have h := own_none8 (w.alloc o) w.heap.size e (by simp)
  rwa [show (w.alloc o).heap.size = w.heap.size + 1 by simp] at h
theorem alloc2_drew (w : World) (o o2 : Obj) : Below w.heap.size w ((w.alloc o).alloc o2).drew := by
  have h1 : Below w.heap.size w (w.alloc o) := Below.alloc (Below.refl _ _) (Nat.le_refl _) _
  have h := h1.alloc h1.size o2
  exact ⟨h.os, h.tape, h.output, h.size, h.block⟩
theorem item_far (w : World) (o : Obj) (xc : Array Value) : ∀ j u, xc.toList[j]? = some u → (((w.alloc o).alloc (.cells xc 33)).drew).cell? ((⟨w.heap.size + 1, 0, none⟩ : Addr).add j) = some u := fun j u hj => by
  rw [addr_plain, Nat.zero_add]
  have h := Blk.new (w.alloc o) xc 33
  rw [show (w.alloc o).heap.size = w.heap.size + 1 by simp] at h
  exact h.cell hj
theorem item_near (w : World) (o : Obj) (xc : Array Value) : ∀ j u, xc.toList[j]? = some u → (((w.alloc (.cells xc 33)).alloc o).drew).cell? ((⟨w.heap.size, 0, none⟩ : Addr).add j) = some u := fun j u hj => by
  rw [addr_plain, Nat.zero_add]
  exact ((Blk.new w xc 33).alloc o).cell hj
theorem Its.srcs_head {w : World} {a : Option Addr} {n c : Nat} {l : List It} (h : Its w (.slice a n c) l) (m : Nat) (hm : m ≤ l.length) : Srcs8 w (.slice a m c) m (ics (l.take m)) := by
  have h1 := h.srcs 0 m (by omega)
  rw [List.drop_zero, Nat.sub_zero] at h1
  have e : fromA a c 0 = a ∨ m = 0 := by
    by_cases hm0 : m = 0
    · exact .inr hm0
    · left
      obtain ⟨a', c', hv, hc, hn, hx⟩ := h
      injection hv with q1 q2 q3
      subst q1 q2 q3
      obtain ⟨x, hx0⟩ : ∃ x, l[0]? = some x := ⟨_, List.getElem?_eq_getElem (by omega)⟩
      obtain ⟨b, o, rfl, -⟩ := hx 0 x hx0
      unfold fromA
      rw [if_neg (by omega), Option.map_some, addr_plain]; rfl
  rcases e with e | rfl
  · rwa [e] at h1
  · rw [List.take_zero]
    cases a with
    | none =>
      obtain ⟨a', c', hv, hc, hn, hx⟩ := h
      injection hv with q1 q2 q3
      subst q1 q3
      exact .inr ⟨by rw [hn rfl], rfl, rfl⟩
    | some ad => exact .inl ⟨ad, c, rfl, rfl, fun j u hj => by simp [ics] at hj⟩
/-- A state's items lie in a block of their own, from B on. -/
def New (B : Nat) (V : Value) : Prop := ∀ ad n c x y, V = .agg #[.slice (some ad) n c, x, y] → B ≤ ad.block
theorem New.mono {A B : Nat} {V : Value} (h : New B V) (hb : A ≤ B) : New A V := fun ad n c x y e => Nat.le_trans hb (h ad n c x y e)
theorem new_row {w : World} {base B : Nat} {e : TypeId} {size : Nat} {v : Value} {n : Nat} {xs : List Value} {x y : Value} (h : w.ownsRow base e size v n xs) (hb : B ≤ base) : New B (.agg #[v, x, y]) := fun ad m c x' y' q => by
  have q1 : v = .slice (some ad) m c := by injection q with q; injection q with q; injection q
  rcases h.2 with ⟨e1, _⟩ | ⟨g, cap, cur, e1, h0, _⟩
  · rw [e1] at q1; cases q1
  · rw [e1] at q1; injection q1 with q2 _ _; injection q2 with q2; rw [← q2]; exact Nat.le_trans hb h0
/-- What is left to do: the state's box is read, and laid into the result's. -/
def PutEnd (w0 : World) (cas : Nat) (fl : Int) (t : Ms) (v : Value) (W : World) : Prop :=
  (W.cell? ⟨w0.heap.size, 0, none⟩ = some v ∧ W.cell? ⟨w0.heap.size, 1, none⟩ = some (.int .u64 cas) ∧ W.cell? ⟨w0.heap.size, 2, none⟩ = some (.int .i64 fl)) ∧
  (W.cell? ⟨w0.heap.size + 1 + 1, 0, none⟩ = some (.slice none 0 0) ∧ W.cell? ⟨w0.heap.size + 1 + 1, 1, none⟩ = some (.int .u64 0) ∧ W.cell? ⟨w0.heap.size + 1 + 1, 2, none⟩ = some (.int .i64 0)) ∧
  (W.frozen? ⟨w0.heap.size + 1 + 1, 0, none⟩ = false ∧ W.frozen? ⟨w0.heap.size + 1 + 1, 1, none⟩ = false ∧ W.frozen? ⟨w0.heap.size + 1 + 1, 2, none⟩ = false) ∧
  (Blk (((W.setCell ⟨w0.heap.size + 1 + 1, 0, none⟩ v).setCell ⟨w0.heap.size + 1 + 1, 1, none⟩ (.int .u64 cas)).setCell ⟨w0.heap.size + 1 + 1, 2, none⟩ (.int .i64 fl)) (w0.heap.size + 1 + 1) 25 [v, .int .u64 cas, .int .i64 fl] ∧
    (Sv (((W.setCell ⟨w0.heap.size + 1 + 1, 0, none⟩ v).setCell ⟨w0.heap.size + 1 + 1, 1, none⟩ (.int .u64 cas)).setCell ⟨w0.heap.size + 1 + 1, 2, none⟩ (.int .i64 fl)) (.agg #[v, .int .u64 cas, .int .i64 fl]) t ∧ New w0.heap.size (.agg #[v, .int .u64 cas, .int .i64 fl])) ∧
    Below w0.heap.size w0 (((W.setCell ⟨w0.heap.size + 1 + 1, 0, none⟩ v).setCell ⟨w0.heap.size + 1 + 1, 1, none⟩ (.int .u64 cas)).setCell ⟨w0.heap.size + 1 + 1, 2, none⟩ (.int .i64 fl)))
theorem put_end {w0 w7 : World} {vs v : Value} {cas : Nat} {fl : Int} {xc : List Value} {base n : Nat} {l : List It} (h : PW w0 vs cas fl xc w7) (ho : w7.ownsRow base 33 8 v n (ics l)) (hn : n = l.length) (hb : w0.heap.size + 1 + 1 < base) :
    PutEnd w0 cas fl ⟨l, cas, fl⟩ v (w7.setCell ⟨w0.heap.size, 0, none⟩ v) := by
  have hB0 := h.b0.set 0 v
  have hB2 := h.b2.setOther (p := ⟨w0.heap.size, 0, none⟩) (by show w0.heap.size + 1 + 1 ≠ w0.heap.size; omega) v
  have ho1 := own_setc ho (p := ⟨w0.heap.size, 0, none⟩) (by show w0.heap.size < base; omega) v
  have hbl := h.below.setCell (p := ⟨w0.heap.size, 0, none⟩) (Nat.le_refl _) v
  have ho2 := own_setc (own_setc (own_setc ho1 (p := ⟨w0.heap.size + 1 + 1, 0, none⟩) hb v) (p := ⟨w0.heap.size + 1 + 1, 1, none⟩) hb (.int .u64 cas)) (p := ⟨w0.heap.size + 1 + 1, 2, none⟩) hb (.int .i64 fl)
  have q : w0.heap.size ≤ w0.heap.size + 1 + 1 := by omega
  exact ⟨⟨hB0.cell (i := 0) rfl, hB0.cell (i := 1) rfl, hB0.cell (i := 2) rfl⟩, ⟨hB2.cell (i := 0) rfl, hB2.cell (i := 1) rfl, hB2.cell (i := 2) rfl⟩, ⟨hB2.frozen 0, hB2.frozen 1, hB2.frozen 2⟩, ((hB2.set 0 v).set 1 _).set 2 _, ⟨⟨v, rfl, its_of_row ho2 hn⟩, new_row ho (by omega)⟩,
    ((hbl.setCell (p := ⟨w0.heap.size + 1 + 1, 0, none⟩) q _).setCell (p := ⟨w0.heap.size + 1 + 1, 1, none⟩) q _).setCell (p := ⟨w0.heap.size + 1 + 1, 2, none⟩) q _⟩
set_option maxRecDepth 100000 in
set_option maxHeartbeats 4000000 in
theorem ref_put {s : Ms} {V : Value} {w : World} (h : Sv w V s) (hs : Sorted s.its) (hlen : s.its.length ≤ 4194304) (x : It) :
    Calls Tryd.prog 29 #[V, x.v] w fun e w' => ∃ V', e = .returned V' ∧ (Sv w' V' ⟨put s.its x, s.cas, s.fl⟩ ∧ New w.heap.size V') ∧ Below w.heap.size w w' := by
  obtain ⟨v, rfl, hI⟩ := h
  obtain ⟨a, c, rfl⟩ := hI.form
  have HI := hid hI
  have HS := hid hs
  obtain ⟨kx, fx, vx, ex, cx, lx, sx, ox⟩ := x
  unfold msv
  show Calls Tryd.prog 29 #[.agg #[.slice a s.its.length c, .int .u64 s.cas, .int .i64 s.fl], .agg #[.string kx, .int .u32 fx, .string vx, .int .i64 ex, .int .u64 cx, .int .i64 lx, .bool sx, .bool ox]] w fun e w' => ∃ V', e = .returned V' ∧ (Sv w' V' ⟨put s.its ⟨kx, fx, vx, ex, cx, lx, sx, ox⟩, s.cas, s.fl⟩ ∧ New w.heap.size V') ∧ Below w.heap.size w w'
  have HF := hid (fun W (hb : Below w.heap.size w W) => ref_find (s := s) (V := .agg #[.slice a s.its.length c, .int .u64 s.cas, .int .i64 s.fl]) (w := W) ⟨_, rfl, hI.below hb⟩ hs hlen kx)
  obtain ⟨N, hN⟩ : ∃ N, N = s.its.length := ⟨_, rfl⟩
  rw [← hN] at HI hlen HF ⊢
  have hpn : pos s.its kx ≤ N := by rw [hN]; exact pos_le _ _
  have HN := hid hN
  clear hN hs hI
  generalize hP : pos s.its kx = P at *
  generalize hA : isAt s.its kx = A at *
  have hp0 := PW.begin w (.slice a N c) s.cas s.fl #[.string kx, .int .u32 fx, .string vx, .int .i64 ex, .int .u64 cx, .int .i64 lx, .bool sx, .bool ox]
  have hf := HF.out _ hp0.below
  have HP0 := hid hp0
  clear HF hp0
  go_enter Tryd.func29, Tryd.ntmps29
  go_wp2_with fail
  refine hf.mono ?_
  rintro e w2 ⟨rfl, hb⟩
  have HP := hid (HP0.out.step hb)
  have c0 := HP.out.b0.cell (i := 0) rfl
  have c1 := HP.out.b0.cell (i := 1) rfl
  have c2 := HP.out.b0.cell (i := 2) rfl
  clear HP0 hb hf
  have p0 : (0 : Int) ≤ (P : Int) := by omega
  have pn : (P : Int) ≤ (N : Int) := by omega
  have hcn : N ≤ c := by
    obtain ⟨a', c', q, hc', -⟩ := HI.out
    injection q with q1 q2 q3
    omega
  have HA1 : Hid (A = true → P < N) := hid (fun e => by
    subst e
    have := pos_at HS.out kx hA
    rw [hP] at this
    unfold isAt at hA
    rw [← this] at hA
    have h2 := (Option.isSome_iff_exists.1 hA)
    obtain ⟨y, hy⟩ := h2
    rw [HN.out]; exact (List.getElem?_eq_some_iff.1 hy).1)
  have HR : Hid (∀ i, i = (if A = true then P + 1 else P) → Srcs8 w2 (.slice (fromA a c i) (N - i) (c - i)) (N - i) (ics (s.its.filter (fun y => klt kx y.key)))) := hid (fun i hi => by
    have h1 := pos_drop HS.out kx
    rw [hA, hP, ← hi] at h1
    have hiN : i ≤ N := by
      rw [hi]
      split
      · rename_i e; exact HA1.out e
      · exact hpn
    have h2 := (HI.out.below HP.out.below).srcs i (N - i) (by have := HN.out; omega)
    rw [List.take_of_length_le (by rw [List.length_drop]; have := HN.out; omega), h1] at h2
    exact h2)
  go_upto_region 2 with fail
  go_cut [7] from 15 to 18 (fun r wx => wx = w2 ∧ r = .slice (fromA a c P) (N - P) (c - P))
  case first =>
    clear HR HA1 hA hP HI HS
    by_cases hcp : c = P
    · have e : fromA a c P = a := by unfold fromA; rw [if_pos hcp]
      go_wp2_with fail
      go_meet
      exact ⟨rfl, by rw [← hcp] at e ⊢; rw [e, Nat.sub_self]⟩
    · have e : fromA a c P = a.map (fun x => x.add (P * 8)) := by unfold fromA; rw [if_neg hcp]
      go_wp2_with fail
      go_meet
      exact ⟨rfl, by rw [e]⟩
  case rest =>
  obtain ⟨rfl, rfl⟩ := hcut
  go_upto_if 19 with fail
  go_cut [7] from 19 to 24 (fun r wx => wx = wc ∧ ∃ m, m ≤ 4194304 ∧ Srcs8 wx r m (ics (s.its.filter (fun y => klt kx y.key))))
  case first =>
    cases A
    · have HR2 := hid (HR.out P rfl)
      clear HR HA1 hA hP HI HS
      go_wp2_with fail
      go_meet
      exact ⟨rfl, N - P, by omega, HR2.out⟩
    · have hPN := HA1.out rfl
      obtain ⟨q, hq⟩ : ∃ q, q = P + 1 := ⟨_, rfl⟩
      have HR2 := hid (HR.out q hq)
      have q0 : (0 : Int) ≤ (q : Int) := by omega
      have qn : (q : Int) ≤ (N : Int) := by omega
      have q2 : (P : Int) + 1 = (q : Int) := by omega
      have hqN : N - q ≤ 4194304 := by omega
      clear HR HA1 hA hP HI HS hq
      by_cases hcp : c = q
      · have e : fromA a c q = a := by unfold fromA; rw [if_pos hcp]
        go_wp2_with fail
        go_meet
        exact ⟨rfl, N - q, hqN, by have h1 := HR2.out; rw [e, ← hcp, Nat.sub_self] at h1; first | exact h1 | (rw [← hcp]; exact h1)⟩
      · have e : fromA a c q = a.map (fun x => x.add (q * 8)) := by unfold fromA; rw [if_neg hcp]
        go_wp2_with fail
        go_meet
        exact ⟨rfl, N - q, hqN, by have h1 := HR2.out; rw [e] at h1; exact h1⟩
  case rest =>
  obtain ⟨rfl, m, hm, hr⟩ := hcut
  have HRS := hid hr
  clear hr HR HA1
  have x0 := HP.out.b1.cell (i := 0) rfl
  have x1 := HP.out.b1.cell (i := 1) rfl
  have x2 := HP.out.b1.cell (i := 2) rfl
  have x3 := HP.out.b1.cell (i := 3) rfl
  have x4 := HP.out.b1.cell (i := 4) rfl
  have x5 := HP.out.b1.cell (i := 5) rfl
  have x6 := HP.out.b1.cell (i := 6) rfl
  have x7 := HP.out.b1.cell (i := 7) rfl
  have f0 := HP.out.b0.frozen 0
  obtain ⟨S, hSd⟩ : ∃ S : World → Prop, S = fun w' => w'.cell? ⟨w.heap.size, 0, none⟩ = some (.slice a N c) ∧ w'.frozen? ⟨w.heap.size, 0, none⟩ = false ∧ w'.cell? ⟨w.heap.size + 1, 0, none⟩ = some (.string kx) ∧ w'.cell? ⟨w.heap.size + 1, 1, none⟩ = some (.int .u32 fx) ∧ w'.cell? ⟨w.heap.size + 1, 2, none⟩ = some (.string vx) ∧ w'.cell? ⟨w.heap.size + 1, 3, none⟩ = some (.int .i64 ex) ∧ w'.cell? ⟨w.heap.size + 1, 4, none⟩ = some (.int .u64 cx) ∧ w'.cell? ⟨w.heap.size + 1, 5, none⟩ = some (.int .i64 lx) ∧ w'.cell? ⟨w.heap.size + 1, 6, none⟩ = some (.bool sx) ∧ w'.cell? ⟨w.heap.size + 1, 7, none⟩ = some (.bool ox) := ⟨_, rfl⟩
  have hS : S wc.drew := by rw [hSd]; exact ⟨c0, f0, x0, x1, x2, x3, x4, x5, x6, x7⟩
  have pc : (P : Int) ≤ (c : Int) := by omega
  go_wp2_with fail
  refine wp_region_E S 12 (by kernel_rfl) ?_
  --TAKES wpAnyE_take | 10 | 1=.pointer (some ⟨w.heap.size, 0, none⟩) ; 2=.slice a N c ; 3=.int .i64 (P : Int) ; 4=.slice a P c ; 6=.agg #[.string kx, .int .u32 fx, .string vx, .int .i64 ex, .int .u64 cx, .int .i64 lx, .bool sx, .bool ox] ; 9=u7
  refine wpAnyE_take (i := 1) (v := .pointer (some ⟨w.heap.size, 0, none⟩)) rfl (by kernel_rfl) (by kernel_rfl) (by kernel_rfl) (fun _ _ _ h => h) (by kernel_rfl) (by kernel_rfl) hS (Or.inl ⟨by rfl, ?_⟩) ?_
  · intro w' hw'
    rw [hSd] at hw'; obtain ⟨s0, s1, s2, s3, s4, s5, s6, s7, s8, s9⟩ := hw'
    go_simp
  refine wpAnyE_take (i := 2) (v := .slice a N c) rfl (by kernel_rfl) (by kernel_rfl) (by kernel_rfl) (fun _ _ _ h => h) (by kernel_rfl) (by kernel_rfl) hS (Or.inl ⟨by rfl, ?_⟩) ?_
  · intro w' hw'
    rw [hSd] at hw'; obtain ⟨s0, s1, s2, s3, s4, s5, s6, s7, s8, s9⟩ := hw'
    go_simp
  refine wpAnyE_take (i := 3) (v := .int .i64 (P : Int)) rfl (by kernel_rfl) (by kernel_rfl) (by kernel_rfl) (fun _ _ _ h => h) (by kernel_rfl) (by kernel_rfl) hS (Or.inl ⟨by rfl, ?_⟩) ?_
  · intro w' hw'
    rw [hSd] at hw'; obtain ⟨s0, s1, s2, s3, s4, s5, s6, s7, s8, s9⟩ := hw'
    go_simp
  refine wpAnyE_take (i := 4) (v := .slice a P c) rfl (by kernel_rfl) (by kernel_rfl) (by kernel_rfl) (fun _ _ _ h => h) (by kernel_rfl) (by kernel_rfl) hS (Or.inl ⟨by rfl, ?_⟩) ?_
  · intro w' hw'
    rw [hSd] at hw'; obtain ⟨s0, s1, s2, s3, s4, s5, s6, s7, s8, s9⟩ := hw'
    go_simp
  refine wpAnyE_take (i := 6) (v := .agg #[.string kx, .int .u32 fx, .string vx, .int .i64 ex, .int .u64 cx, .int .i64 lx, .bool sx, .bool ox]) rfl (by kernel_rfl) (by kernel_rfl) (by kernel_rfl) (fun _ _ _ h => h) (by kernel_rfl) (by kernel_rfl) hS (Or.inl ⟨by rfl, ?_⟩) ?_
  · intro w' hw'
    rw [hSd] at hw'; obtain ⟨s0, s1, s2, s3, s4, s5, s6, s7, s8, s9⟩ := hw'
    go_simp
  refine wpAnyE_take (i := 9) (v := u7) rfl (by kernel_rfl) (by kernel_rfl) (by kernel_rfl) (fun _ _ _ h => h) (by kernel_rfl) (by kernel_rfl) hS (Or.inl ⟨by rfl, ?_⟩) ?_
  · intro w' hw'
    rw [hSd] at hw'; obtain ⟨s0, s1, s2, s3, s4, s5, s6, s7, s8, s9⟩ := hw'
    go_simp
  --END
  have HSK : Hid (Srcs8 wc (.slice a P c) P (ics (s.its.take P))) := hid ((HI.out.below HP.out.below).srcs_head P (by have := HN.out; omega))
  have HSb : Hid (∀ W, Below wc.heap.size wc W → S W) := hid (fun W hb => by
    rw [hSd]
    have q := HP.out.step hb
    exact ⟨q.b0.cell (i := 0) rfl, q.b0.frozen 0, q.b1.cell (i := 0) rfl, q.b1.cell (i := 1) rfl, q.b1.cell (i := 2) rfl, q.b1.cell (i := 3) rfl, q.b1.cell (i := 4) rfl, q.b1.cell (i := 5) rfl, q.b1.cell (i := 6) rfl, q.b1.cell (i := 7) rfl⟩)
  have HXK : Hid (∀ u ∈ ([.string kx, .int .u32 fx, .string vx, .int .i64 ex, .int .u64 cx, .int .i64 lx, .bool sx, .bool ox] : List Value), u.oneCell' = true) := hid (cells_ok ⟨kx, fx, vx, ex, cx, lx, sx, ox⟩)
  have HFIN : Hid (∀ a7 c7 w7, w7.ownsRow wc.heap.size 33 8 (.slice a7 (P + 1 + m) c7) (P + 1 + m) ((([] ++ ics (s.its.take P)) ++ [.string kx, .int .u32 fx, .string vx, .int .i64 ex, .int .u64 cx, .int .i64 lx, .bool sx, .bool ox]) ++ ics (s.its.filter (fun y => klt kx y.key))) → Below wc.heap.size wc w7 → PutEnd w s.cas s.fl ⟨put s.its ⟨kx, fx, vx, ex, cx, lx, sx, ox⟩, s.cas, s.fl⟩ (.slice a7 (P + 1 + m) c7) (w7.setCell ⟨w.heap.size, 0, none⟩ (.slice a7 (P + 1 + m) c7))) := hid (fun a7 c7 w7 ho hb => by
    have e1 : (([] ++ ics (s.its.take P)) ++ [.string kx, .int .u32 fx, .string vx, .int .i64 ex, .int .u64 cx, .int .i64 lx, .bool sx, .bool ox]) ++ ics (s.its.filter (fun y => klt kx y.key)) = ics (put s.its ⟨kx, fx, vx, ex, cx, lx, sx, ox⟩) := by
      unfold put
      rw [ics_app, ics_cons, ← hP, pos_take HS.out kx]
      simp [It.cells]
    rw [e1] at ho
    have e2 : P + 1 + m = (put s.its ⟨kx, fx, vx, ex, cx, lx, sx, ox⟩).length := by have := ho.1; rw [ics_len] at this; omega
    exact put_end (HP.out.step hb) ho e2 (Nat.lt_of_lt_of_le HP.out.b2.lt (Nat.le_refl _)))
  have HSd := hid hSd
  obtain ⟨i0, hi0, hz0, hz1, hz2⟩ := info_parts infoItem
  have bA : Below wc.heap.size wc (wc.alloc (.cells #[] 33)).drew := alloc_drew wc _
  have bX : Below wc.heap.size wc (wc.alloc (.cells #[.string kx, .int .u32 fx, .string vx, .int .i64 ex, .int .u64 cx, .int .i64 lx, .bool sx, .bool ox] 33)).drew := alloc_drew wc _
  clear hSd x0 x1 x2 x3 x4 x5 x6 x7 f0 c0 c1 c2 HI HS hP hA HP p0 pn
  refine wpAnyE_two (i := 0) (j := 7) rfl rfl (by kernel_rfl) (fun K hK => ?_) (fun K hK => ?_)
  · go_simp
    refine hK _ _ (fun _ => HSb.out _ bA) ?_
    clear hK K
    refine wpAnyE_two (i := 5) (j := 7) rfl rfl (by kernel_rfl) (fun K hK => ?_) (fun K hK => ?_)
    · refine step_append_src8 _ (by rfl) _ _ _ (by rfl) wc.heap.size 33 i0 _ 72 Tryd.underlying22 hi0 hz0 hz1 hz2 rfl (.slice (some ⟨wc.heap.size, 0, none⟩) 0 0) 0 [] (by rfl) ((own_none8 wc wc.heap.size 33 (Nat.le_refl _)).drew) _ P _ (by rfl) (HSK.out.below bA) (ics_ok _) (by unfold maxLen; omega) (by omega) (by simp) P (Nat.zero_add P) ?_
      intro v1 w3 hown3 hg3 hat3
      have b3 := below_app bA hg3 (own_ge8 ((own_none8 wc wc.heap.size 33 (Nat.le_refl _)).drew))
      refine hK _ _ (fun _ => HSb.out _ b3) ?_
      clear hK K
      refine wpAnyE_one (i := 7) rfl (by kernel_rfl) (fun K hK => ?_)
      go_simp
      have b5 := b3.alloc b3.size (.cells #[.string kx, .int .u32 fx, .string vx, .int .i64 ex, .int .u64 cx, .int .i64 lx, .bool sx, .bool ox] 33)
      have hA5 := hown3.alloc (.cells #[.string kx, .int .u32 fx, .string vx, .int .i64 ex, .int .u64 cx, .int .i64 lx, .bool sx, .bool ox] 33)
      have sX5 : Srcs8 (w3.alloc (.cells #[.string kx, .int .u32 fx, .string vx, .int .i64 ex, .int .u64 cx, .int .i64 lx, .bool sx, .bool ox] 33)) (.slice (some ⟨w3.heap.size, 0, none⟩) 1 1) 1 [.string kx, .int .u32 fx, .string vx, .int .i64 ex, .int .u64 cx, .int .i64 lx, .bool sx, .bool ox] := .inl ⟨_, 1, rfl, rfl, fun j u hj => by rw [addr_plain, Nat.zero_add]; exact (Blk.new w3 #[.string kx, .int .u32 fx, .string vx, .int .i64 ex, .int .u64 cx, .int .i64 lx, .bool sx, .bool ox] 33).cell hj⟩
      refine hK _ _ (fun _ => HSb.out _ b5) ?_
      clear hK K hg3 hat3 b3 hown3
      generalize (w3.alloc (.cells #[.string kx, .int .u32 fx, .string vx, .int .i64 ex, .int .u64 cx, .int .i64 lx, .bool sx, .bool ox] 33)) = w5 at *
      refine wpAnyE_one (i := 8) rfl (by kernel_rfl) (fun K hK => ?_)
      refine step_append_src8 _ (by rfl) _ _ _ (by rfl) wc.heap.size 33 i0 _ 72 Tryd.underlying22 hi0 hz0 hz1 hz2 rfl v1 P _ (by rfl) hA5 _ 1 _ (by rfl) sX5 HXK.out (by unfold maxLen; omega) (by omega) b5.size (P + 1) rfl ?_
      intro v2 w6 hown6 hg6 hat6
      have b6 := below_app b5 hg6 (own_ge8 hA5)
      refine hK _ _ (fun _ => HSb.out _ b6) ?_
      clear hK K hg6 hat6 sX5 hA5
      refine wpAnyE_one (i := 10) rfl (by kernel_rfl) (fun K hK => ?_)
      refine step_append_src8 _ (by rfl) _ _ _ (by rfl) wc.heap.size 33 i0 _ 72 Tryd.underlying22 hi0 hz0 hz1 hz2 rfl v2 (P + 1) _ (by rfl) hown6 u7 m _ (by rfl) (HRS.out.below b6) (ics_ok _) (by unfold maxLen; omega) (by omega) b6.size (P + 1 + m) rfl ?_
      intro v3 w7 hown7 hg7 hat7
      obtain ⟨a7, c7, rfl⟩ := row_form hown7
      have b7 := below_app b6 hg7 (own_ge8 hown6)
      have hS7 := HSb.out _ b7
      refine hK _ _ (fun _ => hS7) ?_
      clear hK K hg7 hat7 hown6 b5 b6
      refine wpAnyE_one (i := 11) rfl (by kernel_rfl) (fun K hK => ?_)
      go_simp
      refine hK _ _ (fun _ => hS7) ?_
      clear hK K
      refine wpAnyE_one (i := 12) rfl (by kernel_rfl) (fun K hK => ?_)
      rw [HSd.out] at hS7
      obtain ⟨s0, s1, -⟩ := hS7
      go_simp
      refine hK _ _ (fun h => (by cases (show true = false from h))) (wpAnyE_done (by kernel_rfl) ?_ _)
      clear hK K s0 s1 hS bA bX
      obtain ⟨⟨e0, e1, e2⟩, ⟨g0, g1, g2⟩, ⟨h0, h1, h2⟩, hfin⟩ := HFIN.out a7 c7 w7 hown7 b7
      have HFN := hid hfin
      clear hown7 b7 HFIN hfin
      go_wp2_with fail
      obtain ⟨X1, X2, X3⟩ := HFN.out
      exact bodyPost_ret (res_state rfl X1 rfl) rfl ⟨_, rfl, X2, X3⟩
    · go_simp
      have bAX : Below wc.heap.size wc ((wc.alloc (.cells #[] 33)).alloc (.cells #[.string kx, .int .u32 fx, .string vx, .int .i64 ex, .int .u64 cx, .int .i64 lx, .bool sx, .bool ox] 33)).drew := alloc2_drew wc _ _
      refine hK _ _ (fun _ => HSb.out _ bAX) ?_
      clear hK K
      refine wpAnyE_one (i := 5) rfl (by kernel_rfl) (fun K hK => ?_)
      refine step_append_src8 _ (by rfl) _ _ _ (by rfl) wc.heap.size 33 i0 _ 72 Tryd.underlying22 hi0 hz0 hz1 hz2 rfl (.slice (some ⟨wc.heap.size, 0, none⟩) 0 0) 0 [] (by rfl) (((own_none8 wc wc.heap.size 33 (Nat.le_refl _)).alloc _).drew) _ P _ (by rfl) (HSK.out.below bAX) (ics_ok _) (by unfold maxLen; omega) (by omega) bAX.size P (Nat.zero_add P) ?_
      intro v1 w5 hA5 hg5 hat5
      have b5 := below_app bAX hg5 (own_ge8 ((own_none8 wc wc.heap.size 33 (Nat.le_refl _)).drew))
      have sX5 : Srcs8 w5 (.slice (some ⟨wc.heap.size + 1, 0, none⟩) 1 1) 1 [.string kx, .int .u32 fx, .string vx, .int .i64 ex, .int .u64 cx, .int .i64 lx, .bool sx, .bool ox] := .inl ⟨_, 1, rfl, rfl, fun j u hj => by
        have h1 := item_far wc (.cells #[] 33) #[.string kx, .int .u32 fx, .string vx, .int .i64 ex, .int .u64 cx, .int .i64 lx, .bool sx, .bool ox] j u hj
        refine (hg5.cell_far _ (cell_lt h1) ?_).trans h1
        rw [addr_plain]
        simp [Value.ownBlock]⟩
      refine hK _ _ (fun _ => HSb.out _ b5) ?_
      clear hK K hg5 hat5 bAX
      refine wpAnyE_one (i := 8) rfl (by kernel_rfl) (fun K hK => ?_)
      refine step_append_src8 _ (by rfl) _ _ _ (by rfl) wc.heap.size 33 i0 _ 72 Tryd.underlying22 hi0 hz0 hz1 hz2 rfl v1 P _ (by rfl) hA5 _ 1 _ (by rfl) sX5 HXK.out (by unfold maxLen; omega) (by omega) b5.size (P + 1) rfl ?_
      intro v2 w6 hown6 hg6 hat6
      have b6 := below_app b5 hg6 (own_ge8 hA5)
      refine hK _ _ (fun _ => HSb.out _ b6) ?_
      clear hK K hg6 hat6 sX5 hA5
      refine wpAnyE_one (i := 10) rfl (by kernel_rfl) (fun K hK => ?_)
      refine step_append_src8 _ (by rfl) _ _ _ (by rfl) wc.heap.size 33 i0 _ 72 Tryd.underlying22 hi0 hz0 hz1 hz2 rfl v2 (P + 1) _ (by rfl) hown6 u7 m _ (by rfl) (HRS.out.below b6) (ics_ok _) (by unfold maxLen; omega) (by omega) b6.size (P + 1 + m) rfl ?_
      intro v3 w7 hown7 hg7 hat7
      obtain ⟨a7, c7, rfl⟩ := row_form hown7
      have b7 := below_app b6 hg7 (own_ge8 hown6)
      have hS7 := HSb.out _ b7
      refine hK _ _ (fun _ => hS7) ?_
      clear hK K hg7 hat7 hown6 b5 b6
      refine wpAnyE_one (i := 11) rfl (by kernel_rfl) (fun K hK => ?_)
      go_simp
      refine hK _ _ (fun _ => hS7) ?_
      clear hK K
      refine wpAnyE_one (i := 12) rfl (by kernel_rfl) (fun K hK => ?_)
      rw [HSd.out] at hS7
      obtain ⟨s0, s1, -⟩ := hS7
      go_simp
      refine hK _ _ (fun h => (by cases (show true = false from h))) (wpAnyE_done (by kernel_rfl) ?_ _)
      clear hK K s0 s1 hS bA bX
      obtain ⟨⟨e0, e1, e2⟩, ⟨g0, g1, g2⟩, ⟨h0, h1, h2⟩, hfin⟩ := HFIN.out a7 c7 w7 hown7 b7
      have HFN := hid hfin
      clear hown7 b7 HFIN hfin
      go_wp2_with fail
      obtain ⟨X1, X2, X3⟩ := HFN.out
      exact bodyPost_ret (res_state rfl X1 rfl) rfl ⟨_, rfl, X2, X3⟩
  · go_simp
    refine hK _ _ (fun _ => HSb.out _ bX) ?_
    clear hK K
    refine wpAnyE_one (i := 0) rfl (by kernel_rfl) (fun K hK => ?_)
    go_simp
    have bAX : Below wc.heap.size wc ((wc.alloc (.cells #[.string kx, .int .u32 fx, .string vx, .int .i64 ex, .int .u64 cx, .int .i64 lx, .bool sx, .bool ox] 33)).alloc (.cells #[] 33)).drew := alloc2_drew wc _ _
    refine hK _ _ (fun _ => HSb.out _ bAX) ?_
    clear hK K
    refine wpAnyE_one (i := 5) rfl (by kernel_rfl) (fun K hK => ?_)
    refine step_append_src8 _ (by rfl) _ _ _ (by rfl) wc.heap.size 33 i0 _ 72 Tryd.underlying22 hi0 hz0 hz1 hz2 rfl (.slice (some ⟨wc.heap.size + 1, 0, none⟩) 0 0) 0 [] (by rfl) ((own_none82 wc (.cells #[.string kx, .int .u32 fx, .string vx, .int .i64 ex, .int .u64 cx, .int .i64 lx, .bool sx, .bool ox] 33) 33).drew) _ P _ (by rfl) (HSK.out.below bAX) (ics_ok _) (by unfold maxLen; omega) (by omega) bAX.size P (Nat.zero_add P) ?_
    intro v1 w5 hA5 hg5 hat5
    have b5 := below_app bAX hg5 (own_ge8 ((own_none82 wc (.cells #[.string kx, .int .u32 fx, .string vx, .int .i64 ex, .int .u64 cx, .int .i64 lx, .bool sx, .bool ox] 33) 33).drew))
    have sX5 : Srcs8 w5 (.slice (some ⟨wc.heap.size, 0, none⟩) 1 1) 1 [.string kx, .int .u32 fx, .string vx, .int .i64 ex, .int .u64 cx, .int .i64 lx, .bool sx, .bool ox] := .inl ⟨_, 1, rfl, rfl, fun j u hj => by
      have h1 := item_near wc (.cells #[] 33) #[.string kx, .int .u32 fx, .string vx, .int .i64 ex, .int .u64 cx, .int .i64 lx, .bool sx, .bool ox] j u hj
      refine (hg5.cell_far _ (cell_lt h1) ?_).trans h1
      rw [addr_plain]
      simp [Value.ownBlock]⟩
    refine hK _ _ (fun _ => HSb.out _ b5) ?_
    clear hK K hg5 hat5 bAX
    refine wpAnyE_one (i := 8) rfl (by kernel_rfl) (fun K hK => ?_)
    refine step_append_src8 _ (by rfl) _ _ _ (by rfl) wc.heap.size 33 i0 _ 72 Tryd.underlying22 hi0 hz0 hz1 hz2 rfl v1 P _ (by rfl) hA5 _ 1 _ (by rfl) sX5 HXK.out (by unfold maxLen; omega) (by omega) b5.size (P + 1) rfl ?_
    intro v2 w6 hown6 hg6 hat6
    have b6 := below_app b5 hg6 (own_ge8 hA5)
    refine hK _ _ (fun _ => HSb.out _ b6) ?_
    clear hK K hg6 hat6 sX5 hA5
    refine wpAnyE_one (i := 10) rfl (by kernel_rfl) (fun K hK => ?_)
    refine step_append_src8 _ (by rfl) _ _ _ (by rfl) wc.heap.size 33 i0 _ 72 Tryd.underlying22 hi0 hz0 hz1 hz2 rfl v2 (P + 1) _ (by rfl) hown6 u7 m _ (by rfl) (HRS.out.below b6) (ics_ok _) (by unfold maxLen; omega) (by omega) b6.size (P + 1 + m) rfl ?_
    intro v3 w7 hown7 hg7 hat7
    obtain ⟨a7, c7, rfl⟩ := row_form hown7
    have b7 := below_app b6 hg7 (own_ge8 hown6)
    have hS7 := HSb.out _ b7
    refine hK _ _ (fun _ => hS7) ?_
    clear hK K hg7 hat7 hown6 b5 b6
    refine wpAnyE_one (i := 11) rfl (by kernel_rfl) (fun K hK => ?_)
    go_simp
    refine hK _ _ (fun _ => hS7) ?_
    clear hK K
    refine wpAnyE_one (i := 12) rfl (by kernel_rfl) (fun K hK => ?_)
    rw [HSd.out] at hS7
    obtain ⟨s0, s1, -⟩ := hS7
    go_simp
    refine hK _ _ (fun h => (by cases (show true = false from h))) (wpAnyE_done (by kernel_rfl) ?_ _)
    clear hK K s0 s1 hS bA bX
    obtain ⟨⟨e0, e1, e2⟩, ⟨g0, g1, g2⟩, ⟨h0, h1, h2⟩, hfin⟩ := HFIN.out a7 c7 w7 hown7 b7
    have HFN := hid hfin
    clear hown7 b7 HFIN hfin
    go_wp2_with fail
    obtain ⟨X1, X2, X3⟩ := HFN.out
    exact bodyPost_ret (res_state rfl X1 rfl) rfl ⟨_, rfl, X2, X3⟩
end Go.Proofs.YtpgljahomeebhaaDoor.Md

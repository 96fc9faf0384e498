/-
  The contracts of Set and Delete of a table at this program. Conditions: the table lies in memory, keys have at most 2^48 bytes, there are fewer than 10^9 entries.
-/
import Derived.Test.YtfbkfbghejeknaaChainCalls
namespace Go.Proofs.Ytfbkfbghejeknaa
open Go Go.Shelf Go.RowKit Go.Lib

theorem set_old_eq {s : Tb} (b c : Nat) (k : ByteArray) (n : Int) {e : En} (h : fnd k (s.row k) = some e) : s.set b c k n = s.upd k (setN k n (s.row k)) := by
  unfold Tb.set; rw [if_neg (by rw [h]; simp)]
theorem set_new_eq {s : Tb} (b c : Nat) (k : ByteArray) (n : Int) (h : fnd k (s.row k) = none) : s.set b c k n = if s.old = [] ∧ (s.add ⟨b, k, n⟩).full = true then (s.add ⟨b, k, n⟩).grow c else s.add ⟨b, k, n⟩ := by
  unfold Tb.set; rw [if_pos h]
/-- What a call leaves: the table is s' now; of what was there only the table has turned. -/
structure Go9 (P : Nat) (s : Tb) (w : World) (s' : Tb) (w' : World) : Prop where
  tm : TM P s' w'
  ok : Ok s'
  only : Only (Ft P s) w w'
  foot : ∀ x, Ft P s' x → Ft P s x ∨ w.heap.size ≤ x
theorem upd_ft {P : Nat} {s : Tb} {k : ByteArray} {l : List En} {x : Nat} (hb : ∀ e ∈ (s.upd k l).ents, ∃ e' ∈ s.ents, e'.b = e.b) (h : Ft P (s.upd k l) x) : Ft P s x := by
  obtain ⟨u1, u2⟩ := upd_N s k l
  rcases h with h | h | ⟨h1, h2⟩ | ⟨e, he, rfl⟩
  · exact .inl h
  · exact .inr (.inl (h.trans u1))
  · exact .inr (.inr (.inl ⟨fun e => h1 ((upd_old_nil s k l).2 e), h2.trans u2⟩))
  · obtain ⟨e', h1, h2⟩ := hb e he
    exact .inr (.inr (.inr ⟨e', h1, h2⟩))
theorem add_ft {P : Nat} {s : Tb} {e : En} {x : Nat} (o : Ok s) (hk : fnd e.k (s.row e.k) = none) (h : Ft P (s.add e) x) : Ft P s x ∨ x = e.b := by
  have p := (o.add hk).2
  obtain ⟨a1, a2, a3, a4, a5, a6, a7⟩ := add_same s e
  rcases h with h | h | ⟨h1, h2⟩ | ⟨y, hy, rfl⟩
  · exact .inl (.inl h)
  · exact .inl (.inr (.inl (h.trans a4)))
  · exact .inl (.inr (.inr (.inl ⟨fun e => h1 ((len_nil a7).2 e), h2.trans a5⟩)))
  · rcases List.mem_cons.1 (p.mem_iff.1 hy) with rfl | hy
    · exact .inr rfl
    · exact .inl (.inr (.inr (.inr ⟨y, hy, rfl⟩)))
theorem grow_ft {P : Nat} {s : Tb} {c x : Nat} (ho : s.old = []) (h : Ft P (s.grow c) x) : Ft P s x ∨ x = c := by
  rcases h with h | h | ⟨h1, h2⟩ | ⟨y, hy, rfl⟩
  · exact .inl (.inl h)
  · exact .inr h
  · exact .inl (.inr (.inl h2))
  · rw [grow_ents c ho] at hy
    exact .inl (.inr (.inr (.inr ⟨y, hy, rfl⟩)))
theorem TM.add {P : Nat} {s : Tb} {e : En} {w : World} (h : TM P (s.put e) w) : TM P (s.add e) (w.setCell ⟨P, 0, none⟩ (.int .i64 (s.cnt + 1 : Nat))) := h.setCnt (s.cnt + 1)

set_option maxRecDepth 100000 in
set_option maxHeartbeats 1000000 in
theorem set_any {P : Nat} {s : Tb} {w : World} (h : TM P s w) (o : Ok s) (k : ByteArray) (hk : k.size ≤ 281474976710656) (n : Int) (hc : s.cnt + 1 ≤ 1000000000) :
    Calls Try.prog 19 #[.pointer (some ⟨P, 0, none⟩), .string k, .int .i64 n] w fun e w' => e = .returned (.tuple #[]) ∧ ∃ b c, Go9 P s w (s.set b c k n) w' := by
  have m := o.mid
  have hF := find_any h m k (by omega)
  rcases lnk_of h m k with ⟨h1, h2⟩ | ⟨e, p, h1, h2, h3⟩
  · rw [h2] at hF
    have hC := clone_any k hk
    have H := hid h
    have H1 := hid h1
    have O := hid o
    have hlt := h.lt
    have HLT := hid hlt
    clear h h1 h2 o hlt
    go_enter Try.func19, Try.ntmps19
    go_wp2_with fail
    refine hF.mono ?_
    rintro e w1 ⟨rfl, b1⟩
    go_wp2_with fail
    refine (hC w1).mono ?_
    rintro e w2 ⟨rfl, b2⟩
    go_wp2_with fail
    have b3 : Below w.heap.size w (w2.alloc (.cells #[.string k, .int .i64 n, .pointer none] 66)) := Below.then (Below.then b1 b2) ((Below.refl _ _).alloc (Nat.le_refl _) _)
    have b12 := Below.then b1 b2
    have hE := Blk.new w2 #[.string k, .int .i64 n, .pointer none] 66
    have hge : ∀ x, Ft P s x → x ≠ w2.heap.size := fun x hx e1 => by
      have := HLT.out x hx
      have := b12.size
      omega
    refine (put_any (H.out.below b3) m ⟨w2.heap.size, k, n⟩ [] hE (fun hx => hge _ hx rfl) hk).mono ?_
    rintro e w4 ⟨rfl, h4, o4⟩
    have c40 := h4.c0
    have hcn : (s.put ⟨w2.heap.size, k, n⟩).cnt = s.cnt := (put_same _ _).2.2.1
    rw [hcn] at c40
    have f40 := h4.head.frozen 0
    have hfin : ∀ w5, w5 = w4.setCell ⟨P, 0, none⟩ (.int .i64 ((s.cnt : Int) + 1)) → TM P (s.add ⟨w2.heap.size, k, n⟩) w5 ∧ Only (Ft P s) w w5 := by
      rintro w5 rfl
      have hq := h4.add
      rw [show ((s.cnt + 1 : Nat) : Int) = (s.cnt : Int) + 1 by omega] at hq
      refine ⟨hq, ?_⟩
      have o1 : Only (Ft P s) w (w2.alloc (.cells #[.string k, .int .i64 n, .pointer none] 66)) := Below.only b3
      refine (o1.trans o4 (fun x hx => ?_)).setCell (p := ⟨P, 0, none⟩) (.inl (.inl rfl)) _
      rcases hx with rfl | rfl
      · exact .inl (hblk_ft P s k)
      · exact .inr b12.size
    obtain ⟨oA, pA⟩ := O.out.add (e := ⟨w2.heap.size, k, n⟩) H1.out
    have hge2 := b12.size
    have HFT := hid (fun x => add_ft (P := P) (x := x) O.out (e := ⟨w2.heap.size, k, n⟩) H1.out)
    have hEq := hid (fun c => set_new_eq w2.heap.size c k n H1.out)
    have hOld : (s.add ⟨w2.heap.size, k, n⟩).old = [] ↔ s.old = [] := len_nil (add_same s _).2.2.2.2.2.2
    have hCnt : (s.add ⟨w2.heap.size, k, n⟩).cnt ≤ 1000000000 := by rw [(add_same s _).2.2.1]; exact hc
    generalize s.add ⟨w2.heap.size, k, n⟩ = sA at *
    generalize s.cnt = C at *
    clear hF hC b1 b2 b3 hE hge h4 hcn pA
    have hw5 := hfin _ rfl
    generalize hW5 : w4.setCell ⟨P, 0, none⟩ (.int .i64 ((C : Int) + 1)) = w5 at hw5
    clear hfin
    obtain ⟨h5, o5⟩ := hw5
    have hG := grows_any h5
    by_cases ho : s.old = []
    · have hoA := hOld.2 ho
      rw [decide_eq_false (p := sA.old ≠ []) (fun e => e hoA)] at hG
      have hFU := full_any h5 oA.mid hCnt
      cases hf : sA.full with
      | false =>
        rw [hf] at hFU
        have hE2 : ∀ c, s.set w2.heap.size c k n = sA := fun c => (hEq.out c).trans (if_neg (by rw [hf]; simp))
        have HE2 := hid hE2
        have HO := hid hoA
        have H5 := hid h5
        clear hE2 ho hOld hoA hf h5 hEq
        go_wp2_with fail
        refine hG.mono ?_
        rintro e w6 ⟨rfl, rfl⟩
        go_wp2_with fail
        refine hFU.mono ?_
        rintro e w7 ⟨rfl, b7⟩
        go_wp2_with fail
        go_end0
        refine ⟨rfl, w2.heap.size, w2.heap.size, ?_⟩
        rw [HE2.out]
        exact ⟨H5.out.below b7, oA, o5.trans (Below.only (D := fun _ => False) b7) (fun _ e => e.elim), fun x hx => (HFT.out x hx).imp id (fun e => by rw [e]; exact hge2)⟩
      | true =>
        rw [hf] at hFU
        have hp : sA.pow < 20 := (of_decide_eq_true hf).2
        have hE2 : ∀ c, s.set w2.heap.size c k n = sA.grow c := fun c => (hEq.out c).trans (if_pos ⟨ho, hf⟩)
        have HE2 := hid hE2
        have HO := hid hoA
        have HF := hid hf
        have H5 := hid h5
        have hGR : ∀ w7, Below w5.heap.size w5 w7 → _ := fun w7 (b7 : Below w5.heap.size w5 w7) => grow_any (H5.out.below b7) oA.mid HO.out hp
        clear hE2 ho hOld hoA hf h5 hEq
        go_wp2_with fail
        refine hG.mono ?_
        rintro e w6 ⟨rfl, rfl⟩
        go_wp2_with fail
        refine hFU.mono ?_
        rintro e w7 ⟨rfl, b7⟩
        go_wp2_with fail
        refine (hGR w7 b7).mono ?_
        rintro e w8 ⟨rfl, c, h8, o8, l8⟩
        go_wp2_with fail
        go_end0
        refine ⟨rfl, w2.heap.size, c, ?_⟩
        rw [HE2.out]
        have hl5 : w.heap.size ≤ w7.heap.size := Nat.le_trans o5.size b7.size
        refine ⟨h8, oA.grow c HO.out HF.out, (o5.trans (Below.only (D := fun _ => False) b7) (fun _ e => e.elim)).trans o8 (fun x hx => .inl (.inl hx)), fun x hx => ?_⟩
        rcases grow_ft HO.out hx with hx | rfl
        · exact (HFT.out x hx).imp id (fun e => by rw [e]; exact hge2)
        · exact .inr (Nat.le_trans hl5 l8)
    · have hoA : sA.old ≠ [] := fun e => ho (hOld.1 e)
      rw [decide_eq_true (p := sA.old ≠ []) hoA] at hG
      have hE2 : ∀ c, s.set w2.heap.size c k n = sA := fun c => (hEq.out c).trans (if_neg (fun e => ho e.1))
      have HE2 := hid hE2
      have H5 := hid h5
      clear hE2 ho hOld hoA h5 hEq
      go_wp2_with fail
      refine hG.mono ?_
      rintro e w6 ⟨rfl, rfl⟩
      go_wp2_with fail
      go_end0
      refine ⟨rfl, w2.heap.size, w2.heap.size, ?_⟩
      rw [HE2.out]
      exact ⟨H5.out, oA, o5, fun x hx => (HFT.out x hx).imp id (fun e => by rw [e]; exact hge2)⟩
  · obtain ⟨c1, f1, ft, hP⟩ := ent_one h m h1
    have l1 := cell_lt c1
    have l3 := cell_lt h3
    have hEnd : ∀ w1, Below w.heap.size w w1 → Go9 P s w (s.set 0 0 k n) (w1.setCell ⟨e.b, 1, none⟩ (.int .i64 n)) := fun w1 b1 => by
      obtain ⟨oS, r, r1, r2⟩ := o.set_old 0 0 n h1
      rw [set_old_eq 0 0 k n h1] at oS r2 ⊢
      refine ⟨(h.below b1).setNum o k n h1, oS, (Below.only b1).setCell (p := ⟨e.b, 1, none⟩) (.inl ft) _, fun x hx => .inl (upd_ft (fun y hy => ?_) hx)⟩
      rcases List.mem_cons.1 (r2.mem_iff.1 hy) with rfl | hy
      · exact ⟨e, r1.mem_iff.2 (List.mem_cons_self ..), rfl⟩
      · exact ⟨y, r1.mem_iff.2 (List.mem_cons_of_mem _ hy), rfl⟩
    have HE := hid hEnd
    rw [h2] at hF
    clear h h1 h2 hEnd o
    go_enter Try.func19, Try.ntmps19
    go_wp2_with fail
    refine hF.mono ?_
    rintro e' w1 ⟨rfl, b1⟩
    have d1 := (b1.cell l1).trans c1
    have d3 := (b1.cell l3).trans h3
    have g1 := (b1.frozen (p := ⟨e.b, 1, none⟩) l1).trans f1
    go_wp2_with fail
    refine bodyPost_ret (results_none rfl _ _ _) rfl ?_
    exact ⟨rfl, 0, 0, HE.out w1 b1⟩

theorem del_eq {s : Tb} {k : ByteArray} {e : En} (h : fnd k (s.row k) = some e) : s.del k = { s.upd k (cut k (s.row k)) with cnt := s.cnt - 1 } := by
  unfold Tb.del; rw [if_neg (by rw [h]; simp)]
theorem Go9.refl {P : Nat} {s : Tb} {w w' : World} (h : TM P s w) (o : Ok s) (b : Below w.heap.size w w') : Go9 P s w s w' := ⟨h.below b, o, Below.only b, fun _ hx => .inl hx⟩
set_option maxRecDepth 100000 in
set_option maxHeartbeats 1000000 in
theorem del_any {P : Nat} {s : Tb} {w : World} (h : TM P s w) (o : Ok s) (k : ByteArray) (hk : k.size ≤ 281474976710656) (hc : s.cnt ≤ 1000000000) :
    Calls Try.prog 20 #[.pointer (some ⟨P, 0, none⟩), .string k] w fun e w' => e = .returned (.bool (s.get k).isSome) ∧ Go9 P s w (s.del k) w' := by
  have m := o.mid
  have hF := find_any h m k (by omega)
  rcases lnk_of h m k with ⟨h1, h2⟩ | ⟨e, p, h1, h2, h3⟩
  · have hg : Hid (s.get k = none) := hid (Tb.get_none.2 h1)
    have hd := hid (Ok.del_no h1)
    rw [h2] at hF
    have H := hid h
    clear h h1 h2
    go_enter Try.func20, Try.ntmps20
    go_wp2_with fail
    refine hF.mono ?_
    rintro e w1 ⟨rfl, b1⟩
    go_wp2_with fail
    go_ret
    exact ⟨by rw [hg.out]; rfl, by rw [hd.out]; exact Go9.refl H.out o b1⟩
  · have hg : Hid (s.get k = some e.n) := hid (by unfold Tb.get; rw [h1]; rfl)
    have hpos : 1 ≤ s.cnt := by
      rw [o.cnt]
      exact List.length_pos_of_mem (m.row_mem (fnd_key h1).2)
    have hEnd : ∀ w1, Below w.heap.size w w1 → ∃ X, w1.cell? p = some (.pointer (some ⟨e.b, 0, none⟩)) ∧ w1.frozen? p = false ∧ w1.cell? ⟨e.b, 2, none⟩ = some (.pointer X) ∧ p.block ≠ P ∧
        ((w1.setCell p (.pointer X)).cell? ⟨P, 0, none⟩ = some (.int .i64 s.cnt)) ∧ ((w1.setCell p (.pointer X)).frozen? ⟨P, 0, none⟩ = false) ∧
        Hid (Go9 P s w (s.del k) ((w1.setCell p (.pointer X)).setCell ⟨P, 0, none⟩ (.int .i64 ((s.cnt : Int) - 1)))) := fun w1 b1 => by
      obtain ⟨p', r, q1, q2, q3, q4, q5, q6, q7⟩ := (h.below b1).cutOut o k h1
      rw [h2] at q1
      obtain rfl : p = p' := Option.some.inj q1
      obtain ⟨X, hX⟩ := ptr_form r
      rw [hX] at q6 q7
      have c0 := q7.c0
      rw [(upd_pow s k _).2.2.1] at c0
      refine ⟨X, q2, q3, q6, q5, c0, q7.head.frozen 0, hid ?_⟩
      obtain ⟨oD, pD⟩ := o.del_yes h1
      have hq := q7.setCnt (s.cnt - 1)
      rw [show ((s.cnt - 1 : Nat) : Int) = (s.cnt : Int) - 1 by omega] at hq
      rw [del_eq h1] at oD pD ⊢
      refine ⟨hq, oD, ((Below.only b1).setCell (.inl q4) _).setCell (p := ⟨P, 0, none⟩) (.inl (.inl rfl)) _, fun x hx => .inl (upd_ft (k := k) (l := cut k (s.row k)) (fun y hy => ?_) hx)⟩
      exact ⟨y, pD.mem_iff.2 (List.mem_cons_of_mem _ hy), rfl⟩
    rw [h2] at hF
    have HE := hid hEnd
    generalize s.cnt = C at *
    clear h h1 h2 hEnd
    go_enter Try.func20, Try.ntmps20
    go_wp2_with fail
    refine hF.mono ?_
    rintro e' w1 ⟨rfl, b1⟩
    obtain ⟨X, q1, q2, q3, q4, q5, q6, q7⟩ := HE.out w1 b1
    clear HE
    go_wp2_with fail
    go_ret
    exact ⟨by rw [hg.out]; rfl, q7.out⟩
end Go.Proofs.Ytfbkfbghejeknaa

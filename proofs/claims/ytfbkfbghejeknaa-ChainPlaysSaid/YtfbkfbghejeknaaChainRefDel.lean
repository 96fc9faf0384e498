/-
  The contract of the document's own table's Delete at this program. Conditions: the table lies in memory, there are at most 10^9 entries.
-/
import Derived.Test.YtfbkfbghejeknaaChainRefSet
namespace Go.Proofs.Ytfbkfbghejeknaa
open Go Go.Shelf Go.RowKit Go.Lib

theorem Ok.cnt_pos1 {s : Tb} (o : Ok s) {x : ByteArray} (h : s.get x ≠ none) : 1 ≤ s.cnt := by
  rw [o.cnt]
  apply Classical.byContradiction
  intro hn
  have h0 : s.ents = [] := len0.1 (by omega)
  exact h ((get_nil o).2 (fun e he => by rw [h0] at he; cases he))
theorem wp_region_H {P : Program} {ops : Array Oper} {Q : Exit → Act → World → Prop} {id : Nat} {a : Act} {w : World} (S : World → Prop) (hm : P.follows .mixedOrders = true)
    (h : wpAnyH P .any ops Q S ops.size (Array.replicate ops.size false) a w.drew) : (Code.region id ops true).wp P Q a w :=
  wp_region_any hm (wpAny_of_held _ _ _ _ h)
theorem step_append_src2 {P : Program} (w : World) {ops : Array Oper} {o : Oper} {a : Act} {K : Act → World → Prop} {Q : Exit → Act → World → Prop} {E : Prop} (hgd : o.guard = none) (s x : Operand) (t : TypeId)
    (ho : o.op = .call { callee := .builtin .append, args := #[s, x], argTypes := #[t, t] })
    (base : Nat) (e : TypeId) (i : TypeInfo) (z : Value) (bytes : Nat) (ht : P.underlying t = some (.slice e)) (hi : P.info? e = some i) (hz : i.zero = some z)
    (hsize : i.size = 2) (hby : i.bytes = bytes) (hzs : z.cells.size = 2)
    (v : Value) (n : Nat) (xs : List Value) (hs : a.eval s = v) (hown : w.ownsRow base e 2 v n xs)
    (xv : Value) (m : Nat) (news : List Value) (hx : a.eval x = xv) (hsrc : Srcs2 w xv m news) (h1 : ∀ u ∈ news, u.oneCell' = true)
    (h63 : n + m ≤ maxLen) (hbytes : (n + m) * bytes ≤ 140737488355328) (hbase : base ≤ w.heap.size) (N : Nat) (hN : n + m = N)
    (h : ∀ v' w', w'.ownsRow base e 2 v' N (xs ++ news) → w.grownBy w' v.ownBlock → (v'.ownBlock = v.ownBlock ∨ v'.ownBlock = some w.heap.size) → K (a.put o.dst v') w') :
    if Region.wanted o (yielded ops a.tmps) = true then Oper.wp P o a w K Q else E := by
  rcases hsrc with ⟨ad, c, rfl, hl, hc⟩ | ⟨rfl, rfl, rfl⟩
  · exact step_append_more w hgd s x t ho base e i z 2 bytes ht hi hz hsize hby hzs (by omega) v n xs hs hown ad m c news hx hl hc h1 h63 hbytes hbase N hN h
  · have hw : Region.wanted o (yielded ops a.tmps) = true := by simp [Region.wanted, hgd]
    rw [if_pos hw]
    have hrun := run_append_owned_none (P := P) (w := w) base t o.type e i 2 ht hi v n xs hown
    unfold Oper.wp execOp
    simp only [ho, resolve, invoke, builtin, Sem.run_bind, Sem.run_pure, Result.andThen_ok, List.map_toArray, List.map_cons, List.map_nil, hs, hx, hrun]
    refine h v w ?_ ⟨rfl, rfl, rfl, Nat.le_refl _, fun _ _ _ => rfl⟩ (.inl rfl)
    rw [List.append_nil, ← hN]; exact hown
theorem own_ge2 {w : World} {base : Nat} {e : TypeId} {v : Value} {n : Nat} {xs : List Value} (h : w.ownsRow base e 2 v n xs) : ∀ b, v.ownBlock = some b → base ≤ b := fun b hb => by
  rcases h.2 with ⟨rfl, _⟩ | ⟨g, cap, cur, rfl, h0, _⟩
  · simp [Value.ownBlock] at hb
  · obtain rfl : g = b := by simpa [Value.ownBlock] using hb
    exact h0
theorem ec_take (l : List En) (i : Nat) : ec (l.take i) = (ec l).take (i * 2) := by
  induction l generalizing i with
  | nil => simp [ec]
  | cons e l ih =>
    cases i with
    | zero => rfl
    | succ i =>
      rw [show (i + 1) * 2 = i * 2 + 1 + 1 by omega]
      show _ :: _ :: ec (l.take i) = _ :: _ :: (ec l).take (i * 2)
      rw [ih]
theorem ec_drop (l : List En) (i : Nat) : ec (l.drop i) = (ec l).drop (i * 2) := by
  induction l generalizing i with
  | nil => simp [ec]
  | cons e l ih =>
    cases i with
    | zero => rfl
    | succ i =>
      rw [show (i + 1) * 2 = i * 2 + 1 + 1 by omega]
      exact ih i

set_option maxRecDepth 100000 in
set_option maxHeartbeats 2000000 in
theorem ref_del {P : Nat} {r : Rf} {s : Tb} {w : World} (h : RM P r s w) (o : Ok s) (hc : s.cnt ≤ 1000000000) (k : ByteArray) (hk : k.size ≤ 281474976710656) :
    Calls Try.prog 28 #[.pointer (some ⟨P, 0, none⟩), .string k] w fun e w' => e = .returned (.bool (s.get k).isSome) ∧ ∃ r', RGo P r s w r' (s.del k) w' := by
  have m := o.mid
  have hr := ref_row h m k (by omega)
  obtain ⟨hR, hRv, hRb⟩ := h.home m k
  have hlen := row_le o (by omega) k
  have hat : ∀ w1, Below w.heap.size w w1 → Calls Try.prog 40 #[r.val s k, .string k] w1 fun e w' => e = .returned (.int .i64 (ati k (s.row k))) ∧ w1 = w' := fun w1 b1 => ref_at (hRb.only (Below.only (D := fun _ => False) b1) (fun _ _ => id)) hlen k
  cases hf : fnd k (s.row k) with
  | none =>
    have hg := hid (Tb.get_none.2 hf)
    have hd := hid (Ok.del_no hf)
    rw [ati_none hf] at hat
    obtain ⟨a, c, hV⟩ := hRb.form
    rw [hV] at hr hat
    have H := hid h
    clear h hR hRv hRb hV hf
    go_enter Try.func28, Try.ntmps28
    go_wp2_with fail
    refine hr.mono ?_
    rintro e w1 ⟨rfl, b1⟩
    go_wp2_with fail
    refine (hat w1 b1).mono ?_
    rintro e w2 ⟨rfl, rfl⟩
    go_wp2_with fail
    go_ret
    exact ⟨by rw [hg.out]; rfl, r, by rw [hd.out]; exact ⟨H.out.below b1, Below.only b1, fun x hx => .inl hx⟩⟩
  | some e =>
    have hg : Hid (s.get k = some e.n) := hid (by unfold Tb.get; rw [hf]; rfl)
    obtain ⟨p1, p2⟩ := pos_at hf
    have hcnt : 1 ≤ s.cnt := o.cnt_pos1 (by rw [hg.out]; simp)
    rw [ati_some hf] at hat
    obtain ⟨g, c, hV⟩ := hRb.some (by omega)
    obtain ⟨i0, hi0, hz0, hz1, hz2⟩ := info_parts infoEnt
    have hRb2 := hRb
    rw [hV] at hr hat hRb
    have hcap : (s.row k).length ≤ c := by
      rcases hRb.2 with ⟨h1, _⟩ | ⟨g', cap, cur, h1, _, _, hn, _⟩
      · cases h1
      · have : c = cap := by simpa using congrArg (fun v => match v with | .slice _ _ c => c | _ => 0) h1
        omega
    have hcm : c ≤ 9223372036854775807 := by
      rcases hRb.2 with ⟨h1, _⟩ | ⟨g', cap, cur, h1, _, _, hn, hm, _⟩
      · cases h1
      · have : c = cap := by simpa using congrArg (fun v => match v with | .slice _ _ c => c | _ => 0) h1
        unfold maxLen at hm; omega
    have hcut := pos_cut hf
    have hput : ∀ w1 v, Below w.heap.size w w1 → w1.ownsRow w.heap.size 72 2 v (cut k (s.row k)).length (ec (cut k (s.row k))) → Hid (Calls Try.prog 41 #[.pointer (some ⟨P, 0, none⟩), .string k, v] w1 fun e w' => e = .returned (.tuple #[]) ∧ ∃ r1, Hid (RGo P r s w r1 (s.upd k (cut k (s.row k))) w')) := fun w1 v b1 hv => hid ((ref_put h b1 m k (by omega) hv).mono fun _ _ ⟨he, g⟩ => ⟨he, _, hid g⟩)
    have hcl : (cut k (s.row k)).length = pos k (s.row k) + ((s.row k).length - (pos k (s.row k) + 1)) := by rw [hcut, List.length_append, List.length_take, List.length_drop]; omega
    have hce : ec (cut k (s.row k)) = [] ++ (ec (s.row k)).take (pos k (s.row k) * 2) ++ (ec (s.row k)).drop ((pos k (s.row k) + 1) * 2) := by rw [hcut, ec_app, ec_take, ec_drop]; rfl
    rw [hcl, hce] at hput
    have hs1 : Srcs2 w (.slice (some ⟨g, 0, none⟩) (pos k (s.row k)) c) (pos k (s.row k)) ((ec (s.row k)).take (pos k (s.row k) * 2)) := .inl ⟨_, c, rfl, by rw [List.length_take, ec_len]; omega, fun j u hj => by
      rw [List.getElem?_take] at hj
      split at hj
      · rename_i hjl
        rw [addr_plain, Nat.zero_add, World.ownsRow.cellAt hRb j (by omega)]; exact hj
      · cases hj⟩
    obtain ⟨tl, htl⟩ : ∃ tl : Option Addr, tl = if c = pos k (s.row k) + 1 then some ⟨g, 0, none⟩ else some ⟨g, (pos k (s.row k) + 1) * 2, none⟩ := ⟨_, rfl⟩
    have hs2 : Srcs2 w (.slice tl ((s.row k).length - (pos k (s.row k) + 1)) (c - (pos k (s.row k) + 1))) ((s.row k).length - (pos k (s.row k) + 1)) ((ec (s.row k)).drop ((pos k (s.row k) + 1) * 2)) := by
      by_cases e1 : c = pos k (s.row k) + 1
      · rw [if_pos e1] at htl
        have e2 : (s.row k).length - (pos k (s.row k) + 1) = 0 := by omega
        have e3 : (ec (s.row k)).drop ((pos k (s.row k) + 1) * 2) = [] := List.drop_of_length_le (by rw [ec_len]; omega)
        rw [e2, e3, htl]
        exact .inl ⟨_, _, rfl, rfl, fun j u hj => by simp at hj⟩
      · rw [if_neg e1] at htl
        rw [htl]
        refine .inl ⟨_, _, rfl, by rw [List.length_drop, ec_len]; omega, fun j u hj => ?_⟩
        rw [List.getElem?_drop] at hj
        have hjl := (List.getElem?_eq_some_iff.1 hj).1
        rw [ec_len] at hjl
        rw [addr_plain, World.ownsRow.cellAt hRb _ hjl]; exact hj
    have hdl : s.del k = { s.upd k (cut k (s.row k)) with cnt := s.cnt - 1 } := del_eq hf
    have hup : (s.upd k (cut k (s.row k))).cnt = s.cnt := (upd_pow s k _).2.2.1
    have hok1 : ∀ u ∈ (ec (s.row k)).take (pos k (s.row k) * 2), u.oneCell' = true := fun u hu => ec_ok _ u (List.mem_of_mem_take hu)
    have hok2 : ∀ u ∈ (ec (s.row k)).drop ((pos k (s.row k) + 1) * 2), u.oneCell' = true := fun u hu => ec_ok _ u (List.mem_of_mem_drop hu)
    have hp1 : (0 : Int) ≤ ((pos k (s.row k) : Nat) : Int) := by omega
    have hp2 : ((pos k (s.row k) : Nat) : Int) + 1 ≤ ((s.row k).length : Int) := by omega
    have hp3 : ((s.row k).length : Int) ≤ (c : Int) := by omega
    have hwr : IntKind.i64.wrap (((pos k (s.row k) : Nat) : Int) + 1) = ((pos k (s.row k) : Nat) : Int) + 1 := by rw [IntKind.wrap_i64]; omega
    have HP := hid hput
    have HD := hid hdl
    have HU := hid hup
    have HT := hid htl
    generalize s.upd k (cut k (s.row k)) = su at *
    generalize (ec (s.row k)).take (pos k (s.row k) * 2) = x1 at *
    generalize (ec (s.row k)).drop ((pos k (s.row k) + 1) * 2) = x2 at *
    generalize pos k (s.row k) = B at *
    generalize (s.row k).length = N at *
    clear h hR hRv hRb hV hf p1 hput hdl hup htl hcut hcl hce hRb2
    go_enter Try.func28, Try.ntmps28
    go_wp2_with fail
    refine hr.mono ?_
    rintro e w1 ⟨rfl, b1⟩
    go_wp2_with fail
    refine (hat w1 b1).mono ?_
    rintro e w2 ⟨rfl, rfl⟩
    clear hr hat
    go_wp2_with fail
    have hS : (fun _ : World => True) w1.drew := trivial
    have n1 : ¬ (c < B) := by omega
    have n2 : ¬ (N < B + 1) := by omega
    have n3 : ¬ (c < N) := by omega
    have htl' := HT.out.symm
    have n4 : ¬ ((B : Int) + 1 < 0) := by omega
    refine wp_region_H (fun _ => True) (by kernel_rfl) ?_
    --TAKES wpAnyH_take | 1 | 0=.pointer (some ⟨P, 0, none⟩) ; 1=.string k ; 3=.slice (some ⟨g, 0, none⟩) N c ; 4=.int .i64 B ; 5=.slice (some ⟨g, 0, none⟩) B c ; 7=.slice (some ⟨g, 0, none⟩) N c ; 8=.int .i64 B ; 9=.int .i64 ((B : Int) + 1) ; 10=.slice tl (N - (B + 1)) (c - (B + 1))
    refine wpAnyH_take (i := 0) (v := .pointer (some ⟨P, 0, none⟩)) rfl (by kernel_rfl) (by kernel_rfl) (by kernel_rfl) (fun _ _ _ h => h) (Or.inl ⟨by rfl, ?_⟩) hS ?_
    · intro w' hw'
      obtain ⟨s0⟩ := hw'
      go_simp
    refine wpAnyH_take (i := 1) (v := .string k) rfl (by kernel_rfl) (by kernel_rfl) (by kernel_rfl) (fun _ _ _ h => h) (Or.inl ⟨by rfl, ?_⟩) hS ?_
    · intro w' hw'
      obtain ⟨s0⟩ := hw'
      go_simp
    refine wpAnyH_take (i := 3) (v := .slice (some ⟨g, 0, none⟩) N c) rfl (by kernel_rfl) (by kernel_rfl) (by kernel_rfl) (fun _ _ _ h => h) (Or.inl ⟨by rfl, ?_⟩) hS ?_
    · intro w' hw'
      obtain ⟨s0⟩ := hw'
      go_simp
    refine wpAnyH_take (i := 4) (v := .int .i64 B) rfl (by kernel_rfl) (by kernel_rfl) (by kernel_rfl) (fun _ _ _ h => h) (Or.inl ⟨by rfl, ?_⟩) hS ?_
    · intro w' hw'
      obtain ⟨s0⟩ := hw'
      go_simp
    refine wpAnyH_take (i := 5) (v := .slice (some ⟨g, 0, none⟩) B c) rfl (by kernel_rfl) (by kernel_rfl) (by kernel_rfl) (fun _ _ _ h => h) (Or.inl ⟨by rfl, ?_⟩) hS ?_
    · intro w' hw'
      obtain ⟨s0⟩ := hw'
      go_simp
    refine wpAnyH_take (i := 7) (v := .slice (some ⟨g, 0, none⟩) N c) rfl (by kernel_rfl) (by kernel_rfl) (by kernel_rfl) (fun _ _ _ h => h) (Or.inl ⟨by rfl, ?_⟩) hS ?_
    · intro w' hw'
      obtain ⟨s0⟩ := hw'
      go_simp
    refine wpAnyH_take (i := 8) (v := .int .i64 B) rfl (by kernel_rfl) (by kernel_rfl) (by kernel_rfl) (fun _ _ _ h => h) (Or.inl ⟨by rfl, ?_⟩) hS ?_
    · intro w' hw'
      obtain ⟨s0⟩ := hw'
      go_simp
    refine wpAnyH_take (i := 9) (v := .int .i64 ((B : Int) + 1)) rfl (by kernel_rfl) (by kernel_rfl) (by kernel_rfl) (fun _ _ _ h => h) (Or.inl ⟨by rfl, ?_⟩) hS ?_
    · intro w' hw'
      obtain ⟨s0⟩ := hw'
      go_simp
    refine wpAnyH_take (i := 10) (v := .slice tl (N - (B + 1)) (c - (B + 1))) rfl (by kernel_rfl) (by kernel_rfl) (by kernel_rfl) (fun _ _ _ h => h) (Or.inl ⟨by rfl, ?_⟩) hS ?_
    · intro w' hw'
      obtain ⟨s0⟩ := hw'
      go_simp
    --END
    have bA : Below w.heap.size w (w1.alloc (.cells #[] 72)).drew := (b1.alloc b1.size _).drew
    have hlit : (w1.alloc (.cells #[] 72)).drew.ownsRow w.heap.size 72 2 (.slice (some ⟨w1.heap.size, 0, none⟩) 0 0) 0 [] := (World.ownsRow_lit w1 #[] 0 b1.size (by unfold maxLen; omega) rfl).drew
    refine wpAnyH_ready (rs := [2]) (by kernel_rfl) (by simp) ?_
    refine AllReadyH.cons rfl (fun K hK => ?_) AllReadyH.nil
    go_simp
    refine hK.out _ _ trivial (fun _ => ?_)
    clear hK K
    refine wpAnyH_ready (rs := [6]) (by kernel_rfl) (by simp) ?_
    refine AllReadyH.cons rfl (fun K hK => ?_) AllReadyH.nil
    refine step_append_src2 _ (by rfl) _ _ _ (by rfl) w.heap.size 72 i0 _ 24 Try.underlying61 hi0 hz0 hz1 hz2 rfl (.slice (some ⟨w1.heap.size, 0, none⟩) 0 0) 0 [] (by rfl) hlit _ B _ (by rfl) (hs1.below bA) hok1 (by unfold maxLen; omega) (by omega) bA.size B (Nat.zero_add B) ?_
    intro v3 w3 hown3 hg3 _
    have b3 := bA.grown hg3 bA.size (fun j ej => own_ge2 hlit j ej)
    refine hK.out _ _ trivial (fun _ => ?_)
    clear hK K
    refine wpAnyH_ready (rs := [11]) (by kernel_rfl) (by simp) ?_
    refine AllReadyH.cons rfl (fun K hK => ?_) AllReadyH.nil
    refine step_append_src2 _ (by rfl) _ _ _ (by rfl) w.heap.size 72 i0 _ 24 Try.underlying61 hi0 hz0 hz1 hz2 rfl v3 B _ (by rfl) hown3 _ (N - (B + 1)) _ (by rfl) (hs2.below b3) hok2 (by unfold maxLen; omega) (by omega) b3.size (B + (N - (B + 1))) rfl ?_
    intro v4 w4 hown4 hg4 _
    have b4 := b3.grown hg4 b3.size (fun j ej => own_ge2 hown3 j ej)
    refine hK.out _ _ trivial (fun _ => ?_)
    clear hK K
    have hP4 := HP.out w4 v4 b4 hown4
    obtain ⟨a4, c4, rfl⟩ := row_form2 hown4
    refine wpAnyH_ready (rs := [12]) (by kernel_rfl) (by simp) ?_
    refine AllReadyH.cons rfl (fun K hK => ?_) AllReadyH.nil
    go_simp
    refine hP4.out.mono ?_
    rintro e w5 ⟨rfl, r1, hg5⟩
    refine hK.out _ _ trivial (fun _ => ?_)
    clear hK K
    refine wpAnyH_done (by kernel_rfl) ?_ _
    have d5 := hg5.out.rm.c5
    rw [HU.out] at d5
    have f5 := hg5.out.rm.head.frozen 5
    have hfin : Hid (RGo P r s w r1 (s.del k) (w5.setCell ⟨P, 5, none⟩ (.int .i64 ((s.cnt : Int) - 1)))) := hid (by
      have h1 := hg5.out.rm.setCnt (s.cnt - 1)
      rw [show ((s.cnt - 1 : Nat) : Int) = (s.cnt : Int) - 1 by omega] at h1
      rw [HD.out]
      exact ⟨h1, hg5.out.only.setCell (p := ⟨P, 5, none⟩) (.inl (.inl rfl)) _, hg5.out.foot⟩)
    generalize s.cnt = C at *
    clear hP4 hown4 hown3 hlit hs1 hs2 hS htl' HP HD HU HT hg5
    go_wp2_with fail
    go_ret
    exact ⟨by rw [hg.out]; rfl, r1, hfin.out⟩
end Go.Proofs.Ytfbkfbghejeknaa

/-
  The contract of the document's own table's Set at this program. Conditions: the table lies in memory, there are fewer than 10^9 entries.
-/
import Derived.Test.YtfbkfbghejeknaaChainRefPut
import Derived.Laws.AppendOwnNone
namespace Go.Proofs.Ytfbkfbghejeknaa
open Go Go.Shelf Go.RowKit Go.Lib

theorem set_same {α : Type} {l : List α} {i : Nat} {x : α} (h : l[i]? = some x) : l.set i x = l := by
  apply List.ext_getElem?
  intro j
  rw [List.getElem?_set]
  split
  · rename_i e; subst e
    rw [if_pos (List.getElem?_eq_some_iff.1 h).1, h]
  · rfl
/-- A number is written into the key's bucket. -/
theorem RM.num {P : Nat} {r : Rf} {s : Tb} {w : World} (h : RM P r s w) (m : Mid s) (k : ByteArray) (n : Int) {e : En} (hf : fnd k (s.row k) = some e) {g c : Nat} (hV : r.val s k = .slice (some ⟨g, 0, none⟩) (s.row k).length c) :
    RGo P r s w (r.upd s k (r.val s k)) (s.upd k (setN k n (s.row k))) (w.setCell ⟨g, pos k (s.row k) * 2 + 1, none⟩ (.int .i64 n)) := by
  obtain ⟨hR, hRv, hRb⟩ := h.home m k
  have hob : (r.val s k).ownBlock = some g := by rw [hV]; simp [Value.ownBlock]
  have hin : r.val s k ∈ r.ov ++ r.nv := List.mem_of_getElem? (all_at h m k)
  have hft : RFt P r s g := .inr (.inr (.inr ⟨_, hin, hob⟩))
  have ho := only_set w ⟨g, pos k (s.row k) * 2 + 1, none⟩ (.int .i64 n)
  have hst : Bkt (w.setCell ⟨g, pos k (s.row k) * 2 + 1, none⟩ (.int .i64 n)) (r.val s k) (setN k n (s.row k)) := by
    have h1 : w.ownsRow 0 72 2 (.slice (some ⟨g, 0, none⟩) (s.row k).length c) (s.row k).length (ec (s.row k)) := by rw [← hV]; exact hRb
    have h2 := (World.ownsRow.stored h1 (pos k (s.row k) * 2 + 1) (.int .i64 n)).1
    unfold Bkt
    rw [hV, setN_len, pos_set hf]
    exact h2
  refine ⟨h.upd m k (r.val s k) _ (D := fun b => b = g) ho (fun e1 => hRb.ne h.head (by decide) g hob e1.symm) ?_ hst (fun b e1 => .inr (.inl (by rw [e1]; exact hob))) (fun b e1 => .inl e1), ?_, fun x hx => (rupd_ft hx).elim .inl (fun e1 => .inl (by
    rw [hob] at e1
    cases e1; exact hft))⟩
  · rw [set_same hRv]
    exact hR.only ho (fun e1 => hRb.ne hR (by decide) g hob e1.symm)
  · exact (Only.refl (RFt P r s) w).setCell (p := ⟨g, pos k (s.row k) * 2 + 1, none⟩) (.inl hft) _
theorem RM.setCnt {P : Nat} {r : Rf} {s : Tb} {w : World} (h : RM P r s w) (c : Nat) : RM P r { s with cnt := c } (w.setCell ⟨P, 5, none⟩ (.int .i64 c)) := by
  have ho := only_set w ⟨P, 5, none⟩ (.int .i64 c)
  exact ⟨h.head.set 5 _, h.new.only ho (h.new.ne h.head (by decide)), fun hn => (h.old hn).only ho ((h.old hn).ne h.head (by decide)),
    h.nb.only ho (fun v hv b hb => h.nb.ne hv h.head (by decide) b hb), h.ob.only ho (fun v hv b hb => h.ob.ne hv h.head (by decide) b hb), h.nd, h.apart⟩

set_option maxRecDepth 100000 in
set_option maxHeartbeats 1000000 in
/-- The first half of Set of a new key: the entry is put, and counted. -/
theorem RM.added {P : Nat} {r r1 : Rf} {s : Tb} {w w1 : World} {k : ByteArray} {n : Int} (b : Nat) (g : RGo P r s w r1 (s.upd k (⟨b, k, n⟩ :: s.row k)) w1) :
    RGo P r s w r1 (s.add ⟨b, k, n⟩) (w1.setCell ⟨P, 5, none⟩ (.int .i64 ((s.cnt : Int) + 1))) := by
  have h := g.rm.setCnt (s.cnt + 1)
  rw [show ((s.cnt + 1 : Nat) : Int) = (s.cnt : Int) + 1 by omega] at h
  exact ⟨h, g.only.setCell (p := ⟨P, 5, none⟩) (.inl (.inl rfl)) _, g.foot⟩
/-- The table grows. -/
theorem RM.grown {P : Nat} {r : Rf} {s : Tb} {w w1 w2 : World} {N X : Nat} (c : Nat) (h : RM P r s w) (m : Mid s) (hX : 2 ^ (s.pow + 1) = X)
    (h1 : Blk w1 P 34 [.int .i64 ((s.pow : Int) + 1), .bool true, .int .i64 0, slv r.N r.nv, slv r.N r.nv, .int .i64 s.cnt]) (o1 : Only (fun b => b = P) w w1)
    (hB : Blk w2 N 61 (List.replicate X (Value.slice none 0 0))) (b2 : Below w1.heap.size w1 w2) (hN : w1.heap.size ≤ N) :
    RM P ⟨N, r.N, List.replicate X (Value.slice none 0 0), r.nv⟩ (s.grow c) (w2.setCell ⟨P, 4, none⟩ (.slice (some ⟨N, 0, none⟩) X X)) := by
  have hX1 : 1 ≤ X := by rw [← hX]; exact Nat.two_pow_pos _
  have ho : Only (fun b => b = P) w (w2.setCell ⟨P, 4, none⟩ (.slice (some ⟨N, 0, none⟩) X X)) := (o1.trans (Below.only (D := fun _ => False) b2) (fun _ e => e.elim)).setCell (p := ⟨P, 4, none⟩) (.inl rfl) _
  have hPl := h1.lt
  have hne : s.new ≠ [] := m.new_ne
  have hrep : (s.grow c).new = List.replicate X [] := by unfold Tb.grow; rw [hX]
  refine ⟨?_, ?_, fun _ => h.new.only ho (h.new.ne h.head (by decide)), ⟨by rw [hrep]; simp, fun i v l hv hl => ?_⟩, ?_, ?_, fun _ => ?_⟩
  · have hH := (h1.below b2).set 4 (.slice (some ⟨N, 0, none⟩) X X)
    have he : rhead ⟨N, r.N, List.replicate X (Value.slice none 0 0), r.nv⟩ (s.grow c) = [.int .i64 ((s.pow : Int) + 1), .bool true, .int .i64 0, slv r.N r.nv, .slice (some ⟨N, 0, none⟩) X X, .int .i64 s.cnt] := by
      unfold rhead
      rw [slv_some (show List.replicate X (Value.slice none 0 0) ≠ [] by rw [Ne, List.replicate_eq_nil_iff]; omega), List.length_replicate]
      rw [show decide ((s.grow c).old ≠ []) = true from decide_eq_true hne]
      show [Value.int .i64 ((s.pow + 1 : Nat) : Int), _, _, _, _, _] = _
      rw [show ((s.pow + 1 : Nat) : Int) = (s.pow : Int) + 1 by omega]; rfl
    rw [he]; exact hH
  · exact hB.setOther (p := ⟨P, 4, none⟩) (fun e => by have e : N = P := e; omega) _
  · rw [hrep] at hl
    have q1 : v ∈ List.replicate X (Value.slice none 0 0) := List.mem_of_getElem? hv
    have q2 : l ∈ List.replicate X ([] : List En) := List.mem_of_getElem? hl
    rw [(List.mem_replicate.1 q1).2, (List.mem_replicate.1 q2).2]
    exact Bkt.nil _
  · exact h.nb.only ho (fun v hv b hb => h.nb.ne hv h.head (by decide) b hb)
  · show ((r.nv ++ List.replicate X (Value.slice none 0 0)).filterMap Value.ownBlock).Nodup
    rw [List.filterMap_append]
    have e0 : (List.replicate X (Value.slice none 0 0)).filterMap Value.ownBlock = [] := by
      rw [List.filterMap_eq_nil_iff]
      intro v hv
      rw [(List.mem_replicate.1 hv).2]; rfl
    rw [e0, List.append_nil]
    have := h.nd
    rw [List.filterMap_append] at this
    exact (List.nodup_append.1 this).2.1
  · show N ≠ r.N
    have := h.new.lt
    have := o1.size
    omega
theorem rgrow_ft {P : Nat} {r : Rf} {s : Tb} {N X c x : Nat} (h : RFt P ⟨N, r.N, List.replicate X (Value.slice none 0 0), r.nv⟩ (s.grow c) x) : RFt P r s x ∨ x = N := by
  rcases h with h | h | ⟨_, h⟩ | ⟨v, hv, hb⟩
  · exact .inl (.inl h)
  · exact .inr h
  · exact .inl (.inr (.inl h))
  · rcases List.mem_append.1 hv with hv | hv
    · exact .inl (.inr (.inr (.inr ⟨v, List.mem_append_right _ hv, hb⟩)))
    · rw [(List.mem_replicate.1 hv).2] at hb
      simp [Value.ownBlock] at hb

/-- What is appended, of entries: cells that lie somewhere, or nothing. -/
def Srcs2 (w : World) (x : Value) (m : Nat) (news : List Value) : Prop :=
  (∃ ad c, x = .slice (some ad) m c ∧ news.length = m * 2 ∧ ∀ j u, news[j]? = some u → w.cell? (ad.add j) = some u) ∨ (x = .slice none 0 0 ∧ m = 0 ∧ news = [])
theorem Srcs2.below {w w' : World} {x : Value} {m : Nat} {news : List Value} (h : Srcs2 w x m news) (hb : Below w.heap.size w w') : Srcs2 w' x m news := by
  rcases h with ⟨ad, c, h1, h2, h3⟩ | h
  · exact .inl ⟨ad, c, h1, h2, fun j u hj => by
      have h4 := h3 j u hj
      exact (hb.cell (cell_lt h4)).trans h4⟩
  · exact .inr h
theorem Bkt.srcs {w : World} {v : Value} {l : List En} (h : Bkt w v l) : Srcs2 w v l.length (ec l) := by
  rcases h.2 with ⟨rfl, h2⟩ | ⟨g, cap, cur, rfl, -⟩
  · have hl : l = [] := len0.1 (by omega)
    subst hl
    exact .inr ⟨rfl, rfl, rfl⟩
  · refine .inl ⟨⟨g, 0, none⟩, cap, rfl, ec_len l, fun j u hj => ?_⟩
    have hj' : j < (ec l).length := (List.getElem?_eq_some_iff.1 hj).1
    rw [addr_plain, Nat.zero_add, World.ownsRow.cellAt h j (by rw [ec_len] at hj'; exact hj'), hj]
theorem wpList_append_src2 {P : Program} {w : World} {ops : Array Oper} {rest : List Oper} {o : Oper} {a : Act} {Q : Exit → Act → World → Prop} (hgd : o.guard = none) (s x : Operand) (t : TypeId)
    (ho : o.op = .call { callee := .builtin .append, args := #[s, x], argTypes := #[t, t] })
    (base : Nat) (e : TypeId) (i : TypeInfo) (z : Value) (bytes : Nat) (ht : P.underlying t = some (.slice e)) (hi : P.info? e = some i) (hz : i.zero = some z)
    (hsize : i.size = 2) (hby : i.bytes = bytes) (hzs : z.cells.size = 2)
    (v : Value) (n : Nat) (xs : List Value) (hs : a.eval s = v) (hown : w.ownsRow base e 2 v n xs)
    (xv : Value) (m : Nat) (news : List Value) (hx : a.eval x = xv) (hsrc : Srcs2 w xv m news) (h1 : ∀ u ∈ news, u.oneCell' = true)
    (h63 : n + m ≤ maxLen) (hbytes : (n + m) * bytes ≤ 140737488355328) (hbase : base ≤ w.heap.size) (N : Nat) (hN : n + m = N)
    (h : ∀ v' w', w'.ownsRow base e 2 v' N (xs ++ news) → w.grownBy w' v.ownBlock → wpList P ops Q rest (a.put o.dst v') w') : wpList P ops Q (o :: rest) a w := by
  rcases hsrc with ⟨ad, c, rfl, hl, hc⟩ | ⟨rfl, rfl, rfl⟩
  · exact wpList_append_own w hgd s x t ho base e i z 2 bytes ht hi hz hsize hby hzs (by omega) v n xs hs hown ad m c news hx hl hc h1 h63 hbytes hbase (fun v' w' q1 q2 _ => h v' w' (hN ▸ q1) q2)
  · refine wpList_append_own_none hgd s x t ho base e i 2 ht hi v n xs hs hown hx (h v w ?_ ⟨rfl, rfl, rfl, Nat.le_refl _, fun _ _ _ => rfl⟩)
    rw [List.append_nil, ← hN]; exact hown
theorem infoEnt : (Try.prog.info? 72).map (fun i => (i.zero, i.size, i.bytes)) = some (some (.agg #[.string ByteArray.empty, .int .i64 0]), 2, 24) := by kernel_rfl

set_option maxRecDepth 100000 in
set_option maxHeartbeats 2000000 in
theorem ref_set {P : Nat} {r : Rf} {s : Tb} {w : World} (h : RM P r s w) (o : Ok s) (hc : s.cnt + 1 ≤ 1000000000) (k : ByteArray) (hk : k.size ≤ 281474976710656) (n : Int) (b c : Nat) :
    Calls Try.prog 26 #[.pointer (some ⟨P, 0, none⟩), .string k, .int .i64 n] w fun e w' => e = .returned (.tuple #[]) ∧ ∃ r', RGo P r s w r' (s.set b c k n) w' := by
  have m := o.mid
  have hr := ref_row h m k (by omega)
  obtain ⟨hR, hRv, hRb⟩ := h.home m k
  have hlen := row_le o (by omega) k
  have hat : ∀ w1, Below w.heap.size w w1 → Calls Try.prog 40 #[r.val s k, .string k] w1 fun e w' => e = .returned (.int .i64 (ati k (s.row k))) ∧ w1 = w' := fun w1 b1 => ref_at (hRb.only (Below.only (D := fun _ => False) b1) (fun _ _ => id)) hlen k
  cases hf : fnd k (s.row k) with
  | some e =>
    obtain ⟨p1, p2⟩ := pos_at hf
    rw [ati_some hf] at hat
    obtain ⟨g, c', hV⟩ := hRb.some (by omega)
    have hfin : ∀ w1, Below w.heap.size w w1 → Hid (RGo P r s w (r.upd s k (r.val s k)) (s.set b c k n) (w1.setCell ⟨g, pos k (s.row k) * 2 + 1, none⟩ (.int .i64 n))) := fun w1 b1 => hid (by
      have g1 := (h.below b1).num m k n hf hV
      rw [set_old_eq b c k n hf]
      exact ⟨g1.rm, (Below.only b1).trans g1.only (fun x hx => .inl hx), fun x hx => (g1.foot x hx).imp id (Nat.le_trans b1.size)⟩)
    have hfz : ∀ w1, Below w.heap.size w w1 → w1.frozen? ⟨g, pos k (s.row k) * 2 + 1, none⟩ = false ∧ ∃ u, w1.cell? ⟨g, pos k (s.row k) * 2 + 1, none⟩ = some (.int .i64 u) := fun w1 b1 => by
      have hb1 := hRb.only (Below.only (D := fun _ => False) b1) (fun _ _ => id)
      rw [hV] at hb1
      refine ⟨World.ownsRow.frozenAt hb1 _, e.n, ?_⟩
      rw [World.ownsRow.cellAt hb1 _ (by omega), (ec_at p1).2]
    rw [hV] at hr hat
    have hp1 : (0 : Int) ≤ ((pos k (s.row k) : Nat) : Int) := by omega
    have HF := hid hfin
    generalize pos k (s.row k) = B at *
    generalize (s.row k).length = L at *
    clear h hR hRv hRb hV hf p1 hfin
    go_enter Try.func26, Try.ntmps26
    go_wp2_with fail
    refine hr.mono ?_
    rintro e w1 ⟨rfl, b1⟩
    obtain ⟨hf1, u1, hc1⟩ := hfz w1 b1
    go_wp2_with fail
    refine (hat w1 b1).mono ?_
    rintro e w2 ⟨rfl, rfl⟩
    go_wp2_with fail
    refine bodyPost_ret (results_none rfl _ _ _) rfl ?_
    exact ⟨rfl, _, (HF.out w1 b1).out⟩
  | none =>
    rw [ati_none hf] at hat
    obtain ⟨i0, hi0, hz0, hz1, hz2⟩ := info_parts infoEnt
    have hsrc := hRb.srcs
    obtain ⟨a, c', hV⟩ := hRb.form
    rw [hV] at hr hat hsrc
    have hput : ∀ w1 v, Below w.heap.size w w1 → w1.ownsRow w.heap.size 72 2 v ((s.row k).length + 1) (ec (⟨b, k, n⟩ :: s.row k)) → Hid (Calls Try.prog 41 #[.pointer (some ⟨P, 0, none⟩), .string k, v] w1 fun e w' => e = .returned (.tuple #[]) ∧ ∃ r1, Hid (RGo P r s w r1 (s.upd k (⟨b, k, n⟩ :: s.row k)) w')) := fun w1 v b1 hv => hid ((ref_put h b1 m k (by omega) (l := ⟨b, k, n⟩ :: s.row k) hv).mono fun _ _ ⟨he, g⟩ => ⟨he, _, hid g⟩)
    have HPUT := hid hput
    have HSRC := hid hsrc
    have hNl : (s.row k).length ≤ 1000000000 := hlen
    have H := hid h
    generalize hN : (s.row k).length = N at *
    clear hput hsrc h hR hRv hRb hV hlen
    go_enter Try.func26, Try.ntmps26
    go_wp2_with fail
    refine hr.mono ?_
    rintro e w1 ⟨rfl, b1⟩
    go_wp2_with fail
    refine (hat w1 b1).mono ?_
    rintro e w2 ⟨rfl, rfl⟩
    have bA : Below w1.heap.size w1 (w1.alloc (.cells #[.string k, .int .i64 n] 72)) := (Below.refl _ _).alloc (Nat.le_refl _) _
    have hbA := Below.then b1 bA
    have hlit : (w1.alloc (.cells #[.string k, .int .i64 n] 72)).ownsRow w.heap.size 72 2 (.slice (some ⟨w1.heap.size, 0, none⟩) 1 1) 1 [.string k, .int .i64 n] := World.ownsRow_lit w1 #[.string k, .int .i64 n] 1 b1.size (by unfold maxLen; omega) rfl
    have hsA := (HSRC.out.below hbA)
    go_wp2_with (at_builtin; refine wpList_append_src2 rfl _ _ 61 rfl w.heap.size 72 i0 _ 24 Try.underlying61 hi0 hz0 hz1 hz2 rfl (.slice (some ⟨w1.heap.size, 0, none⟩) 1 1) 1 _ rfl hlit (.slice a N c') N _ rfl hsA (ec_ok _) (by unfold maxLen; omega) (by omega) hbA.size (N + 1) (by omega) ?_; intro v3 w3 hown3 hgrow3)
    obtain ⟨a3, c3, rfl⟩ := row_form2 hown3
    have hb3 : Below w.heap.size w w3 := hbA.grown hgrow3 hbA.size (fun j ej => by
      have e1 : w1.heap.size = j := by simpa [Value.ownBlock] using ej
      rw [← e1]; exact b1.size)
    have hP3 := HPUT.out w3 _ hb3 hown3
    clear HPUT HSRC hsA hlit bA hbA hown3 hgrow3 hat hr
    refine hP3.out.mono ?_
    rintro e w4 ⟨rfl, r1, hg4⟩
    clear hP3
    have hC4 : s.cnt = (s.upd k (⟨b, k, n⟩ :: s.row k)).cnt := (upd_pow s k _).2.2.1.symm
    have d5 := hg4.out.rm.c5
    rw [← hC4] at d5
    have f5 := hg4.out.rm.head.frozen 5
    have hA := RM.added b hg4.out
    have hNe := set_new_eq b c k n hf
    have oA := (o.add (e := ⟨b, k, n⟩) hf).1
    have hAc : (s.add ⟨b, k, n⟩).cnt = s.cnt + 1 := (add_same s _).2.2.1
    have hAo : (s.add ⟨b, k, n⟩).old = [] ↔ s.old = [] := len_nil (add_same s _).2.2.2.2.2.2
    clear hg4 hC4 H o m hf
    generalize s.add ⟨b, k, n⟩ = sA at *
    generalize s.cnt = C at *
    go_upto_region 6 with fail
    generalize hW5 : w4.setCell ⟨P, 5, none⟩ (.int .i64 ((C : Int) + 1)) = w5 at *
    have HA := hid hA
    have m := oA.mid
    have e0 := hA.rm.c0
    have e1 := hA.rm.c1
    have e4 := hA.rm.c4 m
    have e5 := hA.rm.c5
    rw [hAc] at e5
    have e5 : w5.cell? ⟨P, 5, none⟩ = some (.int .i64 ((C : Int) + 1)) := by rw [e5]; rfl
    have hll := m.len_le.1
    have p20 := m.p20
    have p2 := m.p2
    have hfull : sA.full = decide (3 * sA.new.length < 2 * (C + 1) ∧ sA.pow < 20) := by unfold Tb.full; rw [hAc]
    have hXX : ∃ X : Nat, 2 ^ (sA.pow + 1) = X ∧ 2 * sA.new.length = X ∧ X ≤ 2097152 := ⟨_, rfl, by rw [m.lenN, Nat.pow_succ]; omega, by rw [Nat.pow_succ, ← m.lenN]; omega⟩
    have hHead := hA.rm.head
    have hRn : slv r1.N r1.nv = .slice (some ⟨r1.N, 0, none⟩) sA.new.length sA.new.length := by rw [slv_some (show r1.nv ≠ [] from fun e => m.new_ne ((len_nil2 hA.rm.nb.1).1 e)), hA.rm.nb.1]
    have q1 : IntKind.i64.wrap (2 * ((C : Int) + 1)) = 2 * ((C : Int) + 1) := by rw [IntKind.wrap_i64]; omega
    have q2 : IntKind.i64.wrap (3 * (sA.new.length : Int)) = 3 * (sA.new.length : Int) := by rw [IntKind.wrap_i64]; omega
    have HH := hid hHead
    have OA := hid oA
    clear hA hHead d5 f5
    generalize hL : sA.new.length = L at *
    generalize hp : sA.pow = p at *
    by_cases ho : s.old = []
    · have hoA := hAo.2 ho
      rw [decide_eq_false (p := sA.old ≠ []) (fun e => e hoA)] at e1
      by_cases h1 : 3 * L < 2 * (C + 1)
      · have h1' : (3 : Int) * L < 2 * ((C : Int) + 1) := by omega
        have g1 : decide (2 * ((C : Int) + 1) ≤ (3 : Int) * L) = false := by simpa using h1'
        by_cases h2 : p < 20
        · have h2' : (p : Int) < 20 := by omega
          have g2 : decide ((20 : Int) ≤ (p : Int)) = false := by simpa using h2'
          have hEq : Hid (s.set b c k n = sA.grow c) := hid (hNe.trans (if_pos ⟨ho, by rw [hfull]; exact decide_eq_true ⟨h1, h2⟩⟩))
          clear hNe hfull hAo ho h1 h2
          obtain ⟨X, hX, h2L, hX2⟩ := hXX
          obtain ⟨j0, hj, hy0, hy1, hy2⟩ := info_parts infoRow
          have hHd : rhead r1 sA = [.int .i64 p, .bool false, .int .i64 sA.moved, slv r1.O r1.ov, .slice (some ⟨r1.N, 0, none⟩) L L, .int .i64 ((C : Int) + 1)] := by
            unfold rhead
            rw [hp, hRn, hAc, decide_eq_false (p := sA.old ≠ []) (fun e => e hoA)]; rfl
          have hH5 := HH.out
          rw [hHd] at hH5
          obtain ⟨ao, no, co, hso⟩ : ∃ a n c, slv r1.O r1.ov = .slice a n c := by unfold slv; split <;> exact ⟨_, _, _, rfl⟩
          rw [hso] at hH5
          have d2 := hH5.cell (i := 2) rfl
          have d3 := hH5.cell (i := 3) rfl
          have k0 := hH5.frozen 0
          have k1 := hH5.frozen 1
          have k2 := hH5.frozen 2
          have k3 := hH5.frozen 3
          have k4 := hH5.frozen 4
          have hPl : P < w5.heap.size := hH5.lt
          have hX1 : 1 ≤ X := by rw [← hX]; exact Nat.two_pow_pos _
          have h2Li : (2 : Int) * (L : Int) = (X : Int) := by omega
          have HG : Hid (∀ w6, ((((w5.setCell ⟨P, 1, none⟩ (.bool true)).setCell ⟨P, 2, none⟩ (.int .i64 0)).setCell ⟨P, 3, none⟩ (.slice (some ⟨r1.N, 0, none⟩) L L)).setCell ⟨P, 0, none⟩ (.int .i64 ((p : Int) + 1))).drew = w6 →
              Hid (Blk w6 P 34 [.int .i64 ((p : Int) + 1), .bool true, .int .i64 0, .slice (some ⟨r1.N, 0, none⟩) L L, .slice (some ⟨r1.N, 0, none⟩) L L, .int .i64 ((C : Int) + 1)]) ∧ w6.heap.size = w5.heap.size ∧ Only (fun b => b = P) w5 w6) := hid (fun w6 hw6 => by
            refine ⟨hid ?_, by rw [← hw6]; simp [World.setCell], ?_⟩
            · rw [← hw6]; exact ((((hH5.set 1 _).set 2 _).set 3 _).set 0 _).drew
            · rw [← hw6]
              exact (((((Only.refl (fun b => b = P) w5).setCell (p := ⟨P, 1, none⟩) (.inl rfl) _).setCell (p := ⟨P, 2, none⟩) (.inl rfl) _).setCell (p := ⟨P, 3, none⟩) (.inl rfl) _).setCell (p := ⟨P, 0, none⟩) (.inl rfl) _).drew)
          clear hH5 hHd hso
          go_wp2_with fail
          go_region
          go_wp2_with (at_make; generalize hw6 : ((((w5.setCell ⟨P, 1, none⟩ (.bool true)).setCell ⟨P, 2, none⟩ (.int .i64 0)).setCell ⟨P, 3, none⟩ (.slice (some ⟨r1.N, 0, none⟩) L L)).setCell ⟨P, 0, none⟩ (.int .i64 ((p : Int) + 1))).drew = w6; obtain ⟨HB6, hz6, ho6⟩ := HG.out w6 hw6; have d4 := HB6.out.cell (i := 4) rfl; have k4' := HB6.out.frozen 4; clear hw6; refine wpList_make_full _ rfl _ _ 32 rfl w6.heap.size 61 j0 (.slice none 0 0) 1 Try.underlying32 hj hy0 hy1 .i64 .i64 _ _ X rfl rfl (by omega) (by omega) (by rw [hy2]; omega) (by unfold maxLen; omega) (Nat.le_refl _) ?_; intro w7 hown hgrow; rw [made_cells _ _ rfl] at hown; have hB7 := hid (blk_of_full hown); have hb7 := below_of_grown hgrow; clear hown hgrow; have d5 := (hb7.cell (p := ⟨P, 4, none⟩) (by show P < w6.heap.size; omega)).trans d4; have d6 := (hb7.frozen (p := ⟨P, 4, none⟩) (by show P < w6.heap.size; omega)).trans k4')
          go_end0
          rw [← hz6]
          have hG := RM.grown (N := w6.heap.size) (X := X) c HA.out.rm m (by rw [hp]; exact hX) (w1 := w6) (w2 := w7) (by rw [hRn, hp, hAc]; exact HB6.out) ho6 hB7.out hb7 (Nat.le_refl _)
          refine ⟨rfl, ⟨w6.heap.size, r1.N, List.replicate X (Value.slice none 0 0), r1.nv⟩, ?_⟩
          rw [hEq.out]
          refine ⟨hG, ((HA.out.only.trans ho6 (fun x hx => .inl (.inl hx))).trans (Below.only (D := fun _ => False) hb7) (fun _ e => e.elim)).setCell (p := ⟨P, 4, none⟩) (.inl (.inl rfl)) _, fun x hx => ?_⟩
          rcases rgrow_ft hx with hx | rfl
          · exact HA.out.foot x hx
          · exact .inr (by rw [hz6]; exact HA.out.only.size)
        · have h2' : (20 : Int) ≤ (p : Int) := by omega
          have g2 : decide ((20 : Int) ≤ (p : Int)) = true := by simpa using h2'
          have hEq : Hid (s.set b c k n = sA) := hid (hNe.trans (if_neg (fun e => h2 (by have := e.2; rw [hfull] at this; exact (of_decide_eq_true this).2))))
          clear hNe hfull hAo ho h1 h2
          go_wp2_with fail
          go_region
          go_wp2_with fail
          refine bodyPost_ret (results_none rfl _ _ _) rfl ?_
          refine ⟨rfl, r1, ?_⟩
          rw [hEq.out]
          exact ⟨HA.out.rm.below (Below.refl _ _).drew, HA.out.only.drew, HA.out.foot⟩
      · have h1' : (2 : Int) * ((C : Int) + 1) ≤ 3 * L := by omega
        have g1 : decide (2 * ((C : Int) + 1) ≤ (3 : Int) * L) = true := by simpa using h1'
        have hEq : Hid (s.set b c k n = sA) := hid (hNe.trans (if_neg (fun e => h1 (by have := e.2; rw [hfull] at this; exact (of_decide_eq_true this).1))))
        clear hNe hfull hAo ho h1
        go_wp2_with fail
        go_region
        go_wp2_with fail
        refine bodyPost_ret (results_none rfl _ _ _) rfl ?_
        refine ⟨rfl, r1, ?_⟩
        rw [hEq.out]
        exact ⟨HA.out.rm.below (Below.refl _ _).drew, HA.out.only.drew, HA.out.foot⟩
    · have hoA : sA.old ≠ [] := fun e => ho (hAo.1 e)
      rw [decide_eq_true (p := sA.old ≠ []) hoA] at e1
      have hEq : Hid (s.set b c k n = sA) := hid (hNe.trans (if_neg (fun e => ho e.1)))
      clear hNe hfull hAo ho
      go_wp2_with fail
      go_region
      go_wp2_with fail
      refine bodyPost_ret (results_none rfl _ _ _) rfl ?_
      refine ⟨rfl, r1, ?_⟩
      rw [hEq.out]
      exact ⟨HA.out.rm.below (Below.refl _ _).drew, HA.out.only.drew, HA.out.foot⟩
end Go.Proofs.Ytfbkfbghejeknaa

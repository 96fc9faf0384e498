/-
  The law SlabApart at this program, what its walk leans on. No conditions.
  append onto a row of the call's own at a step of a region that draws its order, whether there is anything to append or not. No program in it. No conditions.
-/
import Derived.Test.YtldfpacdlephcaaSlabApartMath
import Derived.Test.YtldfpacdlephcaaM6
import Derived.Test.YtldfpacdlephcaaM3
import Derived.Test.YtldfpacdlephcaaM1
import Derived.Deep.AppendLies
import Derived.Deep.RegionHeld3
namespace Go.Proofs.Ytldfpacdlephcaa
open Go Go.RowKit Go.Lib

theorem rises_row {Pg F : Nat} (h1 : 512 ≤ Pg) (h8 : Pg % 8 = 0) : ∀ (m k : Nat) (b : Int), m + k = (Sz.row Pg F).length → (∀ x, (Sz.row Pg F)[k]? = some x → b < (x : Int)) → rises (Pg : Int) b ((Sz.ints (Sz.row Pg F)).drop k) = true
  | 0, k, b, hk, _ => rises_end (by rw [Sz.ints_len]; omega)
  | m + 1, k, b, hk, hb => by
    obtain ⟨x, hx⟩ : ∃ x, (Sz.row Pg F)[k]? = some x := ⟨_, List.getElem?_eq_getElem (by omega)⟩
    have hz : (Sz.ints (Sz.row Pg F))[k]? = some (x : Int) := by unfold Sz.ints; rw [List.getElem?_map, hx]; rfl
    have ha := Sz.row_at h1 h8 hx
    rw [rises_go hz (hb x hx) (by omega)]
    exact rises_row h1 h8 m (k + 1) (x : Int) (by omega) (fun y hy => by have := Sz.row_rise h1 h8 hx hy; omega)
theorem sizes_row {Pg F : Nat} (h1 : 512 ≤ Pg) (h8 : Pg % 8 = 0) : sizesB (Sz.ints (Sz.row Pg F)) (Pg : Int) = true := by
  have hl := Sz.row_len Pg F
  have hf := Sz.row_first (f := F) h1
  unfold sizesB
  rw [Bool.and_eq_true, decide_eq_true_iff, Sz.ints_len]
  refine ⟨by omega, ?_⟩
  have := rises_row (F := F) h1 h8 (Sz.row Pg F).length 0 63 (by omega) (fun x hx => by have := Sz.row_at h1 h8 hx; omega)
  rw [List.drop_zero] at this
  exact this
theorem row_back (Pg F : Nat) : (Sz.ints (Sz.row Pg F)).map Int.toNat = Sz.row Pg F := by
  unfold Sz.ints
  rw [List.map_map]
  conv => rhs; rw [← List.map_id (Sz.row Pg F)]
  exact List.map_congr_left (fun z _ => Int.toNat_natCast z)
/-- A new slab apart from all that is older. -/
theorem made_x {A O B P : Nat} {a : St} {sz : List Nat} {W w3 w4 : World} (h : Made A O B a sz w3 P w4) (b1 : Below W.heap.size W w3) (hA : W.heap.size ≤ A) (hO : W.heap.size ≤ O) (hB : W.heap.size ≤ B) : HasX W P (newSl a sz) (fun _ => False) w4 := by
  obtain ⟨ok, ⟨d, hd, hm, hf, -⟩, hb2⟩ := h
  refine ⟨ok, Below.then b1 hb2, d, hd, hm, fun b hb => ⟨?_, id⟩⟩
  have hsz := b1.size
  rcases hf b hb with e | e | e | e
  · omega
  · omega
  · omega
  · omega
theorem new3 (size : Nat) (s1 : 512 ≤ size) (s2 : size ≤ 65536) (hpB : pageB (size : Int) = true) (w : World) :
    Calls Try.prog 9 #[.int .i64 3, .int .i64 size] w fun e w' => ∃ P O R, e = .returned (.tuple #[.pointer (some ⟨P, 0, none⟩), .int .i64 0]) ∧ AIs P O R (newSt 3 size) w' ∧ Below w.heap.size w w' ∧ w.heap.size ≤ P ∧ w.heap.size ≤ O ∧ w.heap.size ≤ R :=
  new_ok 3 size (by omega) (by omega) s1 s2 hpB w
theorem HasX.with {w0 : World} {P : Nat} {s : Sl} {G G' : Nat → Prop} {w : World} (h : HasX w0 P s G w) (hG : ∀ b, G' b → G b ∨ w.heap.size ≤ b) : HasX w0 P s G' w :=
  h.turn (D := fun _ => False) (Only.refl _ w) (fun _ h => h.elim) hG (fun _ h => h.elim)
theorem hasX_put {w0 : World} {P : Nat} {s : Sl} {G : Nat → Prop} {w : World} (h : HasX w0 P s G w) (hG : ∀ b, G b → b < w.heap.size) (x : Int) (hx : x ≤ 9223372036854775807) (v : Value) (l : List UInt8) (hl : l.length ≤ 9223372036854775807) (hv : Byts w v l) :
    Calls Try.prog 19 #[.pointer (some ⟨P, 0, none⟩), .int .i64 x, v] w fun e w' => e = .returned (.int .i64 (s.put x l).1) ∧ HasX w0 P (s.put x l).2 G w' ∧ Only (fun b => ¬ G b) w w' :=
  h.call hG (R := fun e => e = .returned (.int .i64 (s.put x l).1)) (h.1.putOk x l) (fun d hd hm => by subst hd; exact put_any hm h.1 x hx v l hl hv)
theorem HasX.get {w0 : World} {P : Nat} {s : Sl} {G : Nat → Prop} {w : World} (h : HasX w0 P s G w) (x n : Int) (hx : x ≤ 9223372036854775807) :
    Calls Try.prog 20 #[.pointer (some ⟨P, 0, none⟩), .int .i64 x, .int .i64 n] w fun e w' => ∃ v, e = .returned (.tuple #[v, .int .i64 (s.get x n).1]) ∧ w'.ownsRow w.heap.size 5 1 v (s.get x n).2.length (bc (s.get x n).2) ∧ Below w.heap.size w w' := by
  obtain ⟨ho, hb, d, rfl, hm, hf⟩ := h
  exact get_any hm ho x n hx
end Go.Proofs.Ytldfpacdlephcaa
namespace Go.Proofs.Ytldfpacdlephcaa
open Go Go.RowKit Go.Lib

theorem wp_append_more {P : Program} (w : World) {o : Oper} {a : Act} {K : Act → World → Prop} {Q : Exit → Act → World → Prop} (s x : Operand) (t : TypeId)
    (ho : o.op = .call { callee := .builtin .append, args := #[s, x], argTypes := #[t, t] })
    (base : Nat) (e : TypeId) (i : TypeInfo) (z : Value) (size bytes : Nat) (ht : P.underlying t = some (.slice e)) (hi : P.info? e = some i) (hz : i.zero = some z)
    (hsize : i.size = size) (hby : i.bytes = bytes) (hzs : z.cells.size = size) (hsz : 0 < size)
    (v : Value) (n : Nat) (xs : List Value) (hs : a.eval s = v) (hown : w.ownsRow base e size v n xs)
    (ad : Addr) (m c : Nat) (news : List Value) (hx : a.eval x = .slice (some ad) m c) (hl : news.length = m * size) (hnews : ∀ j u, news[j]? = some u → w.cell? (ad.add j) = some u) (h1 : ∀ u ∈ news, u.oneCell' = true)
    (h63 : n + m ≤ maxLen) (hbytes : (n + m) * bytes ≤ 140737488355328) (hbase : base ≤ w.heap.size) (N : Nat) (hN : n + m = N)
    (h : ∀ v' w', w'.ownsRow base e size v' N (xs ++ news) → w.grownBy w' v.ownBlock → (v'.ownBlock = v.ownBlock ∨ v'.ownBlock = some w.heap.size) → K (a.put o.dst v') w') : o.wp P a w K Q := by
  obtain ⟨v', w', hr, h2, h3, _, h5⟩ := run_append_own_at (P := P) w base t o.type e i z size bytes ht hi hz hsize hby hzs hsz v n xs hown ad m c news hl hnews h1 h63 hbytes hbase
  unfold Oper.wp execOp
  simp only [ho, resolve, invoke, builtin, Sem.run_bind, Sem.run_pure, Result.andThen_ok, List.map_toArray, List.map_cons, List.map_nil, hs, hx, hr]
  exact h v' w' (hN ▸ h2) h3 h5
theorem step_append_more {P : Program} (w : World) {ops : Array Oper} {o : Oper} {a : Act} {K : Act → World → Prop} {Q : Exit → Act → World → Prop} {E : Prop} (hgd : o.guard = none) (s x : Operand) (t : TypeId)
    (ho : o.op = .call { callee := .builtin .append, args := #[s, x], argTypes := #[t, t] })
    (base : Nat) (e : TypeId) (i : TypeInfo) (z : Value) (size bytes : Nat) (ht : P.underlying t = some (.slice e)) (hi : P.info? e = some i) (hz : i.zero = some z)
    (hsize : i.size = size) (hby : i.bytes = bytes) (hzs : z.cells.size = size) (hsz : 0 < size)
    (v : Value) (n : Nat) (xs : List Value) (hs : a.eval s = v) (hown : w.ownsRow base e size v n xs)
    (ad : Addr) (m c : Nat) (news : List Value) (hx : a.eval x = .slice (some ad) m c) (hl : news.length = m * size) (hnews : ∀ j u, news[j]? = some u → w.cell? (ad.add j) = some u) (h1 : ∀ u ∈ news, u.oneCell' = true)
    (h63 : n + m ≤ maxLen) (hbytes : (n + m) * bytes ≤ 140737488355328) (hbase : base ≤ w.heap.size) (N : Nat) (hN : n + m = N)
    (h : ∀ v' w', w'.ownsRow base e size v' N (xs ++ news) → w.grownBy w' v.ownBlock → (v'.ownBlock = v.ownBlock ∨ v'.ownBlock = some w.heap.size) → K (a.put o.dst v') w') :
    if Region.wanted o (yielded ops a.tmps) = true then Oper.wp P o a w K Q else E := by
  have hw : Region.wanted o (yielded ops a.tmps) = true := by simp [Region.wanted, hgd]
  rw [if_pos hw]
  exact wp_append_more w s x t ho base e i z size bytes ht hi hz hsize hby hzs hsz v n xs hs hown ad m c news hx hl hnews h1 h63 hbytes hbase N hN h
/-- A slice of nothing, just made. -/
theorem own_none (w : World) (base : Nat) (e : TypeId) (hb : base ≤ w.heap.size) : (w.alloc (.cells #[] e)).ownsRow base e 1 (.slice (some ⟨w.heap.size, 0, none⟩) 0 0) 0 [] :=
  ⟨rfl, .inr ⟨w.heap.size, 0, #[], rfl, hb, Blk.new w #[] e, Nat.le_refl _, Nat.zero_le _, rfl, rfl⟩⟩
theorem nc_one (l : List Nat) : ∀ u ∈ nc l, u.oneCell' = true := fun u hu => by
  unfold nc at hu
  obtain ⟨x, _, rfl⟩ := List.mem_map.1 hu
  rfl
/-- A part of a row, read. -/
theorem part_src {w w' : World} {base gh c n a m : Nat} {l : List Nat} (h : w.ownsRow base 3 1 (.slice (some ⟨gh, 0, none⟩) l.length c) l.length (nc l)) (hw : ∀ i, w'.cell? ⟨gh, i, none⟩ = w.cell? ⟨gh, i, none⟩) (hn : n = a) :
    ∀ j u, (nc ((l.drop a).take m))[j]? = some u → w'.cell? ((⟨gh, n, none⟩ : Addr).add j) = some u := fun j u hj => by
  subst hn
  unfold nc at hj
  rw [List.getElem?_map] at hj
  obtain ⟨x, hx, rfl⟩ := Option.map_eq_some_iff.1 hj
  rw [List.getElem?_take] at hx
  by_cases hjm : j < m
  · rw [if_pos hjm, List.getElem?_drop] at hx
    obtain ⟨g, c', e, _, h1, _⟩ := own_cell h hx
    cases e
    rw [addr_plain, hw]
    exact h1
  · rw [if_neg hjm] at hx; cases hx
/-- Two appends onto a slice of nothing, just made: what is older is as it was, and the row that comes out is new. -/
theorem cut_two {w6 w7 w8 : World} {e : TypeId} {v1 v2 : Value} (h7 : (w6.alloc (.cells #[] e)).drew.grownBy w7 (some w6.heap.size)) (a7 : v1.ownBlock = some w6.heap.size ∨ v1.ownBlock = some (w6.alloc (.cells #[] e)).drew.heap.size)
    (h8 : w7.grownBy w8 v1.ownBlock) (a8 : v2.ownBlock = v1.ownBlock ∨ v2.ownBlock = some w7.heap.size) : Below w6.heap.size w6 w8 ∧ ∀ b, v2.ownBlock = some b → w6.heap.size ≤ b := by
  have b0 : Below w6.heap.size w6 (w6.alloc (.cells #[] e)) := Below.alloc (Below.refl _ _) (Nat.le_refl _) _
  have hs : (w6.alloc (.cells #[] e)).drew.heap.size = w6.heap.size + 1 := World.size_alloc _ _
  have hs7 := h7.size
  have hs8 := h8.size
  rw [hs] at a7 hs7
  have hv1 : ∀ b, v1.ownBlock = some b → w6.heap.size ≤ b := fun b hb => by
    rcases a7 with e | e
    · rw [e] at hb; cases hb; exact Nat.le_refl _
    · rw [e] at hb; cases hb; omega
  refine ⟨⟨h8.os.trans (h7.os.trans b0.os), h8.tape.trans (h7.tape.trans b0.tape), h8.output.trans (h7.output.trans b0.output), by omega, fun k hk => ?_⟩, fun b hb => ?_⟩
  · have e1 := b0.block k hk
    have e2 := h7.block k (by rw [hs]; omega) (fun e => by cases e; omega)
    have e3 := h8.block k (by omega) (fun e => by have := hv1 k e.symm; omega)
    exact e3.trans (e2.trans e1)
  · rcases a8 with e | e
    · exact hv1 b (by rw [← e]; exact hb)
    · rw [e] at hb; cases hb; omega
theorem one_cell_far {w6 w7 : World} {e : TypeId} {gh : Nat} (h7 : (w6.alloc (.cells #[] e)).drew.grownBy w7 (some w6.heap.size)) (hg : gh < w6.heap.size) (i : Nat) : w7.cell? ⟨gh, i, none⟩ = w6.cell? ⟨gh, i, none⟩ := by
  have b0 : Below w6.heap.size w6 (w6.alloc (.cells #[] e)) := Below.alloc (Below.refl _ _) (Nat.le_refl _) _
  have hs : (w6.alloc (.cells #[] e)).drew.heap.size = w6.heap.size + 1 := World.size_alloc _ _
  exact World.cell?_of_block ((h7.block gh (by rw [hs]; omega) (fun e => by cases e; omega)).trans (b0.block gh hg))
theorem cut_row {w : World} {base q : Nat} {v : Value} {l : List Nat} (hq : q < l.length) (h : w.ownsRow base 3 1 v (q + (l.length - (q + 1))) (([] ++ nc (l.take q)) ++ nc ((l.drop (q + 1)).take (l.length - (q + 1))))) : w.ownsRow base 3 1 v (cutAt l q).length (nc (cutAt l q)) := by
  have e1 : (cutAt l q).length = q + (l.length - (q + 1)) := by rw [cutAt_len hq]; omega
  have e2 : nc (cutAt l q) = ([] ++ nc (l.take q)) ++ nc ((l.drop (q + 1)).take (l.length - (q + 1))) := by
    unfold cutAt nc
    rw [List.nil_append, List.map_append, List.take_of_length_le (l := l.drop (q + 1)) (by rw [List.length_drop]; exact Nat.le_refl _)]
  rw [e1, e2]; exact h
theorem at_if {w' : World} {gh n : Nat} {c : Prop} [Decidable c] {news : List Value} (h : ∀ j u, news[j]? = some u → w'.cell? ((⟨gh, n, none⟩ : Addr).add j) = some u) (h0 : c → news = []) :
    ∀ j u, news[j]? = some u → w'.cell? ((if c then (⟨gh, 0, none⟩ : Addr) else ⟨gh, n, none⟩).add j) = some u := fun j u hj => by
  by_cases hc : c
  · rw [h0 hc] at hj; simp at hj
  · rw [if_neg hc]; exact h j u hj
/-- Bytes. -/
theorem byte_cell {w : World} {base gh c : Nat} {l : List UInt8} (h : w.ownsRow base 5 1 (.slice (some ⟨gh, 0, none⟩) l.length c) l.length (bc l)) {i : Nat} {x : UInt8} (hx : l[i]? = some x) : w.cell? ⟨gh, i, none⟩ = some (.int .u8 (x.toNat : Int)) := by
  obtain ⟨a, c', e, hc⟩ := byts_row h
  cases e
  obtain ⟨g, o, e, _, h1⟩ := hc i x hx
  cases e
  rw [Nat.zero_add] at h1
  exact h1
theorem part_bytes {w w' : World} {base gh c n a m : Nat} {l : List UInt8} (h : w.ownsRow base 5 1 (.slice (some ⟨gh, 0, none⟩) l.length c) l.length (bc l)) (hw : ∀ i, w'.cell? ⟨gh, i, none⟩ = w.cell? ⟨gh, i, none⟩) (hn : n = a) :
    ∀ j u, (bc ((l.drop a).take m))[j]? = some u → w'.cell? ((⟨gh, n, none⟩ : Addr).add j) = some u := fun j u hj => by
  subst hn
  unfold bc at hj
  rw [List.getElem?_map] at hj
  obtain ⟨x, hx, rfl⟩ := Option.map_eq_some_iff.1 hj
  rw [List.getElem?_take] at hx
  by_cases hjm : j < m
  · rw [if_pos hjm, List.getElem?_drop] at hx
    rw [addr_plain, hw]
    exact byte_cell h hx
  · rw [if_neg hjm] at hx; cases hx
theorem cut_bytes {w : World} {base q : Nat} {v : Value} {l : List UInt8} (hq : q < l.length) (h : w.ownsRow base 5 1 v (q + (l.length - (q + 1))) (([] ++ bc (l.take q)) ++ bc ((l.drop (q + 1)).take (l.length - (q + 1))))) : w.ownsRow base 5 1 v (cutAt l q).length (bc (cutAt l q)) := by
  have e1 : (cutAt l q).length = q + (l.length - (q + 1)) := by rw [cutAt_len hq]; omega
  have e2 : bc (cutAt l q) = ([] ++ bc (l.take q)) ++ bc ((l.drop (q + 1)).take (l.length - (q + 1))) := by
    unfold cutAt bc
    rw [List.nil_append, List.map_append, List.take_of_length_le (l := l.drop (q + 1)) (by rw [List.length_drop]; exact Nat.le_refl _)]
  rw [e1, e2]; exact h
theorem own_form {w : World} {base n c : Nat} {e : TypeId} {a : Option Addr} {xs : List Value} (h : w.ownsRow base e 1 (.slice a n c) n xs) (h0 : 0 < n) : ∃ g, a = some ⟨g, 0, none⟩ ∧ n ≤ c ∧ g < w.heap.size := by
  have hl := own_lt h
  rcases h.2 with ⟨_, h1⟩ | ⟨g, cap, cur, e1, _, _, h3, _⟩
  · omega
  · cases e1
    exact ⟨g, rfl, h3, hl g rfl⟩
end Go.Proofs.Ytldfpacdlephcaa

/-
  Contract of item.Encode at this program: the bytes of an item that is right, in a new block; nothing, of another. No further conditions.
-/
import Derived.Test.YtdbaldkinjdeaaaItemBuilt
namespace Go.Proofs.Ytdbaldkinjdeaaa
open Go Go.RowKit Go.Lib

theorem info_parts {e : TypeId} {z : Value} {n b : Nat} (h : (Try.prog.info? e).map (fun i => (i.zero, i.size, i.bytes)) = some (some z, n, b)) :
    ∃ i0 : TypeInfo, Try.prog.info? e = some i0 ∧ i0.zero = some z ∧ i0.size = n ∧ i0.bytes = b := by
  obtain ⟨i0, hi, hp⟩ := Option.map_eq_some_iff.1 h
  simp only [Prod.mk.injEq] at hp
  exact ⟨i0, hi, hp.1, hp.2.1, hp.2.2⟩
theorem infoByte : (Try.prog.info? 5).map (fun i => (i.zero, i.size, i.bytes)) = some (some (.int .u8 0), 1, 1) := by kernel_rfl
theorem made_bytes (n : Nat) : (madeCells (Value.int .u8 0).cells (n * 1)).toList = bc (List.replicate n 0) := by
  rw [made_cells _ _ rfl]; simp [bc]
theorem blk_of_full {w : World} {base g n : Nat} {e : TypeId} {xs : List Value} (h : w.ownsRow base e 1 (.slice (some ⟨g, 0, none⟩) n n) n xs) : Blk w g e xs := by
  rcases h.2 with ⟨h1, _⟩ | ⟨g', cap, cur, hv, hb, hg, h1, h2, h3, h4⟩
  · cases h1
  · cases hv
    unfold Blk
    rw [Nat.mul_one] at h3 h4
    rw [List.take_of_length_le (by simp [h3])] at h4
    rw [← h4]; simpa using hg
theorem below_of_grown {w w' : World} (h : w.grownBy w' none) : Below w.heap.size w w' := ⟨h.os, h.tape, h.output, h.size, fun k hk => h.block k hk (by simp)⟩

/-- While the bytes are laid: the item's box B, the bytes' block g. -/
structure ES (w0 : World) (B g : Nat) (x : It) (cs : List UInt8) (w : World) : Prop where
  box : Blk w B 25 x.cells
  row : Blk w g 5 (bc cs)
  below : Below w0.heap.size w0 w
  hB : w0.heap.size ≤ B
  hg : w0.heap.size ≤ g
  ne : B ≠ g
theorem ES.drew {w0 : World} {B g : Nat} {x : It} {cs : List UInt8} {w : World} (h : ES w0 B g x cs w) : ES w0 B g x cs w.drew := ⟨h.box, h.row, h.below.drew, h.hB, h.hg, h.ne⟩
theorem ES.set {w0 : World} {B g : Nat} {x : It} {cs : List UInt8} {w : World} (h : ES w0 B g x cs w) (i : Nat) (c : UInt8) : ES w0 B g x (cs.set i c) (w.setCell ⟨g, i, none⟩ (.int .u8 (c.toNat : Int))) :=
  ⟨h.box.setOther (p := ⟨g, i, none⟩) h.ne _, by rw [bc_set]; exact h.row.set i _, h.below.setCell (p := ⟨g, i, none⟩) h.hg _, h.hB, h.hg, h.ne⟩
theorem ES.only {w0 : World} {B g : Nat} {x : It} {cs cs' : List UInt8} {w w' : World} (h : ES w0 B g x cs w) (ho : Only (fun b => b = g) w w') (hr : Blk w' g 5 (bc cs')) : ES w0 B g x cs' w' :=
  ⟨h.box.only ho h.ne, hr, h.below.trans (ho.below h.below.size (fun x hx => by subst hx; exact h.hg)), h.hB, h.hg, h.ne⟩
theorem ES.next {w0 : World} {B g : Nat} {x : It} {cs : List UInt8} {w w' : World} (h : ES w0 B g x cs w) (hb : Below w.heap.size w w') : ES w0 B g x cs w' :=
  ⟨h.box.below hb, h.row.below hb, Below.then h.below hb, h.hB, h.hg, h.ne⟩

theorem es_cell {w0 : World} {B g : Nat} {x : It} {cs : List UInt8} {w : World} (h : ES w0 B g x cs w) {i : Nat} (hi : i < cs.length) : ∃ v, w.cell? ⟨g, i, none⟩ = some (.int .u8 v) :=
  ⟨_, h.row.cell (bc_at (List.getElem?_eq_getElem hi))⟩
theorem splice_nil (cs : List UInt8) (off : Nat) : splice cs off ([] : List UInt8) = cs := by unfold splice; simp
theorem setCells_only {g : Nat} : ∀ (vs : List Value) (o : Nat) (w : World), Only (fun b => b = g) w (w.setCells g o vs)
  | [], _, w => Only.refl _ w
  | v :: r, o, w => Only.trans (D := fun b => b = g) (E := fun b => b = g) ((Only.refl (fun b => b = g) w).setCell (p := ⟨g, o, none⟩) (.inl rfl) v) (setCells_only r (o + 1) _) (fun _ hx => .inl hx)
theorem splice_cons {α : Type} {cs r : List α} {v : α} {o : Nat} (h : o + (r.length + 1) ≤ cs.length) : splice (cs.set o v) (o + 1) r = splice cs o (v :: r) := by
  apply List.ext_getElem?
  intro j
  rw [splice_at (by rw [List.length_set]; omega), splice_at (by rw [List.length_cons]; omega), List.length_cons]
  by_cases h1 : j < o
  · rw [if_pos (by omega), if_pos h1, List.getElem?_set_ne (by omega)]
  · rw [if_neg h1]
    by_cases h2 : j = o
    · subst h2
      rw [if_pos (by omega), if_pos (by omega), Nat.sub_self, List.getElem?_set_self (by omega)]; rfl
    · rw [if_neg (by omega)]
      by_cases h3 : j < o + (r.length + 1)
      · rw [if_pos (by omega), if_pos h3, show j - o = (j - (o + 1)) + 1 by omega, List.getElem?_cons_succ]
      · rw [if_neg (by omega), if_neg h3, List.getElem?_set_ne (by omega)]
theorem blk_setCells {g : Nat} {t : TypeId} : ∀ (vs : List Value) (o : Nat) (w : World) (cs : List Value), Blk w g t cs → o + vs.length ≤ cs.length → Blk (w.setCells g o vs) g t (splice cs o vs)
  | [], o, w, cs, h, _ => by rw [show splice cs o ([] : List Value) = cs by unfold splice; simp]; exact h
  | v :: r, o, w, cs, h, hl => by
    rw [List.length_cons] at hl
    have := blk_setCells r (o + 1) (w.setCell ⟨g, o, none⟩ v) (cs.set o v) (h.set o v) (by rw [List.length_set]; omega)
    rw [splice_cons (by omega)] at this
    exact this
theorem bc_splice (cs l : List UInt8) (o : Nat) : splice (bc cs) o (bc l) = bc (splice cs o l) := by
  unfold splice bc; simp [List.map_take, List.map_drop]
theorem sizeOne (w : World) : (Go.sizeOf 5).run Try.prog w = .ok 1 w := by
  obtain ⟨i0, hi, _, hz1, _⟩ := info_parts infoByte
  simp [sizeOf, typeInfo, hi, hz1, go_sem]

/-- A text is copied into the bytes. -/
theorem step_copy_es {ops : Array Oper} {o : Oper} {a : Act} {K : Act → World → Prop} {Q : Exit → Act → World → Prop} {E : Prop} {w0 : World} {B g : Nat} {x : It} {cs : List UInt8} {w : World} (hES : ES w0 B g x cs w)
    (hg : o.guard = none) (d s : Operand) (hop : o.op = Op.call { callee := Callee.builtin Builtin.copy, args := #[d, s], argTypes := #[27, 9] })
    (off off' dLen dCap : Nat) (hd : a.eval d = .slice (some ⟨g, off', none⟩) dLen dCap) (t : ByteArray) (hx : a.eval s = .string t) (hle : t.size ≤ dLen) (ho : 0 < t.size → off' = off) (hfit : off + t.size ≤ cs.length)
    (hK : ∀ w', Hid (ES w0 B g x (splice cs off t.data.toList) w') → K (a.put o.dst (goInt t.size)) w') :
    if Region.wanted o (yielded ops a.tmps) = true then Oper.wp Try.prog o a w K Q else E := by
  have hl : (bc t.data.toList).length = t.size := by rw [bc_len, ← size_len]
  refine step_copy_string hg d s 27 9 hop 5 Try.underlying27 sizeOne g off' dLen dCap hd t hx hle ?_ ?_ (hK _ (hid ?_))
  · intro j hj
    obtain ⟨v, hv⟩ := es_cell hES (i := off' + j) (by rw [ho (by omega)]; omega)
    rw [hv]; rfl
  · exact fun j _ => hES.row.frozen _
  · show ES w0 B g x _ (w.setCells g off' (bc t.data.toList))
    by_cases h0 : t.size = 0
    · have e : t.data.toList = [] := List.eq_nil_of_length_eq_zero (by rw [← size_len]; exact h0)
      rw [e, splice_nil]; exact hES
    · have e := ho (by omega)
      subst e
      have hb := blk_setCells (bc t.data.toList) off' w (bc cs) hES.row (by rw [hl, bc_len]; exact hfit)
      rw [bc_splice] at hb
      exact hES.only (setCells_only _ _ _) hb

theorem es_start {w w1 w2 : World} {x : It} {N : Nat} (hb : Below w.heap.size w w1) (hB : Blk w1 w.heap.size 25 x.cells) (hR : Blk w2 w1.heap.size 5 (bc (List.replicate N 0))) (h2 : Below w1.heap.size w1 w2) :
    ES w w.heap.size w1.heap.size x (List.replicate N 0) w2 :=
  ⟨hB.below h2, hR, Below.then hb h2, Nat.le_refl _, hb.size, Nat.ne_of_lt hB.lt⟩
theorem toNat_small {n : Nat} (h : n < 256) : ((UInt8.ofNat n).toNat : Int) = (n : Int) := by rw [UInt8.toNat_ofNat', Nat.mod_eq_of_lt h]
theorem below_box {w w1 : World} {o : Obj} (h : Below (w.alloc o).heap.size (w.alloc o) w1) : Below w.heap.size w w1 := Below.then ((Below.refl _ _).alloc (Nat.le_refl _) _) h
theorem box_cells {w : World} {b : Nat} {x : It} (h : Blk w b 25 x.cells) : w.cell? ⟨b, 0, none⟩ = some (.string x.key) ∧ w.cell? ⟨b, 1, none⟩ = some (.int .u32 x.flags) ∧ w.cell? ⟨b, 2, none⟩ = some (.string x.val) ∧ w.cell? ⟨b, 3, none⟩ = some (.int .i64 x.exp) ∧
    w.cell? ⟨b, 4, none⟩ = some (.int .u64 x.cas) ∧ w.cell? ⟨b, 5, none⟩ = some (.int .i64 x.last) ∧ w.cell? ⟨b, 6, none⟩ = some (.bool x.stale) ∧ w.cell? ⟨b, 7, none⟩ = some (.bool x.won) :=
  ⟨h.cell rfl, h.cell rfl, h.cell rfl, h.cell rfl, h.cell rfl, h.cell rfl, h.cell rfl, h.cell rfl⟩

set_option maxHeartbeats 2000000 in
set_option maxRecDepth 100000 in
theorem enc_bad (x : It) (hr : x.right = false) (w : World) :
    Calls Try.prog 11 #[x.v] w fun e w' => e = .returned (.tuple #[.slice none 0 0, .int .i64 1]) ∧ Below w.heap.size w w' := by
  have hri := fun w => right_any x w
  rw [hr] at hri
  clear hr
  obtain ⟨k, f, v, x, c, l, s, o⟩ := x
  simp only [It.v, It.cells] at hri ⊢
  go_enter Try.func11, Try.ntmps11
  go_wp2_with fail
  refine (hri _).mono ?_
  rintro e w1 ⟨rfl, b1⟩
  have hb := below_box b1
  clear hri b1
  go_wp2_with fail
  go_ret2
  exact ⟨rfl, hb⟩

theorem enc_tail {x : It} {N : Nat} (hN : N = 40 + x.key.size + x.val.size) (hL : x.r7.length = N) (hb : N ≤ 1000000) :
    ∃ m : Nat, IntKind.i64.wrap (40 + (x.key.size : Int)) = (m : Int) ∧ wrap64 (40 + (x.key.size : Int)) = (m : Int) ∧ (m : Int) ≤ (N : Int) ∧ Hid (m = 40 + x.key.size) ∧ Hid (m + x.val.size = N) ∧ Hid ((splice x.r7 40 x.key.data.toList).length = N) := by
  refine ⟨40 + x.key.size, by rw [IntKind.wrap_i64]; omega, by unfold wrap64; omega, by omega, rfl, by rw [hN]; rfl, ?_⟩
  show (splice x.r7 40 x.key.data.toList).length = N
  rw [length_splice _ _ _ (by rw [hL, ← size_len]; omega)]; exact hL
theorem enc_tail_zero {N v : Nat} (h : N + v = N) : v ≤ 0 ∧ (0 < v → 0 = N) := ⟨by omega, fun h0 => absurd h0 (by omega)⟩
theorem enc_tail_fit {a b m N v : Nat} (h : m + v = N) (ha : a = N) (hb : b = v) : m + b ≤ a ∧ b ≤ N - m := by omega

set_option maxHeartbeats 4000000 in
set_option maxRecDepth 100000 in
theorem enc_ok (x : It) (hx : x.Ok) (hr : x.right = true) (w : World) :
    Calls Try.prog 11 #[x.v] w fun e w' => ∃ g, e = .returned (.tuple #[.slice (some ⟨g, 0, none⟩) x.enc.length x.enc.length, .int .i64 0]) ∧ w.heap.size ≤ g ∧ Blk w' g 5 (bc x.enc) ∧ Below w.heap.size w w' := by
  have hri := fun w => right_any x w
  have hmk := fun w => marks_any x w
  rw [hr] at hri
  have hbu := hid (It.built hr)
  obtain ⟨r1, r2, _, r3, r4, r5⟩ := It.right_parts hr
  have hel := x.enc_len
  have hsz : sizeZ (x.key.size : Int) (x.val.size : Int) = ((40 + x.key.size + x.val.size : Nat) : Int) := by
    have c1 : cntB (x.key.size : Int) = true := by unfold cntB; simp; omega
    have c2 : cntB (x.val.size : Int) = true := by unfold cntB; simp; omega
    unfold sizeZ; rw [if_pos ⟨c1, c2⟩]; omega
  have hsi := fun w => size_any (x.key.size : Int) (x.val.size : Int) w
  rw [hsz] at hsi
  obtain ⟨N, hN⟩ : ∃ N, N = 40 + x.key.size + x.val.size := ⟨_, rfl⟩
  rw [← hN] at hsi hel
  have HN := hid hN
  have hNk : 40 + x.key.size ≤ N := by omega
  have hN3 : 41 ≤ N := by omega
  rw [hel]
  have hbx := Blk.new w x.cells.toArray 25
  have HX := hid hbx
  have hm3 := x.marks_le
  obtain ⟨i0, hi, hz0, hz1, hz2⟩ := info_parts infoByte
  have hN2 : N ≤ 1000000 := by omega
  have hk255 : IntKind.u8.wrap (x.key.size : Int) = (x.key.size : Int) := by rw [IntKind.wrap_u8]; omega
  have hv32 : IntKind.u64.wrap (x.val.size : Int) = (x.val.size : Int) := by rw [IntKind.wrap_u64]; omega
  clear hsz hr hbx hN
  simp only [It.v, It.cells] at hri hmk HX ⊢
  go_enter Try.func11, Try.ntmps11
  go_wp2_with fail
  refine (hri _).mono ?_
  rintro e w1 ⟨rfl, b1⟩
  have hb := below_box b1
  have hB1 := HX.out.below b1
  obtain ⟨q0, q1, q2, q3, q4, q5, q6, q7⟩ := box_cells (x := x) hB1
  clear hri b1
  go_wp2_with fail
  refine (hsi _).mono ?_
  rintro e w1' ⟨rfl, rfl⟩
  clear hsi
  go_wp2_with (at_make; refine wpList_make_full _ rfl _ _ 27 rfl w1.heap.size 5 i0 (.int .u8 0) 1 Try.underlying27 hi hz0 hz1 .i64 .i64 _ _ N rfl rfl (by omega) (by omega) (by rw [hz2]; omega) (by unfold maxLen; omega) (Nat.le_refl _) ?_; intro w2 hown hgrow; rw [made_bytes] at hown; have HE := es_start hb hB1 (blk_of_full hown) (below_of_grown hgrow); clear hown hgrow hb hB1 q0 q1 q2 q3 q4 q5 q6 q7; generalize w1.heap.size = g at *; generalize hBB : w.heap.size = B at *; obtain ⟨q0, q1, q2, q3, q4, q5, q6, q7⟩ := box_cells HE.box; have c0 := es_cell HE (i := 0) (by simp; omega); obtain ⟨v0, c0⟩ := c0; have f0 := HE.row.frozen 0; have HE3 := hid (HE.set 0 (UInt8.ofNat x.key.size)); rw [toNat_small (by omega : x.key.size < 256)] at HE3; have n1 : ¬ B = g := HE.ne; have n2 : ¬ g = B := fun e => HE.ne e.symm; have HE := hid HE)
  refine (hmk _).mono ?_
  rintro e w4 ⟨rfl, b4⟩
  have HE4 := HE3.out.next b4
  clear hmk HE3 HE b4 q0 q1 q2 q3 q4 q5 q6 q7 c0 f0 HX
  obtain ⟨v1, c1⟩ := es_cell HE4 (i := 1) (by simp; omega)
  have f1 := HE4.row.frozen 1
  have HE5 := HE4.set 1 (UInt8.ofNat x.marks)
  rw [toNat_small (by omega : x.marks < 256)] at HE5
  have e5 : ((List.replicate N 0).set 0 (UInt8.ofNat x.key.size)).set 1 (UInt8.ofNat x.marks) = x.r2 := by rw [HN.out]; rfl
  rw [e5] at HE5
  have HE5 := hid HE5
  clear HE4 e5
  go_wp2_with fail
  generalize w4.setCell ⟨g, 1, none⟩ (.int .u8 x.marks) = w5 at *
  have l2 := x.r2_len
  rw [← HN.out] at l2
  obtain ⟨hx0, hx1, hx2, hx3, hx4, hx5, hx6, hx7⟩ := box_cells HE5.out.box
  have hf32 : IntKind.u64.wrap (x.flags : Int) = (x.flags : Int) := by rw [IntKind.wrap_u64]; have := hx.flags; omega
  have he64 : IntKind.u64.wrap x.exp = (x.exp.toNat : Int) := by rw [IntKind.wrap_u64]; have := hx.exp1; omega
  have hl64 : IntKind.u64.wrap x.last = (x.last.toNat : Int) := by rw [IntKind.wrap_u64]; have := hx.last1; omega
  obtain ⟨zE, hE⟩ : ∃ zE, zE = x.exp.toNat := ⟨_, rfl⟩
  obtain ⟨zL, hL⟩ : ∃ zL, zL = x.last.toNat := ⟨_, rfl⟩
  rw [← hE] at he64
  rw [← hL] at hl64
  have HzE := hid hE
  have HzL := hid hL
  clear hE hL
  have n8 : (8 : Int) ≤ (N : Int) := by omega
  have n12 : (12 : Int) ≤ (N : Int) := by omega
  have n24 : (24 : Int) ≤ (N : Int) := by omega
  have n32 : (32 : Int) ≤ (N : Int) := by omega
  have n40 : (40 : Int) ≤ (N : Int) := by omega
  have m4 : ¬ N = 4 := by omega
  have m8 : ¬ N = 8 := by omega
  have m16 : ¬ N = 16 := by omega
  have m24 : ¬ N = 24 := by omega
  have m32 : ¬ N = 32 := by omega
  have m40 : ¬ N = 40 := by omega
  have L2 := hid l2
  clear l2
  go_region_held3 (fun w' => w'.cell? ⟨B, 1, none⟩ = some (.int .u32 x.flags)) (first | exact hxk | exact hx1) (first
    | (go_at_call 20; refine (put_any _ g 4 4 _ x.flags _ HE5.out.drew.row (by rw [L2.out]; omega) (by decide)).mono ?_; rintro e w6 ⟨rfl, hr, ho⟩; have HE6 := hid (HE5.out.drew.only ho hr); have hbx := box_cells HE6.out.box; have hxk := hbx.2.1; clear hr ho)
    | fail)
  obtain ⟨hx0, hx1, hx2, hx3, hx4, hx5, hx6, hx7⟩ := hbx
  clear hxk
  go_wp2_with fail
  have l3 : (splice x.r2 4 (le 4 x.flags)).length = N := by rw [length_splice _ _ _ (by rw [le_len, L2.out]; omega)]; exact L2.out
  have L3 := hid l3
  clear l3 L2
  go_region_held3 (fun w' => w'.cell? ⟨B, 2, none⟩ = some (.string x.val)) (first | exact hxk | exact hx2) (first
    | (go_at_call 20; refine (put_any _ g 8 4 _ x.val.size _ HE6.out.drew.row (by rw [L3.out]; omega) (by decide)).mono ?_; rintro e w7 ⟨rfl, hr, ho⟩; have HE7 := hid (HE6.out.drew.only ho hr); have hbx := box_cells HE7.out.box; have hxk := hbx.2.2.1; clear hr ho)
    | fail)
  obtain ⟨hx0, hx1, hx2, hx3, hx4, hx5, hx6, hx7⟩ := hbx
  clear hxk
  go_wp2_with fail
  have l4 : (splice (splice x.r2 4 (le 4 x.flags)) 8 (le 4 x.val.size)).length = N := by rw [length_splice _ _ _ (by rw [le_len, L3.out]; omega)]; exact L3.out
  have L4 := hid l4
  clear l4 L3
  go_region_held3 (fun w' => w'.cell? ⟨B, 3, none⟩ = some (.int .i64 x.exp)) (first | exact hxk | exact hx3) (first
    | (go_at_call 20; refine (put_any _ g 16 8 _ zE _ HE7.out.drew.row (by rw [L4.out]; omega) (by decide)).mono ?_; rintro e w8 ⟨rfl, hr, ho⟩; have HE8 := hid (HE7.out.drew.only ho hr); have hbx := box_cells HE8.out.box; have hxk := hbx.2.2.2.1; clear hr ho)
    | fail)
  obtain ⟨hx0, hx1, hx2, hx3, hx4, hx5, hx6, hx7⟩ := hbx
  clear hxk
  go_wp2_with fail
  have l5 : (splice (splice (splice x.r2 4 (le 4 x.flags)) 8 (le 4 x.val.size)) 16 (le 8 zE)).length = N := by rw [length_splice _ _ _ (by rw [le_len, L4.out]; omega)]; exact L4.out
  have L5 := hid l5
  clear l5 L4
  go_region_held3 (fun w' => w'.cell? ⟨B, 4, none⟩ = some (.int .u64 x.cas)) (first | exact hxk | exact hx4) (first
    | (go_at_call 20; refine (put_any _ g 24 8 _ x.cas _ HE8.out.drew.row (by rw [L5.out]; omega) (by decide)).mono ?_; rintro e w9 ⟨rfl, hr, ho⟩; have HE9 := hid (HE8.out.drew.only ho hr); have hbx := box_cells HE9.out.box; have hxk := hbx.2.2.2.2.1; clear hr ho)
    | fail)
  obtain ⟨hx0, hx1, hx2, hx3, hx4, hx5, hx6, hx7⟩ := hbx
  clear hxk
  go_wp2_with fail
  have l6 : (splice (splice (splice (splice x.r2 4 (le 4 x.flags)) 8 (le 4 x.val.size)) 16 (le 8 zE)) 24 (le 8 x.cas)).length = N := by rw [length_splice _ _ _ (by rw [le_len, L5.out]; omega)]; exact L5.out
  have L6 := hid l6
  clear l6 L5
  go_region_held3 (fun w' => w'.cell? ⟨B, 5, none⟩ = some (.int .i64 x.last)) (first | exact hxk | exact hx5) (first
    | (go_at_call 20; refine (put_any _ g 32 8 _ zL _ HE9.out.drew.row (by rw [L6.out]; omega) (by decide)).mono ?_; rintro e w10 ⟨rfl, hr, ho⟩; have HE10 := hid (HE9.out.drew.only ho hr); have hbx := box_cells HE10.out.box; have hxk := hbx.2.2.2.2.2.1; clear hr ho)
    | fail)
  obtain ⟨hx0, hx1, hx2, hx3, hx4, hx5, hx6, hx7⟩ := hbx
  clear hxk
  go_wp2_with fail
  have l7 : (splice (splice (splice (splice (splice x.r2 4 (le 4 x.flags)) 8 (le 4 x.val.size)) 16 (le 8 zE)) 24 (le 8 x.cas)) 32 (le 8 zL)).length = N := by rw [length_splice _ _ _ (by rw [le_len, L6.out]; omega)]; exact L6.out
  have L7 := hid l7
  clear l7 L6
  have e7 : Hid ((splice (splice (splice (splice (splice x.r2 4 (le 4 x.flags)) 8 (le 4 x.val.size)) 16 (le 8 zE)) 24 (le 8 x.cas)) 32 (le 8 zL)) = x.r7) := hid (by rw [HzE.out, HzL.out]; rfl)
  rw [e7.out] at L7 HE10
  go_region_held3 (fun w' => w'.cell? ⟨B, 0, none⟩ = some (.string x.key)) (first | exact hxk | exact hx0) (first
    | (refine step_copy_es HE10.out.drew rfl (.tmp 58) (.tmp 60) rfl 40 40 (N - 40) (N - 40) (by simp [Act.eval]) x.key (by simp [Act.eval]) (by omega) (fun _ => rfl) (by rw [L7.out]; omega) ?_; intro w11 HE11; have hbx := box_cells HE11.out.box; have hxk := hbx.1)
    | fail)
  have hx2 := hbx.2.2.1
  clear hxk hbx
  obtain ⟨m, hw1, hw2, hmN, HM, HMV, L11⟩ := enc_tail (x := x) HN.out L7.out hN2
  have HBU : Hid (splice (splice x.r7 40 x.key.data.toList) m x.val.data.toList = x.enc) := hid (by rw [HM.out]; exact hbu.out)
  clear hbu
  by_cases hNm : N = m
  · subst hNm
    go_wp2_with fail
    go_region_held3 (fun w' => w'.cell? ⟨B, 2, none⟩ = some (.string x.val)) (first | exact hxk | exact hx2) (first
      | (refine step_copy_es HE11.out.drew rfl (.tmp 65) (.tmp 67) rfl _ 0 0 0 (by simp [Act.eval]) x.val (by simp [Act.eval]) (enc_tail_zero HMV.out).1 (fun h => (enc_tail_zero HMV.out).2 h) (enc_tail_fit HMV.out L11.out rfl).1 ?_; intro w12 HE12; have hxk := (box_cells HE12.out.box).2.2.1)
      | fail)
    rw [HBU.out] at HE12
    go_wp2_with fail
    go_ret2
    exact ⟨g, rfl, HE12.out.hg, HE12.out.row, HE12.out.below⟩
  · go_wp2_with fail
    go_region_held3 (fun w' => w'.cell? ⟨B, 2, none⟩ = some (.string x.val)) (first | exact hxk | exact hx2) (first
      | (refine step_copy_es HE11.out.drew rfl (.tmp 65) (.tmp 67) rfl _ m (N - m) (N - m) (by simp [Act.eval]) x.val (by simp [Act.eval]) (enc_tail_fit HMV.out L11.out rfl).2 (fun _ => rfl) (enc_tail_fit HMV.out L11.out rfl).1 ?_; intro w12 HE12; have hxk := (box_cells HE12.out.box).2.2.1)
      | fail)
    rw [HBU.out] at HE12
    go_wp2_with fail
    go_ret2
    exact ⟨g, rfl, HE12.out.hg, HE12.out.row, HE12.out.below⟩
end Go.Proofs.Ytdbaldkinjdeaaa

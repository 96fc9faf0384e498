/-
  The contract of the laws' own get; boxes whose cells are laid at once; a region where one of three may come up. No conditions.
  Small things for laws of stage 16. Conditions: numbers are in their types' ranges.
  Masks of small powers of two. No conditions.
-/
import Derived.Test.YtpgljahomeebhaaDoorMpShown
import Derived.Test.YtpgljahomeebhaaDoorM5
namespace Go.Proofs.YtpgljahomeebhaaDoor.Md
open Go Go.RowKit Go.Lib

theorem res_cm {fn : Func} {R : Nat} (h : fn.results = #[.cell R 28]) {tmps : Array Value} {w : World} {D : Nat} {c : Cm} (hd : Blk w D 28 c.cells) (h3 : tmps[R]?.getD undef = .pointer (some ⟨D, 0, none⟩)) :
    (results fn tmps).run Tryd.prog w = .ok c.v w := by
  have r0 := hd.cell (i := 0) rfl
  have r1 := hd.cell (i := 1) rfl
  have r2 := hd.cell (i := 2) rfl
  have r3 := hd.cell (i := 3) rfl
  have r4 := hd.cell (i := 4) rfl
  have r5 := hd.cell (i := 5) rfl
  have r6 := hd.cell (i := 6) rfl
  have r7 := hd.cell (i := 7) rfl
  have r8 := hd.cell (i := 8) rfl
  have r9 := hd.cell (i := 9) rfl
  have r10 := hd.cell (i := 10) rfl
  have r11 := hd.cell (i := 11) rfl
  have r12 := hd.cell (i := 12) rfl
  have r13 := hd.cell (i := 13) rfl
  have r14 := hd.cell (i := 14) rfl
  have r15 := hd.cell (i := 15) rfl
  simp [results, h, h3, go_sem, r0, r1, r2, r3, r4, r5, r6, r7, r8, r9, r10, r11, r12, r13, r14, r15, Cm.v, Cm.cells]
set_option maxRecDepth 100000 in
theorem get_any (k : ByteArray) (w : World) : Calls Tryd.prog 19 #[.string k] w fun e w' => e = .returned (cGet k).v ∧ Below w.heap.size w w' := by
  obtain ⟨P, hP⟩ : ∃ P, w.heap.size = P := ⟨_, rfl⟩
  obtain ⟨W1, h1⟩ : ∃ W1, w.alloc (.cells #[.int .i64 0, .int .i64 0, .string ⟨#[]⟩, .string ⟨#[]⟩, .int .u32 0, .int .i64 0, .bool false, .int .u64 0, .bool false, .int .u64 0, .int .u64 0, .bool false, .bool false, .int .i64 0, .int .i64 0, .bool false] 28) = W1 := ⟨_, rfl⟩
  have hb : Below w.heap.size w W1 := by rw [← h1]; exact abelow _ _
  have hB : Blk W1 P 28 [.int .i64 0, .int .i64 0, .string ⟨#[]⟩, .string ⟨#[]⟩, .int .u32 0, .int .i64 0, .bool false, .int .u64 0, .bool false, .int .u64 0, .int .u64 0, .bool false, .bool false, .int .i64 0, .int .i64 0, .bool false] := by
    rw [← h1, ← hP]; exact Blk.new w #[.int .i64 0, .int .i64 0, .string ⟨#[]⟩, .string ⟨#[]⟩, .int .u32 0, .int .i64 0, .bool false, .int .u64 0, .bool false, .int .u64 0, .int .u64 0, .bool false, .bool false, .int .i64 0, .int .i64 0, .bool false] _
  have HB := hid hB
  have HW := hid hb
  clear hB hb
  have e0 := HB.out.cell (i := 0) rfl
  have f0 := HB.out.frozen 0
  have e1 := HB.out.cell (i := 1) rfl
  have f1 := HB.out.frozen 1
  have e2 := HB.out.cell (i := 2) rfl
  have f2 := HB.out.frozen 2
  have e3 := HB.out.cell (i := 3) rfl
  have f3 := HB.out.frozen 3
  have e4 := HB.out.cell (i := 4) rfl
  have f4 := HB.out.frozen 4
  have e5 := HB.out.cell (i := 5) rfl
  have f5 := HB.out.frozen 5
  have e6 := HB.out.cell (i := 6) rfl
  have f6 := HB.out.frozen 6
  have e7 := HB.out.cell (i := 7) rfl
  have f7 := HB.out.frozen 7
  have e8 := HB.out.cell (i := 8) rfl
  have f8 := HB.out.frozen 8
  have e9 := HB.out.cell (i := 9) rfl
  have f9 := HB.out.frozen 9
  have e10 := HB.out.cell (i := 10) rfl
  have f10 := HB.out.frozen 10
  have e11 := HB.out.cell (i := 11) rfl
  have f11 := HB.out.frozen 11
  have e12 := HB.out.cell (i := 12) rfl
  have f12 := HB.out.frozen 12
  have e13 := HB.out.cell (i := 13) rfl
  have f13 := HB.out.frozen 13
  have e14 := HB.out.cell (i := 14) rfl
  have f14 := HB.out.frozen 14
  have e15 := HB.out.cell (i := 15) rfl
  have f15 := HB.out.frozen 15
  go_enter Tryd.func19, Tryd.ntmps19
  go_wp2_with fail
  change bodyPost _ _ _ _ _ (stc W1 P (cGet k).cells 0)
  have hW := stc_below (b := P) (B := w.heap.size) (by omega) (cGet k).cells 0 W1 HW.out
  exact bodyPost_ret (res_cm (c := cGet k) rfl (stc_all HB.out rfl) rfl) rfl ⟨rfl, by first | exact hW | (rw [← hP]; exact hW)⟩
theorem blk_set {w : World} {b : Nat} {t : TypeId} {cs vs : List Value} (h : Blk w b t cs) (hl : vs.length = cs.length) : Blk (w.setCells b 0 vs) b t vs := blk_all h hl
section
variable {w0 w w' : World} {bs : List (Nat × TypeId × List Value)} {rs : List (Value × List It)}
theorem Bxr.setc (h : Bxr w0 bs rs w) (i : Nat) {b : Nat} {t : TypeId} {cs : List Value} (hi : bs[i]? = some (b, t, cs)) {vs : List Value} (hl : vs.length = cs.length) : Bxr w0 (bs.set i (b, t, vs)) rs (w.setCells b 0 vs) := by
  have ho := only_setCells (b := b) vs 0 w
  refine ⟨⟨h.1.1.trans (ho.below h.1.1.size (fun x hx => by rw [hx]; exact h.1.ge i hi)), fun x hm => ?_, pw_set (f := fun x : Nat × TypeId × List Value => x.1) h.1.2.2 hi rfl⟩, fun r hm => ?_⟩
  · obtain ⟨j, hj⟩ := List.getElem?_of_mem hm
    rw [List.getElem?_set] at hj
    split at hj
    · split at hj
      · cases hj
        exact ⟨blk_all (h.1.get i hi) hl, h.1.ge i hi⟩
      · cases hj
    · rename_i hn
      have hne := pw_ne (f := fun x : Nat × TypeId × List Value => x.1) h.1.2.2 hi hj hn
      exact ⟨(h.1.2.1 x (List.mem_of_getElem? hj)).1.only ho (fun e => hne e.symm), (h.1.2.1 x (List.mem_of_getElem? hj)).2⟩
  · obtain ⟨G, h1, h2⟩ := h.2 r hm
    refine ⟨G, h1.only ho (fun x hx e => (h2 x hx).1 _ (List.mem_of_getElem? hi) e.symm), fun x hx => ⟨fun y hy => ?_, Nat.lt_of_lt_of_le (h2 x hx).2 ho.size⟩⟩
    rcases List.mem_or_eq_of_mem_set hy with hy | rfl
    · exact (h2 x hx).1 y hy
    · show b ≠ x
      exact (h2 x hx).1 (b, t, cs) (List.mem_of_getElem? hi)
end
theorem step_store_mid {P : Program} {ops : Array Oper} {op : Oper} {a : Act} {w : World} {K : Act → World → Prop} {Q : Exit → Act → World → Prop} {E : Prop} (hgd : op.guard = none) (ty : TypeId) (x y : Operand) (ho : op.op = .store ty x y)
    (b o : Nat) (cells : Array Value) (hx : a.eval x = .pointer (some ⟨b, o, none⟩)) (hy : a.eval y = .agg cells)
    (ht : w.there b o cells.size) (hi : (P.info? ty).map (·.size) = some cells.size) (h1 : cells.all (·.oneCell') = true)
    (h : K (a.put op.dst undef) (w.setCells b o cells.toList)) : if Region.wanted op (yielded ops a.tmps) = true then Oper.wp P op a w K Q else E := by
  have hw : Region.wanted op (yielded ops a.tmps) = true := by simp [Region.wanted, hgd]
  rw [if_pos hw]
  exact wp_store_mid ty x y ho b o cells hx hy ht hi h1 h
section
variable {P : Program} {ops : Array Oper} {Q : Exit → Act → World → Prop} {md : Region.Mode} {S : World → Prop} {st : Nat}
/-- One of three may come up. -/
theorem wpAnyE_three {i j k : Nat} {oi oj ok : Oper} {fuel : Nat} {listed : Array Bool} {a : Act} {w : World} (hoi : ops[i]? = some oi) (hoj : ops[j]? = some oj) (hok : ops[k]? = some ok) (hr : Region.ready md ops listed = [i, j, k])
    (hi : ∀ K : Act → World → Prop, (∀ a' w', ((listed.setIfInBounds i true).getD st true = false → S w') → wpAnyE P md ops Q S st fuel (listed.setIfInBounds i true) a' w' → K a' w') → if Region.wanted oi (yielded ops a.tmps) = true then Oper.wp P oi a w K Q else K (a.put oi.dst undef) w)
    (hj : ∀ K : Act → World → Prop, (∀ a' w', ((listed.setIfInBounds j true).getD st true = false → S w') → wpAnyE P md ops Q S st fuel (listed.setIfInBounds j true) a' w' → K a' w') → if Region.wanted oj (yielded ops a.tmps) = true then Oper.wp P oj a w K Q else K (a.put oj.dst undef) w)
    (hk : ∀ K : Act → World → Prop, (∀ a' w', ((listed.setIfInBounds k true).getD st true = false → S w') → wpAnyE P md ops Q S st fuel (listed.setIfInBounds k true) a' w' → K a' w') → if Region.wanted ok (yielded ops a.tmps) = true then Oper.wp P ok a w K Q else K (a.put ok.dst undef) w) :
    wpAnyE P md ops Q S st (fuel + 1) listed a w := by
  refine ⟨fun h => (by rw [hr] at h; cases h), fun m hm => ?_⟩
  rw [hr] at hm
  have key : ∀ {n : Nat} {o : Oper}, ops[n]? = some o → (∀ K : Act → World → Prop, (∀ a' w', ((listed.setIfInBounds n true).getD st true = false → S w') → wpAnyE P md ops Q S st fuel (listed.setIfInBounds n true) a' w' → K a' w') → if Region.wanted o (yielded ops a.tmps) = true then Oper.wp P o a w K Q else K (a.put o.dst undef) w) →
      wpOp P ops Q n (fun a' w' => ((listed.setIfInBounds n true).getD st true = false → S w') ∧ wpAnyE P md ops Q S st fuel (listed.setIfInBounds n true) a' w') a w := fun {n o} ho hs => by
    unfold wpOp
    rw [ho]
    dsimp only
    have h1 := hs (fun a' w' => ((listed.setIfInBounds n true).getD st true = false → S w') ∧ wpAnyE P md ops Q S st fuel (listed.setIfInBounds n true) a' w') (fun a' w' h1 h2 => ⟨h1, h2⟩)
    split
    · rename_i hw
      rw [if_pos hw] at h1
      exact .inl h1
    · rename_i hw
      rw [if_neg hw] at h1
      exact h1
  have hm' : m = i ∨ m = j ∨ m = k := by simpa using hm
  rcases hm' with rfl | rfl | rfl
  · exact key hoi hi
  · exact key hoj hj
  · exact key hok hk
end
end Go.Proofs.YtpgljahomeebhaaDoor.Md
namespace Go.Proofs.YtpgljahomeebhaaDoor.Md
open Go Go.RowKit Go.Lib

theorem its_len {w : World} {a : Option Addr} {n c : Nat} {l : List It} (h : Its w (.slice a n c) l) : n = l.length := by
  obtain ⟨a1, c1, e, _⟩ := h
  injection e
theorem mask32i (n : Int) : bits .and .i64 n 4294967295 = n % 4294967296 := by
  have hm : (BitVec.ofInt 64 4294967295).toNat = 2 ^ 32 - 1 := by decide
  have key : (BitVec.ofInt 64 n &&& BitVec.ofInt 64 4294967295).toNat = (n % ((2 ^ 64 : Nat) : Int)).toNat % 2 ^ 32 := by
    rw [BitVec.toNat_and, BitVec.toNat_ofInt, hm, Nat.and_two_pow_sub_one_eq_mod]
  show IntKind.i64.wrap ((BitVec.ofInt 64 n &&& BitVec.ofInt 64 4294967295).toNat : Nat) = n % 4294967296
  rw [key, IntKind.wrap_i64]
  omega
theorem Bxr.swap {w0 w : World} {x y : Nat × TypeId × List Value} {bs : List (Nat × TypeId × List Value)} {rs : List (Value × List It)} (h : Bxr w0 (x :: y :: bs) rs w) : Bxr w0 (y :: x :: bs) rs w := by
  have hm : ∀ b, b ∈ y :: x :: bs → b ∈ x :: y :: bs := fun b hb => by
    rcases List.mem_cons.1 hb with e | hb
    · exact List.mem_cons.2 (.inr (List.mem_cons.2 (.inl e)))
    · rcases List.mem_cons.1 hb with e | hb
      · exact List.mem_cons.2 (.inl e)
      · exact List.mem_cons.2 (.inr (List.mem_cons.2 (.inr hb)))
  refine ⟨⟨h.1.1, fun b hb => h.1.2.1 b (hm b hb), ?_⟩, fun r hr => ?_⟩
  · have h1 := List.pairwise_cons.1 h.1.2.2
    have h2 := List.pairwise_cons.1 h1.2
    refine List.pairwise_cons.2 ⟨fun b hb => ?_, List.pairwise_cons.2 ⟨fun b hb => h1.1 b (List.mem_cons.2 (.inr hb)), h2.2⟩⟩
    rcases List.mem_cons.1 hb with e | hb
    · rw [e]; exact fun q => h1.1 y (List.mem_cons.2 (.inl rfl)) q.symm
    · exact h2.1 b hb
  · obtain ⟨G, h1, h2⟩ := h.2 r hr
    exact ⟨G, h1, fun b hb => ⟨fun x hx => (h2 b hb).1 x (hm x hx), (h2 b hb).2⟩⟩
theorem csto_ok {k v : ByteArray} {fl : Nat} {e rc : Int} (h1 : fl ≤ 4294967295) (h2 : -9223372036854775808 ≤ e) (h3 : e ≤ 9223372036854775807) (h4 : -9223372036854775808 ≤ rc) (h5 : rc ≤ 9223372036854775807) : (cSto k v fl e rc).Ok :=
  ⟨⟨by show (-9223372036854775808 : Int) ≤ _; simp [cSto], by show _ ≤ (9223372036854775807 : Int); simp [cSto]⟩, ⟨by show (-9223372036854775808 : Int) ≤ _; simp [cSto], by show _ ≤ (9223372036854775807 : Int); simp [cSto]⟩, h1, ⟨h2, h3⟩, zc, zc, zc, ⟨by show (-9223372036854775808 : Int) ≤ _; simp [cSto], by show _ ≤ (9223372036854775807 : Int); simp [cSto]⟩, ⟨h4, h5⟩⟩
theorem cget_ok (k : ByteArray) : (cGet k).Ok := ⟨⟨by show (-9223372036854775808 : Int) ≤ _; simp [cGet], by show _ ≤ (9223372036854775807 : Int); simp [cGet]⟩, ⟨by show (-9223372036854775808 : Int) ≤ _; simp [cGet], by show _ ≤ (9223372036854775807 : Int); simp [cGet]⟩, zf, ⟨by show (-9223372036854775808 : Int) ≤ _; simp [cGet], by show _ ≤ (9223372036854775807 : Int); simp [cGet]⟩, zc, zc, zc, ⟨by show (-9223372036854775808 : Int) ≤ _; simp [cGet], by show _ ≤ (9223372036854775807 : Int); simp [cGet]⟩, ⟨by show (-9223372036854775808 : Int) ≤ _; simp [cGet], by show _ ≤ (9223372036854775807 : Int); simp [cGet]⟩⟩
end Go.Proofs.YtpgljahomeebhaaDoor.Md
namespace Go.Proofs.YtpgljahomeebhaaDoor.Md
open Go Go.RowKit Go.Lib
theorem mask20i (n : Int) : bits .and .i64 n 1048575 = n % 1048576 := by
  have hm : (BitVec.ofInt 64 1048575).toNat = 2 ^ 20 - 1 := by decide
  have key : (BitVec.ofInt 64 n &&& BitVec.ofInt 64 1048575).toNat = (n % ((2 ^ 64 : Nat) : Int)).toNat % 2 ^ 20 := by
    rw [BitVec.toNat_and, BitVec.toNat_ofInt, hm, Nat.and_two_pow_sub_one_eq_mod]
  show IntKind.i64.wrap ((BitVec.ofInt 64 n &&& BitVec.ofInt 64 1048575).toNat : Nat) = n % 1048576
  rw [key, IntKind.wrap_i64]
  omega
theorem mask21i (n : Int) : bits .and .i64 n 2097151 = n % 2097152 := by
  have hm : (BitVec.ofInt 64 2097151).toNat = 2 ^ 21 - 1 := by decide
  have key : (BitVec.ofInt 64 n &&& BitVec.ofInt 64 2097151).toNat = (n % ((2 ^ 64 : Nat) : Int)).toNat % 2 ^ 21 := by
    rw [BitVec.toNat_and, BitVec.toNat_ofInt, hm, Nat.and_two_pow_sub_one_eq_mod]
  show IntKind.i64.wrap ((BitVec.ofInt 64 n &&& BitVec.ofInt 64 2097151).toNat : Nat) = n % 2097152
  rw [key, IntKind.wrap_i64]
  omega
theorem mask4i (n : Int) : bits .and .i64 n 15 = n % 16 := by
  have hm : (BitVec.ofInt 64 15).toNat = 2 ^ 4 - 1 := by decide
  have key : (BitVec.ofInt 64 n &&& BitVec.ofInt 64 15).toNat = (n % ((2 ^ 64 : Nat) : Int)).toNat % 2 ^ 4 := by
    rw [BitVec.toNat_and, BitVec.toNat_ofInt, hm, Nat.and_two_pow_sub_one_eq_mod]
  show IntKind.i64.wrap ((BitVec.ofInt 64 n &&& BitVec.ofInt 64 15).toNat : Nat) = n % 16
  rw [key, IntKind.wrap_i64]
  omega
theorem mask1i (n : Int) : bits .and .i64 n 1 = n % 2 := by
  have hm : (BitVec.ofInt 64 1).toNat = 2 ^ 1 - 1 := by decide
  have key : (BitVec.ofInt 64 n &&& BitVec.ofInt 64 1).toNat = (n % ((2 ^ 64 : Nat) : Int)).toNat % 2 ^ 1 := by
    rw [BitVec.toNat_and, BitVec.toNat_ofInt, hm, Nat.and_two_pow_sub_one_eq_mod]
  show IntKind.i64.wrap ((BitVec.ofInt 64 n &&& BitVec.ofInt 64 1).toNat : Nat) = n % 2
  rw [key, IntKind.wrap_i64]
  omega
theorem Bxr.cell1 {w0 w : World} {bs : List (Nat × TypeId × List Value)} {rs : List (Value × List It)} (h : Bxr w0 bs rs w) (i : Nat) {b : Nat} {t : TypeId} {cs : List Value} (hi : bs[i]? = some (b, t, cs)) (j : Nat) (u : Value) : Bxr w0 (bs.set i (b, t, cs.set j u)) rs (w.setCell ⟨b, j, none⟩ u) := by
  have ho : Only (fun x => x = b) w (w.setCell ⟨b, j, none⟩ u) := Only.setCell (D := fun x => x = b) (Only.refl _ w) (p := ⟨b, j, none⟩) (.inl rfl) u
  refine ⟨⟨h.1.1.trans (ho.below h.1.1.size (fun x hx => by rw [hx]; exact h.1.ge i hi)), fun x hm => ?_, pw_set (f := fun x : Nat × TypeId × List Value => x.1) h.1.2.2 hi rfl⟩, fun r hm => ?_⟩
  · obtain ⟨k, hk⟩ := List.getElem?_of_mem hm
    rw [List.getElem?_set] at hk
    split at hk
    · split at hk
      · cases hk
        exact ⟨(h.1.get i hi).set j u, h.1.ge i hi⟩
      · cases hk
    · rename_i hn
      have hne := pw_ne (f := fun x : Nat × TypeId × List Value => x.1) h.1.2.2 hi hk hn
      exact ⟨(h.1.2.1 x (List.mem_of_getElem? hk)).1.only ho (fun e => hne e.symm), (h.1.2.1 x (List.mem_of_getElem? hk)).2⟩
  · obtain ⟨G, h1, h2⟩ := h.2 r hm
    refine ⟨G, h1.only ho (fun x hx e => (h2 x hx).1 _ (List.mem_of_getElem? hi) e.symm), fun x hx => ⟨fun y hy => ?_, Nat.lt_of_lt_of_le (h2 x hx).2 ho.size⟩⟩
    rcases List.mem_or_eq_of_mem_set hy with hy | rfl
    · exact (h2 x hx).1 y hy
    · show b ≠ x
      exact (h2 x hx).1 (b, t, cs) (List.mem_of_getElem? hi)
theorem ctou_ok (k : ByteArray) {e : Int} (h2 : -9223372036854775808 ≤ e) (h3 : e ≤ 9223372036854775807) : (cTou k e).Ok := ⟨⟨by show (-9223372036854775808 : Int) ≤ _; simp [cTou], by show _ ≤ (9223372036854775807 : Int); simp [cTou]⟩, ⟨by show (-9223372036854775808 : Int) ≤ _; simp [cTou], by show _ ≤ (9223372036854775807 : Int); simp [cTou]⟩, zf, ⟨h2, h3⟩, zc, zc, zc, ⟨by show (-9223372036854775808 : Int) ≤ _; simp [cTou], by show _ ≤ (9223372036854775807 : Int); simp [cTou]⟩, ⟨by show (-9223372036854775808 : Int) ≤ _; simp [cTou], by show _ ≤ (9223372036854775807 : Int); simp [cTou]⟩⟩
theorem kfine (now : Int) (c : Cm) (h : may c = true) (h1 : 1 ≤ now) (h2 : now ≤ 1099511627776) : fine now c = true := by
  unfold fine
  rw [h, decide_eq_true h1, decide_eq_true h2]; rfl
end Go.Proofs.YtpgljahomeebhaaDoor.Md

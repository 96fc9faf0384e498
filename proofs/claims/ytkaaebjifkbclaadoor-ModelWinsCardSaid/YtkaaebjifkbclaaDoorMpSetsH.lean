/-
  Small things for laws of stage 16. Conditions: numbers are in their types' ranges.
  Masks of small powers of two. No conditions.
-/
import Derived.Test.YtkaaebjifkbclaaDoorMpGetL
import Derived.Test.YtkaaebjifkbclaaDoorMpShownMath
namespace Go.Proofs.YtkaaebjifkbclaaDoor.Md
open Go Go.RowKit Go.Lib

theorem its_len {w : World} {a : Option Addr} {n c : Nat} {l : List It} (h : Its w (.slice a n c) l) : n = l.length := by
  obtain ⟨a1, c1, e, _⟩ := h
  injection e
theorem mask32i (n : Int) : bits .and .i64 n 4294967295 = n % 4294967296 := by
  have hm : (BitVec.ofInt 64 4294967295).toNat = 2 ^ 32 - 1 := by decide
  have key : (BitVec.ofInt 64 n &&& BitVec.ofInt 64 4294967295).toNat = (n % ((2 ^ 64 : Nat) : Int)).toNat % 2 ^ 32 := by
    rw [BitVec.toNat_and, BitVec.toNat_ofInt, hm, Nat.and_two_pow_sub_one_eq_mod]
  show IntKind.i64.wrap ((BitVec.ofInt 64 n &&& BitVec.ofInt 64 4294967295).toNat : Nat) = n % 4294967296
  rw [key, IntKind.wrap_i64]
  omega
theorem Bxr.swap {w0 w : World} {x y : Nat × TypeId × List Value} {bs : List (Nat × TypeId × List Value)} {rs : List (Value × List It)} (h : Bxr w0 (x :: y :: bs) rs w) : Bxr w0 (y :: x :: bs) rs w := by
  have hm : ∀ b, b ∈ y :: x :: bs → b ∈ x :: y :: bs := fun b hb => by
    rcases List.mem_cons.1 hb with e | hb
    · exact List.mem_cons.2 (.inr (List.mem_cons.2 (.inl e)))
    · rcases List.mem_cons.1 hb with e | hb
      · exact List.mem_cons.2 (.inl e)
      · exact List.mem_cons.2 (.inr (List.mem_cons.2 (.inr hb)))
  refine ⟨⟨h.1.1, fun b hb => h.1.2.1 b (hm b hb), ?_⟩, fun r hr => ?_⟩
  · have h1 := List.pairwise_cons.1 h.1.2.2
    have h2 := List.pairwise_cons.1 h1.2
    refine List.pairwise_cons.2 ⟨fun b hb => ?_, List.pairwise_cons.2 ⟨fun b hb => h1.1 b (List.mem_cons.2 (.inr hb)), h2.2⟩⟩
    rcases List.mem_cons.1 hb with e | hb
    · rw [e]; exact fun q => h1.1 y (List.mem_cons.2 (.inl rfl)) q.symm
    · exact h2.1 b hb
  · obtain ⟨G, h1, h2⟩ := h.2 r hr
    exact ⟨G, h1, fun b hb => ⟨fun x hx => (h2 b hb).1 x (hm x hx), (h2 b hb).2⟩⟩
theorem csto_ok {k v : ByteArray} {fl : Nat} {e rc : Int} (h1 : fl ≤ 4294967295) (h2 : -9223372036854775808 ≤ e) (h3 : e ≤ 9223372036854775807) (h4 : -9223372036854775808 ≤ rc) (h5 : rc ≤ 9223372036854775807) : (cSto k v fl e rc).Ok :=
  ⟨⟨by show (-9223372036854775808 : Int) ≤ _; simp [cSto], by show _ ≤ (9223372036854775807 : Int); simp [cSto]⟩, ⟨by show (-9223372036854775808 : Int) ≤ _; simp [cSto], by show _ ≤ (9223372036854775807 : Int); simp [cSto]⟩, h1, ⟨h2, h3⟩, zc, zc, zc, ⟨by show (-9223372036854775808 : Int) ≤ _; simp [cSto], by show _ ≤ (9223372036854775807 : Int); simp [cSto]⟩, ⟨h4, h5⟩⟩
theorem cget_ok (k : ByteArray) : (cGet k).Ok := ⟨⟨by show (-9223372036854775808 : Int) ≤ _; simp [cGet], by show _ ≤ (9223372036854775807 : Int); simp [cGet]⟩, ⟨by show (-9223372036854775808 : Int) ≤ _; simp [cGet], by show _ ≤ (9223372036854775807 : Int); simp [cGet]⟩, zf, ⟨by show (-9223372036854775808 : Int) ≤ _; simp [cGet], by show _ ≤ (9223372036854775807 : Int); simp [cGet]⟩, zc, zc, zc, ⟨by show (-9223372036854775808 : Int) ≤ _; simp [cGet], by show _ ≤ (9223372036854775807 : Int); simp [cGet]⟩, ⟨by show (-9223372036854775808 : Int) ≤ _; simp [cGet], by show _ ≤ (9223372036854775807 : Int); simp [cGet]⟩⟩
end Go.Proofs.YtkaaebjifkbclaaDoor.Md
namespace Go.Proofs.YtkaaebjifkbclaaDoor.Md
open Go Go.RowKit Go.Lib
theorem mask20i (n : Int) : bits .and .i64 n 1048575 = n % 1048576 := by
  have hm : (BitVec.ofInt 64 1048575).toNat = 2 ^ 20 - 1 := by decide
  have key : (BitVec.ofInt 64 n &&& BitVec.ofInt 64 1048575).toNat = (n % ((2 ^ 64 : Nat) : Int)).toNat % 2 ^ 20 := by
    rw [BitVec.toNat_and, BitVec.toNat_ofInt, hm, Nat.and_two_pow_sub_one_eq_mod]
  show IntKind.i64.wrap ((BitVec.ofInt 64 n &&& BitVec.ofInt 64 1048575).toNat : Nat) = n % 1048576
  rw [key, IntKind.wrap_i64]
  omega
theorem mask21i (n : Int) : bits .and .i64 n 2097151 = n % 2097152 := by
  have hm : (BitVec.ofInt 64 2097151).toNat = 2 ^ 21 - 1 := by decide
  have key : (BitVec.ofInt 64 n &&& BitVec.ofInt 64 2097151).toNat = (n % ((2 ^ 64 : Nat) : Int)).toNat % 2 ^ 21 := by
    rw [BitVec.toNat_and, BitVec.toNat_ofInt, hm, Nat.and_two_pow_sub_one_eq_mod]
  show IntKind.i64.wrap ((BitVec.ofInt 64 n &&& BitVec.ofInt 64 2097151).toNat : Nat) = n % 2097152
  rw [key, IntKind.wrap_i64]
  omega
theorem mask4i (n : Int) : bits .and .i64 n 15 = n % 16 := by
  have hm : (BitVec.ofInt 64 15).toNat = 2 ^ 4 - 1 := by decide
  have key : (BitVec.ofInt 64 n &&& BitVec.ofInt 64 15).toNat = (n % ((2 ^ 64 : Nat) : Int)).toNat % 2 ^ 4 := by
    rw [BitVec.toNat_and, BitVec.toNat_ofInt, hm, Nat.and_two_pow_sub_one_eq_mod]
  show IntKind.i64.wrap ((BitVec.ofInt 64 n &&& BitVec.ofInt 64 15).toNat : Nat) = n % 16
  rw [key, IntKind.wrap_i64]
  omega
theorem mask1i (n : Int) : bits .and .i64 n 1 = n % 2 := by
  have hm : (BitVec.ofInt 64 1).toNat = 2 ^ 1 - 1 := by decide
  have key : (BitVec.ofInt 64 n &&& BitVec.ofInt 64 1).toNat = (n % ((2 ^ 64 : Nat) : Int)).toNat % 2 ^ 1 := by
    rw [BitVec.toNat_and, BitVec.toNat_ofInt, hm, Nat.and_two_pow_sub_one_eq_mod]
  show IntKind.i64.wrap ((BitVec.ofInt 64 n &&& BitVec.ofInt 64 1).toNat : Nat) = n % 2
  rw [key, IntKind.wrap_i64]
  omega
theorem Bxr.cell1 {w0 w : World} {bs : List (Nat × TypeId × List Value)} {rs : List (Value × List It)} (h : Bxr w0 bs rs w) (i : Nat) {b : Nat} {t : TypeId} {cs : List Value} (hi : bs[i]? = some (b, t, cs)) (j : Nat) (u : Value) : Bxr w0 (bs.set i (b, t, cs.set j u)) rs (w.setCell ⟨b, j, none⟩ u) := by
  have ho : Only (fun x => x = b) w (w.setCell ⟨b, j, none⟩ u) := Only.setCell (D := fun x => x = b) (Only.refl _ w) (p := ⟨b, j, none⟩) (.inl rfl) u
  refine ⟨⟨h.1.1.trans (ho.below h.1.1.size (fun x hx => by rw [hx]; exact h.1.ge i hi)), fun x hm => ?_, pw_set (f := fun x : Nat × TypeId × List Value => x.1) h.1.2.2 hi rfl⟩, fun r hm => ?_⟩
  · obtain ⟨k, hk⟩ := List.getElem?_of_mem hm
    rw [List.getElem?_set] at hk
    split at hk
    · split at hk
      · cases hk
        exact ⟨(h.1.get i hi).set j u, h.1.ge i hi⟩
      · cases hk
    · rename_i hn
      have hne := pw_ne (f := fun x : Nat × TypeId × List Value => x.1) h.1.2.2 hi hk hn
      exact ⟨(h.1.2.1 x (List.mem_of_getElem? hk)).1.only ho (fun e => hne e.symm), (h.1.2.1 x (List.mem_of_getElem? hk)).2⟩
  · obtain ⟨G, h1, h2⟩ := h.2 r hm
    refine ⟨G, h1.only ho (fun x hx e => (h2 x hx).1 _ (List.mem_of_getElem? hi) e.symm), fun x hx => ⟨fun y hy => ?_, Nat.lt_of_lt_of_le (h2 x hx).2 ho.size⟩⟩
    rcases List.mem_or_eq_of_mem_set hy with hy | rfl
    · exact (h2 x hx).1 y hy
    · show b ≠ x
      exact (h2 x hx).1 (b, t, cs) (List.mem_of_getElem? hi)
theorem ctou_ok (k : ByteArray) {e : Int} (h2 : -9223372036854775808 ≤ e) (h3 : e ≤ 9223372036854775807) : (cTou k e).Ok := ⟨⟨by show (-9223372036854775808 : Int) ≤ _; simp [cTou], by show _ ≤ (9223372036854775807 : Int); simp [cTou]⟩, ⟨by show (-9223372036854775808 : Int) ≤ _; simp [cTou], by show _ ≤ (9223372036854775807 : Int); simp [cTou]⟩, zf, ⟨h2, h3⟩, zc, zc, zc, ⟨by show (-9223372036854775808 : Int) ≤ _; simp [cTou], by show _ ≤ (9223372036854775807 : Int); simp [cTou]⟩, ⟨by show (-9223372036854775808 : Int) ≤ _; simp [cTou], by show _ ≤ (9223372036854775807 : Int); simp [cTou]⟩⟩
theorem kfine (now : Int) (c : Cm) (h : may c = true) (h1 : 1 ≤ now) (h2 : now ≤ 1099511627776) : fine now c = true := by
  unfold fine
  rw [h, decide_eq_true h1, decide_eq_true h2]; rfl
end Go.Proofs.YtkaaebjifkbclaaDoor.Md

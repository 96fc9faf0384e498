/-
  Small things for laws of stage 16. Conditions: numbers are in their types' ranges.
-/
import Derived.Test.YtkaaebjifkbclaaDoorMpGetL
import Derived.Test.YtkaaebjifkbclaaDoorMpSetsMath
namespace Go.Proofs.YtkaaebjifkbclaaDoor.Md
open Go Go.RowKit Go.Lib

theorem its_len {w : World} {a : Option Addr} {n c : Nat} {l : List It} (h : Its w (.slice a n c) l) : n = l.length := by
  obtain ⟨a1, c1, e, _⟩ := h
  injection e
theorem mask32i (n : Int) : bits .and .i64 n 4294967295 = n % 4294967296 := by
  have hm : (BitVec.ofInt 64 4294967295).toNat = 2 ^ 32 - 1 := by decide
  have key : (BitVec.ofInt 64 n &&& BitVec.ofInt 64 4294967295).toNat = (n % ((2 ^ 64 : Nat) : Int)).toNat % 2 ^ 32 := by
    rw [BitVec.toNat_and, BitVec.toNat_ofInt, hm, Nat.and_two_pow_sub_one_eq_mod]
  show IntKind.i64.wrap ((BitVec.ofInt 64 n &&& BitVec.ofInt 64 4294967295).toNat : Nat) = n % 4294967296
  rw [key, IntKind.wrap_i64]
  omega
theorem Bxr.swap {w0 w : World} {x y : Nat × TypeId × List Value} {bs : List (Nat × TypeId × List Value)} {rs : List (Value × List It)} (h : Bxr w0 (x :: y :: bs) rs w) : Bxr w0 (y :: x :: bs) rs w := by
  have hm : ∀ b, b ∈ y :: x :: bs → b ∈ x :: y :: bs := fun b hb => by
    rcases List.mem_cons.1 hb with e | hb
    · exact List.mem_cons.2 (.inr (List.mem_cons.2 (.inl e)))
    · rcases List.mem_cons.1 hb with e | hb
      · exact List.mem_cons.2 (.inl e)
      · exact List.mem_cons.2 (.inr (List.mem_cons.2 (.inr hb)))
  refine ⟨⟨h.1.1, fun b hb => h.1.2.1 b (hm b hb), ?_⟩, fun r hr => ?_⟩
  · have h1 := List.pairwise_cons.1 h.1.2.2
    have h2 := List.pairwise_cons.1 h1.2
    refine List.pairwise_cons.2 ⟨fun b hb => ?_, List.pairwise_cons.2 ⟨fun b hb => h1.1 b (List.mem_cons.2 (.inr hb)), h2.2⟩⟩
    rcases List.mem_cons.1 hb with e | hb
    · rw [e]; exact fun q => h1.1 y (List.mem_cons.2 (.inl rfl)) q.symm
    · exact h2.1 b hb
  · obtain ⟨G, h1, h2⟩ := h.2 r hr
    exact ⟨G, h1, fun b hb => ⟨fun x hx => (h2 b hb).1 x (hm x hx), (h2 b hb).2⟩⟩
theorem csto_ok {k v : ByteArray} {fl : Nat} {e rc : Int} (h1 : fl ≤ 4294967295) (h2 : -9223372036854775808 ≤ e) (h3 : e ≤ 9223372036854775807) (h4 : -9223372036854775808 ≤ rc) (h5 : rc ≤ 9223372036854775807) : (cSto k v fl e rc).Ok :=
  ⟨⟨by show (-9223372036854775808 : Int) ≤ _; simp [cSto], by show _ ≤ (9223372036854775807 : Int); simp [cSto]⟩, ⟨by show (-9223372036854775808 : Int) ≤ _; simp [cSto], by show _ ≤ (9223372036854775807 : Int); simp [cSto]⟩, h1, ⟨h2, h3⟩, zc, zc, zc, ⟨by show (-9223372036854775808 : Int) ≤ _; simp [cSto], by show _ ≤ (9223372036854775807 : Int); simp [cSto]⟩, ⟨h4, h5⟩⟩
theorem cget_ok (k : ByteArray) : (cGet k).Ok := ⟨⟨by show (-9223372036854775808 : Int) ≤ _; simp [cGet], by show _ ≤ (9223372036854775807 : Int); simp [cGet]⟩, ⟨by show (-9223372036854775808 : Int) ≤ _; simp [cGet], by show _ ≤ (9223372036854775807 : Int); simp [cGet]⟩, zf, ⟨by show (-9223372036854775808 : Int) ≤ _; simp [cGet], by show _ ≤ (9223372036854775807 : Int); simp [cGet]⟩, zc, zc, zc, ⟨by show (-9223372036854775808 : Int) ≤ _; simp [cGet], by show _ ≤ (9223372036854775807 : Int); simp [cGet]⟩, ⟨by show (-9223372036854775808 : Int) ≤ _; simp [cGet], by show _ ≤ (9223372036854775807 : Int); simp [cGet]⟩⟩
end Go.Proofs.YtkaaebjifkbclaaDoor.Md

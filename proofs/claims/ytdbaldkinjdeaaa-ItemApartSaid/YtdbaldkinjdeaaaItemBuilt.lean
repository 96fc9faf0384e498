/-
  Contract of item.Encode at this program: the bytes of an item that is right, in a new block; nothing, of another. No further conditions.
-/
import Derived.Test.YtdbaldkinjdeaaaItemPut
import Derived.Lib.LazyBuf
import Derived.Deep.RegionHeld3
import Derived.Deep.RegionLaw
import Derived.Laws.NewBlocks
namespace Go.Proofs.Ytdbaldkinjdeaaa
open Go Go.RowKit Go.Lib

theorem splice_skip {α : Type} {p t X : List α} {n o : Nat} (h : p.length = n) : splice (p ++ t) (n + o) X = p ++ splice t o X := by
  subst h
  unfold splice
  rw [List.take_length_add_append, Nat.add_assoc, List.drop_length_add_append, List.append_assoc]
theorem splice_here {α : Type} {q r X : List α} (h : q.length = X.length) : splice (q ++ r) 0 X = X ++ r := by
  unfold splice
  rw [List.take_zero, Nat.zero_add, ← h, List.drop_left]; rfl

theorem splice_last {α : Type} {q X : List α} (h : q.length = X.length) : splice q 0 X = X := by
  have := splice_here (r := []) h
  rwa [List.append_nil, List.append_nil] at this
theorem built_gen {A B C D D0 E E0 F G G0 H H0 I I0 K K0 V V0 : List UInt8} {k v : Nat} (a : A.length = 1) (b : B.length = 1) (c : C.length = 2) (d : D.length = 4) (d0 : D0.length = 4) (e : E.length = 4) (e0 : E0.length = 4) (f : F.length = 4)
    (g : G.length = 8) (g0 : G0.length = 8) (h : H.length = 8) (h0 : H0.length = 8) (i : I.length = 8) (i0 : I0.length = 8) (kk : K.length = k) (k0 : K0.length = k) (vv : V.length = v) (v0 : V0.length = v) :
    splice (splice (splice (splice (splice (splice (splice (A ++ (B ++ (C ++ (D0 ++ (E0 ++ (F ++ (G0 ++ (H0 ++ (I0 ++ (K0 ++ (V0))))))))))) 4 D) 8 E) 16 G) 24 H) 32 I) 40 K) (40 + k) V = A ++ (B ++ (C ++ (D ++ (E ++ (F ++ (G ++ (H ++ (I ++ (K ++ (V)))))))))) := by
  have s0 : splice (A ++ (B ++ (C ++ (D0 ++ (E0 ++ (F ++ (G0 ++ (H0 ++ (I0 ++ (K0 ++ (V0))))))))))) (4) D = A ++ (B ++ (C ++ (D ++ (E0 ++ (F ++ (G0 ++ (H0 ++ (I0 ++ (K0 ++ (V0)))))))))) := by
    rw [show (4 : Nat) = 1 + (1 + (2 + 0)) from rfl, splice_skip a, splice_skip b, splice_skip c, splice_here ((d0).trans (d).symm)]
  have s1 : splice (A ++ (B ++ (C ++ (D ++ (E0 ++ (F ++ (G0 ++ (H0 ++ (I0 ++ (K0 ++ (V0))))))))))) (8) E = A ++ (B ++ (C ++ (D ++ (E ++ (F ++ (G0 ++ (H0 ++ (I0 ++ (K0 ++ (V0)))))))))) := by
    rw [show (8 : Nat) = 1 + (1 + (2 + (4 + 0))) from rfl, splice_skip a, splice_skip b, splice_skip c, splice_skip d, splice_here ((e0).trans (e).symm)]
  have s2 : splice (A ++ (B ++ (C ++ (D ++ (E ++ (F ++ (G0 ++ (H0 ++ (I0 ++ (K0 ++ (V0))))))))))) (16) G = A ++ (B ++ (C ++ (D ++ (E ++ (F ++ (G ++ (H0 ++ (I0 ++ (K0 ++ (V0)))))))))) := by
    rw [show (16 : Nat) = 1 + (1 + (2 + (4 + (4 + (4 + 0))))) from rfl, splice_skip a, splice_skip b, splice_skip c, splice_skip d, splice_skip e, splice_skip f, splice_here ((g0).trans (g).symm)]
  have s3 : splice (A ++ (B ++ (C ++ (D ++ (E ++ (F ++ (G ++ (H0 ++ (I0 ++ (K0 ++ (V0))))))))))) (24) H = A ++ (B ++ (C ++ (D ++ (E ++ (F ++ (G ++ (H ++ (I0 ++ (K0 ++ (V0)))))))))) := by
    rw [show (24 : Nat) = 1 + (1 + (2 + (4 + (4 + (4 + (8 + 0)))))) from rfl, splice_skip a, splice_skip b, splice_skip c, splice_skip d, splice_skip e, splice_skip f, splice_skip g, splice_here ((h0).trans (h).symm)]
  have s4 : splice (A ++ (B ++ (C ++ (D ++ (E ++ (F ++ (G ++ (H ++ (I0 ++ (K0 ++ (V0))))))))))) (32) I = A ++ (B ++ (C ++ (D ++ (E ++ (F ++ (G ++ (H ++ (I ++ (K0 ++ (V0)))))))))) := by
    rw [show (32 : Nat) = 1 + (1 + (2 + (4 + (4 + (4 + (8 + (8 + 0))))))) from rfl, splice_skip a, splice_skip b, splice_skip c, splice_skip d, splice_skip e, splice_skip f, splice_skip g, splice_skip h, splice_here ((i0).trans (i).symm)]
  have s5 : splice (A ++ (B ++ (C ++ (D ++ (E ++ (F ++ (G ++ (H ++ (I ++ (K0 ++ (V0))))))))))) (40) K = A ++ (B ++ (C ++ (D ++ (E ++ (F ++ (G ++ (H ++ (I ++ (K ++ (V0)))))))))) := by
    rw [show (40 : Nat) = 1 + (1 + (2 + (4 + (4 + (4 + (8 + (8 + (8 + 0)))))))) from rfl, splice_skip a, splice_skip b, splice_skip c, splice_skip d, splice_skip e, splice_skip f, splice_skip g, splice_skip h, splice_skip i, splice_here ((k0).trans (kk).symm)]
  have s6 : splice (A ++ (B ++ (C ++ (D ++ (E ++ (F ++ (G ++ (H ++ (I ++ (K ++ (V0))))))))))) (40 + k) V = A ++ (B ++ (C ++ (D ++ (E ++ (F ++ (G ++ (H ++ (I ++ (K ++ (V)))))))))) := by
    rw [show (40 + k : Nat) = 1 + (1 + (2 + (4 + (4 + (4 + (8 + (8 + (8 + (k + 0))))))))) by omega, splice_skip a, splice_skip b, splice_skip c, splice_skip d, splice_skip e, splice_skip f, splice_skip g, splice_skip h, splice_skip i, splice_skip kk, splice_last (v0.trans vv.symm)]
  rw [s0, s1, s2, s3, s4, s5, s6]

/-- What is written, one behind the other. -/
def It.r2 (x : It) : List UInt8 := ((List.replicate (40 + x.key.size + x.val.size) (0 : UInt8)).set 0 (UInt8.ofNat x.key.size)).set 1 (UInt8.ofNat x.marks)
def It.r7 (x : It) : List UInt8 := splice (splice (splice (splice (splice x.r2 4 (le 4 x.flags)) 8 (le 4 x.val.size)) 16 (le 8 x.exp.toNat)) 24 (le 8 x.cas)) 32 (le 8 x.last.toNat)
theorem It.r2_len (x : It) : x.r2.length = 40 + x.key.size + x.val.size := by unfold It.r2; simp
theorem It.built {x : It} (hr : x.right = true) : splice (splice x.r7 40 x.key.data.toList) (40 + x.key.size) x.val.data.toList = x.enc := by
  obtain ⟨_, r2, _, r3, _, _⟩ := It.right_parts hr
  have hm := x.marks_le
  have z : ∀ a b : Nat, List.replicate (a + b) (0 : UInt8) = List.replicate a 0 ++ List.replicate b 0 := fun a b => List.replicate_append_replicate.symm
  have e0 : x.r2 = [UInt8.ofNat x.key.size] ++ ([UInt8.ofNat x.marks] ++ ([0, 0] ++ ([0, 0, 0, 0] ++ ([0, 0, 0, 0] ++ ([0, 0, 0, 0] ++ (List.replicate 8 0 ++ (List.replicate 8 0 ++ (List.replicate 8 0 ++ (List.replicate x.key.size 0 ++ List.replicate x.val.size 0))))))))) := by
    unfold It.r2
    rw [z, z, List.append_assoc]
    rfl
  have e1 : le 1 x.key.size = [UInt8.ofNat x.key.size] := by rw [show le 1 x.key.size = [UInt8.ofNat (x.key.size % 256)] from rfl, Nat.mod_eq_of_lt (by omega)]
  have e3 : le 3 x.marks = [UInt8.ofNat x.marks] ++ [0, 0] := by
    generalize x.marks = m at *
    rcases m with _ | _ | _ | _ | m
    · rfl
    · rfl
    · rfl
    · rfl
    · omega
  have e8 : le 8 x.val.size = le 4 x.val.size ++ [0, 0, 0, 0] := by
    have c4 : (256 : Nat) ^ 4 = 4294967296 := by decide
    have h0 : x.val.size / 256 ^ 4 = 0 := Nat.div_eq_of_lt (by omega)
    have := le_add 4 4 x.val.size
    rw [h0] at this
    exact this
  unfold It.r7 It.enc It.head
  rw [e0, e1, e3, e8, built_gen (k := x.key.size) (v := x.val.size) rfl rfl rfl (le_len _ _) rfl (le_len _ _) rfl rfl (le_len _ _) rfl (le_len _ _) rfl (le_len _ _) rfl (size_len _).symm (by simp) (size_len _).symm (by simp)]
  simp only [List.append_assoc]
end Go.Proofs.Ytdbaldkinjdeaaa

/-
  A ghost as an object whose blocks are hidden; a ghost of the call's own, beside other blocks of its own. No conditions but those of the calls.
  Small plain facts for the statements of this layer: what cuts and adds make of rows of numbers, slices of numbers that came in. No conditions.
  Who was removed is not there, and the others are: the statement, walked. No conditions.
-/
import Derived.Test.YtkhmgigllcgpnaaM5
import Derived.Maps.AppendAt
namespace Go.Proofs.Ytkhmgigllcgpnaa.Gh
open Go Go.RowKit Go.Lib

theorem row_pos {w : World} {base : Nat} {e : TypeId} {size : Nat} {v : Value} {n : Nat} {xs : List Value} (h : w.ownsRow base e size v n xs) (hn : 0 < n) : ∃ g cap, v = .slice (some ⟨g, 0, none⟩) n cap ∧ n ≤ cap ∧ base ≤ g ∧ g < w.heap.size := by
  rcases h.2 with ⟨_, h0⟩ | ⟨g, cap, cur, rfl, hb, hg, hc, _⟩
  · omega
  · exact ⟨g, cap, rfl, hc, hb, (Array.getElem?_eq_some_iff.1 hg).1⟩
/-- A ghost with these numbers, the oldest first, and this bound lies at P, in these blocks. -/
def GAt (P : Nat) (F : Nat → Prop) (m : Nat) (l : List Int) (w : World) : Prop := ∃ M N, GM P M m N w ∧ idl N = l ∧ ∀ b, F b ↔ Ft P M N b
/-- What a call leaves of an object: only its own blocks turned, and it has but them and new ones. -/
structure Stp (F F' : Nat → Prop) (w w' : World) : Prop where
  only : Only F w w'
  foot : ∀ b, F' b → F b ∨ w.heap.size ≤ b
theorem GAt.nd {P : Nat} {F : Nat → Prop} {m : Nat} {l : List Int} {w : World} (h : GAt P F m l w) : l.Nodup := by obtain ⟨M, N, h, rfl, _⟩ := h; exact h.nd
theorem GAt.rng {P : Nat} {F : Nat → Prop} {m : Nat} {l : List Int} {w : World} (h : GAt P F m l w) {z : Int} (hz : z ∈ l) : u64ok z := by
  obtain ⟨M, N, h, rfl, _⟩ := h
  obtain ⟨x, hx, rfl⟩ := List.mem_map.1 hz
  exact h.rng x hx
theorem GAt.lt {P : Nat} {F : Nat → Prop} {m : Nat} {l : List Int} {w : World} (h : GAt P F m l w) {b : Nat} (hb : F b) : b < w.heap.size := by obtain ⟨M, N, h, rfl, e⟩ := h; exact h.lt b ((e b).1 hb)
theorem GAt.only {P : Nat} {F D : Nat → Prop} {m : Nat} {l : List Int} {w w' : World} (h : GAt P F m l w) (ho : Only D w w') (hd : ∀ b, F b → ¬ D b) : GAt P F m l w' := by
  obtain ⟨M, N, h, e1, e⟩ := h
  exact ⟨M, N, h.only ho (fun b hb => hd b ((e b).2 hb)), e1, e⟩
theorem GAt.below {P : Nat} {F : Nat → Prop} {m : Nat} {l : List Int} {w w' : World} (h : GAt P F m l w) (hb : Below w.heap.size w w') : GAt P F m l w' := h.only (D := fun _ => False) (Below.only hb) (fun _ _ => id)
theorem gat_go {P M m : Nat} {N N' : List Nd} {F : Nat → Prop} {w w' : World} (e : ∀ b, F b ↔ Ft P M N b) (g : Go11 P M N w m N' w') : GAt P (Ft P M N') m (idl N') w' ∧ Stp F (Ft P M N') w w' :=
  ⟨⟨M, N', g.gm, rfl, fun _ => Iff.rfl⟩, ⟨g.only.mono (fun b hb => (e b).2 hb), fun b hb => (g.foot b hb).imp (e b).2 id⟩⟩

theorem at_add {P : Nat} {F : Nat → Prop} {m : Nat} {l : List Int} {w : World} (h : GAt P F m l w) (z : Int) (hz : u64ok z) (hlen : l.length < 4194304) :
   Calls Try.prog 45 #[.pointer (some ⟨P, 0, none⟩), .int .u64 z] w fun e w' => e = .returned (.tuple #[]) ∧ ∃ F', GAt P F' m (addL m l z) w' ∧ Stp F F' w w' := by
  obtain ⟨M, N, h, rfl, e⟩ := h
  refine (add_any h hz (by rw [idl_len] at hlen; exact hlen)).mono ?_
  rintro x w' ⟨hx, N', g, k, -⟩
  obtain ⟨k1, k2⟩ := gat_go e g
  rw [k] at k1
  exact ⟨hx, _, k1, k2⟩
theorem at_remove {P : Nat} {F : Nat → Prop} {m : Nat} {l : List Int} {w : World} (h : GAt P F m l w) (z : Int) (hz : u64ok z) :
   Calls Try.prog 41 #[.pointer (some ⟨P, 0, none⟩), .int .u64 z] w fun e w' => e = .returned (.bool (decide (z ∈ l))) ∧ ∃ F', GAt P F' m (rmL l z) w' ∧ Stp F F' w w' := by
  obtain ⟨M, N, h, rfl, e⟩ := h
  refine (take_any h z hz).mono ?_
  rintro x w' ⟨hx, N', g, k, -, -⟩
  obtain ⟨k1, k2⟩ := gat_go e g
  rw [k] at k1
  exact ⟨hx, _, k1, k2⟩
theorem at_limit {P : Nat} {F : Nat → Prop} {m : Nat} {l : List Int} {w : World} (h : GAt P F m l w) (mo : Int) :
   Calls Try.prog 38 #[.pointer (some ⟨P, 0, none⟩), .int .i64 mo] w fun e w' => e = .returned (.tuple #[]) ∧ ∃ F', GAt P F' mo.toNat (cutL mo.toNat l) w' ∧ Stp F F' w w' := by
  obtain ⟨M, N, h, rfl, e⟩ := h
  refine (limit_any h mo).mono ?_
  rintro x w' ⟨hx, N', g, k, -⟩
  obtain ⟨k1, k2⟩ := gat_go e g
  rw [k] at k1
  exact ⟨hx, _, k1, k2⟩
theorem at_len {P : Nat} {F : Nat → Prop} {m : Nat} {l : List Int} {w : World} (h : GAt P F m l w)  :
   Calls Try.prog 63 #[.pointer (some ⟨P, 0, none⟩)] w fun e w' => e = .returned (.int .i64 l.length) ∧ w = w' := by
  obtain ⟨M, N, h, rfl, e⟩ := h; rw [idl_len]; exact len_any h
theorem at_all {P : Nat} {F : Nat → Prop} {m : Nat} {l : List Int} {w : World} (h : GAt P F m l w)  :
   Calls Try.prog 35 #[.pointer (some ⟨P, 0, none⟩)] w fun e w' => ∃ v, e = .returned v ∧ w'.ownsRow w.heap.size 29 1 v l.length (uc l) ∧ Below w.heap.size w w' := by
  obtain ⟨M, N, h, rfl, e⟩ := h; exact all_any h
theorem at_new (mo : Int) (w : World) : Calls Try.prog 25 #[.int .i64 mo] w fun e w' => ∃ P F, e = .returned (.pointer (some ⟨P, 0, none⟩)) ∧ GAt P F mo.toNat [] w' ∧ Below w.heap.size w w' ∧ ∀ b, F b → w.heap.size ≤ b := by
  refine (new_any mo w).mono ?_
  rintro e w' ⟨P, M, he, h, hb, q1, q2⟩
  refine ⟨P, _, he, ⟨M, _, h, rfl, fun _ => Iff.rfl⟩, hb, fun b hf => ?_⟩
  rcases hf with rfl | rfl | ⟨x, hx, _⟩
  · exact q1
  · exact q2
  · cases hx

/-- A ghost of the call's own (the call's world began as w0), beside blocks G of its own. -/
structure HasG (w0 : World) (P : Nat) (m : Nat) (l : List Int) (G : Nat → Prop) (w : World) : Prop where
  ghost : ∃ F, GAt P F m l w ∧ (∀ b, F b → w0.heap.size ≤ b) ∧ (∀ x, G x → ¬ F x)
  below : Below w0.heap.size w0 w
  lt : ∀ x, G x → x < w.heap.size
theorem HasG.nd {w0 : World} {P : Nat} {m : Nat} {l : List Int} {G : Nat → Prop} {w : World} (h : HasG w0 P m l G w) : l.Nodup := by obtain ⟨F, h, _⟩ := h.ghost; exact h.nd
theorem HasG.rng {w0 : World} {P : Nat} {m : Nat} {l : List Int} {G : Nat → Prop} {w : World} (h : HasG w0 P m l G w) {z : Int} (hz : z ∈ l) : u64ok z := by obtain ⟨F, h, _⟩ := h.ghost; exact h.rng hz
theorem HasG.after {w0 : World} {P : Nat} {m : Nat} {l : List Int} {G : Nat → Prop} {w w' : World} (h : HasG w0 P m l G w) (hb : Below w.heap.size w w') : HasG w0 P m l G w' := by
  obtain ⟨⟨F, h1, h2, h3⟩, h4, h5⟩ := h
  exact ⟨⟨F, h1.below hb, h2, h3⟩, h4.trans (hb.mono h4.size), fun x hx => Nat.lt_of_lt_of_le (h5 x hx) hb.size⟩
/-- More blocks of the call's own beside. -/
theorem HasG.more {w0 : World} {P : Nat} {m : Nat} {l : List Int} {G G' : Nat → Prop} {w w' : World} (h : HasG w0 P m l G w) (hb : Below w.heap.size w w') (hG : ∀ x, G' x → G x ∨ (w.heap.size ≤ x ∧ x < w'.heap.size)) : HasG w0 P m l G' w' := by
  obtain ⟨⟨F, h1, h2, h3⟩, h4, h5⟩ := h
  refine ⟨⟨F, h1.below hb, h2, fun x hx hf => (hG x hx).elim (fun g => h3 x g hf) (fun g => absurd (h1.lt hf) (Nat.not_lt.2 g.1))⟩, h4.trans (hb.mono h4.size), fun x hx => (hG x hx).elim (fun g => Nat.lt_of_lt_of_le (h5 x g) hb.size) (fun g => g.2)⟩
/-- Blocks of those beside are written, and new ones made. -/
theorem HasG.turn {w0 : World} {P : Nat} {m : Nat} {l : List Int} {G G' : Nat → Prop} {w w' : World} (h : HasG w0 P m l G w) (ho : Only G w w') (hG : ∀ x, G x → w0.heap.size ≤ x) (hG' : ∀ x, G' x → (G x ∨ w.heap.size ≤ x) ∧ x < w'.heap.size) : HasG w0 P m l G' w' := by
  obtain ⟨⟨F, h1, h2, h3⟩, h4, h5⟩ := h
  exact ⟨⟨F, h1.only ho (fun b hb hg => h3 b hg hb), h2, fun x hx hf => (hG' x hx).1.elim (fun g => h3 x g hf) (fun g => absurd (h1.lt hf) (Nat.not_lt.2 g))⟩, h4.trans (ho.below h4.size hG), fun x hx => (hG' x hx).2⟩
theorem has_new (mo : Int) (w : World) : Calls Try.prog 25 #[.int .i64 mo] w fun e w' => ∃ P, e = .returned (.pointer (some ⟨P, 0, none⟩)) ∧ HasG w P mo.toNat [] (fun _ => False) w' :=
  (at_new mo w).mono fun _ _ ⟨P, F, he, k1, k2, k3⟩ => ⟨P, he, ⟨F, k1, k3, fun _ hx => hx.elim⟩, k2, fun _ hx => hx.elim⟩
theorem has_add {w0 : World} {P : Nat} {m : Nat} {l : List Int} {G : Nat → Prop} {w : World} (h : HasG w0 P m l G w) (z : Int) (hz : u64ok z) (hlen : l.length < 4194304) :
   Calls Try.prog 45 #[.pointer (some ⟨P, 0, none⟩), .int .u64 z] w fun e w' => e = .returned (.tuple #[]) ∧ HasG w0 P m (addL m l z) G w' ∧ ∃ D, Only D w w' ∧ ∀ x, G x → ¬ D x := by
  obtain ⟨⟨F, h1, h2, h3⟩, h4, h5⟩ := h
  refine (at_add h1 z hz hlen).mono ?_
  rintro e w' ⟨he, F', k1, k2⟩
  refine ⟨he, ⟨⟨F', k1, fun b hb => (k2.foot b hb).elim (h2 b) (Nat.le_trans h4.size), fun x hx hf => (k2.foot x hf).elim (h3 x hx) (fun e => absurd (h5 x hx) (Nat.not_lt.2 e))⟩, h4.trans (k2.only.below h4.size h2), fun x hx => Nat.lt_of_lt_of_le (h5 x hx) k2.only.size⟩, F, k2.only, h3⟩
theorem has_remove {w0 : World} {P : Nat} {m : Nat} {l : List Int} {G : Nat → Prop} {w : World} (h : HasG w0 P m l G w) (z : Int) (hz : u64ok z) :
   Calls Try.prog 41 #[.pointer (some ⟨P, 0, none⟩), .int .u64 z] w fun e w' => e = .returned (.bool (decide (z ∈ l))) ∧ HasG w0 P m (rmL l z) G w' ∧ ∃ D, Only D w w' ∧ ∀ x, G x → ¬ D x := by
  obtain ⟨⟨F, h1, h2, h3⟩, h4, h5⟩ := h
  refine (at_remove h1 z hz).mono ?_
  rintro e w' ⟨he, F', k1, k2⟩
  refine ⟨he, ⟨⟨F', k1, fun b hb => (k2.foot b hb).elim (h2 b) (Nat.le_trans h4.size), fun x hx hf => (k2.foot x hf).elim (h3 x hx) (fun e => absurd (h5 x hx) (Nat.not_lt.2 e))⟩, h4.trans (k2.only.below h4.size h2), fun x hx => Nat.lt_of_lt_of_le (h5 x hx) k2.only.size⟩, F, k2.only, h3⟩
theorem has_limit {w0 : World} {P : Nat} {m : Nat} {l : List Int} {G : Nat → Prop} {w : World} (h : HasG w0 P m l G w) (mo : Int) :
   Calls Try.prog 38 #[.pointer (some ⟨P, 0, none⟩), .int .i64 mo] w fun e w' => e = .returned (.tuple #[]) ∧ HasG w0 P mo.toNat (cutL mo.toNat l) G w' ∧ ∃ D, Only D w w' ∧ ∀ x, G x → ¬ D x := by
  obtain ⟨⟨F, h1, h2, h3⟩, h4, h5⟩ := h
  refine (at_limit h1 mo).mono ?_
  rintro e w' ⟨he, F', k1, k2⟩
  refine ⟨he, ⟨⟨F', k1, fun b hb => (k2.foot b hb).elim (h2 b) (Nat.le_trans h4.size), fun x hx hf => (k2.foot x hf).elim (h3 x hx) (fun e => absurd (h5 x hx) (Nat.not_lt.2 e))⟩, h4.trans (k2.only.below h4.size h2), fun x hx => Nat.lt_of_lt_of_le (h5 x hx) k2.only.size⟩, F, k2.only, h3⟩
theorem has_len {w0 : World} {P : Nat} {m : Nat} {l : List Int} {G : Nat → Prop} {w : World} (h : HasG w0 P m l G w)  :
   Calls Try.prog 63 #[.pointer (some ⟨P, 0, none⟩)] w fun e w' => e = .returned (.int .i64 l.length) ∧ w = w' := by obtain ⟨F, h, _⟩ := h.ghost; exact at_len h 
theorem has_all {w0 : World} {P : Nat} {m : Nat} {l : List Int} {G : Nat → Prop} {w : World} (h : HasG w0 P m l G w)  :
   Calls Try.prog 35 #[.pointer (some ⟨P, 0, none⟩)] w fun e w' => ∃ v, e = .returned v ∧ w'.ownsRow w.heap.size 29 1 v l.length (uc l) ∧ Below w.heap.size w w' := by obtain ⟨F, h, _⟩ := h.ghost; exact at_all h 
end Go.Proofs.Ytkhmgigllcgpnaa.Gh
namespace Go.Proofs.Ytkhmgigllcgpnaa.Gh
open Go Go.RowKit Go.Lib

/-- A slice of numbers that came in. -/
def Nums (w : World) (a : Option Addr) (n : Nat) (zs : List Int) : Prop := zs.length = n ∧ ∀ j z, zs[j]? = some z → u64ok z ∧ ∃ b o, a = some ⟨b, o, none⟩ ∧ b < w.heap.size ∧ w.cell? ⟨b, o + j, none⟩ = some (.int .u64 z)
theorem cut_cut {a b : Nat} (h : a ≤ b) (l : List Int) : cutL a (cutL b l) = cutL a l := by
  unfold cutL
  rw [List.length_drop, List.drop_drop]
  congr 1
  omega
theorem cut_zero (l : List Int) : cutL 0 l = [] := by unfold cutL; rw [Nat.sub_zero, List.drop_length]
theorem cut_snoc {k : Nat} (hk : 1 ≤ k) (l : List Int) (z : Int) : cutL k (l ++ [z]) = cutL (k - 1) l ++ [z] := by
  unfold cutL
  rw [List.length_append, List.length_singleton, List.drop_append_of_le_length (by omega), show l.length + 1 - k = l.length - (k - 1) by omega]
theorem cut_has {k : Nat} (hk : 1 ≤ k) (l : List Int) (z : Int) : z ∈ cutL k (l ++ [z]) := by rw [cut_snoc hk]; simp
theorem add_all {m : Nat} {l : List Int} {z : Int} (h : l.length < m) : addL m l z = rmL l z ++ [z] := by
  unfold addL
  have := rm_len l z
  exact cut_all (by rw [List.length_append, List.length_singleton]; omega)
/-- A number that is folded to one that is not below 0. -/
theorem fold_neg (n : Int) : ∃ j : Nat, (n < 0 ∧ n = -(j : Int) - 1) ∨ (¬ n < 0 ∧ n = j) := by
  by_cases h : n < 0
  · exact ⟨(-(n + 1)).toNat, .inl ⟨h, by omega⟩⟩
  · exact ⟨n.toNat, .inr ⟨h, by omega⟩⟩
end Go.Proofs.Ytkhmgigllcgpnaa.Gh
namespace Go.Proofs.Ytkhmgigllcgpnaa.Gh
open Go Go.RowKit Go.Lib

/-- A row of numbers of the call's own, read. -/
def Cel (w : World) (g : Nat) (zs : List Int) : Prop := ∀ j z, zs[j]? = some z → w.cell? ⟨g, j, none⟩ = some (.int .u64 z)
theorem cel_of {w : World} {base g n c : Nat} {zs : List Int} (h : w.ownsRow base 29 1 (.slice (some ⟨g, 0, none⟩) n c) n (uc zs)) : Cel w g zs := by
  intro j z hj
  have hl : zs.length = n := by have := h.1; rw [uc_len] at this; omega
  have h1 := h.cellAt j (by have := (List.getElem?_eq_some_iff.1 hj).1; omega)
  rw [h1, uc_at hj]
theorem own_only {D : Nat → Prop} {w w' : World} {base : Nat} {e : TypeId} {v : Value} {n : Nat} {xs : List Value} (h : w.ownsRow base e 1 v n xs) (ho : Only D w w') (hd : ∀ b, v.ownBlock = some b → ¬ D b) : w'.ownsRow base e 1 v n xs := by
  refine ⟨h.1, ?_⟩
  rcases h.2 with hn | ⟨g, cap, cur, hv, hb, hg, rest⟩
  · exact .inl hn
  · refine .inr ⟨g, cap, cur, hv, hb, ?_, rest⟩
    rw [ho.block g (Array.getElem?_eq_some_iff.1 hg).1 (hd g (by rw [hv]; rfl))]
    exact hg
theorem own_base_le {w : World} {base : Nat} {e : TypeId} {v : Value} {n : Nat} {xs : List Value} (h : w.ownsRow base e 1 v n xs) {b : Nat} (hb : v.ownBlock = some b) : base ≤ b ∧ b < w.heap.size := by
  rcases h.2 with ⟨rfl, _⟩ | ⟨g, cap, cur, rfl, h1, hg, _⟩
  · simp [Value.ownBlock] at hb
  · obtain rfl : g = b := by simpa [Value.ownBlock] using hb
    exact ⟨h1, (Array.getElem?_eq_some_iff.1 hg).1⟩
theorem own_below {w w' : World} {base : Nat} {e : TypeId} {v : Value} {n : Nat} {xs : List Value} (h : w.ownsRow base e 1 v n xs) (hb : Below w.heap.size w w') : w'.ownsRow base e 1 v n xs := own_only h (Below.only (D := fun _ => False) hb) (fun _ _ => id)
end Go.Proofs.Ytkhmgigllcgpnaa.Gh

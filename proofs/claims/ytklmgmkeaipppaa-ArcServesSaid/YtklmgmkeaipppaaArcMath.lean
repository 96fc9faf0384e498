/-
  Plain mathematics of adaptive replacement: two rows of ids, two ghosts, the bound and the target; what the calls make of them. No program in it. No conditions.
-/
import Derived.Test.YtklmgmkeaipppaaM6
namespace Go.Proofs.Ytklmgmkeaipppaa.Ac
open Go

structure Ar where
  L : List (List Int)
  m : Nat
  b1 : List Int
  b2 : List Int
  p : Nat
  num : Int → Int
def updN (f : Int → Int) (z h : Int) : Int → Int := fun y => if y = z then h else f y
theorem updN_same (f : Int → Int) (z h : Int) : updN f z h z = h := if_pos rfl
theorem updN_other {f : Int → Int} {y z : Int} (e : y ≠ z) (h : Int) : updN f z h y = f y := if_neg e
def Ar.new : Ar := ⟨[[], []], 0, [], [], 0, fun _ => 0⟩
def Ar.has (s : Ar) (z : Int) : Bool := (rowOf s.L z).isSome
def Ar.cap (s : Ar) (n : Int) : Ar := ⟨s.L, n.toNat, Gh.cutL n.toNat s.b1, Gh.cutL n.toNat s.b2, min s.p n.toNat, s.num⟩
def okId (z : Int) : Bool := decide (0 ≤ z ∧ z ≤ 4194303)
def Ar.insB (s : Ar) (z : Int) : Bool := !s.has z && okId z
def Ar.ins (s : Ar) (z h : Int) : Ar :=
  if s.insB z then
    if h ∈ s.b1 then ⟨opFront s.L 1 z, s.m, Gh.rmL s.b1 h, s.b2, min s.m (s.p + max 1 (s.b2.length / s.b1.length)), updN s.num z h⟩
    else if h ∈ s.b2 then ⟨opFront s.L 1 z, s.m, s.b1, Gh.rmL s.b2 h, s.p - max 1 (s.b1.length / s.b2.length), updN s.num z h⟩
    else ⟨opFront s.L 0 z, s.m, s.b1, s.b2, s.p, updN s.num z h⟩
  else s
def Ar.tch (s : Ar) (z : Int) : Ar := if s.has z then { s with L := opFront s.L 1 z } else s
def Ar.rem (s : Ar) (z : Int) : Ar := { s with L := takeL s.L z, num := updN s.num z 0 }
/-- Does the victim stand in once? -/
def Ar.once (s : Ar) (h : Int) : Bool := decide (0 < (rowAt s.L 0).length) && (decide (s.p < (rowAt s.L 0).length) || (decide ((rowAt s.L 0).length = s.p) && decide (h ∈ s.b2)) || decide ((rowAt s.L 1).length = 0))
def Ar.vic (s : Ar) (h : Int) : Int := if s.once h then lastOf (rowAt s.L 0) else lastOf (rowAt s.L 1)
def Ar.out (s : Ar) (z : Int) : Ar :=
  match rowOf s.L z with
  | some 0 => { s with b1 := Gh.addL s.m s.b1 (s.num z) }
  | some 1 => { s with b2 := Gh.addL s.m s.b2 (s.num z) }
  | _ => s
def Ar.evict (s : Ar) (z : Int) : Ar := (s.out z).rem z
structure Ar.Ok (s : Ar) : Prop where
  good : GoodL s.L
  two : s.L.length = 2
  mb : (s.m : Int) ≤ 9223372036854775807
  zero : ∀ z, z ∉ s.L.flatten → s.num z = 0
theorem Ar.new_ok : Ar.new.Ok := ⟨⟨by decide, by decide, by decide, by intro z hz; simp [Ar.new] at hz⟩, rfl, by decide, fun _ _ => rfl⟩
theorem arow_some {L : List (List Int)} {z : Int} : (rowOf L z).isSome = true ↔ z ∈ L.flatten := by
  constructor
  · intro h
    apply Decidable.byContradiction
    intro hn
    rw [rowOf_none'.2 hn] at h; cases h
  · intro h
    cases e : rowOf L z with
    | none => exact absurd h (rowOf_none'.1 e)
    | some i => rfl
theorem opF_good {L : List (List Int)} (h : GoodL L) (r z : Int) : GoodL (opFront L r z) := by
  by_cases hm : May L.length r z
  · rw [opFront_yes hm]
    unfold May at hm
    exact h.front (by omega) (by omega) (by omega)
  · rw [opFront_no hm]; exact h
theorem mem_frontL {L : List (List Int)} {i : Nat} (hi : i < L.length) {z y : Int} : y ∈ (frontL L i z).flatten ↔ y = z ∨ y ∈ L.flatten := by
  have hi' : (takeL L z)[i]? = some ([] ++ (takeL L z)[i]?.getD []) := by
    rw [List.getElem?_eq_getElem (by rw [takeL_len]; exact hi)]; rfl
  have p := flat_ins z hi'
  unfold frontL
  rw [show (takeL L z)[i]?.getD [] = [] ++ (takeL L z)[i]?.getD [] from rfl]
  rw [show z :: ([] ++ (takeL L z)[i]?.getD []) = [] ++ z :: (takeL L z)[i]?.getD [] from rfl]
  rw [p.mem_iff, List.mem_cons, mem_take]
  by_cases e : y = z
  · simp [e]
  · simp [e]
theorem opF_mem {L : List (List Int)} {r z y : Int} (hm : May L.length r z) : y ∈ (opFront L r z).flatten ↔ y = z ∨ y ∈ L.flatten := by
  rw [opFront_yes hm]
  unfold May at hm
  exact mem_frontL (by omega)
theorem may2 {L : List (List Int)} (h : L.length = 2) {r z : Int} (h0 : 0 ≤ r) (h1 : r < 2) (hz : okId z = true) : May L.length r z := by
  have := of_decide_eq_true hz
  unfold May; rw [h]; exact ⟨h0, h1, this⟩
theorem Ar.Ok.cap {s : Ar} (h : s.Ok) {n : Int} (hn : n ≤ 9223372036854775807) : (s.cap n).Ok := ⟨h.good, h.two, by show ((n.toNat : Nat) : Int) ≤ _; omega, h.zero⟩
theorem Ar.Ok.ins {s : Ar} (h : s.Ok) (z x : Int) : (s.ins z x).Ok := by
  have key : ∀ r, 0 ≤ r → r < 2 → s.insB z = true → GoodL (opFront s.L r z) ∧ (opFront s.L r z).length = 2 ∧ ∀ y, y ∉ (opFront s.L r z).flatten → updN s.num z x y = 0 := fun r r0 r1 hb => by
    have hz : okId z = true := by unfold Ar.insB at hb; exact (Bool.and_eq_true _ _ ▸ hb).2
    refine ⟨opF_good h.good _ _, by rw [opFront_len]; exact h.two, fun y hy => ?_⟩
    rw [opF_mem (may2 h.two r0 r1 hz)] at hy
    rw [updN_other (fun e => hy (.inl e))]
    exact h.zero y (fun e => hy (.inr e))
  unfold Ar.ins
  split
  · rename_i hb
    split
    · obtain ⟨k1, k2, k3⟩ := key 1 (by decide) (by decide) hb
      exact ⟨k1, k2, h.mb, k3⟩
    · split
      · obtain ⟨k1, k2, k3⟩ := key 1 (by decide) (by decide) hb
        exact ⟨k1, k2, h.mb, k3⟩
      · obtain ⟨k1, k2, k3⟩ := key 0 (by decide) (by decide) hb
        exact ⟨k1, k2, h.mb, k3⟩
  · exact h
theorem opF_sup {L : List (List Int)} {r z y : Int} (h : y ∉ (opFront L r z).flatten) : y ∉ L.flatten := by
  by_cases hm : May L.length r z
  · rw [opF_mem hm] at h; exact fun e => h (.inr e)
  · rwa [opFront_no hm] at h
theorem Ar.Ok.tch {s : Ar} (h : s.Ok) (z : Int) : (s.tch z).Ok := by
  unfold Ar.tch
  split
  · exact ⟨opF_good h.good _ _, by show (opFront _ _ _).length = 2; rw [opFront_len]; exact h.two, h.mb, fun y hy => h.zero y (opF_sup hy)⟩
  · exact h
theorem Ar.Ok.rem {s : Ar} (h : s.Ok) (z : Int) : (s.rem z).Ok := by
  refine ⟨h.good.take z, by show (takeL _ _).length = 2; rw [takeL_len]; exact h.two, h.mb, fun y hy => ?_⟩
  show updN s.num z 0 y = 0
  by_cases e : y = z
  · rw [e, updN_same]
  · rw [updN_other e]
    exact h.zero y (fun hm => hy (mem_take.2 ⟨hm, e⟩))
theorem Ar.Ok.out {s : Ar} (h : s.Ok) (z : Int) : (s.out z).Ok := by
  unfold Ar.out
  split
  · exact ⟨h.good, h.two, h.mb, h.zero⟩
  · exact ⟨h.good, h.two, h.mb, h.zero⟩
  · exact h
theorem Ar.Ok.evict {s : Ar} (h : s.Ok) (z : Int) : (s.evict z).Ok := (h.out z).rem z
theorem out_L (s : Ar) (z : Int) : (s.out z).L = s.L ∧ (s.out z).num = s.num ∧ (s.out z).m = s.m ∧ (s.out z).p = s.p := by
  unfold Ar.out
  split <;> exact ⟨rfl, rfl, rfl, rfl⟩

/-! Ids with their numbers, in a row -/
/-- The cells of a row of ids with their numbers. -/
def nc : List (Int × Int) → List Value
  | [] => []
  | e :: l => .int .i64 e.1 :: .int .u64 e.2 :: nc l
theorem nc_len (l : List (Int × Int)) : (nc l).length = l.length * 2 := by
  induction l with
  | nil => rfl
  | cons e l ih => show (nc l).length + 1 + 1 = (l.length + 1) * 2; omega
theorem nc_app (a b : List (Int × Int)) : nc (a ++ b) = nc a ++ nc b := by
  induction a with
  | nil => rfl
  | cons e a ih => show _ :: _ :: nc (a ++ b) = _; rw [ih]; rfl
theorem nc_at {l : List (Int × Int)} {i : Nat} {e : Int × Int} (h : l[i]? = some e) : (nc l)[i * 2]? = some (.int .i64 e.1) ∧ (nc l)[i * 2 + 1]? = some (.int .u64 e.2) := by
  induction l generalizing i with
  | nil => simp at h
  | cons a l ih =>
    cases i with
    | zero => simp at h; subst h; exact ⟨rfl, rfl⟩
    | succ i =>
      have h' : l[i]? = some e := by simpa using h
      obtain ⟨h1, h2⟩ := ih h'
      rw [show (i + 1) * 2 = i * 2 + 1 + 1 by omega]
      exact ⟨h1, h2⟩
/-- The row hs says the numbers of the ids that stand. -/
structure Says (hs : List (Int × Int)) (L : List (List Int)) (num : Int → Int) : Prop where
  nd : (hs.map (·.1)).Nodup
  mem : ∀ z, z ∈ hs.map (·.1) ↔ z ∈ L.flatten
  val : ∀ e ∈ hs, num e.1 = e.2
def cutH (hs : List (Int × Int)) (z : Int) : List (Int × Int) := hs.filter (fun e => decide (e.1 ≠ z))
theorem cutH_map (hs : List (Int × Int)) (z : Int) : (cutH hs z).map (·.1) = (hs.map (·.1)).filter (fun y => decide (y ≠ z)) := by
  unfold cutH
  induction hs with
  | nil => rfl
  | cons e l ih =>
    rw [List.map_cons, List.filter_cons, List.filter_cons]
    by_cases h : e.1 = z
    · simp only [h, ne_eq, not_true_eq_false, decide_false, Bool.false_eq_true, if_false]; exact ih
    · simp only [h, ne_eq, not_false_eq_true, decide_true, if_true, List.map_cons]; rw [ih]
theorem Says.cut {hs : List (Int × Int)} {L : List (List Int)} {num : Int → Int} (h : Says hs L num) (z : Int) : Says (cutH hs z) (takeL L z) (updN num z 0) := by
  refine ⟨by rw [cutH_map]; exact h.nd.filter _, fun y => ?_, fun e he => ?_⟩
  · rw [cutH_map, List.mem_filter, h.mem y, mem_take]; simp
  · have h1 := List.mem_filter.1 he
    have hne : e.1 ≠ z := by simpa using h1.2
    rw [updN_other hne]; exact h.val e h1.1
theorem Says.snoc {hs : List (Int × Int)} {L L' : List (List Int)} {num : Int → Int} (h : Says hs L num) {z x : Int} (hz : z ∉ L.flatten) (hL : ∀ y, y ∈ L'.flatten ↔ y = z ∨ y ∈ L.flatten) : Says (hs ++ [(z, x)]) L' (updN num z x) := by
  have hzn : z ∉ hs.map (·.1) := fun e => hz ((h.mem z).1 e)
  refine ⟨?_, fun y => ?_, fun e he => ?_⟩
  · rw [List.map_append, List.nodup_append]
    refine ⟨h.nd, by simp, fun a ha b hb e => hzn ?_⟩
    have : b = z := by simpa using hb
    rw [← this, ← e]; exact ha
  · rw [List.map_append, List.mem_append, h.mem y, hL y]; simp [or_comm]
  · rcases List.mem_append.1 he with h1 | h1
    · rw [updN_other (fun e2 => hzn (by rw [← e2]; exact List.mem_map_of_mem h1))]; exact h.val e h1
    · obtain rfl := List.mem_singleton.1 h1
      exact updN_same _ _ _
theorem Says.same {hs : List (Int × Int)} {L L' : List (List Int)} {num : Int → Int} (h : Says hs L num) (hL : ∀ y, y ∈ L'.flatten ↔ y ∈ L.flatten) : Says hs L' num := ⟨h.nd, fun z => (h.mem z).trans (hL z).symm, h.val⟩
theorem Says.len {hs : List (Int × Int)} {L : List (List Int)} {num : Int → Int} (h : Says hs L num) (hg : GoodL L) : hs.length ≤ 4194304 := by
  have := nodup_le 4194304 h.nd (fun z hz => by have := hg.rng z ((h.mem z).1 hz); omega)
  rwa [List.length_map] at this
end Go.Proofs.Ytklmgmkeaipppaa.Ac

/-
  The iterator over all links of rows of buckets (chain.links) at this program, for every loop body that keeps what lay there: it goes through all entries of all rows, each bucket from its front, or stops where a round says so. Conditions: the chains lie below n₀ when it begins.
-/
import Derived.Test.YtfbkfbghejeknaaChainTab
import Derived.RangeFuncNested
import Derived.RangeFuncBound
import Derived.RangeFuncCalls
import Derived.RangeFuncLeaves
import Derived.RangeFuncBox
import Derived.Shelf.Abstract
import Derived.Shelf.RegionOpen
import Derived.OwnWalkIn
import Derived.TacticsInMore
import Derived.LoopNIn
import Derived.LoopIn
import Derived.Maps.AppendAt
import Derived.WalkMore
namespace Go.Proofs.Ytfbkfbghejeknaa
open Go Go.Shelf Go.RowKit Go.Lib

attribute [local go_sem] Oper.semAt_some

theorem scope_in {c : Code} {n : Nat} {P : Program} {Q : Exit → Act → World → Prop} {a : Act} {w : World} (h : c.wpIn Fence.wide n P (Exit.noGoto Q) a w) : (Code.scope c).wpIn Fence.wide n P Q a w := wpIn_wide.2 (wp_scope_straight (wpIn_wide.1 h))
/-- A row of buckets that is handed in: its slice's address and capacity, where its first bucket hangs, the buckets. -/
structure Rw where
  a : Option Addr
  c : Nat
  B : Nat
  o : Nat
  ls : List (List En)
def Rw.v (r : Rw) : Value := .slice r.a r.ls.length r.c
def lks : Addr → List En → List (Addr × En)
  | _, [] => []
  | a, e :: l => (a, e) :: lks ⟨e.b, 2, none⟩ l
def bucks (B : Nat) : Nat → List (List En) → List (Addr × En)
  | _, [] => []
  | o, l :: ls => lks ⟨B, o, none⟩ l ++ bucks B (o + 1) ls
def alls (rs : List Rw) : List (Addr × En) := (rs.map fun r => bucks r.B r.o r.ls).flatten

theorem bucks_append (B o : Nat) (a b : List (List En)) : bucks B o (a ++ b) = bucks B o a ++ bucks B (o + a.length) b := by
  induction a generalizing o with
  | nil => rfl
  | cons l a ih =>
    show lks _ l ++ bucks B (o + 1) (a ++ b) = lks _ l ++ bucks B (o + 1) a ++ _
    rw [ih, List.length_cons, List.append_assoc, Nat.add_right_comm]; rfl
theorem bucks_snoc (B o i : Nat) (ls : List (List En)) (l : List En) (h : ls[i]? = some l) : bucks B o (ls.take (i + 1)) = bucks B o (ls.take i) ++ lks ⟨B, o + i, none⟩ l := by
  have hl : i < ls.length := (List.getElem?_eq_some_iff.1 h).1
  have e1 : ls.take (i + 1) = ls.take i ++ [l] := by rw [List.take_add_one, h]; rfl
  rw [e1, bucks_append, List.length_take, Nat.min_eq_left (Nat.le_of_lt hl)]
  show _ ++ (lks _ l ++ []) = _
  rw [List.append_nil]
theorem bucks_pre (B o i : Nat) (ls : List (List En)) (l : List En) (h : ls[i]? = some l) : ∃ r, bucks B o ls = bucks B o (ls.take i) ++ lks ⟨B, o + i, none⟩ l ++ r := by
  rw [← bucks_snoc B o i ls l h]
  exact ⟨bucks B (o + (ls.take (i + 1)).length) (ls.drop (i + 1)), by rw [← bucks_append, List.take_append_drop]⟩
theorem alls_snoc (rs : List Rw) (j : Nat) (r : Rw) (h : rs[j]? = some r) : alls (rs.take (j + 1)) = alls (rs.take j) ++ bucks r.B r.o r.ls := by
  have e1 : rs.take (j + 1) = rs.take j ++ [r] := by rw [List.take_add_one, h]; rfl
  unfold alls
  rw [e1]; simp
theorem alls_pre (rs : List Rw) (j : Nat) (r : Rw) (h : rs[j]? = some r) : ∃ q, alls rs = alls (rs.take j) ++ bucks r.B r.o r.ls ++ q := by
  rw [← alls_snoc rs j r h]
  exact ⟨alls (rs.drop (j + 1)), by unfold alls; rw [← List.flatten_append, ← List.map_append, List.take_append_drop]⟩

/-- The chain l hangs at a, in blocks below n₀. -/
def Chn (n₀ : Nat) (w : World) : Addr → List En → Prop
  | a, [] => a.block < n₀ ∧ w.cell? a = some (.pointer none)
  | a, e :: l => a.block < n₀ ∧ w.cell? a = some (.pointer (some ⟨e.b, 0, none⟩)) ∧ e.b < n₀ ∧ w.cell? ⟨e.b, 0, none⟩ = some (.string e.k) ∧ Chn n₀ w ⟨e.b, 2, none⟩ l
theorem Chn.len {n₀ : Nat} {w : World} : ∀ {a : Addr} {l m : List En}, Chn n₀ w a l → Chn n₀ w a m → l.length = m.length
  | _, [], [], _, _ => rfl
  | _, [], _ :: _, ⟨_, h⟩, ⟨_, k, _⟩ => by rw [h] at k; cases k
  | _, _ :: _, [], ⟨_, k, _⟩, ⟨_, h⟩ => by rw [h] at k; cases k
  | _, x :: l, y :: m, ⟨_, h, _, _, hr⟩, ⟨_, k, _, _, kr⟩ => by
    rw [h] at k
    have e : x.b = y.b := congrArg Addr.block (Option.some.inj (Value.pointer.inj (Option.some.inj k)))
    rw [← e] at kr
    rw [List.length_cons, List.length_cons, Chn.len hr kr]
open Classical in
/-- How many entries still hang behind a link: the inner loop's measure. -/
noncomputable def left (n₀ : Nat) (w : World) (v : Value) : Nat :=
  if h : ∃ r : Addr × List En, v = .pointer (some r.1) ∧ Chn n₀ w r.1 r.2 then (Classical.choose h).2.length else 0
theorem left_eq {n₀ : Nat} {w : World} {a : Addr} {l : List En} (h : Chn n₀ w a l) : left n₀ w (.pointer (some a)) = l.length := by
  have hex : ∃ r : Addr × List En, Value.pointer (some a) = .pointer (some r.1) ∧ Chn n₀ w r.1 r.2 := ⟨(a, l), rfl, h⟩
  unfold left
  rw [dif_pos hex]
  obtain ⟨e, hl⟩ := Classical.choose_spec hex
  have e' : a = (Classical.choose hex).1 := by simpa using e
  rw [← e'] at hl
  exact Chn.len hl h

/-- What a round may know of the link that it is handed. -/
structure LinkOk (n₀ : Nat) (w : World) (x : Addr × En) : Prop where
  la : x.1.block < n₀
  ca : w.cell? x.1 = some (.pointer (some ⟨x.2.b, 0, none⟩))
  le : x.2.b < n₀
  ce : w.cell? ⟨x.2.b, 0, none⟩ = some (.string x.2.k)
abbrev Lk (n₀ : Nat) (w : World) : Type := { x : Addr × En // LinkOk n₀ w x }
def vals {n₀ : Nat} {w : World} (l : List (Lk n₀ w)) : List (Addr × En) := l.map fun x => x.1
theorem vals_snoc {n₀ : Nat} {w : World} (l : List (Lk n₀ w)) (x : Lk n₀ w) : vals (l ++ [x]) = vals l ++ [x.1] := by simp [vals]
theorem vals_len {n₀ : Nat} {w : World} (l : List (Lk n₀ w)) : (vals l).length = l.length := by simp [vals]

/-- The rows lie in memory. -/
structure RowsAt (n₀ : Nat) (w : World) (R : Nat) (rs : List Rw) : Prop where
  lt : R < n₀
  cell : ∀ j r, rs[j]? = some r → w.cell? ⟨R, j, none⟩ = some r.v
  addr : ∀ r ∈ rs, r.ls ≠ [] → r.a = some ⟨r.B, r.o, none⟩
  chn : ∀ r ∈ rs, ∀ i l, r.ls[i]? = some l → Chn n₀ w ⟨r.B, r.o + i, none⟩ l
  small : rs.length ≤ 1000000000 ∧ ∀ r ∈ rs, r.ls.length ≤ 1000000000

set_option maxRecDepth 100000 in
set_option maxHeartbeats 1000000 in
theorem links1_in (n l Bn n₀ R m : Nat) (rs : List Rw) (w0 W : World) (hw : Below n₀ w0 W) (hR : RowsAt n₀ w0 R rs) (hBn : W.cell? ⟨Bn, 0, none⟩ = some (.slice (some ⟨R, 0, none⟩) rs.length m))
    (J Jx : List (Lk n₀ w0) → World → Prop)
    (hY : ∀ pre x W, J pre W → pre.length < (alls rs).length → YieldAt Fence.wide (n - 1) Try.prog l #[.pointer (some x.1.1)] W fun e W' =>
      (e = .returned (.bool true) ∧ J (pre ++ [x]) W' ∧ Below n₀ W W') ∨ (e = .returned (.bool false) ∧ Jx (pre ++ [x]) W'))
    (h0 : J [] W) :
    CallsIn Fence.wide n Try.prog 48 #[.func (.yield l) #[] #[], .pointer (some ⟨Bn, 0, none⟩)] W fun e W' => (∃ v, e = .returned v) ∧
      ((∃ ys, vals ys = alls rs ∧ J ys W') ∨ (∃ pre, vals pre <+: alls rs ∧ Jx pre W')) := by
  have sm := hR.small
  refine callsIn_of_wp Try.func48 rfl trivial ?_ rfl
  simp only [Try.ntmps48, List.size_toArray, List.length_cons, List.length_nil, Nat.reduceAdd, Nat.reduceSub, Array.replicate_succ, Array.replicate_zero, List.push_toArray, List.append_toArray, List.nil_append, List.cons_append]
  gi_wp2
  refine scope_in ?_
  gi_wp2
  refine wpIn_label ?_
  gi_wp2
  gi_loopw [9] (fun p wr => ∃ (j : Nat) (pre : List (Lk n₀ w0)), p = .int .i64 j ∧ j ≤ rs.length ∧ Hid (vals pre = alls (rs.take j)) ∧ J pre wr ∧ Below n₀ w0 wr)
    (fun p _ => rs.length - (intOf p).toNat)
  case atStart =>
    exact ⟨0, [], rfl, Nat.zero_le _, hid rfl, h0, hw⟩
  case round =>
    obtain ⟨j, pre, rfl, hj, hpre, hJ, hB⟩ := hrel
    by_cases hlt : j < rs.length
    · obtain ⟨r, hr⟩ : ∃ r, rs[j]? = some r := ⟨_, List.getElem?_eq_getElem hlt⟩
      have hrm := List.mem_of_getElem? hr
      have hc := (hB.cell (p := ⟨R, j, none⟩) hR.lt).trans (hR.cell j r hr)
      have ha := hR.addr r hrm
      have hchn := hR.chn r hrm
      have hsl := sm.2 r hrm
      obtain ⟨q, hq⟩ := alls_pre rs j r hr
      replace hq := hid hq
      have hs := hid (alls_snoc rs j r hr)
      unfold Rw.v at hc
      obtain ⟨ra, rc, rB, ro, ls⟩ := r
      dsimp only at ha hchn hq hs hc hsl
      clear hr hrm
      have s1 := sm.1
      clear hR sm
      generalize hN : rs.length = N at *
      clear hN
      gi_wp2
      gi_loopw [15] (fun p wr => ∃ (i : Nat) (pre : List (Lk n₀ w0)), p = .int .i64 i ∧ i ≤ ls.length ∧ Hid (vals pre = alls (rs.take j) ++ bucks rB ro (ls.take i)) ∧ J pre wr ∧ Below n₀ w0 wr)
        (fun p _ => ls.length - (intOf p).toNat)
      case atStart =>
        exact ⟨0, pre, rfl, Nat.zero_le _, hid (by rw [hpre.out]; simp [bucks]), hJ, hB⟩
      case round =>
        clear hpre hJ hB hc
        obtain ⟨i, pre, rfl, hi, hpre, hJ, hB⟩ := hrel
        by_cases hlt2 : i < ls.length
        · obtain ⟨lb, hlb⟩ : ∃ lb, ls[i]? = some lb := ⟨_, List.getElem?_eq_getElem hlt2⟩
          have hch := hchn i lb hlb
          obtain ⟨q2, hq2⟩ := bucks_pre rB ro i ls lb hlb
          replace hq2 := hid hq2
          have hs2 := hid (bucks_snoc rB ro i ls lb hlb)
          obtain rfl := ha (fun e => by rw [e] at hlt2; cases hlt2)
          clear hlb hchn
          gi_wp2
          gi_loopw [6] (fun p wr => ∃ (a : Addr) (rest : List En) (dn : List (Addr × En)) (pre : List (Lk n₀ w0)), p = .pointer (some a) ∧ Chn n₀ w0 a rest ∧ Hid (lks ⟨rB, ro + i, none⟩ lb = dn ++ lks a rest) ∧ Hid (vals pre = alls (rs.take j) ++ bucks rB ro (ls.take i) ++ dn) ∧ J pre wr ∧ Below n₀ w0 wr)
            (fun p _ => left n₀ w0 p)
          case atStart =>
            exact ⟨⟨rB, ro + i, none⟩, lb, [], pre, rfl, hch, hid rfl, hid (by rw [hpre.out, List.append_nil]), hJ, hB⟩
          case round =>
            clear hpre hJ hB hch
            obtain ⟨a, rest, dn, pre, rfl, hch, hdn, hpre, hJ, hB⟩ := hrel
            cases rest with
            | nil =>
              obtain ⟨g1, g2⟩ := hch
              have g3 := (hB.cell g1).trans g2
              have hE := hid (show vals pre = alls (rs.take j) ++ bucks rB ro (ls.take (i + 1)) by rw [hs2.out, hpre.out, hdn.out]; simp [lks])
              clear hpre hdn
              gi_wp2
              go_roundw
              case rel => exact ⟨i + 1, pre, by go_num, by omega, hE, hJ, hB⟩
              case measure => simp [intOf] <;> omega
            | cons e rest =>
              have hch' := hch
              obtain ⟨g1, g2, g4, g5, hch2⟩ := hch
              have hx : LinkOk n₀ w0 (a, e) := ⟨g1, g2, g4, g5⟩
              have g3 := (hB.cell g1).trans g2
              have hE := hid (show vals (pre ++ [⟨(a, e), hx⟩]) = alls (rs.take j) ++ bucks rB ro (ls.take i) ++ (dn ++ [(a, e)]) by rw [vals_snoc, hpre.out]; simp)
              have hD := hid (show lks ⟨rB, ro + i, none⟩ lb = (dn ++ [(a, e)]) ++ lks ⟨e.b, 2, none⟩ rest by rw [hdn.out]; simp [lks])
              have hP := hid (show vals (pre ++ [⟨(a, e), hx⟩]) <+: alls rs by
                rw [hE.out, hq.out, hq2.out, hD.out]
                exact ⟨lks ⟨e.b, 2, none⟩ rest ++ q2 ++ q, by simp only [List.append_assoc]⟩)
              have hlen : pre.length < (alls rs).length := by
                have := hP.out.length_le
                rw [vals_len] at this; simp at this; omega
              have hm1 := left_eq hch'
              have hm2 := left_eq hch2
              clear hpre hdn hch'
              obtain ⟨fn, tmps, assign, body, hy, hR⟩ := hY pre ⟨(a, e), hx⟩ wr hJ hlen
              dsimp only at hy
              gi_wp2
              refine ⟨fun h => (by cases h), hR.mono ?_⟩
              rintro e' W3 (⟨rfl, hJ3, hk3⟩ | ⟨rfl, hJx3⟩)
              · have hB3 := hB.trans hk3
                have g6 := (hB3.cell g1).trans g2
                clear hR hy
                gi_wp2
                go_roundw
                case rel => exact ⟨⟨e.b, 2, none⟩, rest, dn ++ [(a, e)], _, rfl, hch2, hD, hE, hJ3, hB3⟩
                case measure => rw [hm1, hm2]; simp
              · clear hR hy
                gi_wp2
                rw [Exit.noGoto_normal]
                go_end0
                exact ⟨⟨_, rfl⟩, .inr ⟨_, hP.out, hJx3⟩⟩
        · have hE := hid (show vals pre = alls (rs.take (j + 1)) by rw [hs.out, hpre.out, show ls.take i = ls from List.take_of_length_le (by omega)])
          clear hpre
          gi_wp2
          go_roundw
          case rel => exact ⟨j + 1, pre, by go_num, by omega, hE, hJ, hB⟩
          case measure => simp [intOf] <;> omega
    · have hE := hid (show vals pre = alls rs by rw [hpre.out, List.take_of_length_le (by omega)])
      clear hpre hR
      gi_wp2
      rw [Exit.noGoto_normal]
      go_end0
      exact ⟨⟨_, rfl⟩, .inl ⟨pre, hE.out, hJ⟩⟩

set_option maxHeartbeats 1000000 in
/-- chain.links: the rows are boxed; the function value captures the box. -/
theorem links_in (n R k m : Nat) (w : World) :
    CallsIn Fence.wide n Try.prog 44 #[.slice (some ⟨R, 0, none⟩) k m] w fun e w' => e = .returned (.func (.func 48) #[] #[.pointer (some ⟨w.heap.size, 0, none⟩)]) ∧ w' = w.alloc (.cells #[.slice (some ⟨R, 0, none⟩) k m] 74) := by
  refine callsIn_of_wp Try.func44 rfl trivial ?_ rfl
  simp only [Try.ntmps44, List.size_toArray, List.length_cons, List.length_nil, Nat.reduceAdd, Nat.reduceSub, Array.replicate_succ, Array.replicate_zero, List.push_toArray, List.append_toArray, List.nil_append, List.cons_append]
  gi_wp2
  go_ret
  exact ⟨rfl, rfl⟩

/-- What it hands back goes through all entries in order, or stops where a round says so. -/
theorem links_stops (n Bn n₀ R m : Nat) (rs : List Rw) (w : World) (hn : n₀ ≤ w.heap.size) (hBn : Bn < w.heap.size) (hc : w.cell? ⟨Bn, 0, none⟩ = some (.slice (some ⟨R, 0, none⟩) rs.length m)) (hR : RowsAt n₀ w R rs) :
    SeqStopsK Fence.wide n Try.prog 48 #[.pointer (some ⟨Bn, 0, none⟩)] (fun x : Lk n₀ w => #[Value.pointer (some x.1.1)]) (Below n₀) (fun ys => vals ys = alls rs) (fun pre => vals pre <+: alls rs) (alls rs).length w := fun l J Jx W hW _ _ hY h0 =>
  links1_in n l Bn n₀ R m rs w W (hW.mono hn) hR ((hW.cell (p := ⟨Bn, 0, none⟩) hBn).trans hc) J Jx hY h0
end Go.Proofs.Ytfbkfbghejeknaa

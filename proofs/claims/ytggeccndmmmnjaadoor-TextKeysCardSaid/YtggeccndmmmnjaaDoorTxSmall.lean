/-
  The reader in memory, and the short functions of package text at this program: key, number, seconds, command, mode, need, off. Conditions: the package variables hold what they were laid with.
-/
import Derived.Test.YtggeccndmmmnjaaDoorTxMath
import Derived.Test.YtggeccndmmmnjaaDoorNumsS
import Derived.Test.YtggeccndmmmnjaaDoorWordsJoin
import Derived.Test.YtggeccndmmmnjaaDoorArenaBase
import Derived.Recover
import Derived.Defers
import Derived.WalkLawsBesides
namespace Go.Proofs.YtggeccndmmmnjaaDoor.Tx
open Go Go.RowKit Go.Lib Md

theorem hidc {p : Prop} (h : p) : Hid p := h
/-- What a line is given up with. -/
abbrev upE (why : List UInt8) : PanicEntry := { v := .iface 60 (.string (S why)), recovered := false }

set_option maxRecDepth 100000 in
theorem key_ok (k : List UInt8) (h : keyB k = true) (w : World) :
    Calls Tryd.prog 47 #[.string (S k)] w fun e w' => e = .returned (.string (S k)) ∧ w = w' := by
  have hk := key_any (S k) w
  rw [S_list, h] at hk
  clear h
  go_enter Tryd.func47, Tryd.ntmps47
  go_wp2_with fail
  refine hk.mono ?_
  rintro e w1 ⟨rfl, rfl⟩
  go_wp2_with fail
  go_ret
  exact ⟨rfl, rfl⟩
set_option maxRecDepth 100000 in
theorem key_no (k : List UInt8) (h : keyB k = false) (w : World) :
    Calls Tryd.prog 47 #[.string (S k)] w fun e w' => e = .panicked [upE mLine] ∧ w = w' := by
  have hk := key_any (S k) w
  rw [S_list, h] at hk
  clear h
  go_enter Tryd.func47, Tryd.ntmps47
  go_wp2_with fail
  refine hk.mono ?_
  rintro e w1 ⟨rfl, rfl⟩
  go_wp2_with fail
  exact ⟨rfl, rfl, rfl⟩

set_option maxRecDepth 100000 in
theorem number_ok (k : List UInt8) (most n : Nat) (why : List UInt8) (h : numU k most = some n) (w : World) (hv : Nu.Vars w) :
    Calls Tryd.prog 46 #[.string (S k), .int .u64 most, .string (S why)] w fun e w' => e = .returned (.int .u64 n) ∧ Below w.heap.size w w' := by
  have hk := Nu.parse_any (S k) w hv
  rw [S_list] at hk
  unfold numU at h
  cases hp : Nu.parseU k with
  | none => rw [hp] at h; cases h
  | some m =>
    rw [hp] at h hk
    have h : (if most < m then none else some m) = some n := h
    have hl : ¬ most < m := fun e => by rw [if_pos e] at h; cases h
    rw [if_neg hl] at h
    cases h
    have i0 : ¬ (most : Int) < (n : Int) := by omega
    have hk : Calls Tryd.prog _ _ w fun e w' => e = .returned (.tuple #[.int .u64 n, .bool true]) ∧ _ := hk
    clear hl hp
    go_enter Tryd.func46, Tryd.ntmps46
    go_wp2_with fail
    refine hk.mono ?_
    rintro e w1 ⟨rfl, hb⟩
    go_wp2_with fail
    go_ret
    exact ⟨rfl, hb⟩
set_option maxRecDepth 100000 in
theorem number_no (k : List UInt8) (most : Nat) (why : List UInt8) (h : numU k most = none) (w : World) (hv : Nu.Vars w) :
    Calls Tryd.prog 46 #[.string (S k), .int .u64 most, .string (S why)] w fun e w' => e = .panicked [upE why] ∧ Below w.heap.size w w' := by
  have hk := Nu.parse_any (S k) w hv
  rw [S_list] at hk
  unfold numU at h
  cases hp : Nu.parseU k with
  | none =>
    rw [hp] at hk
    have hk : Calls Tryd.prog _ _ w fun e w' => e = .returned (.tuple #[.int .u64 0, .bool false]) ∧ _ := hk
    clear hp h
    go_enter Tryd.func46, Tryd.ntmps46
    go_wp2_with fail
    refine hk.mono ?_
    rintro e w1 ⟨rfl, hb⟩
    go_wp2_with fail
    exact ⟨rfl, rfl, hb⟩
  | some m =>
    rw [hp] at h hk
    have h : (if most < m then none else some m) = none := h
    have hl : most < m := by
      by_cases e : most < m
      · exact e
      · rw [if_neg e] at h; cases h
    have i0 : (most : Int) < (m : Int) := by omega
    have hk : Calls Tryd.prog _ _ w fun e w' => e = .returned (.tuple #[.int .u64 m, .bool true]) ∧ _ := hk
    clear hl hp h
    go_enter Tryd.func46, Tryd.ntmps46
    go_wp2_with fail
    refine hk.mono ?_
    rintro e w1 ⟨rfl, hb⟩
    go_wp2_with fail
    exact ⟨rfl, rfl, hb⟩

set_option maxRecDepth 100000 in
theorem seconds_ok (k : List UInt8) (x : Int) (why : List UInt8) (h : secs k = some x) (w : World) (hv : Nu.Vars w) :
    Calls Tryd.prog 44 #[.string (S k), .string (S why)] w fun e w' => e = .returned (.int .i64 x) ∧ Below w.heap.size w w' := by
  have hk := Nu.signed_any (S k) w hv
  rw [S_list] at hk
  unfold secs at h
  cases hp : Nu.signedU k with
  | none => rw [hp] at h; cases h
  | some m =>
    rw [hp] at h hk
    have h : (if m < -1099511627776 ∨ 1099511627776 < m then none else some m) = some x := h
    have hl : ¬ (m < -1099511627776 ∨ 1099511627776 < m) := fun e => by rw [if_pos e] at h; cases h
    rw [if_neg hl] at h
    cases h
    have i0 : ¬ x < -1099511627776 := fun e => hl (.inl e)
    have i1 : ¬ 1099511627776 < x := fun e => hl (.inr e)
    have hk : Calls Tryd.prog _ _ w fun e w' => e = .returned (.tuple #[.int .i64 x, .bool true]) ∧ _ := hk
    clear hl hp
    go_enter Tryd.func44, Tryd.ntmps44
    go_wp2_with fail
    refine hk.mono ?_
    rintro e w1 ⟨rfl, hb⟩
    go_wp2_with fail
    go_ret
    exact ⟨rfl, hb⟩
set_option maxRecDepth 100000 in
theorem seconds_no (k : List UInt8) (why : List UInt8) (h : secs k = none) (w : World) (hv : Nu.Vars w) :
    Calls Tryd.prog 44 #[.string (S k), .string (S why)] w fun e w' => e = .panicked [upE why] ∧ Below w.heap.size w w' := by
  have hk := Nu.signed_any (S k) w hv
  rw [S_list] at hk
  unfold secs at h
  cases hp : Nu.signedU k with
  | none =>
    rw [hp] at hk
    have hk : Calls Tryd.prog _ _ w fun e w' => e = .returned (.tuple #[.int .i64 0, .bool false]) ∧ _ := hk
    clear hp h
    go_enter Tryd.func44, Tryd.ntmps44
    go_wp2_with fail
    refine hk.mono ?_
    rintro e w1 ⟨rfl, hb⟩
    go_wp2_with fail
    exact ⟨rfl, rfl, hb⟩
  | some m =>
    rw [hp] at h hk
    have h : (if m < -1099511627776 ∨ 1099511627776 < m then none else some m) = none := h
    have hl : m < -1099511627776 ∨ 1099511627776 < m := by
      by_cases e : m < -1099511627776 ∨ 1099511627776 < m
      · exact e
      · rw [if_neg e] at h; cases h
    have hk : Calls Tryd.prog _ _ w fun e w' => e = .returned (.tuple #[.int .i64 m, .bool true]) ∧ _ := hk
    clear hp h
    by_cases i0 : m < -1099511627776
    · clear hl
      go_enter Tryd.func44, Tryd.ntmps44
      go_wp2_with fail
      refine hk.mono ?_
      rintro e w1 ⟨rfl, hb⟩
      go_wp2_with fail
      exact ⟨rfl, rfl, hb⟩
    · have i1 : 1099511627776 < m := hl.resolve_left i0
      clear hl
      go_enter Tryd.func44, Tryd.ntmps44
      go_wp2_with fail
      refine hk.mono ?_
      rintro e w1 ⟨rfl, hb⟩
      go_wp2_with fail
      exact ⟨rfl, rfl, hb⟩

theorem toList_S (l : List UInt8) : (S l).toList = l := by rw [Lib.toList_data, S_list]
/-- A text held against a literal. -/
theorem eq_no {k l : List UInt8} (h : k ≠ l) : ((S k).toList == l) = false := by rw [toList_S]; exact beq_eq_false_iff_ne.2 h
theorem eq_yes (l : List UInt8) : ((S l).toList == l) = true := by rw [toList_S]; exact beq_self_eq_true l
theorem oset {R : Nat} {w w' : World} (h : Only (fun b => b = R) w w') (i : Nat) (u : Value) : Only (fun b => b = R) w (w'.setCell ⟨R, i, none⟩ u) := h.setCell (p := ⟨R, i, none⟩) (.inl rfl) u
/-! Commands as cells -/
def cc (c : Cm) : List Value := [.int .i64 c.op, .int .i64 c.mode, .string c.key, .string c.val, .int .u32 c.flags, .int .i64 c.exp, .bool c.hasExp, .int .u64 c.cas, .bool c.hasCas, .int .u64 c.delta, .int .u64 c.init, .bool c.down, .bool c.viv, .int .i64 c.vive, .int .i64 c.rcc, .bool c.inv]
def cv (c : Cm) : Value := .agg (cc c).toArray
theorem S_inj' {a b : List UInt8} (h : a ≠ b) : ¬ S a = S b := fun e => h (S_inj.1 e)

/-! The reader -/
structure RS where
  ws : List (List UInt8)
  bh : List UInt8
  quiet : Bool
  skip : Nat
  used : Nat
def RS.cells (s : RS) (v : Value) : List Value := [v, .string (S s.bh), .bool s.quiet, .int .i64 (s.skip : Int), .int .i64 (s.used : Int)]
/-- The reader at R. -/
structure Rdr (R : Nat) (s : RS) (a : Option Addr) (c : Nat) (w : World) : Prop where
  txt : Texts w (.slice a s.ws.length c) s.ws
  apart : ∀ b o p, a = some ⟨b, o, p⟩ → b ≠ R
  old : ∀ b o p, a = some ⟨b, o, p⟩ → b < w.heap.size
  blk : Blk w R 43 (s.cells (.slice a s.ws.length c))
  len : s.ws.length ≤ 2048 ∧ c ≤ 9223372036854775807
theorem Texts.only {D : Nat → Prop} {w w' : World} {a : Option Addr} {n c : Nat} {xs : List (List UInt8)} (h : Texts w (.slice a n c) xs) (ho : Only D w w') (hd : ∀ b o p, a = some ⟨b, o, p⟩ → ¬ D b) : Texts w' (.slice a n c) xs := by
  obtain ⟨a', c', hv, hcap, hx⟩ := h
  have e := hv
  injection e with e1 e2 e3
  subst e1
  refine ⟨a, c', hv, hcap, fun j x hj => ?_⟩
  obtain ⟨b, o, ha, hlt, hc⟩ := hx j x hj
  exact ⟨b, o, ha, Nat.lt_of_lt_of_le hlt ho.size, (ho.cell (p := ⟨b, o + j, none⟩) hlt (hd b o none ha)).trans hc⟩
theorem Rdr.only {D : Nat → Prop} {R : Nat} {s : RS} {a : Option Addr} {c : Nat} {w w' : World} (h : Rdr R s a c w) (ho : Only D w w') (hR : ¬ D R) (hd : ∀ b o p, a = some ⟨b, o, p⟩ → ¬ D b) : Rdr R s a c w' :=
  ⟨Texts.only h.txt ho hd, h.apart, fun b o p e => Nat.lt_of_lt_of_le (h.old b o p e) ho.size, h.blk.only ho hR, h.len⟩
theorem Rdr.below {R : Nat} {s : RS} {a : Option Addr} {c : Nat} {w w' : World} (h : Rdr R s a c w) (hb : Below w.heap.size w w') : Rdr R s a c w' :=
  ⟨Texts.below h.txt hb, h.apart, fun b o p e => Nat.lt_of_lt_of_le (h.old b o p e) hb.size, h.blk.below hb, h.len⟩
theorem texts_cell {w : World} {a : Option Addr} {n c : Nat} {xs : List (List UInt8)} (h : Texts w (.slice a n c) xs) {j : Nat} {x : List UInt8} (hj : xs[j]? = some x) : ∃ b o, a = some ⟨b, o, none⟩ ∧ b < w.heap.size ∧ w.cell? ⟨b, o + j, none⟩ = some (.string (S x)) := by
  obtain ⟨a', c', hv, -, hx⟩ := h
  injection hv with e1
  subst e1
  exact hx j x hj
theorem texts_cap {w : World} {a : Option Addr} {n c : Nat} {xs : List (List UInt8)} (h : Texts w (.slice a n c) xs) : n = xs.length ∧ n ≤ c := by
  obtain ⟨a', c', hv, hc, -⟩ := h
  injection hv with e1 e2 e3
  omega
/-- A cell of the reader is laid anew. -/
theorem Rdr.stays {R : Nat} {s' : RS} {a' : Option Addr} {c' : Nat} {w w' : World} (ho : Only (fun b => b = R) w w') (hb : Blk w' R 43 (s'.cells (.slice a' s'.ws.length c')))
    (ht : Texts w (.slice a' s'.ws.length c') s'.ws) (ha : ∀ b o p, a' = some ⟨b, o, p⟩ → b ≠ R) (hz : ∀ b o p, a' = some ⟨b, o, p⟩ → b < w.heap.size) (hl : s'.ws.length ≤ 2048 ∧ c' ≤ 9223372036854775807) : Rdr R s' a' c' w' :=
  ⟨Texts.only ht ho ha, ha, fun b o p e => Nat.lt_of_lt_of_le (hz b o p e) ho.size, hb, hl⟩

set_option maxRecDepth 100000 in
theorem need_ok {R : Nat} {s : RS} {a : Option Addr} {c : Nat} {w : World} (h : Rdr R s a c w) (lo hi : Nat) (h1 : lo ≤ s.ws.length) (h2 : s.ws.length ≤ hi) :
    Calls Tryd.prog 32 #[.pointer (some ⟨R, 0, none⟩), .int .i64 lo, .int .i64 hi] w fun e w' => e = .returned (.tuple #[]) ∧ w = w' := by
  have c0 := h.blk.cell (i := 0) rfl
  have i0 : ¬ (s.ws.length : Int) < (lo : Int) := by omega
  have i1 : ¬ (hi : Int) < (s.ws.length : Int) := by omega
  clear h h1 h2
  generalize s.ws.length = n at *
  go_enter Tryd.func32, Tryd.ntmps32
  go_wp2_with fail
  go_end0
  exact ⟨rfl, rfl⟩
set_option maxRecDepth 100000 in
theorem need_no {R : Nat} {s : RS} {a : Option Addr} {c : Nat} {w : World} (h : Rdr R s a c w) (lo hi : Nat) (h1 : s.ws.length < lo ∨ hi < s.ws.length) :
    Calls Tryd.prog 32 #[.pointer (some ⟨R, 0, none⟩), .int .i64 lo, .int .i64 hi] w fun e w' => e = .panicked [upE mError] ∧ w = w' := by
  have c0 := h.blk.cell (i := 0) rfl
  have h1 : (s.ws.length : Int) < (lo : Int) ∨ (hi : Int) < (s.ws.length : Int) := by omega
  clear h
  generalize s.ws.length = n at *
  by_cases i0 : (n : Int) < (lo : Int)
  · clear h1
    go_enter Tryd.func32, Tryd.ntmps32
    go_wp2_with fail
    exact ⟨rfl, rfl, rfl⟩
  · have i1 := h1.resolve_left i0
    clear h1
    go_enter Tryd.func32, Tryd.ntmps32
    go_wp2_with fail
    exact ⟨rfl, rfl, rfl⟩
end Go.Proofs.YtggeccndmmmnjaaDoor.Tx

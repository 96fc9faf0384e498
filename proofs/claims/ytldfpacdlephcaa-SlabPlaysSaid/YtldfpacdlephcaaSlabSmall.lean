/-
  Package slab at this program, small calls: isClass, granted, find, Used, number, Where, of any slab and any numbers that an int holds. No further conditions.
-/
import Derived.Test.YtldfpacdlephcaaSlabMem
import Derived.BigQuiet
namespace Go.Proofs.Ytldfpacdlephcaa
open Go Go.RowKit Go.Lib

theorem MIs.h0 {d : Di} {s : Sl} {w : World} (h : MIs d s w) : w.cell? ⟨d.P, 0, none⟩ = some (.pointer (some ⟨d.A, 0, none⟩)) := h.head.cell rfl
theorem MIs.h1 {d : Di} {s : Sl} {w : World} (h : MIs d s w) : w.cell? ⟨d.P, 1, none⟩ = some (.slice (some ⟨d.Z, 0, none⟩) s.sz.length d.cZ) := h.head.cell rfl
theorem MIs.h2 {d : Di} {s : Sl} {w : World} (h : MIs d s w) : w.cell? ⟨d.P, 2, none⟩ = some (.slice (some ⟨d.R, 0, none⟩) s.sz.length s.sz.length) := h.head.cell rfl
theorem MIs.h3 {d : Di} {s : Sl} {w : World} (h : MIs d s w) : w.cell? ⟨d.P, 3, none⟩ = some (.slice (some ⟨d.C, 0, none⟩) 1024 1024) := h.head.cell rfl
theorem MIs.hz {d : Di} {s : Sl} {w : World} (h : MIs d s w) {c z : Nat} (hc : s.sz[c]? = some z) : w.cell? ⟨d.Z, c, none⟩ = some (.int .i64 (z : Int)) := by
  obtain ⟨cur, hb, hx⟩ := h.szs
  exact hb.cell (hx c z hc)
theorem MIs.hr {d : Di} {s : Sl} {w : World} (h : MIs d s w) {c : Nat} (hc : c < s.sz.length) : w.cell? ⟨d.R, c, none⟩ = some (d.rv c) ∧ w.frozen? ⟨d.R, c, none⟩ = false := ⟨h.rws.cell (tab_at hc), h.rws.frozen c⟩
theorem MIs.hc {d : Di} {s : Sl} {w : World} (h : MIs d s w) {p : Nat} (hp : p < 1024) : w.cell? ⟨d.C, p, none⟩ = some (cutV s.cut d.cb p) ∧ w.frozen? ⟨d.C, p, none⟩ = false := ⟨h.cts.cell (tab_at hp), h.cts.frozen p⟩
theorem MIs.k0 {d : Di} {s : Sl} {w : World} (h : MIs d s w) {p : Nat} {k : Ct} (hk : s.cut p = some k) : w.cell? ⟨d.cb p, 0, none⟩ = some (.int .i64 (k.cls : Int)) := (h.cut p k hk).1.cell rfl
theorem MIs.k1 {d : Di} {s : Sl} {w : World} (h : MIs d s w) {p : Nat} {k : Ct} (hk : s.cut p = some k) : w.cell? ⟨d.cb p, 1, none⟩ = some (.slice (some ⟨d.ub p, 0, none⟩) s.U s.U) := (h.cut p k hk).1.cell rfl
theorem MIs.k2 {d : Di} {s : Sl} {w : World} (h : MIs d s w) {p : Nat} {k : Ct} (hk : s.cut p = some k) : w.cell? ⟨d.cb p, 2, none⟩ = some (.int .i64 (tru k.used : Nat)) := (h.cut p k hk).1.cell rfl
theorem MIs.k3 {d : Di} {s : Sl} {w : World} (h : MIs d s w) {p : Nat} {k : Ct} (hk : s.cut p = some k) : w.cell? ⟨d.cb p, 3, none⟩ = some (.bool k.closed) := (h.cut p k hk).1.cell rfl
theorem MIs.ku {d : Di} {s : Sl} {w : World} (h : MIs d s w) {p : Nat} {k : Ct} (hk : s.cut p = some k) {i : Nat} {b : Bool} (hb : k.used[i]? = some b) : w.cell? ⟨d.ub p, i, none⟩ = some (.bool b) := (h.cut p k hk).2.cell (bb_at hb)

set_option maxRecDepth 100000 in
theorem isClass_any {d : Di} {s : Sl} {w : World} (h : MIs d s w) (c : Int) :
    Calls Try.prog 48 #[.pointer (some ⟨d.P, 0, none⟩), .int .i64 c] w fun e w' => e = .returned (.bool (s.classB c)) ∧ w = w' := by
  have h1 := h.h1
  have hcase := s.class_cases c
  clear h
  generalize d.P = P at *
  generalize d.Z = Z at *
  generalize d.cZ = cz at *
  generalize hb : s.classB c = b at *
  generalize s.sz.length = n at *
  clear hb
  rcases hcase with ⟨rfl, h2 | ⟨h2, h3⟩⟩ | ⟨k, rfl, hk, rfl⟩
  rotate_left
  · have h4 : decide (c < (n : Int)) = false := by simpa using h3
    go_enter Try.func48, Try.ntmps48
    go_wp2
    go_ret
    exact ⟨rfl, rfl⟩
  rotate_left
  · go_enter Try.func48, Try.ntmps48
    go_wp2
    go_ret
    exact ⟨rfl, rfl⟩
  · have h3 : (k : Int) < (n : Int) := by omega
    go_enter Try.func48, Try.ntmps48
    go_wp2
    go_ret
    exact ⟨rfl, rfl⟩

/-- What granted answers. -/
def Sl.gp (s : Sl) (d : Di) (p : Int) : Value := match s.atP p with | none => .pointer none | some _ => .pointer (some ⟨d.cb p.toNat, 0, none⟩)

set_option maxRecDepth 100000 in
theorem granted_no {d : Di} {s : Sl} {w : World} (h : MIs d s w) (ok : s.Ok) (p : Int) (hp : s.atP p = none) :
    Calls Try.prog 53 #[.pointer (some ⟨d.P, 0, none⟩), .int .i64 p] w fun e w' => e = .returned (.pointer none) ∧ w = w' := by
  have h1 := h.h3
  rcases Sl.atP_cases ok p with ⟨_, hc | ⟨h2, h3⟩ | ⟨q, rfl, hq, hk⟩⟩ | ⟨q, k, rfl, hq, hk, hk'⟩
  · clear h hp
    generalize d.P = P at *
    generalize d.C = C at *
    go_enter Try.func53, Try.ntmps53
    go_wp2
    go_ret
    exact ⟨rfl, rfl⟩
  · clear h hp
    generalize d.P = P at *
    generalize d.C = C at *
    go_enter Try.func53, Try.ntmps53
    go_wp2
    go_ret
    exact ⟨rfl, rfl⟩
  · obtain ⟨h2, -⟩ := h.hc hq
    rw [cutV_none hk] at h2
    have h3 : (q : Int) < 1024 := by omega
    clear h hp hk hq
    generalize d.P = P at *
    generalize d.C = C at *
    go_enter Try.func53, Try.ntmps53
    go_wp2
    go_ret
    exact ⟨rfl, rfl⟩
  · rw [hk'] at hp; cases hp

set_option maxRecDepth 100000 in
theorem granted_yes {d : Di} {s : Sl} {w : World} (h : MIs d s w) (ok : s.Ok) {q : Nat} {k : Ct} (hk : s.cut q = some k) :
    Calls Try.prog 53 #[.pointer (some ⟨d.P, 0, none⟩), .int .i64 q] w fun e w' => e = .returned (.pointer (some ⟨d.cb q, 0, none⟩)) ∧ w = w' := by
  have h1 := h.h3
  have hq := ok.cut_1024 hk
  obtain ⟨h2, -⟩ := h.hc hq
  rw [cutV_some hk] at h2
  have h3 : (q : Int) < 1024 := by omega
  clear h hk hq
  generalize d.cb q = B at *
  generalize d.P = P at *
  generalize d.C = C at *
  go_enter Try.func53, Try.ntmps53
  go_wp2
  go_ret
  exact ⟨rfl, rfl⟩

theorem tdiv_nat (y m : Nat) : ((y : Int)).tdiv (m : Int) = ((y / m : Nat) : Int) := by rw [Int.tdiv_eq_ediv_of_nonneg (by omega)]; rfl
theorem tmod_nat (y m : Nat) : ((y : Int)).tmod (m : Int) = ((y % m : Nat) : Int) := by rw [Int.tmod_eq_emod_of_nonneg (by omega)]; rfl

set_option maxHeartbeats 1000000 in
set_option maxRecDepth 100000 in
theorem find_no {d : Di} {s : Sl} {w : World} (h : MIs d s w) (ok : s.Ok) (x : Int) (hx : s.usedB x = false) (hx2 : x ≤ 9223372036854775807) :
    Calls Try.prog 46 #[.pointer (some ⟨d.P, 0, none⟩), .int .i64 x] w fun e w' => e = .returned (.tuple #[.pointer none, .int .i64 0]) ∧ w = w' := by
  rcases s.used_cases x with ⟨_, hn | ⟨y, rfl, hy⟩⟩ | ⟨y, rfl, _, hy⟩
  · clear h hx
    generalize d.P = P at *
    go_enter Try.func46, Try.ntmps46
    go_wp2
    go_ret2
    exact ⟨rfl, rfl⟩
  · have e1 : (y : Int) / 4096 = ((y / 4096 : Nat) : Int) := by omega
    have e2 : (y : Int) % 4096 = ((y % 4096 : Nat) : Int) := by omega
    cases hk : s.cut (y / 4096) with
    | none =>
      have hg := granted_no h ok ((y / 4096 : Nat) : Int) (by rw [s.atP_nat]; exact hk)
      clear h hx hk hy
      generalize d.P = P at *
      generalize y / 4096 = p at *
      generalize y % 4096 = i at *
      go_enter Try.func46, Try.ntmps46
      go_wp2_with fail
      refine hg.mono ?_
      rintro e w' ⟨rfl, rfl⟩
      clear hg
      go_wp2_with fail
      go_ret2
      exact ⟨rfl, rfl⟩
    | some k =>
      have hg := granted_yes h ok hk
      have c1 := h.k1 hk
      have hU := (ok.ct _ k hk).2.2.1
      have hlt : y % 4096 < 4096 := Nat.mod_lt _ (by decide)
      by_cases hi : y % 4096 < s.U
      · have hu : k.used[y % 4096]? = some false := by
          have e : k.used[y % 4096]? = some (k.used[y % 4096]'(by rw [hU]; exact hi)) := List.getElem?_eq_getElem _
          rw [Sl.usedN_of hk e] at hy
          rw [e, hy]
        have c2 := h.ku hk hu
        have hi' : ((y % 4096 : Nat) : Int) < (s.U : Int) := by omega
        clear h hx hk hy hU hu hi
        generalize d.P = P at *
        generalize d.cb (y / 4096) = B at *
        generalize d.ub (y / 4096) = V at *
        generalize s.U = U at *
        generalize y / 4096 = p at *
        generalize y % 4096 = i at *
        go_enter Try.func46, Try.ntmps46
        go_wp2_with fail
        refine hg.mono ?_
        rintro e w' ⟨rfl, rfl⟩
        clear hg
        go_wp2_with fail
        go_ret2
        exact ⟨rfl, rfl⟩
      · have hi' : (s.U : Int) ≤ ((y % 4096 : Nat) : Int) := by omega
        clear h hx hk hy hU hi
        generalize d.P = P at *
        generalize d.cb (y / 4096) = B at *
        generalize d.ub (y / 4096) = V at *
        generalize s.U = U at *
        generalize y / 4096 = p at *
        generalize y % 4096 = i at *
        go_enter Try.func46, Try.ntmps46
        go_wp2_with fail
        refine hg.mono ?_
        rintro e w' ⟨rfl, rfl⟩
        clear hg
        go_wp2_with fail
        go_ret2
        exact ⟨rfl, rfl⟩
  · rw [hy] at hx; cases hx

set_option maxHeartbeats 1000000 in
set_option maxRecDepth 100000 in
theorem find_yes {d : Di} {s : Sl} {w : World} (h : MIs d s w) (ok : s.Ok) (y : Nat) (hy : s.usedN y = true) :
    Calls Try.prog 46 #[.pointer (some ⟨d.P, 0, none⟩), .int .i64 y] w fun e w' => e = .returned (.tuple #[.pointer (some ⟨d.cb (y / 4096), 0, none⟩), .int .i64 ((y % 4096 : Nat) : Int)]) ∧ w = w' := by
  have e1 : (y : Int) / 4096 = ((y / 4096 : Nat) : Int) := by omega
  have e2 : (y : Int) % 4096 = ((y % 4096 : Nat) : Int) := by omega
  obtain ⟨k, hk, hu⟩ := Sl.usedN_true hy
  have hg := granted_yes h ok hk
  have c1 := h.k1 hk
  have c2 := h.ku hk hu
  have hU := (ok.ct _ k hk).2.2.1
  have hi := (List.getElem?_eq_some_iff.1 hu).1
  have hp := ok.cut_1024 hk
  have hy2 : (y : Int) ≤ 9223372036854775807 := by omega
  have hi' : ((y % 4096 : Nat) : Int) < (s.U : Int) := by omega
  clear h hk hy hU hu hi hp
  generalize d.P = P at *
  generalize d.cb (y / 4096) = B at *
  generalize d.ub (y / 4096) = V at *
  generalize s.U = U at *
  generalize y / 4096 = p at *
  generalize y % 4096 = i at *
  go_enter Try.func46, Try.ntmps46
  go_wp2_with fail
  refine hg.mono ?_
  rintro e w' ⟨rfl, rfl⟩
  clear hg
  go_wp2_with fail
  go_ret2
  exact ⟨rfl, rfl⟩

set_option maxRecDepth 100000 in
theorem used_any {d : Di} {s : Sl} {w : World} (h : MIs d s w) (ok : s.Ok) (x : Int) (hx2 : x ≤ 9223372036854775807) :
    Calls Try.prog 27 #[.pointer (some ⟨d.P, 0, none⟩), .int .i64 x] w fun e w' => e = .returned (.bool (s.usedB x)) ∧ w = w' := by
  cases hx : s.usedB x with
  | false =>
    have hf := find_no h ok x hx hx2
    clear h hx
    generalize d.P = P at *
    go_enter Try.func27, Try.ntmps27
    go_wp2_with fail
    refine hf.mono ?_
    rintro e w' ⟨rfl, rfl⟩
    clear hf
    go_wp2_with fail
    go_ret
    exact ⟨rfl, rfl⟩
  | true =>
    rcases s.used_cases x with ⟨hn, _⟩ | ⟨y, rfl, hy, _⟩
    · rw [hx] at hn; cases hn
    have hf := find_yes h ok y hy
    clear h hx
    generalize d.P = P at *
    generalize d.cb (y / 4096) = B at *
    generalize y % 4096 = i at *
    go_enter Try.func27, Try.ntmps27
    go_wp2_with fail
    refine hf.mono ?_
    rintro e w' ⟨rfl, rfl⟩
    clear hf
    go_wp2_with fail
    go_ret
    exact ⟨rfl, rfl⟩

set_option maxRecDepth 100000 in
theorem number_any (p i : Nat) (hp : p < 1024) (hi : i < 4096) (w : World) :
    Calls Try.prog 57 #[.int .i64 p, .int .i64 i] w fun e w' => e = .returned (.int .i64 ((4096 * p + i : Nat) : Int)) ∧ w = w' := by
  obtain ⟨x, hx⟩ : ∃ x, x = 4096 * p + i := ⟨_, rfl⟩
  rw [← hx]
  have HX := hid hx
  clear hx
  go_enter Try.func57, Try.ntmps57
  go_wp2
  go_ret
  exact ⟨ret_i64 (by rw [HX.out]; omega), rfl⟩

/-- What Where answers. -/
def Sl.wher (s : Sl) (x : Int) : Int × Int × Int := if s.usedB x = true then (((x.toNat / 4096 : Nat) : Int), ((x.toNat % 4096 * s.size ((s.cut (x.toNat / 4096)).elim 0 Ct.cls) : Nat) : Int), ((s.size ((s.cut (x.toNat / 4096)).elim 0 Ct.cls) : Nat) : Int)) else (-1, 0, 0)
theorem wher_yes {s : Sl} {y : Nat} {k : Ct} (hy : s.usedN y = true) (hk : s.cut (y / 4096) = some k) : s.wher (y : Int) = (((y / 4096 : Nat) : Int), ((y % 4096 * s.size k.cls : Nat) : Int), ((s.size k.cls : Nat) : Int)) := by
  unfold Sl.wher
  rw [s.usedB_nat, hy, if_pos rfl, Int.toNat_natCast, hk]; rfl
theorem wher_no {s : Sl} {x : Int} (hx : s.usedB x = false) : s.wher x = (-1, 0, 0) := by unfold Sl.wher; rw [hx, if_neg (by decide)]

set_option maxHeartbeats 1000000 in
set_option maxRecDepth 100000 in
theorem where_any {d : Di} {s : Sl} {w : World} (h : MIs d s w) (ok : s.Ok) (x : Int) (hx2 : x ≤ 9223372036854775807) :
    Calls Try.prog 18 #[.pointer (some ⟨d.P, 0, none⟩), .int .i64 x] w fun e w' => e = .returned (.tuple #[.int .i64 (s.wher x).1, .int .i64 (s.wher x).2.1, .int .i64 (s.wher x).2.2]) ∧ ∃ m, w' = w.drewN m := by
  cases hx : s.usedB x with
  | false =>
    have hf := find_no h ok x hx hx2
    rw [wher_no hx]
    clear h hx
    generalize d.P = P at *
    go_enter Try.func18, Try.ntmps18
    go_wp2_with fail
    refine hf.mono ?_
    rintro e w' ⟨rfl, rfl⟩
    clear hf
    go_wp2_with fail
    go_ret3
    exact ⟨rfl, 0, rfl⟩
  | true =>
    rcases s.used_cases x with ⟨hn, _⟩ | ⟨y, rfl, hy, _⟩
    · rw [hx] at hn; cases hn
    obtain ⟨k, hk, hu⟩ := Sl.usedN_true hy
    rw [wher_yes hy hk]
    have hf := find_yes h ok y hy
    obtain ⟨hzc, hz1, hz2⟩ := ok.size (ok.ct _ k hk).2.1
    have c0 := h.k0 hk
    have c1 := h.h1
    have c2 := h.hz hzc
    have hcl := (ok.ct _ k hk).2.1
    have hcl' : (k.cls : Int) < (s.sz.length : Int) := by omega
    have hs2 := ok.ao.s2
    have hi := (ok.ct _ k hk).2.2.2 _ hu
    have hpl := ok.per_le hcl
    have hUl := ok.U_le
    have e1 : (y : Int) / 4096 = ((y / 4096 : Nat) : Int) := by omega
    obtain ⟨M, hM⟩ : ∃ M, M = y % 4096 * s.size k.cls := ⟨_, rfl⟩
    have hMb : M ≤ 67108864 := by rw [hM]; exact Nat.mul_le_mul (show y % 4096 ≤ 1024 by omega) (show s.size k.cls ≤ 65536 by omega)
    have e2 : ((y % 4096 : Nat) : Int) * (s.size k.cls : Int) = (M : Int) := by rw [hM, Int.natCast_mul]
    rw [← hM]
    clear h hx hk hy hu hM hzc hcl hi hpl hUl
    generalize d.P = P at *
    generalize d.Z = Z at *
    generalize d.cZ = cz at *
    generalize d.cb (y / 4096) = B at *
    generalize s.size k.cls = z at *
    generalize k.cls = c at *
    generalize s.sz.length = n at *
    generalize y / 4096 = p at *
    generalize y % 4096 = i at *
    have hc0 : (0 : Int) ≤ (c : Int) := by omega
    go_enter Try.func18, Try.ntmps18
    go_wp2_with fail
    refine hf.mono ?_
    rintro e w' ⟨rfl, rfl⟩
    clear hf
    go_wp2_with fail
    go_quiet (fail)
    go_wp2_with fail
    go_ret3
    exact ⟨rfl, _, rfl⟩
end Go.Proofs.Ytldfpacdlephcaa

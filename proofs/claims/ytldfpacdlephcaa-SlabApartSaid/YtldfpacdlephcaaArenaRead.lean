/-
  bytes.Clone and (*Arena).Read at this program. No conditions but that the numbers are an int's.
-/
import Derived.Test.YtldfpacdlephcaaArenaBytes
import Derived.WalkSpells
namespace Go.Proofs.Ytldfpacdlephcaa
open Go Go.RowKit Go.Lib

set_option maxHeartbeats 1000000 in
set_option maxRecDepth 100000 in
theorem clone_any (ad : Addr) (c : Nat) (l : List UInt8) (hl : l.length ≤ 65536) (w : World) (hv : ∀ j v, (bc l)[j]? = some v → w.cell? (ad.add j) = some v) :
    Calls Try.prog 73 #[.slice (some ad) l.length c] w fun e w' => ∃ v, e = .returned v ∧ w'.ownsRow w.heap.size 5 1 v l.length (bc l) ∧ Below w.heap.size w w' := by
  obtain ⟨i0, hi, hz0, hz1, hz2⟩ := info_parts infoByte
  obtain ⟨cl, hcl⟩ : ∃ cl, cl = bc l := ⟨_, rfl⟩
  have hcn : cl.length = l.length := by rw [hcl, bc_len]
  have HO := hid (bc_ok l)
  rw [← hcl] at hv HO ⊢
  have HV := hid fun (o : Obj) j v h => cell_alloc (hv j v h) o
  have HW := hid (World.ownsRow_made (base := w.heap.size) (e := 5) (size := 1) w #[] 0 (Nat.le_refl _) (by unfold maxLen; omega) rfl)
  clear hv hcl
  have hq := fun (w : World) (a : Option Addr) (n c n' c' : Nat) => Lib.run_eql_slice_nil (P := Try.prog) w _ _ a n c n' c' Try.underlying39
  generalize l.length = n at *
  go_enter Try.func73, Try.ntmps73
  go_wp2_with (at_builtin; refine wpList_append_own _ rfl _ _ 39 rfl w.heap.size 5 i0 (.int .u8 0) 1 1 Try.underlying39 hi hz0 hz1 hz2 rfl (by decide) (.slice (some ⟨w.heap.size, 0, none⟩) 0 0) 0 [] rfl HW.out ad n c cl rfl (by rw [hcn, Nat.mul_one]) (HV.out _) HO.out (by unfold maxLen; omega) (by omega) (by simp) ?_; intro v' w1 hown hgrow _)
  rw [Nat.zero_add] at hown
  have hb : Below w.heap.size w w1 := ((Below.refl w.heap.size w).alloc (Nat.le_refl _) _).grown hgrow (by simp) (fun k hk => by simp [Value.ownBlock] at hk; omega)
  go_wp2_with fail
  go_ret
  exact ⟨_, rfl, by simpa using hown, hb⟩

set_option maxHeartbeats 1000000 in
set_option maxRecDepth 100000 in
theorem read_bad {P O R : Nat} {s : St} {w : World} (h : AIs P O R s w) (p i m : Int) (hi : i ≤ 9223372036854775807) (c : Int) (hc : c = s.code p i m) (h0 : c ≠ 0) (h7 : c = 1 ∨ c = 7) :
    Calls Try.prog 52 #[.pointer (some ⟨P, 0, none⟩), .int .i64 p, .int .i64 i, .int .i64 m] w fun e w' => e = .returned (.tuple #[.slice none 0 0, .int .i64 c]) ∧ w = w' := by
  have hp := part_bad h p i m hi c hc h0
  clear h hc h0
  rcases h7 with rfl | rfl
  all_goals
    go_enter Try.func52, Try.ntmps52
    go_wp2_with fail
    refine hp.mono ?_
    rintro e w' ⟨rfl, rfl⟩
    clear hp
    go_wp2_with fail
    go_ret2
    exact ⟨rfl, rfl⟩

set_option maxHeartbeats 1000000 in
set_option maxRecDepth 100000 in
theorem read_ok {P O R : Nat} {s : St} {w : World} (h : AIs P O R s w) (k i m : Nat) (hg : grB s.ow (k : Int) = true) (hk : k < s.ow.length) (hi : i + m ≤ s.size) :
    Calls Try.prog 52 #[.pointer (some ⟨P, 0, none⟩), .int .i64 k, .int .i64 i, .int .i64 m] w fun e w' => ∃ v, e = .returned (.tuple #[v, .int .i64 0]) ∧ w'.ownsRow w.heap.size 5 1 v m (bc (s.get k i m)) ∧ Below w.heap.size w w' := by
  have hp := part_ok h k i m hg hk hi
  obtain ⟨cs, hb, hR⟩ := h.row
  have hsrc := get_src hb hR (i := i) (m := m) hk
  have hlen := St.get_len h.ok hk hi
  have hs2 := h.ok.s2
  have HC := hid fun (ad : Addr) c (hv : ∀ j v, (bc (s.get k i m))[j]? = some v → w.cell? (ad.add j) = some v) => clone_any ad c (s.get k i m) (by omega) w hv
  have HN : Hid (m = 0 → bc (s.get k i m) = []) := hid (fun h0 => by
    have : s.get k i m = [] := List.eq_nil_of_length_eq_zero (by omega)
    rw [this]; rfl)
  rw [hlen] at HC
  have HS := hid hsrc
  clear h hb hR hg hlen hsrc hi hk
  generalize bc (s.get k i m) = cl at *
  generalize hKK : k * s.size + i = K at *
  clear hKK
  go_enter Try.func52, Try.ntmps52
  go_wp2_with fail
  refine hp.mono ?_
  rintro e w' ⟨⟨ad, c', rfl, had⟩, rfl⟩
  have HA : Hid (∀ j v, cl[j]? = some v → w.cell? (ad.add j) = some v) := hid (fun j v hj => by
    by_cases h0 : 0 < m
    · rw [had h0]; exact HS.out j v hj
    · rw [HN.out (by omega)] at hj; simp at hj)
  clear hp had
  go_wp2_with fail
  refine (HC.out ad c' HA.out).mono ?_
  rintro e w1 ⟨v, rfl, hown, hb⟩
  clear HA HC HN HS
  obtain ⟨a, c, rfl⟩ := row_form hown
  go_wp2_with fail
  go_ret2
  exact ⟨_, rfl, hown, hb⟩
end Go.Proofs.Ytldfpacdlephcaa

/-
  Package slab at this program: Get, of any slab and any numbers that an int holds. No further conditions.
-/
import Derived.Test.YtldfpacdlephcaaSlabBytes
namespace Go.Proofs.Ytldfpacdlephcaa
open Go Go.RowKit Go.Lib

theorem nil_row (w : World) (n : Nat) : (w.drewN n).ownsRow w.heap.size 5 1 (.slice none 0 0) ([] : List UInt8).length (bc []) := World.ownsRow_nil _ _ _ _
set_option maxHeartbeats 1000000 in
set_option maxRecDepth 100000 in
theorem get_any {d : Di} {s : Sl} {w : World} (h : MIs d s w) (ok : s.Ok) (x n : Int) (hx : x ≤ 9223372036854775807) :
    Calls Try.prog 20 #[.pointer (some ⟨d.P, 0, none⟩), .int .i64 x, .int .i64 n] w fun e w' => ∃ v, e = .returned (.tuple #[v, .int .i64 (s.get x n).1]) ∧ w'.ownsRow w.heap.size 5 1 v (s.get x n).2.length (bc (s.get x n).2) ∧ Below w.heap.size w w' := by
  have hw := where_any h ok x hx
  rcases s.used_cases x with ⟨hn, _⟩ | ⟨y, rfl, hy, _⟩
  · rw [wher_no hn] at hw
    rw [Sl.get_no hn]
    clear h ok hn
    generalize d.P = P at *
    go_enter Try.func20, Try.ntmps20
    go_wp2_with fail
    refine hw.mono ?_
    rintro e w' ⟨rfl, m, rfl⟩
    clear hw
    go_wp2_with fail
    go_ret2
    exact ⟨_, rfl, nil_row w m, ⟨rfl, rfl, rfl, Nat.le_refl _, fun _ _ => rfl⟩⟩
  · rw [wher_z hy] at hw
    obtain ⟨b1, b2, b3, b4⟩ := ok.within hy
    have hs2 := ok.ao.s2
    have hn2 := ok.ao.n2
    by_cases hlz : 0 ≤ n ∧ n ≤ s.zAt y
    · obtain ⟨k, rfl⟩ : ∃ k : Nat, n = k := ⟨n.toNat, by omega⟩
      rw [Sl.get_yes hy (by omega)]
      have hrd := fun m => read_ok (w := w.drewN m) (h.ar.below ⟨rfl, rfl, rfl, Nat.le_refl _, fun _ _ => rfl⟩) (y / 4096) (y % 4096 * s.zAt y) k b2 b1 (by omega)
      have hlen := St.get_len ok.ao b1 (i := y % 4096 * s.zAt y) (m := k) (by omega)
      dsimp only
      rw [hlen]
      have c0 := h.h0
      have ilz : (k : Int) ≤ (s.zAt y : Int) := by omega
      clear h ok hy hlen
      generalize s.a.get (y / 4096) (y % 4096 * s.zAt y) k = gl at *
      generalize d.P = P at *
      generalize d.A = A at *
      generalize y / 4096 = p at *
      generalize y % 4096 * s.zAt y = M at *
      generalize s.zAt y = z at *
      go_enter Try.func20, Try.ntmps20
      go_wp2_with fail
      refine hw.mono ?_
      rintro e w' ⟨rfl, m, rfl⟩
      clear hw
      have hrd := hrd m
      go_wp2_with fail
      refine hrd.mono ?_
      rintro e w2 ⟨v, rfl, hown, hb⟩
      clear hrd
      obtain ⟨ra, rc, rfl⟩ := row_form hown
      go_wp2_with fail
      go_ret2
      exact ⟨_, rfl, hown, ⟨hb.os, hb.tape, hb.output, hb.size, hb.block⟩⟩
    · rw [Sl.get_bad hy hlz]
      have hcase : n < 0 ∨ (0 ≤ n ∧ (s.zAt y : Int) < n) := by omega
      clear h ok hy hlz
      generalize d.P = P at *
      generalize y / 4096 = p at *
      generalize y % 4096 * s.zAt y = M at *
      generalize s.zAt y = z at *
      rcases hcase with g1 | ⟨g1, g2⟩
      all_goals
        go_enter Try.func20, Try.ntmps20
        go_wp2_with fail
        refine hw.mono ?_
        rintro e w' ⟨rfl, m, rfl⟩
        clear hw
        go_wp2_with fail
        go_ret2
        exact ⟨_, rfl, nil_row w m, ⟨rfl, rfl, rfl, Nat.le_refl _, fun _ _ => rfl⟩⟩
end Go.Proofs.Ytldfpacdlephcaa

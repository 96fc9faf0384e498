/-
  Package slab at this program: Put and Get, of any slab and any bytes that a slice holds. No further conditions.
  Package slab at this program: Get, of any slab and any numbers that an int holds. No further conditions.
-/
import Derived.Test.YtldfpacdlephcaaM5
import Derived.Test.YtldfpacdlephcaaM1
namespace Go.Proofs.Ytldfpacdlephcaa
open Go Go.RowKit Go.Lib

/-- The size of the class of a chunk's page. -/
def Sl.zAt (s : Sl) (y : Nat) : Nat := s.size ((s.cut (y / 4096)).elim 0 Ct.cls)
/-- Bytes of an arena are written. -/
def Sl.putA (s : Sl) (y : Nat) (l : List UInt8) : Sl := { s with a := s.a.put (y / 4096) (y % 4096 * s.zAt y) l }
/-- What Put answers and leaves. -/
def Sl.put (s : Sl) (x : Int) (l : List UInt8) : Int × Sl := if s.usedB x = true then (if l.length ≤ s.zAt x.toNat then (0, s.putA x.toNat l) else (4, s)) else (8, s)
/-- What Get answers. -/
def Sl.get (s : Sl) (x n : Int) : Int × List UInt8 := if s.usedB x = true then (if 0 ≤ n ∧ n ≤ s.zAt x.toNat then (0, s.a.get (x.toNat / 4096) (x.toNat % 4096 * s.zAt x.toNat) n.toNat) else (1, [])) else (8, [])
theorem Sl.zAt_is {s : Sl} {y : Nat} {k : Ct} (hk : s.cut (y / 4096) = some k) : s.zAt y = s.size k.cls := by unfold Sl.zAt; rw [hk]; rfl
theorem Sl.put_no {s : Sl} {x : Int} (h : s.usedB x = false) (l : List UInt8) : s.put x l = (8, s) := by unfold Sl.put; rw [h, if_neg (by decide)]
theorem Sl.put_large {s : Sl} {y : Nat} (h : s.usedN y = true) {l : List UInt8} (hl : ¬ l.length ≤ s.zAt y) : s.put (y : Int) l = (4, s) := by
  unfold Sl.put; rw [s.usedB_nat, h, if_pos rfl, Int.toNat_natCast, if_neg hl]
theorem Sl.put_yes {s : Sl} {y : Nat} (h : s.usedN y = true) {l : List UInt8} (hl : l.length ≤ s.zAt y) : s.put (y : Int) l = (0, s.putA y l) := by
  unfold Sl.put; rw [s.usedB_nat, h, if_pos rfl, Int.toNat_natCast, if_pos hl]
theorem Sl.get_no {s : Sl} {x : Int} (h : s.usedB x = false) (n : Int) : s.get x n = (8, []) := by unfold Sl.get; rw [h, if_neg (by decide)]
theorem Sl.get_bad {s : Sl} {y : Nat} (h : s.usedN y = true) {n : Int} (hn : ¬ (0 ≤ n ∧ n ≤ s.zAt y)) : s.get (y : Int) n = (1, []) := by
  unfold Sl.get; rw [s.usedB_nat, h, if_pos rfl, Int.toNat_natCast, if_neg hn]
theorem Sl.get_yes {s : Sl} {y n : Nat} (h : s.usedN y = true) (hn : n ≤ s.zAt y) : s.get (y : Int) (n : Int) = (0, s.a.get (y / 4096) (y % 4096 * s.zAt y) n) := by
  unfold Sl.get; rw [s.usedB_nat, h, if_pos rfl, Int.toNat_natCast, if_pos ⟨Int.natCast_nonneg n, Int.ofNat_le.2 hn⟩, Int.toNat_natCast]
/-- A used chunk lies within a granted page. -/
theorem Sl.Ok.within {s : Sl} (h : s.Ok) {y : Nat} (hy : s.usedN y = true) : y / 4096 < s.a.ow.length ∧ grB s.a.ow ((y / 4096 : Nat) : Int) = true ∧ y % 4096 * s.zAt y + s.zAt y ≤ s.a.size ∧ 64 ≤ s.zAt y := by
  obtain ⟨k, hk, hu⟩ := Sl.usedN_true hy
  obtain ⟨h1, h2, _, h4⟩ := h.ct _ k hk
  have hi := h4 _ hu
  have hm := h.per_mul k.cls
  have hz := h.size h2
  rw [Sl.zAt_is hk]
  refine ⟨h.cut_lt hk, ?_, ?_, hz.2.1⟩
  · unfold grB
    rw [ownerOf_at h1]
    simp only [bne_iff_ne, ne_eq]
    omega
  · have := Nat.mul_le_mul_right (s.size k.cls) (show y % 4096 + 1 ≤ s.per k.cls by omega)
    rw [Nat.succ_mul] at this
    omega
theorem Sl.Ok.putA {s : Sl} (h : s.Ok) {y : Nat} (hy : s.usedN y = true) {l : List UInt8} (hl : l.length ≤ s.zAt y) : (s.putA y l).Ok := by
  obtain ⟨h1, _, h3, _⟩ := h.within hy
  exact ⟨St.put_ok h.ao h1 (by omega), h.n1, h.n2, h.sz, h.ct, h.no, h.rw, h.nd⟩
theorem Sl.Ok.putOk {s : Sl} (h : s.Ok) (x : Int) (l : List UInt8) : (s.put x l).2.Ok := by
  rcases s.used_cases x with ⟨hx, _⟩ | ⟨y, rfl, hy, _⟩
  · rw [Sl.put_no hx]; exact h
  · by_cases hl : l.length ≤ s.zAt y
    · rw [Sl.put_yes hy hl]; exact h.putA hy hl
    · rw [Sl.put_large hy hl]; exact h
theorem wher_z {s : Sl} {y : Nat} (hy : s.usedN y = true) : s.wher (y : Int) = (((y / 4096 : Nat) : Int), ((y % 4096 * s.zAt y : Nat) : Int), ((s.zAt y : Nat) : Int)) := by
  unfold Sl.wher
  rw [s.usedB_nat, hy, if_pos rfl, Int.toNat_natCast]
  rfl
theorem write_fits {s : St} {k i : Nat} {l : List UInt8} (hg : grB s.ow (k : Int) = true) (hi : i + l.length ≤ s.size) : s.write (k : Int) (i : Int) l = (0, s.put k i l) := by
  have hc : s.code (k : Int) (i : Int) l.length = 0 := by
    unfold St.code
    rw [hg, if_pos rfl, if_pos (by omega)]
  unfold St.write
  rw [hc, if_pos rfl, Int.toNat_natCast, Int.toNat_natCast]

set_option maxHeartbeats 1000000 in
set_option maxRecDepth 100000 in
theorem put_any {d : Di} {s : Sl} {w : World} (h : MIs d s w) (ok : s.Ok) (x : Int) (hx : x ≤ 9223372036854775807) (v : Value) (l : List UInt8) (hl : l.length ≤ 9223372036854775807) (hv : Byts w v l) :
    Calls Try.prog 19 #[.pointer (some ⟨d.P, 0, none⟩), .int .i64 x, v] w fun e w' => e = .returned (.int .i64 (s.put x l).1) ∧ ∃ d', Stp d s w d' (s.put x l).2 w' := by
  have hw := where_any h ok x hx
  obtain ⟨a, c, rfl⟩ : ∃ a c, v = .slice a l.length c := by obtain ⟨a, c, e, _⟩ := hv; exact ⟨a, c, e⟩
  rcases s.used_cases x with ⟨hn, _⟩ | ⟨y, rfl, hy, _⟩
  · rw [wher_no hn] at hw
    rw [Sl.put_no hn]
    have HS : Hid (∀ m, Stp d s w d s (w.drewN m)) := hid fun m => (Stp.refl h).more (D := fun _ => False) ⟨rfl, rfl, rfl, Nat.le_refl _, fun _ _ _ => rfl⟩ (fun _ h => h.elim)
    clear h ok hn hv
    generalize d.P = P at *
    go_enter Try.func19, Try.ntmps19
    go_wp2_with fail
    refine hw.mono ?_
    rintro e w' ⟨rfl, m, rfl⟩
    clear hw
    go_wp2_with fail
    go_ret
    exact ⟨rfl, d, HS.out m⟩
  · rw [wher_z hy] at hw
    obtain ⟨b1, b2, b3, b4⟩ := ok.within hy
    have hs2 := ok.ao.s2
    have hn2 := ok.ao.n2
    by_cases hlz : l.length ≤ s.zAt y
    · rw [Sl.put_yes hy hlz]
      have hwr := fun m => write_any (w := w.drewN m) (h.ar.below ⟨rfl, rfl, rfl, Nat.le_refl _, fun _ _ => rfl⟩) ((y / 4096 : Nat) : Int) ((y % 4096 * s.zAt y : Nat) : Int) (by omega) (.slice a l.length c) l hl hv
      rw [write_fits b2 (by omega)] at hwr
      have HS : Hid (∀ m w', AIs d.A d.O d.B (s.a.put (y / 4096) (y % 4096 * s.zAt y) l) w' → Only (fun b => b = d.B) (w.drewN m) w' → Stp d s w d (s.putA y l) w') := hid fun m w' hA ho =>
        Stp.arena h (s.a.put (y / 4096) (y % 4096 * s.zAt y) l) rfl (Only.trans (b := w.drewN m) ⟨rfl, rfl, rfl, Nat.le_refl _, fun _ _ _ => rfl⟩ ho (fun b hb => .inl (.inr hb))) hA
      have c0 := h.h0
      have ilz : (l.length : Int) ≤ (s.zAt y : Int) := by omega
      clear h ok hy hv
      generalize d.P = P at *
      generalize d.A = A at *
      generalize y / 4096 = p at *
      generalize y % 4096 * s.zAt y = M at *
      generalize s.zAt y = z at *
      generalize l.length = n at *
      go_enter Try.func19, Try.ntmps19
      go_wp2_with fail
      refine hw.mono ?_
      rintro e w' ⟨rfl, m, rfl⟩
      clear hw
      have hwr := hwr m
      go_wp2_with fail
      refine hwr.mono ?_
      rintro e w2 ⟨rfl, hA, ho⟩
      have HS2 := hid (HS.out m w2 hA ho)
      clear hwr hA ho HS
      go_wp2_with fail
      go_ret
      exact ⟨rfl, d, HS2.out⟩
    · rw [Sl.put_large hy hlz]
      have HS : Hid (∀ m, Stp d s w d s (w.drewN m)) := hid fun m => (Stp.refl h).more (D := fun _ => False) ⟨rfl, rfl, rfl, Nat.le_refl _, fun _ _ _ => rfl⟩ (fun _ h => h.elim)
      have ilz : (s.zAt y : Int) < (l.length : Int) := by omega
      clear h ok hy hv
      generalize d.P = P at *
      generalize y / 4096 = p at *
      generalize y % 4096 * s.zAt y = M at *
      generalize s.zAt y = z at *
      generalize l.length = n at *
      go_enter Try.func19, Try.ntmps19
      go_wp2_with fail
      refine hw.mono ?_
      rintro e w' ⟨rfl, m, rfl⟩
      clear hw
      go_wp2_with fail
      go_ret
      exact ⟨rfl, d, HS.out m⟩
end Go.Proofs.Ytldfpacdlephcaa
namespace Go.Proofs.Ytldfpacdlephcaa
open Go Go.RowKit Go.Lib

theorem nil_row (w : World) (n : Nat) : (w.drewN n).ownsRow w.heap.size 5 1 (.slice none 0 0) ([] : List UInt8).length (bc []) := World.ownsRow_nil _ _ _ _
set_option maxHeartbeats 1000000 in
set_option maxRecDepth 100000 in
theorem get_any {d : Di} {s : Sl} {w : World} (h : MIs d s w) (ok : s.Ok) (x n : Int) (hx : x ≤ 9223372036854775807) :
    Calls Try.prog 20 #[.pointer (some ⟨d.P, 0, none⟩), .int .i64 x, .int .i64 n] w fun e w' => ∃ v, e = .returned (.tuple #[v, .int .i64 (s.get x n).1]) ∧ w'.ownsRow w.heap.size 5 1 v (s.get x n).2.length (bc (s.get x n).2) ∧ Below w.heap.size w w' := by
  have hw := where_any h ok x hx
  rcases s.used_cases x with ⟨hn, _⟩ | ⟨y, rfl, hy, _⟩
  · rw [wher_no hn] at hw
    rw [Sl.get_no hn]
    clear h ok hn
    generalize d.P = P at *
    go_enter Try.func20, Try.ntmps20
    go_wp2_with fail
    refine hw.mono ?_
    rintro e w' ⟨rfl, m, rfl⟩
    clear hw
    go_wp2_with fail
    go_ret2
    exact ⟨_, rfl, nil_row w m, ⟨rfl, rfl, rfl, Nat.le_refl _, fun _ _ => rfl⟩⟩
  · rw [wher_z hy] at hw
    obtain ⟨b1, b2, b3, b4⟩ := ok.within hy
    have hs2 := ok.ao.s2
    have hn2 := ok.ao.n2
    by_cases hlz : 0 ≤ n ∧ n ≤ s.zAt y
    · obtain ⟨k, rfl⟩ : ∃ k : Nat, n = k := ⟨n.toNat, by omega⟩
      rw [Sl.get_yes hy (by omega)]
      have hrd := fun m => read_ok (w := w.drewN m) (h.ar.below ⟨rfl, rfl, rfl, Nat.le_refl _, fun _ _ => rfl⟩) (y / 4096) (y % 4096 * s.zAt y) k b2 b1 (by omega)
      have hlen := St.get_len ok.ao b1 (i := y % 4096 * s.zAt y) (m := k) (by omega)
      dsimp only
      rw [hlen]
      have c0 := h.h0
      have ilz : (k : Int) ≤ (s.zAt y : Int) := by omega
      clear h ok hy hlen
      generalize s.a.get (y / 4096) (y % 4096 * s.zAt y) k = gl at *
      generalize d.P = P at *
      generalize d.A = A at *
      generalize y / 4096 = p at *
      generalize y % 4096 * s.zAt y = M at *
      generalize s.zAt y = z at *
      go_enter Try.func20, Try.ntmps20
      go_wp2_with fail
      refine hw.mono ?_
      rintro e w' ⟨rfl, m, rfl⟩
      clear hw
      have hrd := hrd m
      go_wp2_with fail
      refine hrd.mono ?_
      rintro e w2 ⟨v, rfl, hown, hb⟩
      clear hrd
      obtain ⟨ra, rc, rfl⟩ := row_form hown
      go_wp2_with fail
      go_ret2
      exact ⟨_, rfl, hown, ⟨hb.os, hb.tape, hb.output, hb.size, hb.block⟩⟩
    · rw [Sl.get_bad hy hlz]
      have hcase : n < 0 ∨ (0 ≤ n ∧ (s.zAt y : Int) < n) := by omega
      clear h ok hy hlz
      generalize d.P = P at *
      generalize y / 4096 = p at *
      generalize y % 4096 * s.zAt y = M at *
      generalize s.zAt y = z at *
      rcases hcase with g1 | ⟨g1, g2⟩
      all_goals
        go_enter Try.func20, Try.ntmps20
        go_wp2_with fail
        refine hw.mono ?_
        rintro e w' ⟨rfl, m, rfl⟩
        clear hw
        go_wp2_with fail
        go_ret2
        exact ⟨_, rfl, nil_row w m, ⟨rfl, rfl, rfl, Nat.le_refl _, fun _ _ => rfl⟩⟩
end Go.Proofs.Ytldfpacdlephcaa

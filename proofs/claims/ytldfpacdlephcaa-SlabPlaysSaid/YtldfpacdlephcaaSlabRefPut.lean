/-
  The document's own answer for layer 7 (ambryref07) at this program: Put and Get, of any slab, any numbers and any bytes that a slice holds. No further conditions but that the bytes lie in no block of the answer's.
-/
import Derived.Test.YtldfpacdlephcaaSlabRefOpen
namespace Go.Proofs.Ytldfpacdlephcaa
open Go Go.RowKit Go.Lib

theorem Ag.put {s : Sl} {tk cl : List Nat} (h : Ag s tk cl) (y : Nat) (l : List UInt8) : Ag (s.putA y l) tk cl := h.same (fun _ => rfl) (fun _ => Iff.rfl)

set_option maxHeartbeats 2000000 in
set_option maxRecDepth 100000 in
theorem ref_put {d : Dr} {s : Sl} {tk cl : List Nat} {w : World} (h : RM d (rf s tk cl) w) (ok : s.Ok) (ag : Ag s tk cl) (x : Int) (v : Value) (l : List UInt8) (hl : l.length ≤ 9223372036854775807) (hv : Byts w v l) (hvb : 0 < l.length → ∀ g o n c, v = .slice (some ⟨g, o, none⟩) n c → g ≠ d.B) :
    Calls Try.prog 40 #[.pointer (some ⟨d.P, 0, none⟩), .int .i64 x, v] w fun e w' => e = .returned (.int .i64 (s.put x l).1) ∧ RGo d s tk cl w (s.put x l).2 w' := by
  have hw := ref_where h ok ag x
  obtain ⟨a, c, rfl⟩ : ∃ a c, v = .slice a l.length c := by obtain ⟨a, c, e, _⟩ := hv; exact ⟨a, c, e⟩
  have hgo := hid (fun m => (RGo.refl h ag).more (drewN_below w m))
  rcases s.used_cases x with ⟨hn, _⟩ | ⟨y, rfl, hy, _⟩
  · rw [wher_no hn] at hw
    rw [Sl.put_no hn]
    clear h ok ag hn hv hvb
    go_enter Try.func40, Try.ntmps40
    go_wp2_with fail
    refine hw.mono ?_
    rintro e w' ⟨rfl, m, rfl⟩
    clear hw
    go_wp2_with fail
    go_ret
    exact ⟨rfl, hgo.out m⟩
  · rw [wher_z hy] at hw
    obtain ⟨b1, b2, b3, b4⟩ := ok.within hy
    have hs2 := ok.ao.s2
    have hn2 := ok.ao.n2
    by_cases hlz : l.length ≤ s.zAt y
    · rw [Sl.put_yes hy hlz]
      have hwr := fun m => ref_write (h.drewN m).ar ((y / 4096 : Nat) : Int) ((y % 4096 * s.zAt y : Nat) : Int) (by omega) (.slice a l.length c) l hl hv hvb
      have ea : (rf s tk cl).a = s.a := rfl
      rw [ea, write_fits b2 (by omega)] at hwr
      have HS : Hid (∀ m w' bl', RIs d.A d.O d.B d.cO d.cB bl' (s.a.put (y / 4096) (y % 4096 * s.zAt y) l) w' → (∀ i b, bl' i = some b → d.bl i = some b ∨ (w.drewN m).heap.size ≤ b) → Only (RTurn d.O d.B d.bl) (w.drewN m) w' → RGo d s tk cl w (s.putA y l) w') := hid fun m w' bl' hA hn ho =>
        ⟨_, _, _, RStp.after (drewN_below w m) (RStp.arena (h.drewN m) hA hn ho), ag.put y l⟩
      have c0 := h.h0
      have ilz : (l.length : Int) ≤ (s.zAt y : Int) := by omega
      clear h ok ag hy hv ea hgo hvb
      generalize y / 4096 = p at *
      generalize y % 4096 * s.zAt y = M at *
      generalize s.zAt y = z at *
      generalize l.length = n at *
      go_enter Try.func40, Try.ntmps40
      go_wp2_with fail
      refine hw.mono ?_
      rintro e w' ⟨rfl, m, rfl⟩
      clear hw
      have hwr := hwr m
      go_wp2_with fail
      refine hwr.mono ?_
      rintro e w2 ⟨rfl, bl', hA, hn, ho⟩
      have HS2 := hid (HS.out m w2 bl' hA hn ho)
      clear hwr hA ho HS hn
      go_wp2_with fail
      go_ret
      exact ⟨rfl, HS2.out⟩
    · rw [Sl.put_large hy hlz]
      have ilz : (s.zAt y : Int) < (l.length : Int) := by omega
      clear h ok ag hy hv hvb
      generalize y / 4096 = p at *
      generalize y % 4096 * s.zAt y = M at *
      generalize s.zAt y = z at *
      generalize l.length = n at *
      go_enter Try.func40, Try.ntmps40
      go_wp2_with fail
      refine hw.mono ?_
      rintro e w' ⟨rfl, m, rfl⟩
      clear hw
      go_wp2_with fail
      go_ret
      exact ⟨rfl, hgo.out m⟩

set_option maxHeartbeats 2000000 in
set_option maxRecDepth 100000 in
theorem ref_get {d : Dr} {s : Sl} {tk cl : List Nat} {w : World} (h : RM d (rf s tk cl) w) (ok : s.Ok) (ag : Ag s tk cl) (x n : Int) :
    Calls Try.prog 41 #[.pointer (some ⟨d.P, 0, none⟩), .int .i64 x, .int .i64 n] w fun e w' => ∃ v, e = .returned (.tuple #[v, .int .i64 (s.get x n).1]) ∧ w'.ownsRow w.heap.size 5 1 v (s.get x n).2.length (bc (s.get x n).2) ∧ RGo d s tk cl w s w' := by
  have hw := ref_where h ok ag x
  have hgo := hid (fun m => (RGo.refl h ag).more (drewN_below w m))
  rcases s.used_cases x with ⟨hn, _⟩ | ⟨y, rfl, hy, _⟩
  · rw [wher_no hn] at hw
    rw [Sl.get_no hn]
    clear h ok ag hn
    go_enter Try.func41, Try.ntmps41
    go_wp2_with fail
    refine hw.mono ?_
    rintro e w' ⟨rfl, m, rfl⟩
    clear hw
    go_wp2_with fail
    go_ret2
    exact ⟨_, rfl, nil_row w m, hgo.out m⟩
  · rw [wher_z hy] at hw
    obtain ⟨b1, b2, b3, b4⟩ := ok.within hy
    have hs2 := ok.ao.s2
    have hn2 := ok.ao.n2
    by_cases hlz : 0 ≤ n ∧ n ≤ s.zAt y
    · obtain ⟨k, rfl⟩ : ∃ k : Nat, n = k := ⟨n.toNat, by omega⟩
      rw [Sl.get_yes hy (by omega)]
      have hrd := fun m => ref_read_ok (h.drewN m).ar (y / 4096) (y % 4096 * s.zAt y) k b2 b1 (by show _ ≤ s.a.size; omega)
      have ea : (rf s tk cl).a = s.a := rfl
      rw [ea] at hrd
      have hlen := St.get_len ok.ao b1 (i := y % 4096 * s.zAt y) (m := k) (by omega)
      have HS : Hid (∀ m w' bl', RIs d.A d.O d.B d.cO d.cB bl' s.a w' → (∀ i b, bl' i = some b → d.bl i = some b ∨ (w.drewN m).heap.size ≤ b) → Only (fun b => b = d.B) (w.drewN m) w' → RGo d s tk cl w s w') := hid fun m w' bl' hA hn ho =>
        ⟨_, _, _, RStp.after (drewN_below w m) (RStp.arena (h.drewN m) hA hn (ho.mono (fun b hb => .inr (.inl hb)))), ag⟩
      dsimp only
      rw [hlen]
      have c0 := h.h0
      have ilz : (k : Int) ≤ (s.zAt y : Int) := by omega
      clear h ok ag hy hlen ea hgo
      generalize s.a.get (y / 4096) (y % 4096 * s.zAt y) k = gl at *
      generalize y / 4096 = p at *
      generalize y % 4096 * s.zAt y = M at *
      generalize s.zAt y = z at *
      go_enter Try.func41, Try.ntmps41
      go_wp2_with fail
      refine hw.mono ?_
      rintro e w' ⟨rfl, m, rfl⟩
      clear hw
      have hrd := hrd m
      go_wp2_with fail
      refine hrd.mono ?_
      rintro e w2 ⟨v, rfl, hown, bl', hA, hn, ho⟩
      have HF := hid (HS.out m w2 bl' hA hn ho)
      clear hrd HS hA hn ho
      obtain ⟨ra, rc, rfl⟩ := row_form hown
      go_wp2_with fail
      go_ret2
      exact ⟨_, rfl, hown, HF.out⟩
    · rw [Sl.get_bad hy hlz]
      have hcase : n < 0 ∨ (0 ≤ n ∧ (s.zAt y : Int) < n) := by omega
      clear h ok ag hy hlz
      generalize y / 4096 = p at *
      generalize y % 4096 * s.zAt y = M at *
      generalize s.zAt y = z at *
      rcases hcase with g1 | ⟨g1, g2⟩
      all_goals
        go_enter Try.func41, Try.ntmps41
        go_wp2_with fail
        refine hw.mono ?_
        rintro e w' ⟨rfl, m, rfl⟩
        clear hw
        go_wp2_with fail
        go_ret2
        exact ⟨_, rfl, nil_row w m, hgo.out m⟩
end Go.Proofs.Ytldfpacdlephcaa

/-
  Package slab at this program: Free, of any slab and any number. No conditions but that the number is an int's.
-/
import Derived.Test.YtldfpacdlephcaaSlabPush
namespace Go.Proofs.Ytldfpacdlephcaa
open Go Go.RowKit Go.Lib

/-- A used chunk is free, and on top of the row, if its page is open. -/
def Sl.freed (s : Sl) (x : Nat) : Sl := match s.cut (x / 4096) with | none => s | some k => if k.closed = true then s.mark x false else (s.mark x false).push k.cls x
def Sl.free (s : Sl) (x : Int) : Int × Sl := if s.usedB x = true then (0, s.freed x.toNat) else (8, s)
theorem Sl.free_no {s : Sl} {x : Int} (h : s.usedB x = false) : s.free x = (8, s) := by unfold Sl.free; rw [h, if_neg (by decide)]
theorem Sl.free_yes {s : Sl} {y : Nat} {k : Ct} (h : s.usedN y = true) (hk : s.cut (y / 4096) = some k) : s.free (y : Int) = (0, if k.closed = true then s.mark y false else (s.mark y false).push k.cls y) := by
  unfold Sl.free
  rw [s.usedB_nat, h, if_pos rfl, Int.toNat_natCast]
  unfold Sl.freed; rw [hk]
theorem Sl.mark_sz (s : Sl) (x : Nat) (b : Bool) : (s.mark x b).sz = s.sz ∧ (s.mark x b).a = s.a ∧ (s.mark x b).rows = s.rows := by
  cases hk : s.cut (x / 4096) with
  | none => unfold Sl.mark; rw [hk]; exact ⟨rfl, rfl, rfl⟩
  | some k => rw [Sl.mark_at b hk]; exact ⟨rfl, rfl, rfl⟩
theorem Sl.free_sz (s : Sl) (x : Int) : (s.free x).2.sz = s.sz ∧ (s.free x).2.a = s.a := by
  rcases s.used_cases x with ⟨hx, _⟩ | ⟨y, rfl, hy, _⟩
  · rw [Sl.free_no hx]; exact ⟨rfl, rfl⟩
  · obtain ⟨k, hk, _⟩ := Sl.usedN_true hy
    rw [Sl.free_yes hy hk]
    obtain ⟨e1, e2, _⟩ := s.mark_sz y false
    cases k.closed with
    | true => exact ⟨e1, e2⟩
    | false => exact ⟨e1, e2⟩
theorem Sl.Ok.freeOk {s : Sl} (h : s.Ok) (x : Int) : (s.free x).2.Ok := by
  rcases s.used_cases x with ⟨hx, _⟩ | ⟨y, rfl, hy, _⟩
  · rw [Sl.free_no hx]; exact h
  · obtain ⟨k, hk, hu⟩ := Sl.usedN_true hy
    rw [Sl.free_yes hy hk]
    obtain ⟨h1, k', hk', hf, hp, hn⟩ := Sl.free_ok h hy
    have e : k' = k.mark (y % 4096) false := by
      rw [Sl.mark_at false hk] at hk'
      have h2 : upd s.cut (y / 4096) (some (k.mark (y % 4096) false)) (y / 4096) = some k' := hk'
      rw [upd_same] at h2; exact (Option.some.inj h2).symm
    have hcl := (h.ct _ k hk).2.1
    have es : (s.mark y false).sz = s.sz := by rw [Sl.mark_at false hk]; rfl
    have ea : (s.mark y false).a = s.a := by rw [Sl.mark_at false hk]; rfl
    have er : (s.mark y false).rows = s.rows := by rw [Sl.mark_at false hk]; rfl
    cases hc : k.closed with
    | true => exact h1
    | false =>
      subst e
      refine Sl.push_ok h1 (by rw [es]; exact hcl) hk' rfl hc hf ?_ (by rw [er]; exact hn k.cls hcl)
      have hp2 : y % 4096 < s.per k.cls := hp
      unfold Sl.per Sl.size at hp2 ⊢
      rw [es, ea]; exact hp2

theorem free_mark {d : Di} {s : Sl} {w : World} (h : MIs d s w) {x t : Nat} {k : Ct} (hk : s.cut (x / 4096) = some k) (hu : k.used[x % 4096]? = some true) (ht : tru k.used = t + 1) :
    ∀ W, W = (w.setCell ⟨d.ub (x / 4096), x % 4096, none⟩ (.bool false)).setCell ⟨d.cb (x / 4096), 2, none⟩ (.int .i64 (t : Int)) → Stp d s w d (s.mark x false) W := by
  intro W hW
  subst hW
  rw [Sl.mark_at false hk]
  obtain ⟨b1, b2⟩ := h.cut _ k hk
  have hne : d.cb (x / 4096) ≠ d.ub (x / 4096) := b1.ne b2 (by decide)
  refine Stp.cut h hk (k.mark (x % 4096) false) (((Only.refl (fun b => b = d.cb (x / 4096) ∨ b = d.ub (x / 4096)) _).setCell (p := ⟨d.ub (x / 4096), x % 4096, none⟩) (.inl (.inr rfl)) _).setCell (p := ⟨d.cb (x / 4096), 2, none⟩) (.inl (.inl rfl)) _) ?_ ?_
  · have h2 := (b1.setOther (p := ⟨d.ub (x / 4096), x % 4096, none⟩) hne (.bool false)).set 2 (.int .i64 (t : Int))
    have e : ctCells (d.ub (x / 4096)) s.U (k.mark (x % 4096) false) = (ctCells (d.ub (x / 4096)) s.U k).set 2 (.int .i64 (t : Int)) := by
      unfold ctCells Ct.mark
      rw [(tru_off hu).1, ht]; rfl
    rw [e]; exact h2
  · have h2 := (b2.set (x % 4096) (.bool false)).setOther (p := ⟨d.cb (x / 4096), 2, none⟩) hne.symm (.int .i64 (t : Int))
    show Blk _ _ _ (bb (k.used.set (x % 4096) false))
    rw [bb_set]; exact h2

set_option maxHeartbeats 2000000 in
set_option maxRecDepth 100000 in
theorem free_any {d : Di} {s : Sl} {w : World} (h : MIs d s w) (ok : s.Ok) (x : Int) (hx2 : x ≤ 9223372036854775807) :
    Calls Try.prog 16 #[.pointer (some ⟨d.P, 0, none⟩), .int .i64 x] w fun e w' => e = .returned (.int .i64 (s.free x).1) ∧ ∃ d', Stp d s w d' (s.free x).2 w' := by
  rcases s.used_cases x with ⟨hx, _⟩ | ⟨y, rfl, hy, _⟩
  · have hf := find_no h ok x hx hx2
    rw [Sl.free_no hx]
    have H := hid h
    clear h hx ok
    generalize d.P = P at *
    go_enter Try.func16, Try.ntmps16
    go_wp2_with fail
    refine hf.mono ?_
    rintro e w' ⟨rfl, rfl⟩
    clear hf
    go_wp2_with fail
    go_ret
    exact ⟨rfl, d, Stp.refl H.out⟩
  · obtain ⟨k, hk, hu⟩ := Sl.usedN_true hy
    rw [Sl.free_yes hy hk]
    have hf := find_yes h ok y hy
    obtain ⟨t, ht⟩ : ∃ t, tru k.used = t + 1 := ⟨tru k.used - 1, by have := (tru_off hu).2; omega⟩
    have hS := free_mark h hk hu ht
    have f1 := h.k1 hk
    have f2 := h.k2 hk
    have f3 := h.k3 hk
    have f0 := h.k0 hk
    have f7 := h.ku hk hu
    have f8 := (h.cut _ k hk).2.frozen (y % 4096)
    have f9 := (h.cut _ k hk).1.frozen 2
    have hne : d.cb (y / 4096) ≠ d.ub (y / 4096) := (h.cut _ k hk).1.ne (h.cut _ k hk).2 (by decide)
    have hU := (ok.ct _ k hk).2.2.1
    have hcl := (ok.ct _ k hk).2.1
    have hi := (List.getElem?_eq_some_iff.1 hu).1
    have htl := tru_le k.used
    have hUl := ok.U_le
    rw [ht] at f2 htl
    rw [hU] at htl hi
    have q3 : ((y % 4096 : Nat) : Int) < (s.U : Int) := by omega
    cases hc : k.closed with
    | true =>
      have HS := hid hS
      rw [hc] at f3
      rw [if_pos rfl]
      clear h ok hk hu hy hU hcl ht hS hc f0
      generalize d.cb (y / 4096) = B at *
      generalize d.ub (y / 4096) = V at *
      generalize y % 4096 = i at *
      generalize s.U = U at *
      generalize hP : d.P = P at *
      go_enter Try.func16, Try.ntmps16
      go_wp2_with fail
      refine hf.mono ?_
      rintro e w' ⟨rfl, rfl⟩
      clear hf
      go_wp2_with fail
      go_ret
      exact ⟨rfl, d, HS.out _ rfl⟩
    | false =>
      have es : (s.mark y false).sz = s.sz := by rw [Sl.mark_at false hk]; rfl
      have er : (s.mark y false).rows = s.rows := by rw [Sl.mark_at false hk]; rfl
      have hp := fun W hW => push_any (hS W hW).m (c := k.cls) (by rw [es]; exact hcl) (by rw [er]; exact Nat.le_trans (ok.row_len hcl) (by decide)) y
      have HP := hid hp
      have HS := hid hS
      rw [hc] at f3
      rw [if_neg (by decide)]
      clear h ok hk hu hy hU hcl ht hS hc hp es er
      generalize d.cb (y / 4096) = B at *
      generalize d.ub (y / 4096) = V at *
      generalize y % 4096 = i at *
      generalize s.U = U at *
      generalize hP : d.P = P at *
      go_enter Try.func16, Try.ntmps16
      go_wp2_with fail
      refine hf.mono ?_
      rintro e w' ⟨rfl, rfl⟩
      clear hf
      go_wp2_with fail
      refine (HP.out _ rfl).mono ?_
      rintro e w2 ⟨⟨u, rfl⟩, v, hS2, -⟩
      have H2 := hid hS2
      clear HP hS2
      go_wp2_with fail
      go_ret
      exact ⟨rfl, _, (HS.out _ rfl).trans H2.out⟩
end Go.Proofs.Ytldfpacdlephcaa

/-
  What is worked on, in memory; the contracts of its small readers. Conditions: numbers are in their types' ranges.
-/
import Derived.Test.YtpgljahomeebhaaDoorMpIns
import Derived.Test.YtpgljahomeebhaaDoorModBox
import Derived.BigQuiet
import Derived.StillTailTactics
namespace Go.Proofs.YtpgljahomeebhaaDoor.Md
open Go Go.RowKit Go.Lib

/-- What a command is being done to. -/
structure Wk where
  l : List It
  cas : Nat
  fl : Int
  c : Cm
  now : Int
  most : Int
  ix : Int
  x : It
def Wk.cells (v : Value) (s : Wk) : List Value :=
  [v, .int .u64 s.cas, .int .i64 s.fl, .int .i64 s.c.op, .int .i64 s.c.mode, .string s.c.key, .string s.c.val, .int .u32 s.c.flags, .int .i64 s.c.exp, .bool s.c.hasExp, .int .u64 s.c.cas, .bool s.c.hasCas, .int .u64 s.c.delta, .int .u64 s.c.init, .bool s.c.down, .bool s.c.viv, .int .i64 s.c.vive, .int .i64 s.c.rcc, .bool s.c.inv,
    .int .i64 s.now, .int .i64 s.most, .int .i64 s.ix, .string s.x.key, .int .u32 s.x.flags, .string s.x.val, .int .i64 s.x.exp, .int .u64 s.x.cas, .int .i64 s.x.last, .bool s.x.stale, .bool s.x.won]
/-- It lies at B; its row is one of F. -/
def WP (B : Nat) (F : Nat → Prop) (s : Wk) (w : World) : Prop :=
  ∃ v G, Blk w B 60 (s.cells v) ∧ Rw G w v s.l ∧ F B ∧ ¬ G B ∧ (∀ b, G b → F b ∧ b < w.heap.size) ∧ ∀ b, F b → b < w.heap.size
/-- Its head alone. -/
def WR (B : Nat) (s : Wk) (w : World) : Prop := ∃ v, Blk w B 60 (s.cells v)
/-- What a call leaves. -/
structure Stp (F F' : Nat → Prop) (w w' : World) : Prop where
  only : Only F w w'
  foot : ∀ b, F' b → F b ∨ w.heap.size ≤ b
section
variable {B : Nat} {F F' F'' D : Nat → Prop} {s : Wk} {w w' w'' : World}
theorem Stp.refl (F : Nat → Prop) (w : World) : Stp F F w w := ⟨Only.refl _ _, fun _ h => .inl h⟩
theorem Stp.trans (h : Stp F F' w w') (k : Stp F' F'' w' w'') : Stp F F'' w w'' :=
  ⟨h.only.trans k.only h.foot, fun b hb => (k.foot b hb).elim (h.foot b) (fun e => .inr (Nat.le_trans h.only.size e))⟩
theorem Stp.below (h : Stp F F' w w') (hb : Below w'.heap.size w' w'') : Stp F F' w w'' := ⟨h.only.trans (E := fun _ => False) (Below.only hb) (fun _ h => h.elim), h.foot⟩
theorem Stp.ahead (hb : Below w.heap.size w w') (h : Stp F F' w' w'') : Stp F F' w w'' := ⟨(Below.only (D := F) hb).trans h.only (fun _ h => .inl h), fun b hb' => (h.foot b hb').imp id (fun e => Nat.le_trans hb.size e)⟩
theorem Stp.of_below (hb : Below w.heap.size w w') : Stp F F w w' := ⟨Below.only hb, fun _ h => .inl h⟩
/-- A box of the caller's own stands. -/
theorem Stp.blk (h : Stp F F' w w') {b : Nat} {t : TypeId} {cs : List Value} (hb : Blk w b t cs) (hn : ¬ F b) : Blk w' b t cs ∧ ¬ F' b :=
  ⟨hb.only h.only hn, fun e => (h.foot b e).elim hn (fun e => Nat.lt_irrefl _ (Nat.lt_of_lt_of_le hb.lt e))⟩
theorem WP.head (h : WP B F s w) : WR B s w := by obtain ⟨v, G, h1, _⟩ := h; exact ⟨v, h1⟩
theorem WP.lt (h : WP B F s w) : ∀ b, F b → b < w.heap.size := by obtain ⟨v, G, _, _, _, _, _, h1⟩ := h; exact h1
theorem WP.FB (h : WP B F s w) : F B := by obtain ⟨v, G, _, _, h1, _⟩ := h; exact h1
theorem WP.only (h : WP B F s w) (ho : Only D w w') (hd : ∀ b, F b → ¬ D b) : WP B F s w' := by
  obtain ⟨v, G, h1, h2, h3, h4, h5, h6⟩ := h
  exact ⟨v, G, h1.only ho (hd B h3), h2.only ho (fun b hb => hd b (h5 b hb).1), h3, h4, fun b hb => ⟨(h5 b hb).1, Nat.lt_of_lt_of_le (h5 b hb).2 ho.size⟩, fun b hb => Nat.lt_of_lt_of_le (h6 b hb) ho.size⟩
theorem WP.below (h : WP B F s w) (hb : Below w.heap.size w w') : WP B F s w' := h.only (D := fun _ => False) (Below.only hb) (fun _ _ h => h)
theorem WR.below (h : WR B s w) (hb : Below w.heap.size w w') : WR B s w' := by obtain ⟨v, h1⟩ := h; exact ⟨v, h1.below hb⟩
theorem WP.new (h : WP B F s w) {b : Nat} (hb : w.heap.size ≤ b) : ¬ F b := fun e => Nat.lt_irrefl _ (Nat.lt_of_lt_of_le (h.lt b e) hb)
end
def Wk.there (s : Wk) : Bool := decide (0 ≤ s.ix)
def Wk.oth (s : Wk) : Bool := s.c.hasCas && decide (s.c.cas ≠ s.x.cas)
def Wk.large (s : Wk) (x : It) : Bool := decide (s.most < ((x.key.size + x.val.size : Nat) : Int))
def Wk.soon (s : Wk) : Bool := decide (s.x.exp ≠ 0) && decide (s.x.exp - s.now < s.c.rcc)
def Wk.nexp (s : Wk) : Int := if s.c.hasExp then moment s.now s.c.exp else s.x.exp
section
variable {B : Nat} {s : Wk} {w : World}
theorem below_drewN' (w : World) (n : Nat) : Below w.heap.size w (w.drewN n) := ⟨rfl, rfl, rfl, Nat.le_refl _, fun _ _ => rfl⟩
set_option maxRecDepth 100000 in
theorem wk_there (h : WR B s w) : Calls Tryd.prog 33 #[.pointer (some ⟨B, 0, none⟩)] w fun e w' => e = .returned (.bool s.there) ∧ w = w' := by
  obtain ⟨v, hb⟩ := h
  have c0 := hb.cell (i := 21) rfl
  have hd := hid (show s.there = decide (0 ≤ s.ix) from rfl)
  clear hb
  go_enter Tryd.func33, Tryd.ntmps33
  go_wp2_with fail
  go_ret
  exact ⟨ret_bool hd.out.symm, rfl⟩
set_option maxRecDepth 100000 in
theorem wk_oth' (h : WR B s w) : Calls Tryd.prog 66 #[.pointer (some ⟨B, 0, none⟩)] w fun e w' => e = .returned (.bool s.oth) ∧ ∃ m, w' = w.drewN m := by
  obtain ⟨v, hb⟩ := h
  have c0 := hb.cell (i := 11) rfl
  have c1 := hb.cell (i := 10) rfl
  have c2 := hb.cell (i := 26) rfl
  cases hc : s.c.hasCas
  · have hd := hid (show s.oth = false by unfold Wk.oth; rw [hc]; rfl)
    rw [hc] at c0
    clear hb hc
    go_enter Tryd.func66, Tryd.ntmps66
    go_wp2_with fail
    go_quiet (fail)
    go_wp2_with fail
    go_ret
    exact ⟨ret_bool hd.out.symm, _, rfl⟩
  · by_cases he : s.c.cas = s.x.cas
    · have hd := hid (show s.oth = false by unfold Wk.oth; rw [hc, he]; simp)
      rw [hc] at c0
      rw [he] at c1
      clear hb hc he
      generalize s.x.cas = k at *
      go_enter Tryd.func66, Tryd.ntmps66
      go_wp2_with fail
      go_quiet (fail)
      go_wp2_with fail
      go_ret
      exact ⟨ret_bool hd.out.symm, _, rfl⟩
    · have hd := hid (show s.oth = true by unfold Wk.oth; rw [hc]; simp [he])
      rw [hc] at c0
      have he' : ((s.c.cas : Int) != (s.x.cas : Int)) = true := bne_iff_ne.2 (by omega)
      clear hb hc
      generalize s.x.cas = k at *
      generalize s.c.cas = k2 at *
      go_enter Tryd.func66, Tryd.ntmps66
      go_wp2_with fail
      go_quiet (fail)
      go_wp2_with fail
      go_ret
      exact ⟨ret_bool hd.out.symm, _, rfl⟩
theorem wk_oth (h : WR B s w) : Calls Tryd.prog 66 #[.pointer (some ⟨B, 0, none⟩)] w fun e w' => e = .returned (.bool s.oth) ∧ Below w.heap.size w w' := (wk_oth' h).mono (by
  rintro e w' ⟨rfl, m, rfl⟩
  exact ⟨rfl, below_drewN' w m⟩)
set_option maxRecDepth 100000 in
theorem wk_moment (h : WR B s w) (e : Int) (h1 : 1 ≤ s.now) (h2 : s.now ≤ 1099511627776) : Calls Tryd.prog 60 #[.pointer (some ⟨B, 0, none⟩), .int .i64 e] w fun x w' => x = .returned (.int .i64 (moment s.now e)) ∧ w = w' := by
  obtain ⟨v, hb⟩ := h
  have c0 := hb.cell (i := 19) rfl
  change w.cell? ⟨B, 19, none⟩ = some (.int .i64 s.now) at c0
  clear hb
  generalize s.now = now at *
  have hc : e = 0 ∨ (e < 0 ∧ e ≠ 0) ∨ (0 < e ∧ ¬ e < 0 ∧ e ≠ 0 ∧ e ≤ 2592000) ∨ (2592000 < e ∧ ¬ e < 0 ∧ e ≠ 0 ∧ ¬ e ≤ 2592000) := by omega
  rcases hc with rfl | ⟨a, b⟩ | ⟨a, b, c, d⟩ | ⟨a, b, c, d⟩
  · go_enter Tryd.func60, Tryd.ntmps60
    go_wp2_with fail
    go_ret
    exact ⟨rfl, rfl⟩
  · have hm : Hid (moment now e = now) := hid (by unfold moment; rw [if_neg b, if_pos a])
    have b' : (e == 0) = false := beq_eq_false_iff_ne.2 b
    go_enter Tryd.func60, Tryd.ntmps60
    go_wp2_with fail
    go_ret
    exact ⟨ret_i64 hm.out.symm, rfl⟩
  · have hm : Hid (moment now e = now + e) := hid (by unfold moment; rw [if_neg c, if_neg b, if_pos d])
    have b' : (e == 0) = false := beq_eq_false_iff_ne.2 c
    obtain ⟨z, hs⟩ : ∃ z, z = now + e := ⟨_, rfl⟩
    have q1 : now + e = z := hs.symm
    have q2 : IntKind.i64.wrap z = z := by rw [IntKind.wrap_i64]; omega
    have HS := hid hs
    clear hs
    go_enter Tryd.func60, Tryd.ntmps60
    go_wp2_with fail
    go_ret
    exact ⟨ret_i64 (by rw [hm.out, HS.out]), rfl⟩
  · have hm : Hid (moment now e = e) := hid (by unfold moment; rw [if_neg c, if_neg b, if_neg d])
    have b' : (e == 0) = false := beq_eq_false_iff_ne.2 c
    go_enter Tryd.func60, Tryd.ntmps60
    go_wp2_with fail
    go_ret
    exact ⟨ret_i64 hm.out.symm, rfl⟩
set_option maxRecDepth 100000 in
theorem wk_nexp (h : WR B s w) (h1 : 1 ≤ s.now) (h2 : s.now ≤ 1099511627776) : Calls Tryd.prog 64 #[.pointer (some ⟨B, 0, none⟩)] w fun x w' => x = .returned (.int .i64 s.nexp) ∧ w = w' := by
  have hm := wk_moment h s.c.exp h1 h2
  obtain ⟨v, hb⟩ := h
  have c0 := hb.cell (i := 9) rfl
  have c1 := hb.cell (i := 8) rfl
  have c2 := hb.cell (i := 25) rfl
  cases hc : s.c.hasExp
  · have hd := hid (show s.nexp = s.x.exp by unfold Wk.nexp; rw [hc]; rfl)
    rw [hc] at c0
    clear hb hc hm
    go_enter Tryd.func64, Tryd.ntmps64
    go_wp2_with fail
    go_ret
    exact ⟨ret_i64 hd.out.symm, rfl⟩
  · have hd := hid (show s.nexp = moment s.now s.c.exp by unfold Wk.nexp; rw [hc]; rfl)
    rw [hc] at c0
    clear hb hc
    go_enter Tryd.func64, Tryd.ntmps64
    go_wp2_with fail
    refine hm.mono ?_
    rintro e w' ⟨rfl, rfl⟩
    go_wp2_with fail
    go_ret
    exact ⟨ret_i64 hd.out.symm, rfl⟩
set_option maxRecDepth 100000 in
theorem wk_large (h : WR B s w) (x : It) (hk : x.key.size ≤ 4194304) (hv : x.val.size ≤ 4194304) : Calls Tryd.prog 58 #[.pointer (some ⟨B, 0, none⟩), x.v] w fun e w' => e = .returned (.bool (s.large x)) ∧ Below w.heap.size w w' := by
  obtain ⟨v, hb⟩ := h
  have hl := hb.lt
  have c0 := hb.cell (i := 20) rfl
  have HB : ∀ (o : Obj) n, Below w.heap.size w ((w.alloc o).drewN n) := fun o n => (abelow w o).trans ((below_drewN' _ n).mono (by simp))
  obtain ⟨kx, f, vx, e, c, l, t, o⟩ := x
  have hd := hid (show s.large ⟨kx, f, vx, e, c, l, t, o⟩ = decide (s.most < ((kx.size + vx.size : Nat) : Int)) from rfl)
  show Calls Tryd.prog 58 #[.pointer (some ⟨B, 0, none⟩), .agg #[.string kx, .int .u32 f, .string vx, .int .i64 e, .int .u64 c, .int .i64 l, .bool t, .bool o]] w fun e' w' => e' = .returned (.bool (s.large ⟨kx, f, vx, e, c, l, t, o⟩)) ∧ Below w.heap.size w w'
  change w.cell? ⟨B, 20, none⟩ = some (.int .i64 s.most) at c0
  generalize s.large ⟨kx, f, vx, e, c, l, t, o⟩ = R at *
  generalize s.most = M at *
  change kx.size ≤ 4194304 at hk
  change vx.size ≤ 4194304 at hv
  obtain ⟨N, hN⟩ : ∃ N, N = kx.size + vx.size := ⟨_, rfl⟩
  rw [← hN] at hd
  have q1 : (kx.size : Int) + (vx.size : Int) = (N : Int) := by omega
  have q2 : IntKind.i64.wrap (N : Int) = (N : Int) := by rw [IntKind.wrap_i64]; omega
  clear hb hN
  go_enter Tryd.func58, Tryd.ntmps58
  go_wp2_with fail
  go_quiet (fail)
  go_wp2_with fail
  go_ret
  exact ⟨ret_bool hd.out.symm, HB _ _⟩
set_option maxRecDepth 100000 in
theorem wk_soon (h : WR B s w) (h1 : 1 ≤ s.now) (h2 : s.now ≤ 1099511627776) (h3 : 0 ≤ s.x.exp) (h4 : s.x.exp ≤ 9223372036854775807) : Calls Tryd.prog 63 #[.pointer (some ⟨B, 0, none⟩)] w fun e w' => e = .returned (.bool s.soon) ∧ Below w.heap.size w w' := by
  obtain ⟨v, hb⟩ := h
  have c0 := hb.cell (i := 25) rfl
  have c1 := hb.cell (i := 19) rfl
  have c2 := hb.cell (i := 17) rfl
  have HD := fun n => below_drewN' w n
  have hs : Hid (s.soon = (decide (s.x.exp ≠ 0) && decide (s.x.exp - s.now < s.c.rcc))) := hid rfl
  generalize s.soon = R at *
  change w.cell? ⟨B, 25, none⟩ = some (.int .i64 s.x.exp) at c0
  change w.cell? ⟨B, 19, none⟩ = some (.int .i64 s.now) at c1
  change w.cell? ⟨B, 17, none⟩ = some (.int .i64 s.c.rcc) at c2
  generalize s.x.exp = e at *
  generalize s.now = now at *
  generalize s.c.rcc = r at *
  clear hb
  by_cases he : e = 0
  · have hd := hid (show R = false by rw [hs.out]; simp [he])
    subst he
    go_enter Tryd.func63, Tryd.ntmps63
    go_wp2_with fail
    go_quiet (fail)
    go_wp2_with fail
    go_ret
    exact ⟨ret_bool hd.out.symm, HD _⟩
  · have he' : (e != 0) = true := bne_iff_ne.2 he
    obtain ⟨z, hz⟩ : ∃ z, z = e - now := ⟨_, rfl⟩
    have q1 : e - now = z := hz.symm
    have q2 : IntKind.i64.wrap z = z := by rw [IntKind.wrap_i64]; omega
    have hd := hid (show R = decide (z < r) by rw [hs.out, q1]; simp [he])
    clear hz
    go_enter Tryd.func63, Tryd.ntmps63
    go_wp2_with fail
    go_quiet (fail)
    go_wp2_with fail
    go_ret
    exact ⟨ret_bool hd.out.symm, HD _⟩
end
end Go.Proofs.YtpgljahomeebhaaDoor.Md

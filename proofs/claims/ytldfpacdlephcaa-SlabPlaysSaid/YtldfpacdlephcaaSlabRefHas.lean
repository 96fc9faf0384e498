/-
  The document's own answer for layer 7 (ambryref07) at this program: has, without, Used, class, of any slab and any numbers. No conditions but that a row is no longer than all chunks.
-/
import Derived.Test.YtldfpacdlephcaaSlabRefMem
import Derived.BigQuiet
namespace Go.Proofs.Ytldfpacdlephcaa
open Go Go.RowKit Go.Lib

def hasB (l : List Nat) (n : Int) : Bool := l.any fun (x : Nat) => (x : Int) == n
def wo (l : List Nat) (n : Int) : List Nat := l.filter fun (x : Nat) => (x : Int) != n
theorem hasB_yes {l : List Nat} {n : Int} {x : Nat} (h : x ∈ l) (e : (x : Int) = n) : hasB l n = true := List.any_eq_true.2 ⟨x, h, by simpa using e⟩
theorem hasB_no {l : List Nat} {n : Int} (h : ∀ x ∈ l, (x : Int) ≠ n) : hasB l n = false := by
  unfold hasB
  rw [List.any_eq_false]
  intro x hx
  simpa using h x hx
theorem hasB_iff {l : List Nat} {n : Int} : hasB l n = true ↔ ∃ x ∈ l, (x : Int) = n := by
  unfold hasB
  rw [List.any_eq_true]
  simp
theorem wo_len (l : List Nat) (n : Int) : (wo l n).length ≤ l.length := List.length_filter_le _ _
theorem wo_mem {l : List Nat} {n : Int} {x : Nat} : x ∈ wo l n ↔ x ∈ l ∧ (x : Int) ≠ n := by
  unfold wo
  rw [List.mem_filter]; simp
theorem wo_yes {l : List Nat} {n : Int} {k x : Nat} (h : l[k]? = some x) (e : (x : Int) ≠ n) : wo (l.take (k + 1)) n = wo (l.take k) n ++ [x] := by
  rw [List.take_add_one, h]
  unfold wo
  rw [List.filter_append]
  simp [e]
theorem wo_no {l : List Nat} {n : Int} {k x : Nat} (h : l[k]? = some x) (e : (x : Int) = n) : wo (l.take (k + 1)) n = wo (l.take k) n := by
  rw [List.take_add_one, h]
  unfold wo
  rw [List.filter_append]
  simp [e]

set_option maxHeartbeats 1000000 in
set_option maxRecDepth 100000 in
theorem ref_has {w : World} {base : Nat} {v : Value} {l : List Nat} (hown : w.ownsRow base 3 1 v l.length (nc l)) (hl : l.length ≤ 4200000) (n : Int) :
    Calls Try.prog 64 #[v, .int .i64 n] w fun e w' => e = .returned (.bool (hasB l n)) ∧ w = w' := by
  obtain ⟨a, c, rfl⟩ := row_form hown
  have HR : Hid (∀ (i x : Nat), l[i]? = some x → ∃ g, a = some ⟨g, 0, none⟩ ∧ w.cell? ⟨g, i, none⟩ = some (.int .i64 (x : Int))) := hid (fun i x hx => by
    obtain ⟨g, c2, e, _, h1, _⟩ := own_cell hown hx
    cases e
    exact ⟨g, rfl, h1⟩)
  obtain ⟨L, hL⟩ : ∃ L, L = l.length := ⟨_, rfl⟩
  rw [← hL] at hl ⊢
  have HL := hid hL
  obtain ⟨r, hr⟩ : ∃ r, r = hasB l n := ⟨_, rfl⟩
  rw [← hr]
  have HB := hid hr
  clear hown hL hr
  go_enter Try.func64, Try.ntmps64
  go_wp2_with fail
  go_loop [5] (fun i => ∃ k : Nat, k ≤ L ∧ i = .int .i64 k ∧ Hid (∀ x ∈ l.take k, (x : Int) ≠ n)) (fun i => L - (intOf i).toNat)
  case atStart => exact ⟨0, Nat.zero_le _, rfl, hid (fun x hx => by simp at hx)⟩
  case round =>
    obtain ⟨k, hk, rfl, HK⟩ := hrel
    by_cases hlt : k < L
    · have ilt : (k : Int) < (L : Int) := by omega
      obtain ⟨x, hx⟩ : ∃ x, l[k]? = some x := ⟨_, List.getElem?_eq_getElem (by rw [← HL.out]; exact hlt)⟩
      obtain ⟨g, rfl, hc⟩ := HR.out k x hx
      by_cases e : (x : Int) = n
      · subst e
        have hh : hasB l (x : Int) = true := hasB_yes (List.mem_of_getElem? hx) rfl
        obtain rfl : r = true := HB.out.trans hh
        clear hx hh HR HL HK HB
        go_wp2_with fail
        go_ret
        exact ⟨rfl, rfl⟩
      · have hne : ((x : Int) == n) = false := by simpa using e
        have HK' : Hid (∀ x ∈ l.take (k + 1), (x : Int) ≠ n) := hid (fun y hy => by
          rw [List.take_add_one, hx] at hy
          rcases List.mem_append.1 hy with hy | hy
          · exact HK.out y hy
          · simp at hy; subst hy; exact e)
        clear hx HR HL HK HB e
        go_wp2_with fail
        go_round
        case rel => exact ⟨k + 1, by omega, by go_num, HK'⟩
        case measure => simp [intOf] <;> omega
    · obtain rfl : k = L := by omega
      have hh : hasB l n = false := hasB_no (fun x hx => HK.out x (by rw [HL.out, List.take_length]; exact hx))
      obtain rfl : r = false := HB.out.trans hh
      clear hh HR HL HK HB
      go_wp2_with fail
      go_ret
      exact ⟨rfl, rfl⟩

set_option maxHeartbeats 2000000 in
set_option maxRecDepth 100000 in
theorem ref_without {w : World} {base : Nat} {v : Value} {l : List Nat} (hown : w.ownsRow base 3 1 v l.length (nc l)) (hl : l.length ≤ 4200000) (n : Int) :
    Calls Try.prog 63 #[v, .int .i64 n] w fun e w' => ∃ v', e = .returned v' ∧ w'.ownsRow w.heap.size 3 1 v' (wo l n).length (nc (wo l n)) ∧ Below w.heap.size w w' := by
  obtain ⟨i0, hi, hz0, hz1, hz2⟩ := info_parts infoInt
  obtain ⟨a, c, rfl⟩ := row_form hown
  have HR : Hid (∀ (i x : Nat), l[i]? = some x → ∃ g, a = some ⟨g, 0, none⟩ ∧ g < w.heap.size ∧ w.cell? ⟨g, i, none⟩ = some (.int .i64 (x : Int))) := hid (fun i x hx => by
    obtain ⟨g, c2, e, _, h1, _⟩ := own_cell hown hx
    cases e
    exact ⟨g, rfl, cell_lt h1, h1⟩)
  obtain ⟨L, hL⟩ : ∃ L, L = l.length := ⟨_, rfl⟩
  rw [← hL] at hl ⊢
  have HL := hid hL
  clear hown hL
  go_enter Try.func63, Try.ntmps63
  go_wp2_with fail
  go_loopw [5, 6] (fun o i wr => ∃ k : Nat, k ≤ L ∧ i = .int .i64 k ∧ wr.ownsRow w.heap.size 3 1 o (wo (l.take k) n).length (nc (wo (l.take k) n)) ∧ Below w.heap.size w wr) (fun _ i _ => L - (intOf i).toNat)
  case atStart => exact ⟨0, Nat.zero_le _, rfl, World.ownsRow_nil _ _ _ _, Below.refl _ _⟩
  case round =>
    obtain ⟨k, hk, rfl, ho, hb⟩ := hrel
    have hsz := hb.size
    have hwl := wo_len (l.take k) n
    rw [List.length_take] at hwl
    have hwl : (wo (l.take k) n).length ≤ 4200000 := by omega
    obtain ⟨oa, oc, rfl⟩ := row_form ho
    by_cases hlt : k < L
    · have ilt : (k : Int) < (L : Int) := by omega
      obtain ⟨x, hx⟩ : ∃ x, l[k]? = some x := ⟨_, List.getElem?_eq_getElem (by rw [← HL.out]; exact hlt)⟩
      obtain ⟨g, rfl, hg, hc⟩ := HR.out k x hx
      have hc' : wr.cell? ⟨g, k, none⟩ = some (.int .i64 (x : Int)) := (hb.cell (p := ⟨g, k, none⟩) hg).trans hc
      by_cases e : (x : Int) = n
      · subst e
        have HE : Hid (wo (l.take (k + 1)) (x : Int) = wo (l.take k) (x : Int)) := hid (wo_no hx rfl)
        clear hx HR HL hc
        go_wp2_with fail
        go_roundw
        case rel => exact ⟨k + 1, by omega, by go_num, by rw [HE.out]; exact ho, hb⟩
        case measure => simp [intOf] <;> omega
      · have hne : ((x : Int) != n) = true := by simpa using e
        have HE : Hid (wo (l.take (k + 1)) n = wo (l.take k) n ++ [x]) := hid (wo_yes hx e)
        clear hx HR HL hc e
        go_wp2_with (at_builtin; refine wpList_append_own _ rfl _ _ 22 rfl w.heap.size 3 i0 (.int .i64 0) 1 8 Try.underlying22 hi hz0 hz1 hz2 rfl (by decide) _ _ _ rfl (ho.alloc _) ⟨wr.heap.size, 0, none⟩ 1 1 [.int .i64 (x : Int)] rfl rfl (one_cell _ _ _) (one_ok _) (by unfold maxLen; omega) (by omega) (by simp; omega) ?_)
        intro v' w1 hown' hgrow _
        have hb2 := hb.trans (own_grown ho hsz hgrow)
        have ho2 : w1.ownsRow w.heap.size 3 1 v' (wo (l.take (k + 1)) n).length (nc (wo (l.take (k + 1)) n)) := by
          rw [HE.out, ← nc_app, List.length_append]; exact hown'
        clear hown' hgrow ho hb hc'
        go_wp2_with fail
        go_roundw
        case rel => exact ⟨k + 1, by omega, by go_num, ho2, hb2⟩
        case measure => simp [intOf] <;> omega
    · obtain rfl : k = L := by omega
      have ho2 : wr.ownsRow w.heap.size 3 1 (.slice oa (wo (l.take k) n).length oc) (wo l n).length (nc (wo l n)) := by
        have e : l.take k = l := by rw [HL.out, List.take_length]
        rw [e] at ho ⊢; exact ho
      clear HR HL ho
      go_wp2_with fail
      go_ret
      exact ⟨_, rfl, ho2, hb⟩

/-! Used, class -/
theorem Ag.used {s : Sl} {tk cl : List Nat} (h : Ag s tk cl) (x : Int) : hasB tk x = s.usedB x := by
  rcases s.used_cases x with ⟨hn, hc⟩ | ⟨y, rfl, hy, hb⟩
  · rw [hn]
    refine hasB_no (fun z hz e => ?_)
    rcases hc with hc | ⟨y, rfl, hy⟩
    · omega
    · obtain rfl : z = y := by omega
      rw [(h.mem z).1 hz] at hy; cases hy
  · rw [hb]
    exact hasB_yes ((h.mem y).2 hy) rfl
theorem Ag.shut {s : Sl} {tk cl : List Nat} (h : Ag s tk cl) (ok : s.Ok) (p : Int) : (hasB cl p = false ∧ (s.atP p = none ∨ ∃ q k, p = ((q : Nat) : Int) ∧ s.cut q = some k ∧ k.closed = false ∧ s.atP p = some k)) ∨ ∃ q k, p = ((q : Nat) : Int) ∧ s.cut q = some k ∧ k.closed = true ∧ s.atP p = some k ∧ hasB cl p = true := by
  rcases Sl.atP_cases ok p with ⟨hn, _⟩ | ⟨q, k, rfl, hq, hk, hk'⟩
  · refine .inl ⟨hasB_no (fun z hz e => ?_), .inl hn⟩
    obtain ⟨k, hk, _⟩ := (h.cls z).1 hz
    subst e
    rw [s.atP_nat, hk] at hn; cases hn
  · cases hc : k.closed with
    | true => exact .inr ⟨q, k, rfl, hk, hc, hk', hasB_yes ((h.cls q).2 ⟨k, hk, hc⟩) rfl⟩
    | false =>
      refine .inl ⟨hasB_no (fun z hz e => ?_), .inr ⟨q, k, rfl, hk, hc, hk'⟩⟩
      obtain rfl : z = q := by omega
      obtain ⟨k2, hk2, hc2⟩ := (h.cls z).1 hz
      rw [hk] at hk2
      cases hk2
      rw [hc] at hc2; cases hc2

set_option maxRecDepth 100000 in
theorem ref_usedT {d : Dr} {f : Rf} {w : World} (h : RM d f w) (hl : (f.rows f.sz.length).length ≤ 4200000) (x : Int) :
    Calls Try.prog 44 #[.pointer (some ⟨d.P, 0, none⟩), .int .i64 x] w fun e w' => e = .returned (.bool (hasB (f.rows f.sz.length) x)) ∧ w = w' := by
  have hu := ref_has (h.row f.sz.length (by omega)) hl x
  have h3 := h.h3.1
  obtain ⟨a, c, hv⟩ := row_form (h.row f.sz.length (by omega))
  rw [hv] at hu h3
  clear h hv
  generalize d.P = P at *
  generalize hasB (f.rows f.sz.length) x = b at *
  generalize (f.rows f.sz.length).length = L at *
  go_enter Try.func44, Try.ntmps44
  go_wp2_with fail
  refine hu.mono ?_
  rintro e w' ⟨rfl, rfl⟩
  clear hu
  go_wp2_with fail
  go_ret
  exact ⟨rfl, rfl⟩
theorem ref_used {d : Dr} {s : Sl} {tk cl : List Nat} {w : World} (h : RM d (rf s tk cl) w) (ok : s.Ok) (ag : Ag s tk cl) (x : Int) :
    Calls Try.prog 44 #[.pointer (some ⟨d.P, 0, none⟩), .int .i64 x] w fun e w' => e = .returned (.bool (s.usedB x)) ∧ w = w' := by
  have h1 := ref_usedT h (by show ((rf s tk cl).rows s.sz.length).length ≤ _; rw [rf_tk]; exact Nat.le_trans (ag.tlen ok) (by decide)) x
  have e : (rf s tk cl).rows (rf s tk cl).sz.length = tk := rf_tk s tk cl
  rw [e, ag.used] at h1
  exact h1
theorem ref_per_call {d : Dr} {s : Sl} {tk cl : List Nat} {w : World} (h : RM d (rf s tk cl) w) (ok : s.Ok) {c : Nat} (hc : c < s.sz.length) :
    Calls Try.prog 81 #[.slice (some ⟨d.Z, 0, none⟩) s.sz.length d.cZ, .int .i64 c, .int .i64 (s.a.size : Int)] w fun e w' => e = .returned (.int .i64 (s.per c : Int)) ∧ w = w' := by
  have hs := ok.ao.s2
  have hp := Sz.ref_per (some ⟨d.Z, 0, none⟩) d.cZ (Sz.ints s.sz) (c : Int) (s.a.size : Int) (by omega) w h.sizes
  rw [ok.per_is hc, Sz.ints_len] at hp
  exact hp
theorem perN {d : Dr} {s : Sl} {tk cl : List Nat} {w : World} (h : RM d (rf s tk cl) w) (ok : s.Ok) {c : Nat} (hc : c < s.sz.length) :
    ∀ n, Calls Try.prog 81 #[.slice (some ⟨d.Z, 0, none⟩) s.sz.length d.cZ, .int .i64 c, .int .i64 (s.a.size : Int)] (w.drewN n) fun e w' => e = .returned (.int .i64 (s.per c : Int)) ∧ ∃ m, w' = w.drewN m := fun n =>
  (ref_per_call (h.drewN n) ok hc).mono fun _ _ ⟨he, hw⟩ => ⟨he, n, hw.symm⟩

set_option maxHeartbeats 1000000 in
set_option maxRecDepth 100000 in
theorem ref_class {d : Dr} {s : Sl} {tk cl : List Nat} {w : World} (h : RM d (rf s tk cl) w) (ok : s.Ok) {y : Nat} {k : Ct} (hk : s.cut (y / 4096) = some k) (hp : y % 4096 < s.per k.cls) :
    Calls Try.prog 65 #[.pointer (some ⟨d.P, 0, none⟩), .int .i64 y] w fun e w' => e = .returned (.int .i64 (k.cls : Int)) ∧ ∃ m, w' = w.drewN m := by
  obtain ⟨k1, k2, _, _⟩ := ok.ct _ k hk
  have hlt := ok.cut_1024 hk
  have ho := ref_owner h.ar ((y / 4096 : Nat) : Int)
  have eo : ownerOf (rf s tk cl).a.ow ((y / 4096 : Nat) : Int) = (k.cls : Int) := ownerOf_at k1
  rw [eo] at ho
  have cP := perN h ok k2
  have h0 := h.h0
  have h1 := h.h1
  have ha := h.ha
  have e1 : (y : Int) / 4096 = ((y / 4096 : Nat) : Int) := by omega
  have e2 : (y : Int) % 4096 = ((y % 4096 : Nat) : Int) := by omega
  have g1 : ((y % 4096 : Nat) : Int) < (s.per k.cls : Int) := by omega
  have g2 : decide ((s.per k.cls : Int) ≤ ((y % 4096 : Nat) : Int)) = false := by rw [decide_eq_false_iff_not]; omega
  have g3 : decide (s.per k.cls ≤ y % 4096) = false := by rw [decide_eq_false_iff_not]; omega
  have ea : (rf s tk cl).a = s.a := rfl
  have es : (rf s tk cl).sz = s.sz := rfl
  rw [ea] at ha
  rw [es] at h1
  have hy : y ≤ 4194304 := by omega
  clear h ok hk hp k1 eo ea es hlt
  generalize s.per k.cls = pr at *
  generalize y / 4096 = q at *
  generalize y % 4096 = i at *
  generalize s.sz.length = n at *
  generalize s.a.size = z at *
  generalize d.P = P at *
  generalize d.A = A at *
  go_enter Try.func65, Try.ntmps65
  go_wp2_with fail
  refine ho.mono ?_
  rintro e w' ⟨rfl, rfl⟩
  clear ho
  go_wp2_with fail
  go_quiet (exact cP _)
  clear cP
  go_wp2_with fail
  go_ret
  exact ⟨rfl, _, rfl⟩
end Go.Proofs.Ytldfpacdlephcaa

/-
  Package slab at this program: Counts and Chunks, of any slab and any number. No conditions.
-/
import Derived.Test.YtldfpacdlephcaaSlabHas
namespace Go.Proofs.Ytldfpacdlephcaa
open Go Go.RowKit Go.Lib

/-- Of the first k pages: how many are the class's, and how many of their chunks are used. -/
def isOf (c : Nat) : Option Ct → Nat
  | none => 0
  | some k => if k.cls = c then 1 else 0
def usedOf (c : Nat) : Option Ct → Nat
  | none => 0
  | some k => if k.cls = c then tru k.used else 0
def Sl.cntP (s : Sl) (c : Nat) : Nat → Nat
  | 0 => 0
  | k + 1 => s.cntP c k + isOf c (s.cut k)
def Sl.cntU (s : Sl) (c : Nat) : Nat → Nat
  | 0 => 0
  | k + 1 => s.cntU c k + usedOf c (s.cut k)
theorem Sl.cntP_le (s : Sl) (c : Nat) : ∀ k, s.cntP c k ≤ k
  | 0 => Nat.le_refl _
  | k + 1 => by
    have := s.cntP_le c k
    unfold Sl.cntP isOf
    split
    · omega
    · split <;> omega
theorem Sl.Ok.usedOf_le {s : Sl} (h : s.Ok) (c k : Nat) : usedOf c (s.cut k) ≤ 1024 := by
  cases hk : s.cut k with
  | none => exact Nat.zero_le _
  | some t =>
    have h1 := (h.ct k t hk).2.2.1
    have h2 := tru_le t.used
    have h3 := h.U_le
    show (if t.cls = c then tru t.used else 0) ≤ 1024
    split <;> omega
theorem Sl.Ok.cntU_le {s : Sl} (h : s.Ok) (c : Nat) : ∀ k, s.cntU c k ≤ k * 1024
  | 0 => Nat.le_refl _
  | k + 1 => by
    have h1 := Sl.Ok.cntU_le h c k
    have h2 := h.usedOf_le c k
    unfold Sl.cntU
    omega
theorem Sl.cnt_none {s : Sl} {c k : Nat} (h : s.cut k = none) : s.cntP c (k + 1) = s.cntP c k ∧ s.cntU c (k + 1) = s.cntU c k := by
  constructor
  · show s.cntP c k + isOf c (s.cut k) = _
    rw [h]; rfl
  · show s.cntU c k + usedOf c (s.cut k) = _
    rw [h]; rfl
theorem Sl.cnt_yes {s : Sl} {c k : Nat} {t : Ct} (h : s.cut k = some t) (hc : t.cls = c) : s.cntP c (k + 1) = s.cntP c k + 1 ∧ s.cntU c (k + 1) = s.cntU c k + tru t.used := by
  constructor
  · show s.cntP c k + isOf c (s.cut k) = _
    rw [h]
    show s.cntP c k + (if t.cls = c then 1 else 0) = _
    rw [if_pos hc]
  · show s.cntU c k + usedOf c (s.cut k) = _
    rw [h]
    show s.cntU c k + (if t.cls = c then tru t.used else 0) = _
    rw [if_pos hc]
theorem Sl.cnt_no {s : Sl} {c k : Nat} {t : Ct} (h : s.cut k = some t) (hc : ¬ t.cls = c) : s.cntP c (k + 1) = s.cntP c k ∧ s.cntU c (k + 1) = s.cntU c k := by
  constructor
  · show s.cntP c k + isOf c (s.cut k) = _
    rw [h]
    show s.cntP c k + (if t.cls = c then 1 else 0) = _
    rw [if_neg hc]; rfl
  · show s.cntU c k + usedOf c (s.cut k) = _
    rw [h]
    show s.cntU c k + (if t.cls = c then tru t.used else 0) = _
    rw [if_neg hc]; rfl
/-- What Counts answers. -/
def Sl.counts (s : Sl) (z : Int) : Int × Int × Int := if s.classB z = true then ((s.cntP z.toNat 1024 : Nat), (s.cntU z.toNat 1024 : Nat), ((s.rows z.toNat).length : Nat)) else (0, 0, 0)

set_option maxHeartbeats 4000000 in
set_option maxRecDepth 100000 in
theorem counts_any {d : Di} {s : Sl} {w : World} (h : MIs d s w) (ok : s.Ok) (z : Int) :
    Calls Try.prog 25 #[.pointer (some ⟨d.P, 0, none⟩), .int .i64 z] w fun e w' => e = .returned (.tuple #[.int .i64 (s.counts z).1, .int .i64 (s.counts z).2.1, .int .i64 (s.counts z).2.2]) ∧ ∃ m, w' = w.drewN m := by
  have hcl := isClass_any h z
  unfold Sl.counts
  rcases s.class_cases z with ⟨hb, _⟩ | ⟨c, rfl, hc, hb⟩
  · rw [hb] at hcl ⊢
    clear h ok hb
    rw [if_neg (by decide)]
    generalize d.P = P at *
    go_enter Try.func25, Try.ntmps25
    go_wp2_with fail
    refine hcl.mono ?_
    rintro e w' ⟨rfl, rfl⟩
    clear hcl
    go_wp2_with fail
    go_ret3
    exact ⟨rfl, 0, rfl⟩
  · rw [hb] at hcl ⊢
    rw [if_pos rfl, Int.toNat_natCast]
    have c2 := h.h2
    have c3 := h.h3
    obtain ⟨cr, -⟩ := h.hr hc
    have hown := h.row c hc
    obtain ⟨ra, rc, hv⟩ := row_form hown
    rw [hv] at cr
    have H := hid h
    have OK := hid ok
    have q1 : (c : Int) < (s.sz.length : Int) := by omega
    have q0 : (0 : Int) ≤ (c : Int) := by omega
    generalize hRN : (s.rows c).length = rn at *
    clear h ok hb hown hv hRN
    go_enter Try.func25, Try.ntmps25
    go_wp2_with fail
    refine hcl.mono ?_
    rintro e w' ⟨rfl, rfl⟩
    clear hcl
    go_wp2_with fail
    go_loop [7, 8, 10, 20] (fun p u _ i => ∃ k : Nat, k ≤ 1024 ∧ i = .int .i64 k ∧ p = .int .i64 (s.cntP c k : Nat) ∧ u = .int .i64 (s.cntU c k : Nat)) (fun _ _ _ i => 1024 - (intOf i).toNat)
    case atStart => exact ⟨0, Nat.zero_le _, rfl, rfl, rfl⟩
    case round =>
      obtain ⟨k, hk, rfl, rfl, rfl⟩ := hrel
      have b1 := s.cntP_le c k
      have b2 := OK.out.cntU_le c k
      by_cases hlt : k < 1024
      · have ilt : (k : Int) < 1024 := by omega
        obtain ⟨hcc, -⟩ := H.out.hc hlt
        have b3 := OK.out.usedOf_le c k
        cases hck : s.cut k with
        | none =>
          rw [cutV_none hck] at hcc
          have E1 : Hid (s.cntP c (k + 1) = s.cntP c k) := hid (Sl.cnt_none hck).1
          have E2 : Hid (s.cntU c (k + 1) = s.cntU c k) := hid (Sl.cnt_none hck).2
          clear hck H OK b3
          go_wp2_with fail
          go_round
          case rel => exact ⟨k + 1, by omega, by go_num, by rw [E1.out], by rw [E2.out]⟩
          case measure => simp [intOf] <;> omega
        | some t =>
          rw [cutV_some hck] at hcc
          have k0 := H.out.k0 hck
          have k2 := H.out.k2 hck
          rw [hck] at b3
          by_cases hcls : t.cls = c
          · have E1 : Hid (s.cntP c (k + 1) = s.cntP c k + 1) := hid (Sl.cnt_yes hck hcls).1
            have E2 : Hid (s.cntU c (k + 1) = s.cntU c k + tru t.used) := hid (Sl.cnt_yes hck hcls).2
            have b4 : tru t.used ≤ 1024 := by
              unfold usedOf at b3
              dsimp only at b3
              rw [if_pos hcls] at b3; exact b3
            rw [hcls] at k0
            clear hck H OK b3 hcls
            generalize tru t.used = u at *
            generalize s.cntP c k = x at *
            generalize s.cntU c k = y at *
            go_wp2_with fail
            go_round
            case rel => exact ⟨k + 1, by omega, by go_num, by rw [E1.out]; go_num, by rw [E2.out]; go_num⟩
            case measure => simp [intOf] <;> omega
          · have E1 : Hid (s.cntP c (k + 1) = s.cntP c k) := hid (Sl.cnt_no hck hcls).1
            have E2 : Hid (s.cntU c (k + 1) = s.cntU c k) := hid (Sl.cnt_no hck hcls).2
            have hne : ((t.cls : Int) == (c : Int)) = false := beq_eq_false_iff_ne.2 (by omega)
            clear hck H OK b3 hcls
            go_wp2_with fail
            go_round
            case rel => exact ⟨k + 1, by omega, by go_num, by rw [E1.out], by rw [E2.out]⟩
            case measure => simp [intOf] <;> omega
      · obtain rfl : k = 1024 := by omega
        clear H OK
        go_wp2_with fail
        go_quiet (fail)
        go_wp2_with fail
        go_ret3
        exact ⟨rfl, _, rfl⟩

/-- The used places of the first n, as chunks of page p. -/
def chTo (used : List Bool) (p : Nat) : Nat → List Nat
  | 0 => []
  | n + 1 => chTo used p n ++ (if used[n]? = some true then [4096 * p + n] else [])
theorem chTo_len (used : List Bool) (p : Nat) : ∀ n, (chTo used p n).length ≤ n
  | 0 => Nat.le_refl _
  | n + 1 => by
    have := chTo_len used p n
    unfold chTo
    rw [List.length_append]
    split <;> simp <;> omega
theorem chTo_tru (used : List Bool) (p : Nat) : ∀ n, n ≤ used.length → (chTo used p n).length = tru (used.take n)
  | 0, _ => by simp [chTo, tru]
  | n + 1, h => by
    have ih := chTo_tru used p n (by omega)
    have e : used[n]? = some (used[n]'(by omega)) := List.getElem?_eq_getElem _
    show (chTo used p n ++ (if used[n]? = some true then [4096 * p + n] else [])).length = _
    unfold tru at ih ⊢
    rw [List.length_append, ih, List.take_add_one, e, List.count_append]
    cases used[n]'(by omega) <;> simp
/-- What Chunks answers. -/
def Sl.chunks (s : Sl) (z : Int) : List Nat := match s.atP z with | none => [] | some k => chTo k.used z.toNat k.used.length

set_option maxHeartbeats 4000000 in
set_option maxRecDepth 100000 in
theorem chunks_any {d : Di} {s : Sl} {w : World} (h : MIs d s w) (ok : s.Ok) (z : Int) :
    Calls Try.prog 24 #[.pointer (some ⟨d.P, 0, none⟩), .int .i64 z] w fun e w' => ∃ v, e = .returned v ∧ w'.ownsRow w.heap.size 3 1 v (s.chunks z).length (nc (s.chunks z)) ∧ Below w.heap.size w w' := by
  obtain ⟨i0, hi, hz0, hz1, hz2⟩ := info_parts infoInt
  unfold Sl.chunks
  rcases Sl.atP_cases ok z with ⟨hn, _⟩ | ⟨p, k, rfl, hp, hk, hk'⟩
  · have hg := granted_no h ok z hn
    rw [hn]
    clear h hn ok
    go_enter Try.func24, Try.ntmps24
    go_wp2_with fail
    refine hg.mono ?_
    rintro e w' ⟨rfl, rfl⟩
    clear hg
    go_wp2_with fail
    go_ret
    exact ⟨_, rfl, World.ownsRow_nil _ _ _ _, Below.refl _ _⟩
  · have hg := granted_yes h ok hk
    rw [hk']
    dsimp only
    rw [Int.toNat_natCast]
    have k1 := h.k1 hk
    have hul := (ok.ct p k hk).2.2.1
    have hU := ok.U_le
    have lV := h.lt (foot_ub hk)
    have HU := hid fun (i : Nat) b (hb : k.used[i]? = some b) => h.ku hk hb
    rw [hul]
    have HL := hid hul
    clear h ok hk hk' hul
    generalize s.U = U at *
    generalize d.ub p = V at *
    generalize d.cb p = B at *
    go_enter Try.func24, Try.ntmps24
    go_wp2_with fail
    refine hg.mono ?_
    rintro e w' ⟨rfl, rfl⟩
    clear hg
    go_wp2_with fail
    go_loopw [6, 7, 8, 19] (fun v _ _ i wr => ∃ n : Nat, n ≤ U ∧ i = .int .i64 n ∧ wr.ownsRow w.heap.size 3 1 v (chTo k.used p n).length (nc (chTo k.used p n)) ∧ Below w.heap.size w wr) (fun _ _ _ i _ => U - (intOf i).toNat)
    case atStart => exact ⟨0, Nat.zero_le _, rfl, World.ownsRow_nil _ _ _ _, Below.refl _ _⟩
    case round =>
      obtain ⟨n, hn, rfl, hown, hb⟩ := hrel
      have hsz := hb.size
      have hl := chTo_len k.used p n
      obtain ⟨a, c, rfl⟩ := row_form hown
      by_cases hlt : n < U
      · have ilt : (n : Int) < (U : Int) := by omega
        obtain ⟨b, hu⟩ : ∃ b, k.used[n]? = some b := ⟨_, List.getElem?_eq_getElem (by rw [HL.out]; exact hlt)⟩
        have hc : wr.cell? ⟨V, n, none⟩ = some (.bool b) := (hb.cell (p := ⟨V, n, none⟩) lV).trans (HU.out n b hu)
        cases b with
        | false =>
          have HE : Hid (chTo k.used p (n + 1) = chTo k.used p n) := hid (by
            show chTo k.used p n ++ (if k.used[n]? = some true then _ else _) = _
            rw [hu, if_neg (by decide), List.append_nil])
          clear hu HU HL
          go_wp2_with fail
          go_roundw
          case rel => exact ⟨n + 1, by omega, by go_num, by rw [HE.out]; exact hown, hb⟩
          case measure => simp [intOf] <;> omega
        | true =>
          have HE : Hid (chTo k.used p (n + 1) = chTo k.used p n ++ [4096 * p + n]) := hid (by
            show chTo k.used p n ++ (if k.used[n]? = some true then _ else _) = _
            rw [hu, if_pos rfl])
          have hnum := fun w => number_any p n hp (by omega) w
          clear hu HU HL
          go_wp2_with fail
          refine (hnum _).mono ?_
          rintro e w' ⟨rfl, rfl⟩
          clear hnum
          obtain ⟨x, hx⟩ : ∃ x, x = 4096 * p + n := ⟨_, rfl⟩
          rw [← hx]
          have HX := hid hx
          clear hx
          go_wp2_with (at_builtin; refine wpList_append_own _ rfl _ _ 22 rfl w.heap.size 3 i0 (.int .i64 0) 1 8 Try.underlying22 hi hz0 hz1 hz2 rfl (by decide) _ _ _ rfl (hown.alloc _) ⟨wr.heap.size, 0, none⟩ 1 1 [.int .i64 (x : Int)] rfl rfl (one_cell _ _ _) (one_ok _) (by unfold maxLen; omega) (by omega) (by simp; omega) ?_)
          intro v' w1 hown' hgrow _
          have hb2 := hb.trans (own_grown hown hsz hgrow)
          have ho : w1.ownsRow w.heap.size 3 1 v' (chTo k.used p (n + 1)).length (nc (chTo k.used p (n + 1))) := by
            rw [HE.out, ← HX.out, ← nc_app, List.length_append]; exact hown'
          clear hown' hgrow hown hb
          go_wp2_with fail
          go_roundw
          case rel => exact ⟨n + 1, by omega, by go_num, ho, hb2⟩
          case measure => simp [intOf] <;> omega
      · obtain rfl : n = U := by omega
        clear HU HL
        go_wp2_with fail
        go_ret
        exact ⟨_, rfl, hown, hb⟩
end Go.Proofs.Ytldfpacdlephcaa

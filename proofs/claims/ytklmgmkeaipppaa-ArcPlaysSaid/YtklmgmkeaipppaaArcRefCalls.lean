/-
  The contracts of the document's own adaptive replacement's New, Touch, Remove and Victim. Conditions: it lies in memory.
-/
import Derived.Test.YtklmgmkeaipppaaArcRef
import Derived.BigQuiet
namespace Go.Proofs.Ytklmgmkeaipppaa.Ac
open Go Go.RowKit Go.Lib

theorem infoNamed : (Try.prog.info? 88).map (fun i => (i.zero, i.size, i.bytes)) = some (some (.agg #[.int .i64 0, .int .u64 0]), 2, 16) := by kernel_rfl
theorem two_cell (W : World) (x y : Value) (t : TypeId) : ∀ j u, [x, y][j]? = some u → (W.alloc (.cells #[x, y] t)).cell? ((⟨W.heap.size, 0, none⟩ : Addr).add j) = some u := by
  intro j u h
  have hB := Blk.new W #[x, y] t
  match j, h with
  | 0, h => exact hB.cell (i := 0) h
  | 1, h => exact hB.cell (i := 1) h
  | j + 2, h => simp at h
theorem two_ok (x y : Int) : ∀ u ∈ [Value.int .i64 x, Value.int .u64 y], u.oneCell' = true := by
  intro u hu
  rcases List.mem_cons.1 hu with rfl | hu
  · rfl
  · rw [List.mem_singleton.1 hu]; rfl
theorem cutH_snoc {l : List (Int × Int)} {k : Nat} {e : Int × Int} {z : Int} (h : l[k]? = some e) : cutH (l.take (k + 1)) z = cutH (l.take k) z ++ (if e.1 = z then [] else [e]) := by
  unfold cutH
  rw [take_snoc h, List.filter_append]
  congr 1
  by_cases e : e.1 = z
  · rw [if_pos e, List.filter_cons_of_neg (by simpa using e)]; rfl
  · rw [if_neg e, List.filter_cons_of_pos (by simpa using e)]; rfl
theorem cutH_le (l : List (Int × Int)) (z : Int) : (cutH l z).length ≤ l.length := List.length_filter_le _ _

/-- The document's own s lies at P, in the blocks G. -/
def QR (P : Nat) (G : Nat → Prop) (s : Ar) (w : World) : Prop :=
  s.Ok ∧ ∃ Q Q1 Q2 v hs F, Qr P Q Q1 Q2 v hs F s.L s.m s.m s.m s.b1 s.b2 s.p w ∧ Says hs s.L s.num ∧ ∀ b, G b ↔ allF F b
theorem QR.ok {P : Nat} {G : Nat → Prop} {s : Ar} {w : World} (h : QR P G s w) : s.Ok := h.1
theorem QR.lt {P : Nat} {G : Nat → Prop} {s : Ar} {w : World} (h : QR P G s w) {b : Nat} (hb : G b) : b < w.heap.size := by
  obtain ⟨_, Q, Q1, Q2, v, hs, F, hq, _, hG⟩ := h
  obtain ⟨i, hi⟩ := (hG b).1 hb
  exact hq.dj.lt i b hi
theorem QR.only {P : Nat} {G D : Nat → Prop} {s : Ar} {w w' : World} (h : QR P G s w) (ho : Only D w w') (hd : ∀ b, G b → ¬ D b) : QR P G s w' := by
  obtain ⟨k, Q, Q1, Q2, v, hs, F, hq, h1, hG⟩ := h
  exact ⟨k, Q, Q1, Q2, v, hs, F, hq.only ho (fun b hb => hd b ((hG b).2 hb)), h1, hG⟩
theorem QR.below {P : Nat} {G : Nat → Prop} {s : Ar} {w w' : World} (h : QR P G s w) (hb : Below w.heap.size w w') : QR P G s w' := h.only (D := fun _ => False) (Below.only hb) (fun _ _ => id)
theorem Stp.into {G F F' : Nat → Prop} {w w' : World} (hG : ∀ b, G b ↔ F b) (g : Stp F F' w w') : Stp G F' w w' := ⟨g.only.mono (fun b hb => (hG b).2 hb), fun b hb => (g.foot b hb).imp (hG b).2 id⟩
theorem qr_go {P Q Q1 Q2 : Nat} {v : Value} {hs : List (Int × Int)} {G : Nat → Prop} {F F' : Nat → Nat → Prop} {s : Ar} {w w' : World} (hG : ∀ b, G b ↔ allF F b) (ok : s.Ok) (h : Qr P Q Q1 Q2 v hs F' s.L s.m s.m s.m s.b1 s.b2 s.p w') (k : Says hs s.L s.num) (g : Stp (allF F) (allF F') w w') :
    ∃ G', QR P G' s w' ∧ Stp G G' w w' := ⟨allF F', ⟨ok, Q, Q1, Q2, v, hs, F', h, k, fun _ => Iff.rfl⟩, Stp.into hG g⟩
theorem rv_some {L : List (List Int)} {z : Int} {i : Nat} (h : rowOf L z = some i) : rv (rowOf L z) = (i : Int) := by rw [h]; rfl
theorem rv_none {L : List (List Int)} {z : Int} (h : rowOf L z = none) : rv (rowOf L z) = -1 := by rw [h]; rfl
section
variable {P Q Q1 Q2 : Nat} {v : Value} {hs : List (Int × Int)} {F : Nat → Nat → Prop} {L : List (List Int)} {m m1 m2 : Nat} {b1 b2 : List Int} {p : Int} {w : World}
theorem qr_front (h : Qr P Q Q1 Q2 v hs F L m m1 m2 b1 b2 p w) (r z : Int) :
    Calls Try.prog 49 #[.pointer (some ⟨Q, 0, none⟩), .int .i64 r, .int .i64 z] w fun e w' => e = .returned (.bool (decide (May L.length r z))) ∧ ∃ F', Qr P Q Q1 Q2 v hs F' (opFront L r z) m m1 m2 b1 b2 p w' ∧ Stp (allF F) (allF F') w w' := by
  refine (rq_front h.rows r z).mono ?_
  rintro e w' ⟨he, X, k, g⟩
  exact ⟨he, _, h.goR k g⟩
theorem qr_take (h : Qr P Q Q1 Q2 v hs F L m m1 m2 b1 b2 p w) (z : Int) :
    Calls Try.prog 51 #[.pointer (some ⟨Q, 0, none⟩), .int .i64 z] w fun e w' => e = .returned (.bool (rowOf L z).isSome) ∧ ∃ F', Qr P Q Q1 Q2 v hs F' (takeL L z) m m1 m2 b1 b2 p w' ∧ Stp (allF F) (allF F') w w' := by
  refine (rq_take h.rows z).mono ?_
  rintro e w' ⟨he, X, k, g⟩
  exact ⟨he, _, h.goR k g⟩
theorem qr_addA (h : Qr P Q Q1 Q2 v hs F L m m1 m2 b1 b2 p w) (z : Int) (hl : b1.length < 4194304) :
    Calls Try.prog 53 #[.pointer (some ⟨Q1, 0, none⟩), .int .u64 z] w fun e w' => e = .returned (.tuple #[]) ∧ ∃ F', Qr P Q Q1 Q2 v hs F' L m m1 m2 (Gh.addL m1 b1 z) b2 p w' ∧ Stp (allF F) (allF F') w w' := by
  refine (gq_add h.g1 z hl).mono ?_
  rintro e w' ⟨he, X, k, g⟩
  exact ⟨he, _, h.goA k g⟩
theorem qr_addB (h : Qr P Q Q1 Q2 v hs F L m m1 m2 b1 b2 p w) (z : Int) (hl : b2.length < 4194304) :
    Calls Try.prog 53 #[.pointer (some ⟨Q2, 0, none⟩), .int .u64 z] w fun e w' => e = .returned (.tuple #[]) ∧ ∃ F', Qr P Q Q1 Q2 v hs F' L m m1 m2 b1 (Gh.addL m2 b2 z) p w' ∧ Stp (allF F) (allF F') w w' := by
  refine (gq_add h.g2 z hl).mono ?_
  rintro e w' ⟨he, X, k, g⟩
  exact ⟨he, _, h.goB k g⟩
theorem qr_rmA (h : Qr P Q Q1 Q2 v hs F L m m1 m2 b1 b2 p w) (z : Int) :
    Calls Try.prog 48 #[.pointer (some ⟨Q1, 0, none⟩), .int .u64 z] w fun e w' => e = .returned (.bool (decide (z ∈ b1))) ∧ ∃ F', Qr P Q Q1 Q2 v hs F' L m m1 m2 (Gh.rmL b1 z) b2 p w' ∧ Stp (allF F) (allF F') w w' := by
  refine (gq_remove h.g1 z).mono ?_
  rintro e w' ⟨he, X, k, g⟩
  exact ⟨he, _, h.goA k g⟩
theorem qr_rmB (h : Qr P Q Q1 Q2 v hs F L m m1 m2 b1 b2 p w) (z : Int) :
    Calls Try.prog 48 #[.pointer (some ⟨Q2, 0, none⟩), .int .u64 z] w fun e w' => e = .returned (.bool (decide (z ∈ b2))) ∧ ∃ F', Qr P Q Q1 Q2 v hs F' L m m1 m2 b1 (Gh.rmL b2 z) p w' ∧ Stp (allF F) (allF F') w w' := by
  refine (gq_remove h.g2 z).mono ?_
  rintro e w' ⟨he, X, k, g⟩
  exact ⟨he, _, h.goB k g⟩
theorem qr_limA (h : Qr P Q Q1 Q2 v hs F L m m1 m2 b1 b2 p w) (n : Int) (q : -9223372036854775808 ≤ n ∧ n ≤ 9223372036854775807) :
    Calls Try.prog 54 #[.pointer (some ⟨Q1, 0, none⟩), .int .i64 n] w fun e w' => e = .returned (.tuple #[]) ∧ ∃ F', Qr P Q Q1 Q2 v hs F' L m n.toNat m2 (Gh.cutL n.toNat b1) b2 p w' ∧ Stp (allF F) (allF F') w w' := by
  refine (gq_limit h.g1 n q).mono ?_
  rintro e w' ⟨he, X, k, g⟩
  exact ⟨he, _, h.goA k g⟩
theorem qr_limB (h : Qr P Q Q1 Q2 v hs F L m m1 m2 b1 b2 p w) (n : Int) (q : -9223372036854775808 ≤ n ∧ n ≤ 9223372036854775807) :
    Calls Try.prog 54 #[.pointer (some ⟨Q2, 0, none⟩), .int .i64 n] w fun e w' => e = .returned (.tuple #[]) ∧ ∃ F', Qr P Q Q1 Q2 v hs F' L m m1 n.toNat b1 (Gh.cutL n.toNat b2) p w' ∧ Stp (allF F) (allF F') w w' := by
  refine (gq_limit h.g2 n q).mono ?_
  rintro e w' ⟨he, X, k, g⟩
  exact ⟨he, _, h.goB k g⟩
end

set_option maxRecDepth 100000 in
set_option maxHeartbeats 1000000 in
theorem qr_remove {P : Nat} {G : Nat → Prop} {s : Ar} {w : World} (h : QR P G s w) (z : Int) :
    Calls Try.prog 32 #[.pointer (some ⟨P, 0, none⟩), .int .i64 z] w fun e w' => e = .returned (.bool (s.has z)) ∧ ∃ G', QR P G' (s.rem z) w' ∧ Stp G G' w w' := by
  obtain ⟨ok, Q, Q1, Q2, v, hs, F, hq, hsay, hG⟩ := h
  have c5 := hq.head.cell (i := 5) rfl
  have hlb := hq.len
  have l0 := hq.head.lt
  have hfz := hq.head.frozen 5
  have hF4 := hq.f4
  obtain ⟨i0, hi0, hz0, hz1, hz2⟩ := info_parts infoNamed
  have HO := hid hq.row
  obtain ⟨a, c, rfl⟩ := row2_form hq.row
  obtain ⟨K, hK⟩ : ∃ K, K = hs.length := ⟨_, rfl⟩
  have hst : Hid (∀ w1 v1, Below w.heap.size w w1 → w1.ownsRow w.heap.size 88 2 v1 (cutH hs z).length (nc (cutH hs z)) →
      (w1.setCell ⟨P, 5, none⟩ v1).cell? ⟨P, 0, none⟩ = some (.pointer (some ⟨Q, 0, none⟩)) ∧ Calls Try.prog 51 #[.pointer (some ⟨Q, 0, none⟩), .int .i64 z] (w1.setCell ⟨P, 5, none⟩ v1) fun e w' => e = .returned (.bool (s.has z)) ∧ ∃ G', QR P G' (s.rem z) w' ∧ Stp G G' w w') := hid (fun w1 v1 bl o1 => by
    obtain ⟨X, k1, k2⟩ := hq.goH (Below.only bl) (own2_zero o1) (fun b hb => .inr (own2_le o1 hb).1) (Nat.le_trans (cutH_le hs z) hq.len)
    refine ⟨k1.head.cell (i := 0) rfl, (qr_take k1 z).mono ?_⟩
    rintro e w' ⟨he, F', k3, k4⟩
    exact ⟨he, qr_go (s := s.rem z) hG (ok.rem z) k3 (hsay.cut z) (k2.trans k4)⟩)
  rw [← hK] at hlb HO c5
  have HK := hid hK
  generalize s.has z = A at *
  clear hq hK hsay hG ok hF4
  go_enter Try.func32, Try.ntmps32
  go_wp2_with fail
  go_loopw [5, 6] (fun p1 p2 wr => ∃ (k : Nat) (v : Value), v = p1 ∧ p2 = .int .i64 k ∧ k ≤ K ∧ Hid (wr.ownsRow w.heap.size 88 2 v (cutH (hs.take k) z).length (nc (cutH (hs.take k) z))) ∧ Hid (Below w.heap.size w wr)) (fun _ p _ => K - (RowKit.intOf p).toNat)
  case atStart => exact ⟨0, _, rfl, rfl, Nat.zero_le _, hid (World.ownsRow_nil _ _ _ _), hid (Below.refl _ _)⟩
  case round =>
    obtain ⟨k, v, rfl, rfl, hk, hOw, hB⟩ := hrel
    have d5 := (hB.out.cell (p := ⟨P, 5, none⟩) l0).trans c5
    by_cases hlt : k < K
    · obtain ⟨⟨y, x⟩, hy⟩ : ∃ y, hs[k]? = some y := ⟨_, List.getElem?_eq_getElem (by rw [← HK.out]; exact hlt)⟩
      obtain ⟨g, cap, hv, _, hgl⟩ := row2_pos HO.out (by omega)
      cases hv
      have hc0 := World.ownsRow.cellAt HO.out (k * 2) (by omega)
      have hc1 := World.ownsRow.cellAt HO.out (k * 2 + 1) (by omega)
      rw [(nc_at hy).1] at hc0
      rw [(nc_at hy).2] at hc1
      replace hc0 := (hB.out.cell (p := ⟨g, k * 2, none⟩) hgl).trans hc0
      replace hc1 := (hB.out.cell (p := ⟨g, k * 2 + 1, none⟩) hgl).trans hc1
      have hfs := cutH_snoc (z := z) hy
      by_cases e : y = z
      · rw [if_pos e, List.append_nil] at hfs
        have HF := hid hfs
        subst e
        clear hy hfs
        go_wp2_with fail
        go_roundw
        case rel => exact ⟨k + 1, v, rfl, by go_num, by omega, hid (by rw [HF.out]; exact hOw.out), hB⟩
        case measure => simp [RowKit.intOf] <;> omega
      · rw [if_neg e] at hfs
        have HF := hid hfs
        have hne : (y == z) = false := beq_eq_false_iff_ne.2 e
        have hown := hOw.out
        have hsz := hB.out.size
        have hfl : (cutH (hs.take k) z).length ≤ 4194304 := Nat.le_trans (cutH_le _ _) (by rw [List.length_take]; omega)
        generalize cutH (hs.take k) z = fs at *
        clear hy hfs e
        go_wp2_with (at_builtin; refine wpList_append_own_at _ rfl _ _ 35 rfl w.heap.size 88 i0 (.agg #[.int .i64 0, .int .u64 0]) 2 16 Try.underlying35 hi0 hz0 hz1 hz2 rfl (by decide) v _ _ rfl (hown.alloc _) ⟨wr.heap.size, 0, none⟩ 1 1 [.int .i64 y, .int .u64 x] rfl rfl (two_cell _ _ _ _) (two_ok _ _) (by unfold maxLen; omega) (by omega) (by simp; omega) ?_; intro v6 w6 hown6 hgrow6 hnil6 hloc6)
        exact ⟨⟨k + 1, v6, rfl, rfl, by omega, hid (by rw [HF.out, show (fs ++ [(y, x)]).length = fs.length + 1 by simp, nc_app]; exact hown6), hid (hB.out.trans ((own_grown hown hsz hgrow6)))⟩, by simp [RowKit.intOf]; omega⟩
    · obtain rfl : k = K := by omega
      obtain ⟨d0, hT⟩ := hst.out wr v hB.out (by have := hOw.out; rw [HK.out, List.take_length] at this; exact this)
      have hfz2 := (hB.out.frozen (p := ⟨P, 5, none⟩) l0).trans hfz
      obtain ⟨a6, c6, hv6⟩ := row2_form hOw.out
      generalize (cutH (hs.take k) z).length = N7 at hv6
      subst hv6
      clear hst hOw
      go_wp2_with fail
      refine hT.mono ?_
      rintro e w5 ⟨rfl, hR⟩
      have HR := hid hR
      clear hR hT
      go_wp2_with fail
      go_ret
      exact ⟨rfl, HR.out⟩
end Go.Proofs.Ytklmgmkeaipppaa.Ac

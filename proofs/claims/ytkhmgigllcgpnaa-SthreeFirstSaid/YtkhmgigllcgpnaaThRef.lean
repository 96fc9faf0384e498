/-
  The document's own three queues: how they lie in memory; the contracts of find, Count and Touch. Conditions: they lie in memory.
-/
import Derived.Test.YtkhmgigllcgpnaaThMath
import Derived.BigRegion
import Derived.BigQuiet
namespace Go.Proofs.Ytkhmgigllcgpnaa.Th
open Go Go.RowKit Go.Lib

/-! Ids with their numbers and counts, in a row -/
structure Em where
  z : Int
  h : Int
  n : Nat
def nc : List Em → List Value
  | [] => []
  | e :: l => .int .i64 e.z :: .int .u64 e.h :: .int .i64 e.n :: nc l
theorem nc_len (l : List Em) : (nc l).length = l.length * 3 := by
  induction l with
  | nil => rfl
  | cons e l ih => show (nc l).length + 1 + 1 + 1 = (l.length + 1) * 3; omega
theorem nc_app (a b : List Em) : nc (a ++ b) = nc a ++ nc b := by
  induction a with
  | nil => rfl
  | cons e a ih => show _ :: _ :: _ :: nc (a ++ b) = _; rw [ih]; rfl
theorem nc_at {l : List Em} {i : Nat} {e : Em} (h : l[i]? = some e) : (nc l)[i * 3]? = some (.int .i64 e.z) ∧ (nc l)[i * 3 + 1]? = some (.int .u64 e.h) ∧ (nc l)[i * 3 + 2]? = some (.int .i64 e.n) := by
  induction l generalizing i with
  | nil => simp at h
  | cons a l ih =>
    cases i with
    | zero => simp at h; subst h; exact ⟨rfl, rfl, rfl⟩
    | succ i =>
      have h' : l[i]? = some e := by simpa using h
      obtain ⟨h1, h2, h3⟩ := ih h'
      rw [show (i + 1) * 3 = i * 3 + 1 + 1 + 1 by omega]
      exact ⟨h1, h2, h3⟩
theorem nc_set {l : List Em} {i : Nat} {e : Em} (h : l[i]? = some e) (n : Nat) : nc (l.set i { e with n := n }) = (nc l).set (i * 3 + 2) (.int .i64 n) := by
  induction l generalizing i with
  | nil => simp at h
  | cons a l ih =>
    cases i with
    | zero => simp at h; subst h; rfl
    | succ i =>
      have h' : l[i]? = some e := by simpa using h
      rw [show (i + 1) * 3 + 2 = (i * 3 + 2) + 1 + 1 + 1 by omega]
      show _ :: _ :: _ :: nc (l.set i _) = _ :: _ :: _ :: (nc l).set _ _
      rw [ih h']
theorem nc_ok (l : List Em) : ∀ u ∈ nc l, u.oneCell' = true := by
  induction l with
  | nil => intro u hu; cases hu
  | cons e l ih =>
    intro u hu
    rcases List.mem_cons.1 hu with rfl | hu
    · rfl
    · rcases List.mem_cons.1 hu with rfl | hu
      · rfl
      · rcases List.mem_cons.1 hu with rfl | hu
        · rfl
        · exact ih u hu
/-- The row es says what is known of the ids that stand. -/
structure Says (es : List Em) (L : List (List Int)) (num : Int → Int) (cnt : Int → Nat) : Prop where
  nd : (es.map (·.z)).Nodup
  mem : ∀ z, z ∈ es.map (·.z) ↔ z ∈ L.flatten
  num : ∀ e ∈ es, num e.z = e.h
  cnt : ∀ e ∈ es, cnt e.z = e.n
theorem Says.len {es : List Em} {L : List (List Int)} {num : Int → Int} {cnt : Int → Nat} (h : Says es L num cnt) (hg : GoodL L) : es.length ≤ 4194304 := by
  have := nodup_le 4194304 h.nd (fun z hz => by have := hg.rng z ((h.mem z).1 hz); omega)
  rwa [List.length_map] at this
theorem Says.lenF {es : List Em} {L : List (List Int)} {num : Int → Int} {cnt : Int → Nat} (h : Says es L num cnt) (hg : GoodL L) : es.length = L.flatten.length := by
  have p : (es.map (·.z)).Perm L.flatten := (List.perm_ext_iff_of_nodup h.nd hg.nd).2 h.mem
  have := p.length_eq
  rwa [List.length_map] at this
/-- Where an id stands in the row; -1: nowhere. -/
def ix (es : List Em) (z : Int) : Int :=
  match es.findIdx? (fun e => decide (e.z = z)) with
  | some i => i
  | none => -1
theorem ix_at {es : List Em} {z : Int} {k : Nat} {e : Em} (hk : es[k]? = some e) (he : e.z = z) (hno : ∀ (j : Nat) e, j < k → es[j]? = some e → e.z ≠ z) : ix es z = k := by
  have : es.findIdx? (fun e => decide (e.z = z)) = some k := by
    rw [List.findIdx?_eq_some_iff_getElem]
    have hl := (List.getElem?_eq_some_iff.1 hk).1
    refine ⟨hl, ?_, fun j hj => ?_⟩
    · rw [(List.getElem?_eq_some_iff.1 hk).2]; exact decide_eq_true he
    · have hjl : j < es.length := Nat.lt_trans hj hl
      simp only [decide_eq_true_eq]
      exact hno j _ hj (List.getElem?_eq_getElem hjl)
  unfold ix; rw [this]
theorem ix_no {es : List Em} {z : Int} (hno : ∀ e ∈ es, e.z ≠ z) : ix es z = -1 := by
  have : es.findIdx? (fun e => decide (e.z = z)) = none := by
    rw [List.findIdx?_eq_none_iff]
    intro e he
    exact decide_eq_false (hno e he)
  unfold ix; rw [this]
theorem Says.find {es : List Em} {L : List (List Int)} {num : Int → Int} {cnt : Int → Nat} (h : Says es L num cnt) (z : Int) : (z ∉ L.flatten ∧ ix es z = -1) ∨ ∃ k, k < es.length ∧ es[k]? = some ⟨z, num z, cnt z⟩ ∧ ix es z = (k : Int) ∧ z ∈ L.flatten := by
  by_cases hz : z ∈ L.flatten
  · right
    obtain ⟨e, he, hez⟩ := List.mem_map.1 ((h.mem z).2 hz)
    obtain ⟨k, hk⟩ := List.mem_iff_getElem?.1 he
    have hl := (List.getElem?_eq_some_iff.1 hk).1
    have ee : e = ⟨z, num z, cnt z⟩ := by
      have h1 := h.num e he
      have h2 := h.cnt e he
      rw [hez] at h1 h2
      cases e; simp at hez h1 h2 ⊢; exact ⟨hez, h1.symm, h2.symm⟩
    refine ⟨k, hl, ee ▸ hk, ix_at hk hez (fun j f hj hf hfz => ?_), hz⟩
    have h1 : (es.map (·.z))[j]? = some z := by rw [List.getElem?_map, hf]; simp [hfz]
    have h2 : (es.map (·.z))[k]? = some z := by rw [List.getElem?_map, hk]; simp [hez]
    have := (List.getElem?_inj (List.getElem?_eq_some_iff.1 h1).1 h.nd).1 (h1.trans h2.symm)
    omega
  · left
    exact ⟨hz, ix_no (fun e he hez => hz ((h.mem z).1 (List.mem_map.2 ⟨e, he, hez⟩)))⟩

/-! In memory -/
structure Qt (P Q Q1 : Nat) (v : Value) (es : List Em) (F : Nat → Nat → Prop) (L : List (List Int)) (m m1 : Nat) (g : List Int) (w : World) : Prop where
  head : Blk w P 41 [.pointer (some ⟨Q, 0, none⟩), .pointer (some ⟨Q1, 0, none⟩), .int .i64 m, v]
  rows : RQ Q (F 1) L w
  gh : GQ Q1 (F 2) m1 g w
  row : w.ownsRow 0 67 3 v es.length (nc es)
  len : es.length ≤ 4194304
  f0 : ∀ b, F 0 b ↔ b = P
  f3 : ∀ b, F 3 b ↔ v.ownBlock = some b
  f4 : ∀ i b, 4 ≤ i → ¬ F i b
  dj : Dj F w
theorem row2_form {w : World} {base : Nat} {e : TypeId} {size : Nat} {v : Value} {n : Nat} {xs : List Value} (h : w.ownsRow base e size v n xs) : ∃ a c, v = .slice a n c := by
  rcases h.2 with ⟨rfl, h0⟩ | ⟨g, cap, cur, rfl, _⟩
  · exact ⟨none, 0, by rw [h0]⟩
  · exact ⟨_, _, rfl⟩
theorem own2_only {D : Nat → Prop} {w w' : World} {base : Nat} {e : TypeId} {size : Nat} {v : Value} {n : Nat} {xs : List Value} (h : w.ownsRow base e size v n xs) (ho : Only D w w') (hd : ∀ b, v.ownBlock = some b → ¬ D b) : w'.ownsRow base e size v n xs := by
  refine ⟨h.1, h.2.imp id (fun ⟨g, cap, cur, hv, h0, hg, r⟩ => ⟨g, cap, cur, hv, h0, ?_, r⟩)⟩
  have hlt : g < w.heap.size := (Array.getElem?_eq_some_iff.1 hg).1
  exact (ho.block g hlt (hd g (by rw [hv]; simp [Value.ownBlock]))).trans hg
theorem own2_le {w : World} {base : Nat} {e : TypeId} {size : Nat} {v : Value} {n : Nat} {xs : List Value} (h : w.ownsRow base e size v n xs) {b : Nat} (hb : v.ownBlock = some b) : base ≤ b ∧ b < w.heap.size := by
  rcases h.2 with ⟨rfl, _⟩ | ⟨g, cap, cur, rfl, h0, hg, _⟩
  · simp [Value.ownBlock] at hb
  · obtain rfl : g = b := by simpa [Value.ownBlock] using hb
    exact ⟨h0, (Array.getElem?_eq_some_iff.1 hg).1⟩
theorem own2_zero {w : World} {b : Nat} {e : TypeId} {size : Nat} {v : Value} {n : Nat} {xs : List Value} (h : w.ownsRow b e size v n xs) : w.ownsRow 0 e size v n xs := ⟨h.1, h.2.imp id (fun ⟨g, cap, cur, e, _, r⟩ => ⟨g, cap, cur, e, Nat.zero_le _, r⟩)⟩
theorem row2_pos {w : World} {base : Nat} {e : TypeId} {size : Nat} {v : Value} {n : Nat} {xs : List Value} (h : w.ownsRow base e size v n xs) (hn : 0 < n) : ∃ g cap, v = .slice (some ⟨g, 0, none⟩) n cap ∧ n ≤ cap ∧ base ≤ g ∧ g < w.heap.size := by
  rcases h.2 with ⟨_, h0⟩ | ⟨g, cap, cur, rfl, hb, hg, hc, _⟩
  · omega
  · exact ⟨g, cap, rfl, hc, hb, (Array.getElem?_eq_some_iff.1 hg).1⟩
section
variable {P Q Q1 : Nat} {v : Value} {es : List Em} {F : Nat → Nat → Prop} {L : List (List Int)} {m m1 : Nat} {g : List Int} {w w' : World}
theorem Qt.only {D : Nat → Prop} (h : Qt P Q Q1 v es F L m m1 g w) (ho : Only D w w') (hd : ∀ b, allF F b → ¬ D b) : Qt P Q Q1 v es F L m m1 g w' :=
  ⟨h.head.only ho (hd P ⟨0, (h.f0 P).2 rfl⟩), h.rows.only ho (fun b hb => hd b ⟨1, hb⟩), h.gh.only ho (fun b hb => hd b ⟨2, hb⟩), own2_only h.row ho (fun b hb => hd b ⟨3, (h.f3 b).2 hb⟩), h.len, h.f0, h.f3, h.f4, h.dj.keep ho.size⟩
theorem Qt.below (h : Qt P Q Q1 v es F L m m1 g w) (hb : Below w.heap.size w w') : Qt P Q Q1 v es F L m m1 g w' := h.only (D := fun _ => False) (Below.only hb) (fun _ _ => id)
theorem Qt.goR {X : Nat → Prop} {L' : List (List Int)} (h : Qt P Q Q1 v es F L m m1 g w) (k : RQ Q X L' w') (s : Stp (F 1) X w w') : Qt P Q Q1 v es (setF F 1 X) L' m m1 g w' ∧ Stp (allF F) (allF (setF F 1 X)) w w' :=
  ⟨⟨h.head.only s.only (h.dj.out (i := 0) (by decide) P ((h.f0 P).2 rfl)), by rw [setF_same]; exact k, by rw [setF_other (by decide)]; exact h.gh.only s.only (h.dj.out (by decide)),
    own2_only h.row s.only (fun b hb => h.dj.out (i := 3) (by decide) b ((h.f3 b).2 hb)), h.len, by rw [setF_other (by decide)]; exact h.f0, by rw [setF_other (by decide)]; exact h.f3, fun i b hi => by rw [setF_other (by omega)]; exact h.f4 i b hi, h.dj.step s (fun b hb => k.lt hb)⟩, s.part⟩
theorem Qt.goG {X : Nat → Prop} {g' : List Int} {m1' : Nat} (h : Qt P Q Q1 v es F L m m1 g w) (k : GQ Q1 X m1' g' w') (s : Stp (F 2) X w w') : Qt P Q Q1 v es (setF F 2 X) L m m1' g' w' ∧ Stp (allF F) (allF (setF F 2 X)) w w' :=
  ⟨⟨h.head.only s.only (h.dj.out (i := 0) (by decide) P ((h.f0 P).2 rfl)), by rw [setF_other (by decide)]; exact h.rows.only s.only (h.dj.out (by decide)), by rw [setF_same]; exact k,
    own2_only h.row s.only (fun b hb => h.dj.out (i := 3) (by decide) b ((h.f3 b).2 hb)), h.len, by rw [setF_other (by decide)]; exact h.f0, by rw [setF_other (by decide)]; exact h.f3, fun i b hi => by rw [setF_other (by omega)]; exact h.f4 i b hi, h.dj.step s (fun b hb => k.lt hb)⟩, s.part⟩
theorem Qt.goM (h : Qt P Q Q1 v es F L m m1 g w) (m' : Nat) : Qt P Q Q1 v es F L m' m1 g (w.setCell ⟨P, 2, none⟩ (.int .i64 m')) ∧ Stp (allF F) (allF F) w (w.setCell ⟨P, 2, none⟩ (.int .i64 m')) := by
  have ho : Only (F 0) w (w.setCell ⟨P, 2, none⟩ (.int .i64 m')) := (Only.refl _ _).setCell (p := ⟨P, 2, none⟩) (.inl ((h.f0 P).2 rfl)) _
  exact ⟨⟨h.head.set 2 (.int .i64 m'), h.rows.only ho (h.dj.out (by decide)), h.gh.only ho (h.dj.out (by decide)), own2_only h.row ho (fun b hb => h.dj.out (i := 3) (by decide) b ((h.f3 b).2 hb)), h.len, h.f0, h.f3, h.f4, h.dj.keep ho.size⟩, ho.mono (fun b hb => ⟨0, hb⟩), fun b hb => .inl hb⟩
/-- A count turned. -/
theorem Qt.goN {a c K : Nat} (h : Qt P Q Q1 (.slice (some ⟨a, 0, none⟩) K c) es F L m m1 g w) {i : Nat} {e : Em} (he : es[i]? = some e) (n : Nat) : Qt P Q Q1 (.slice (some ⟨a, 0, none⟩) K c) (es.set i { e with n := n }) F L m m1 g (w.setCell ⟨a, i * 3 + 2, none⟩ (.int .i64 n)) ∧ Stp (allF F) (allF F) w (w.setCell ⟨a, i * 3 + 2, none⟩ (.int .i64 n)) := by
  have ha : F 3 a := (h.f3 a).2 rfl
  have ho : Only (F 3) w (w.setCell ⟨a, i * 3 + 2, none⟩ (.int .i64 n)) := (Only.refl _ _).setCell (p := ⟨a, i * 3 + 2, none⟩) (.inl ha) _
  have hK : K = es.length := by
    rcases h.row.2 with ⟨h1, _⟩ | ⟨b, cap, cur, h1, _⟩
    · cases h1
    · injection h1
  have hr := h.row
  rw [← hK] at hr
  have hst := (World.ownsRow.stored hr (i * 3 + 2) (.int .i64 n)).1
  exact ⟨⟨h.head.only ho (h.dj.out (i := 0) (by decide) P ((h.f0 P).2 rfl)), h.rows.only ho (h.dj.out (by decide)), h.gh.only ho (h.dj.out (by decide)), by rw [List.length_set, nc_set he, ← hK]; exact hst, by rw [List.length_set]; exact h.len, h.f0, h.f3, h.f4, h.dj.keep ho.size⟩, ho.mono (fun b hb => ⟨3, hb⟩), fun b hb => .inl hb⟩
/-- Another row. -/
theorem Qt.goH {v' : Value} {es' : List Em} {w1 : World} (h : Qt P Q Q1 v es F L m m1 g w) (ho : Only (F 3) w w1) (hv : w1.ownsRow 0 67 3 v' es'.length (nc es')) (hf : ∀ b, v'.ownBlock = some b → v.ownBlock = some b ∨ w.heap.size ≤ b) (hl : es'.length ≤ 4194304) :
    ∃ X, Qt P Q Q1 v' es' (setF F 3 X) L m m1 g (w1.setCell ⟨P, 3, none⟩ v') ∧ Stp (allF F) (allF (setF F 3 X)) w (w1.setCell ⟨P, 3, none⟩ v') := by
  have s : Stp (F 3) (fun b => v'.ownBlock = some b) w w1 := ⟨ho, fun b hb => (hf b hb).imp (h.f3 b).2 id⟩
  have d1 := h.dj.step s (fun b hb => (own2_le hv hb).2)
  have hB : Blk w1 P 41 [.pointer (some ⟨Q, 0, none⟩), .pointer (some ⟨Q1, 0, none⟩), .int .i64 m, v] := h.head.only ho (h.dj.out (i := 0) (by decide) P ((h.f0 P).2 rfl))
  have ho2 : Only (fun b => b = P) w1 (w1.setCell ⟨P, 3, none⟩ v') := Only.setCell (D := fun b => b = P) (Only.refl _ _) (p := ⟨P, 3, none⟩) (.inl rfl) v'
  have hno : ∀ i b, i ≠ 0 → setF F 3 (fun b => v'.ownBlock = some b) i b → ¬ b = P := fun i b hi hb e => by
    have h0 : setF F 3 (fun b => v'.ownBlock = some b) 0 P := by rw [setF_other (by decide)]; exact (h.f0 P).2 rfl
    rw [e] at hb
    exact hi (d1.one i 0 P hb h0)
  refine ⟨fun b => v'.ownBlock = some b, ⟨hB.set 3 v', ?_, ?_, own2_only hv ho2 (fun b hb => hno 3 b (by decide) (by rw [setF_same]; exact hb)), hl, by rw [setF_other (by decide)]; exact h.f0, fun b => by rw [setF_same], fun i b hi => by rw [setF_other (by omega)]; exact h.f4 i b hi, d1.keep ho2.size⟩, ?_⟩
  · rw [setF_other (by decide)]
    exact (h.rows.only ho (h.dj.out (by decide))).only ho2 (fun b hb => hno 1 b (by decide) (by rw [setF_other (by decide)]; exact hb))
  · rw [setF_other (by decide)]
    exact (h.gh.only ho (h.dj.out (by decide))).only ho2 (fun b hb => hno 2 b (by decide) (by rw [setF_other (by decide)]; exact hb))
  · have gp := s.part
    exact ⟨gp.only.trans (ho2.mono (fun b hb => show allF F b from hb ▸ ⟨0, (h.f0 P).2 rfl⟩)) (fun b hb => .inl hb), gp.foot⟩
end

set_option maxRecDepth 100000 in
set_option maxHeartbeats 1000000 in
theorem qt_find {P Q Q1 : Nat} {v : Value} {es : List Em} {F : Nat → Nat → Prop} {L : List (List Int)} {m m1 : Nat} {g : List Int} {w : World} (h : Qt P Q Q1 v es F L m m1 g w) (z : Int) :
    Calls Try.prog 36 #[.pointer (some ⟨P, 0, none⟩), .int .i64 z] w fun e w' => e = .returned (.int .i64 (ix es z)) ∧ w = w' := by
  have c3 := h.head.cell (i := 3) rfl
  have hlb := h.len
  have HO := hid h.row
  obtain ⟨a, c, rfl⟩ := row2_form h.row
  obtain ⟨K, hK⟩ : ∃ K, K = es.length := ⟨_, rfl⟩
  rw [← hK] at hlb HO c3
  have HK := hid hK
  clear h hK
  go_enter Try.func36, Try.ntmps36
  go_wp2_with fail
  go_loopw [5] (fun p wr => ∃ k : Nat, p = .int .i64 k ∧ k ≤ K ∧ w = wr ∧ Hid (∀ (j : Nat) e, j < k → es[j]? = some e → e.z ≠ z)) (fun p _ => K - (RowKit.intOf p).toNat)
  case atStart => exact ⟨0, rfl, Nat.zero_le _, rfl, hid (fun j y hj => absurd hj (Nat.not_lt_zero j))⟩
  case round =>
    obtain ⟨k, rfl, hk, rfl, hno2⟩ := hrel
    by_cases hlt2 : k < K
    · obtain ⟨⟨y, x, n⟩, hy⟩ : ∃ y, es[k]? = some y := ⟨_, List.getElem?_eq_getElem (by rw [← HK.out]; exact hlt2)⟩
      obtain ⟨b, cap, hv, _, _⟩ := row2_pos HO.out (by omega)
      cases hv
      have hc0 := World.ownsRow.cellAt HO.out (k * 3) (by omega)
      rw [(nc_at hy).1] at hc0
      by_cases e : y = z
      · have hr : Hid (ix es z = (k : Int)) := hid (ix_at hy e hno2.out)
        subst e
        clear hy
        go_wp2_with fail
        go_ret
        exact ⟨ret_i64 hr.out.symm, rfl⟩
      · have hno3 : Hid (∀ (j : Nat) e, j < k + 1 → es[j]? = some e → e.z ≠ z) := hid (fun j e' hj hx => by
          by_cases e1 : j = k
          · subst e1; rw [hy] at hx; cases hx; exact e
          · exact hno2.out j e' (by omega) hx)
        have hne : (y == z) = false := beq_eq_false_iff_ne.2 e
        clear hy e
        go_wp2_with fail
        go_roundw
        case rel => exact ⟨k + 1, by go_num, by omega, by first | rfl | trivial, hno3⟩
        case measure => simp [RowKit.intOf] <;> omega
    · obtain rfl : k = K := by omega
      have hr : Hid (ix es z = -1) := hid (ix_no (fun e he hez => by
        obtain ⟨j, hj⟩ := List.mem_iff_getElem?.1 he
        exact hno2.out j e (by rw [HK.out]; exact (List.getElem?_eq_some_iff.1 hj).1) hj hez))
      go_wp2_with fail
      go_ret
      exact ⟨ret_i64 hr.out.symm, rfl⟩
end Go.Proofs.Ytkhmgigllcgpnaa.Th

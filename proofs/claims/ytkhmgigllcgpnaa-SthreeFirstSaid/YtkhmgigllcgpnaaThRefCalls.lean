/-
  The document's own three queues as an object whose blocks are hidden; the contracts of Count, Touch, Cap and Insert. Conditions: they lie in memory.
-/
import Derived.Test.YtkhmgigllcgpnaaThRef
namespace Go.Proofs.Ytkhmgigllcgpnaa.Th
open Go Go.RowKit Go.Lib

theorem map_keep {es : List Em} {k : Nat} {e f : Em} (hk : es[k]? = some e) (hz : f.z = e.z) : (es.set k f).map (·.z) = es.map (·.z) := by
  apply List.ext_getElem?
  intro j
  rw [List.getElem?_map, List.getElem?_map, List.getElem?_set]
  by_cases e1 : k = j
  · subst e1
    rw [if_pos rfl, if_pos (List.getElem?_eq_some_iff.1 hk).1, hk]
    simp [hz]
  · rw [if_neg e1]
theorem Says.setN {es : List Em} {L L' : List (List Int)} {num : Int → Int} {cnt : Int → Nat} (h : Says es L num cnt) {k : Nat} {z : Int} {x : Int} {n0 : Nat} (hk : es[k]? = some ⟨z, x, n0⟩) (n : Nat) (hL : ∀ y, y ∈ L'.flatten ↔ y ∈ L.flatten) : Says (es.set k ⟨z, x, n⟩) L' num (updN cnt z n) := by
  have hm := map_keep (f := ⟨z, x, n⟩) hk rfl
  have hz : (es.map (·.z))[k]? = some z := by rw [List.getElem?_map, hk]; rfl
  have hx : num z = x := h.num _ (List.mem_of_getElem? hk)
  have hcase : ∀ e ∈ es.set k ⟨z, x, n⟩, e = ⟨z, x, n⟩ ∨ (e ∈ es ∧ e.z ≠ z) := fun e he => by
    obtain ⟨j, hj⟩ := List.mem_iff_getElem?.1 he
    rw [List.getElem?_set] at hj
    by_cases e1 : k = j
    · rw [if_pos e1, if_pos (List.getElem?_eq_some_iff.1 hk).1] at hj
      left; injection hj with hj; exact hj.symm
    · rw [if_neg e1] at hj
      right
      refine ⟨List.mem_of_getElem? hj, fun ez => e1 ?_⟩
      have h1 : (es.map (·.z))[j]? = some z := by rw [List.getElem?_map, hj]; simp [ez]
      exact (List.getElem?_inj (List.getElem?_eq_some_iff.1 hz).1 h.nd).1 (hz.trans h1.symm)
  refine ⟨by rw [hm]; exact h.nd, fun y => by rw [hm, h.mem y, hL y], fun e he => ?_, fun e he => ?_⟩
  · rcases hcase e he with rfl | ⟨h1, _⟩
    · exact hx
    · exact h.num e h1
  · rcases hcase e he with rfl | ⟨h1, h2⟩
    · exact updN_same _ _ _
    · rw [updN_other h2]; exact h.cnt e h1
theorem Says.snoc {es : List Em} {L L' : List (List Int)} {num : Int → Int} {cnt : Int → Nat} (h : Says es L num cnt) {z x : Int} (hz : z ∉ L.flatten) (hL : ∀ y, y ∈ L'.flatten ↔ y = z ∨ y ∈ L.flatten) : Says (es ++ [⟨z, x, 0⟩]) L' (updN num z x) (updN cnt z 0) := by
  have hzn : z ∉ es.map (·.z) := fun e => hz ((h.mem z).1 e)
  have hne : ∀ e ∈ es, e.z ≠ z := fun e he e2 => hzn (by rw [← e2]; exact List.mem_map_of_mem he)
  refine ⟨?_, fun y => ?_, fun e he => ?_, fun e he => ?_⟩
  · rw [List.map_append, List.nodup_append]
    refine ⟨h.nd, by simp, fun a ha b hb e => hzn ?_⟩
    have : b = z := by simpa using hb
    rw [← this, ← e]; exact ha
  · rw [List.map_append, List.mem_append, h.mem y, hL y]; simp [or_comm]
  · rcases List.mem_append.1 he with h1 | h1
    · rw [updN_other (hne e h1)]; exact h.num e h1
    · obtain rfl := List.mem_singleton.1 h1
      exact updN_same _ _ _
  · rcases List.mem_append.1 he with h1 | h1
    · rw [updN_other (hne e h1)]; exact h.cnt e h1
    · obtain rfl := List.mem_singleton.1 h1
      exact updN_same _ _ _
theorem Says.same {es : List Em} {L L' : List (List Int)} {num : Int → Int} {cnt : Int → Nat} (h : Says es L num cnt) (hL : ∀ y, y ∈ L'.flatten ↔ y ∈ L.flatten) : Says es L' num cnt := ⟨h.nd, fun z => (h.mem z).trans (hL z).symm, h.num, h.cnt⟩

/-- The document's own s lies at P, in the blocks G. -/
def QT (P : Nat) (G : Nat → Prop) (s : Th) (w : World) : Prop :=
  s.Ok ∧ ∃ Q Q1 v es F, Qt P Q Q1 v es F s.L s.m s.m s.g w ∧ Says es s.L s.num s.cnt ∧ ∀ b, G b ↔ allF F b
theorem QT.ok {P : Nat} {G : Nat → Prop} {s : Th} {w : World} (h : QT P G s w) : s.Ok := h.1
theorem QT.lt {P : Nat} {G : Nat → Prop} {s : Th} {w : World} (h : QT P G s w) {b : Nat} (hb : G b) : b < w.heap.size := by
  obtain ⟨_, Q, Q1, v, es, F, hq, _, hG⟩ := h
  obtain ⟨i, hi⟩ := (hG b).1 hb
  exact hq.dj.lt i b hi
theorem QT.only {P : Nat} {G D : Nat → Prop} {s : Th} {w w' : World} (h : QT P G s w) (ho : Only D w w') (hd : ∀ b, G b → ¬ D b) : QT P G s w' := by
  obtain ⟨k, Q, Q1, v, es, F, hq, h1, hG⟩ := h
  exact ⟨k, Q, Q1, v, es, F, hq.only ho (fun b hb => hd b ((hG b).2 hb)), h1, hG⟩
theorem QT.below {P : Nat} {G : Nat → Prop} {s : Th} {w w' : World} (h : QT P G s w) (hb : Below w.heap.size w w') : QT P G s w' := h.only (D := fun _ => False) (Below.only hb) (fun _ _ => id)
theorem qt_go {P Q Q1 : Nat} {v : Value} {es : List Em} {G : Nat → Prop} {F F' : Nat → Nat → Prop} {s : Th} {w w' : World} (hG : ∀ b, G b ↔ allF F b) (ok : s.Ok) (h : Qt P Q Q1 v es F' s.L s.m s.m s.g w') (k : Says es s.L s.num s.cnt) (st : Stp (allF F) (allF F') w w') :
    ∃ G', QT P G' s w' ∧ Stp G G' w w' := ⟨allF F', ⟨ok, Q, Q1, v, es, F', h, k, fun _ => Iff.rfl⟩, ⟨st.only.mono (fun b hb => (hG b).2 hb), fun b hb => (st.foot b hb).imp (hG b).2 id⟩⟩
theorem qt_drew {P : Nat} {G : Nat → Prop} {s : Th} {w W : World} (h : ∃ G', QT P G' s W ∧ Stp G G' w W) : ∃ G', QT P G' s W.drew ∧ Stp G G' w W.drew := by
  obtain ⟨G', h1, h2⟩ := h
  exact ⟨G', h1.below (Below.refl _ _).drew, h2.trans (Stp.below (Below.refl _ _).drew)⟩
section
variable {P Q Q1 : Nat} {v : Value} {es : List Em} {F : Nat → Nat → Prop} {L : List (List Int)} {m m1 : Nat} {g : List Int} {w : World}
theorem qt_front (h : Qt P Q Q1 v es F L m m1 g w) (r z : Int) :
    Calls Try.prog 47 #[.pointer (some ⟨Q, 0, none⟩), .int .i64 r, .int .i64 z] w fun e w' => e = .returned (.bool (decide (May L.length r z))) ∧ ∃ F', Qt P Q Q1 v es F' (opFront L r z) m m1 g w' ∧ Stp (allF F) (allF F') w w' := by
  refine (rq_front h.rows r z).mono ?_
  rintro e w' ⟨he, X, k, s⟩
  exact ⟨he, _, h.goR k s⟩
theorem qt_take (h : Qt P Q Q1 v es F L m m1 g w) (z : Int) :
    Calls Try.prog 49 #[.pointer (some ⟨Q, 0, none⟩), .int .i64 z] w fun e w' => e = .returned (.bool (rowOf L z).isSome) ∧ ∃ F', Qt P Q Q1 v es F' (takeL L z) m m1 g w' ∧ Stp (allF F) (allF F') w w' := by
  refine (rq_take h.rows z).mono ?_
  rintro e w' ⟨he, X, k, s⟩
  exact ⟨he, _, h.goR k s⟩
theorem qt_add (h : Qt P Q Q1 v es F L m m1 g w) (z : Int) (hl : g.length < 4194304) :
    Calls Try.prog 51 #[.pointer (some ⟨Q1, 0, none⟩), .int .u64 z] w fun e w' => e = .returned (.tuple #[]) ∧ ∃ F', Qt P Q Q1 v es F' L m m1 (Gh.addL m1 g z) w' ∧ Stp (allF F) (allF F') w w' := by
  refine (gq_add h.gh z hl).mono ?_
  rintro e w' ⟨he, X, k, s⟩
  exact ⟨he, _, h.goG k s⟩
theorem qt_rmG (h : Qt P Q Q1 v es F L m m1 g w) (z : Int) :
    Calls Try.prog 46 #[.pointer (some ⟨Q1, 0, none⟩), .int .u64 z] w fun e w' => e = .returned (.bool (decide (z ∈ g))) ∧ ∃ F', Qt P Q Q1 v es F' L m m1 (Gh.rmL g z) w' ∧ Stp (allF F) (allF F') w w' := by
  refine (gq_remove h.gh z).mono ?_
  rintro e w' ⟨he, X, k, s⟩
  exact ⟨he, _, h.goG k s⟩
theorem qt_lim (h : Qt P Q Q1 v es F L m m1 g w) (n : Int) (q : -9223372036854775808 ≤ n ∧ n ≤ 9223372036854775807) :
    Calls Try.prog 52 #[.pointer (some ⟨Q1, 0, none⟩), .int .i64 n] w fun e w' => e = .returned (.tuple #[]) ∧ ∃ F', Qt P Q Q1 v es F' L m n.toNat (Gh.cutL n.toNat g) w' ∧ Stp (allF F) (allF F') w w' := by
  refine (gq_limit h.gh n q).mono ?_
  rintro e w' ⟨he, X, k, s⟩
  exact ⟨he, _, h.goG k s⟩
end

set_option maxRecDepth 100000 in
theorem qt_count {P : Nat} {G : Nat → Prop} {s : Th} {w : World} (h : QT P G s w) (z : Int) :
    Calls Try.prog 15 #[.pointer (some ⟨P, 0, none⟩), .int .i64 z] w fun e w' => e = .returned (.int .i64 (s.count z)) ∧ w = w' := by
  obtain ⟨ok, Q, Q1, v, es, F, hq, hsay, hG⟩ := h
  have c3 := hq.head.cell (i := 3) rfl
  have hf := qt_find hq z
  rcases hsay.find z with ⟨hz, hx⟩ | ⟨k, hk, he, hx, hz⟩
  · rw [hx] at hf
    have hc : Hid (s.count z = -1) := hid (by unfold Th.count Th.has; rw [if_neg (fun e => hz (arow_some.1 e))])
    clear hq hsay hG ok
    go_enter Try.func15, Try.ntmps15
    go_wp2_with fail
    refine hf.mono ?_
    rintro e w1 ⟨rfl, rfl⟩
    go_wp2_with fail
    go_ret
    exact ⟨ret_i64 hc.out.symm, rfl⟩
  · rw [hx] at hf
    have hc : Hid (s.count z = (s.cnt z : Int)) := hid (by unfold Th.count Th.has; rw [if_pos (arow_some.2 hz)])
    obtain ⟨b, cap, rfl, _, _, _⟩ := row2_pos hq.row (by omega)
    have hcl := World.ownsRow.cellAt hq.row (k * 3 + 2) (by omega)
    rw [(nc_at he).2.2] at hcl
    generalize s.cnt z = n at *
    generalize es.length = K at *
    clear hq hsay hG ok he hx
    go_enter Try.func15, Try.ntmps15
    go_wp2_with fail
    refine hf.mono ?_
    rintro e w1 ⟨rfl, rfl⟩
    go_wp2_with fail
    go_ret
    exact ⟨ret_i64 hc.out.symm, rfl⟩

set_option maxRecDepth 100000 in
set_option maxHeartbeats 1000000 in
theorem qt_touch {P : Nat} {G : Nat → Prop} {s : Th} {w : World} (h : QT P G s w) (z : Int) :
    Calls Try.prog 29 #[.pointer (some ⟨P, 0, none⟩), .int .i64 z] w fun e w' => e = .returned (.bool (s.has z)) ∧ ∃ G', QT P G' (s.tch z) w' ∧ Stp G G' w w' := by
  have HQ := hid h
  obtain ⟨ok, Q, Q1, v, es, F, hq, hsay, hG⟩ := h
  have c3 := hq.head.cell (i := 3) rfl
  have hf := qt_find hq z
  rcases hsay.find z with ⟨hz, hx⟩ | ⟨k, hk, he, hx, hz⟩
  · rw [hx] at hf
    have hh : s.has z = false := by cases e : s.has z; · rfl
                                    · exact absurd (arow_some.1 e) hz
    have e1 : Hid (s.has z = false) := hid hh
    have e2 : Hid (s.tch z = s) := hid (by unfold Th.tch; rw [hh]; rfl)
    clear hq hsay hG ok hh hx hz
    go_enter Try.func29, Try.ntmps29
    go_wp2_with fail
    refine hf.mono ?_
    rintro e w1 ⟨rfl, rfl⟩
    go_wp2_with fail
    go_ret
    exact ⟨ret_bool e1.out.symm, G, by rw [e2.out]; exact HQ.out, Stp.refl _ _⟩
  · rw [hx] at hf
    have hh : s.has z = true := arow_some.2 hz
    have e1 : Hid (s.has z = true) := hid hh
    have hn3 := ok.three z
    have oks := ok.tch z
    have et : s.tch z = { s with cnt := updN s.cnt z (min 3 (s.cnt z + 1)) } := by unfold Th.tch; rw [hh]; rfl
    rw [et] at oks ⊢
    obtain ⟨b, cap, rfl, hcap, _, _⟩ := row2_pos hq.row (by omega)
    have hcl := World.ownsRow.cellAt hq.row (k * 3 + 2) (by omega)
    rw [(nc_at he).2.2] at hcl
    have hfz := World.ownsRow.frozenAt hq.row (k * 3 + 2)
    have HF : Hid (∀ n, n = min 3 (s.cnt z + 1) → ∃ G', QT P G' { s with cnt := updN s.cnt z (min 3 (s.cnt z + 1)) } (w.setCell ⟨b, k * 3 + 2, none⟩ (.int .i64 (n : Nat))) ∧ Stp G G' w (w.setCell ⟨b, k * 3 + 2, none⟩ (.int .i64 (n : Nat)))) := hid (fun n en => by
      obtain ⟨k1, k2⟩ := hq.goN he n
      rw [← en] at oks ⊢
      exact qt_go hG oks k1 (hsay.setN he n (fun _ => Iff.rfl)) k2)
    have hlb := hq.len
    generalize es.length = K at *
    generalize s.cnt z = n at *
    clear hq hsay hG ok hh hx he HQ et oks hz
    have hi0 : (0 : Int) ≤ (k : Int) := by omega
    have hi1 : (k : Int) < (K : Int) := by omega
    go_enter Try.func29, Try.ntmps29
    go_wp2_with fail
    refine hf.mono ?_
    rintro e w1 ⟨rfl, rfl⟩
    clear hf
    obtain ⟨S, hS⟩ : ∃ S, S = n + 1 := ⟨_, rfl⟩
    have q2 : (n : Int) + 1 = (S : Int) := by omega
    have q3 : (S : Int) ≤ 4 := by omega
    rcases Nat.lt_or_ge S 3 with h3 | h3
    · have k1 : (S : Int) < 3 := by omega
      have HF2 := hid (HF.out S (by omega))
      clear HF hn3 hS h3
      go_wp2_with fail
      go_region
      go_wp2_with fail
      go_ret
      exact ⟨ret_bool e1.out.symm, qt_drew HF2.out⟩
    · have k1 : (3 : Int) ≤ (S : Int) := by omega
      have HF2 := hid (HF.out 3 (by omega))
      clear HF hn3 hS h3
      go_wp2_with fail
      go_region
      go_wp2_with fail
      go_ret
      exact ⟨ret_bool e1.out.symm, qt_drew HF2.out⟩
end Go.Proofs.Ytkhmgigllcgpnaa.Th

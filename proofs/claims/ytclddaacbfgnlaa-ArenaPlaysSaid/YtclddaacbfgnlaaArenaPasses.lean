/-
  The law ArenaPasses at this program. No conditions but that the numbers are an int's and that a slice's length is at most its capacity.
-/
import Derived.Test.YtclddaacbfgnlaaArenaFull
import Derived.Laws.BytesArg
namespace Go.Proofs.Ytclddaacbfgnlaa
open Go Go.RowKit Go.Lib

def S (l : List UInt8) : ByteArray := ⟨l.toArray⟩
/-- What 'string(b)' gives where b reads as these bytes. -/
theorem conv_byts {w : World} {a : Option Addr} {n c : Nat} {l : List UInt8} (h : Byts w (.slice a n c) l) : (convert 32 9 (.slice a n c)).run Try.prog w = .ok (.string (S l)) w := by
  obtain ⟨a', c', e, hx⟩ := h
  cases e
  cases a with
  | none =>
    cases l with
    | nil => exact run_convert_bytes_nil (P := Try.prog) w 32 5 Try.underlying32 Try.underlying5 0 c 9 Try.underlying9
    | cons b l =>
      obtain ⟨g, o, ha, _⟩ := hx 0 b rfl
      cases ha
  | some ad =>
    refine run_convert_bytes_back (P := Try.prog) w 32 9 5 ad c l Try.underlying32 Try.underlying5 Try.underlying9 (fun j hj => ?_)
    obtain ⟨g, o, ha, _, hc⟩ := hx j l[j] (List.getElem?_eq_getElem hj)
    cases ha
    rw [addr_plain]; exact hc
theorem Byts.take {w : World} {a : Option Addr} {n c : Nat} {l : List UInt8} (h : Byts w (.slice a n c) l) {k : Nat} (hk : k ≤ n) : Byts w (.slice a k c) (l.take k) := by
  obtain ⟨a', c', e, hx⟩ := h
  cases e
  refine ⟨a, c, by rw [List.length_take, Nat.min_eq_left hk], fun j b hj => ?_⟩
  rw [List.getElem?_take] at hj
  split at hj
  · exact hx j b hj
  · cases hj

def one (o : Int) (l : List UInt8) : St := { size := 512, ow := [o], pg := fun q => if q = 0 then splice (List.replicate 512 0) 0 l else List.replicate 512 0 }
theorem ps1 : (newSt 1 512).grant 3 = (0, 0, stw [3]) := rfl
theorem ps2 (l : List UInt8) (h : l.length ≤ 512) : (stw [3]).write 0 0 l = (0, one 3 l) := by
  have hc : (stw [3]).code 0 0 l.length = 0 := by
    unfold St.code
    rw [if_pos (by decide), if_pos]
    have : (stw [3]).size = 512 := rfl
    rw [this]; omega
  unfold St.write
  rw [hc, if_pos rfl]; rfl
def toOwn (to : Int) : Int := if ownB to = true then to else 3
theorem ps3 (l : List UInt8) (to : Int) : (one 3 l).pass 0 to = (if ownB to = true then 0 else 1, one (toOwn to) l) := by
  unfold St.pass toOwn
  rw [if_pos (show grB (one 3 l).ow 0 = true from (by decide : grB [3] 0 = true))]
  cases ownB to <;> rfl
theorem toOwn_ne (to : Int) : toOwn to ≠ -1 := by
  unfold toOwn
  split
  · rename_i h; have := ownB_true h; unfold ownB at h; rw [decide_eq_true_iff] at h; omega
  · decide
theorem ps4 (l : List UInt8) (to : Int) : grB (one (toOwn to) l).ow 0 = true := by
  unfold grB
  rw [show ownerOf (one (toOwn to) l).ow 0 = toOwn to from rfl]
  simpa using toOwn_ne to
theorem ps5 (l : List UInt8) (to : Int) : (one (toOwn to) l).get 0 0 l.length = l := by
  unfold St.get
  rw [show (one (toOwn to) l).pg 0 = splice (List.replicate 512 0) 0 l from rfl, List.drop_zero]
  generalize List.replicate 512 (0 : UInt8) = L
  unfold splice
  rw [List.take_zero, List.nil_append, List.take_left']
  rfl
theorem ps6 (l : List UInt8) (to : Int) : (one (toOwn to) l).pass 1 0 = (7, one (toOwn to) l) := by
  unfold St.pass
  rw [if_neg]
  unfold grB
  rw [show ownerOf (one (toOwn to) l).ow 1 = -1 from ownerOf_out (.inr (show ((1 : Nat) : Int) ≤ 1 by decide))]; decide

/-- All that is asked of the arena, of bytes l that V reads as. -/
structure Asked (V : Value) (m : Int) (l : List UInt8) (to : Int) (B : Nat) (w : World) : Prop where
  grant : ∀ P O R w1, AIs P O R (newSt 1 512) w1 → Calls Try.prog 15 #[.pointer (some ⟨P, 0, none⟩), .int .i64 3] w1 fun e w' => e = .returned (.tuple #[.int .i64 0, .int .i64 0]) ∧ AIs P O R (stw [3]) w' ∧ Only (fun b => b = O) w1 w'
  write : ∀ P O R w1, AIs P O R (stw [3]) w1 → Below B w w1 → Calls Try.prog 18 #[.pointer (some ⟨P, 0, none⟩), .int .i64 0, .int .i64 0, V] w1 fun e w' => e = .returned (.int .i64 0) ∧ AIs P O R (one 3 l) w' ∧ Only (fun b => b = R) w1 w'
  pass : ∀ P O R w1, AIs P O R (one 3 l) w1 → Calls Try.prog 19 #[.pointer (some ⟨P, 0, none⟩), .int .i64 0, .int .i64 to] w1 fun e w' => e = .returned (.int .i64 (if ownB to = true then 0 else 1)) ∧ AIs P O R (one (toOwn to) l) w' ∧ Only (fun b => b = O) w1 w'
  read : ∀ P O R w1, AIs P O R (one (toOwn to) l) w1 → Calls Try.prog 20 #[.pointer (some ⟨P, 0, none⟩), .int .i64 0, .int .i64 0, .int .i64 m] w1 fun e w' => ∃ a n c, e = .returned (.tuple #[.slice a n c, .int .i64 0]) ∧ (∀ w2, Below w'.heap.size w' w2 → (convert 32 9 (.slice a n c)).run Try.prog w2 = .ok (.string (S l)) w2) ∧ Below w1.heap.size w1 w'
  owner : ∀ P O R w1, AIs P O R (one (toOwn to) l) w1 → Calls Try.prog 17 #[.pointer (some ⟨P, 0, none⟩), .int .i64 0] w1 fun e w' => e = .returned (.int .i64 (toOwn to)) ∧ w1 = w'
  gone : ∀ P O R w1, AIs P O R (one (toOwn to) l) w1 → Calls Try.prog 19 #[.pointer (some ⟨P, 0, none⟩), .int .i64 1, .int .i64 0] w1 fun e w' => e = .returned (.int .i64 7) ∧ Only (fun b => b = O) w1 w'
  conv : ∀ w1, Below B w w1 → (convert 32 9 V).run Try.prog w1 = .ok (.string (S l)) w1

theorem byts_below {B : Nat} {w w1 : World} {a : Option Addr} {n c : Nat} {l : List UInt8} (hv : Byts w (.slice a n c) l) (hb : Below B w w1) (hB : B = w.heap.size) : Byts w1 (.slice a n c) l := by
  subst hB
  obtain ⟨a', c', e, hx⟩ := hv
  cases e
  refine ⟨a, c, rfl, fun j b hj => ?_⟩
  obtain ⟨g, o, ha, hlt, hc⟩ := hx j b hj
  exact ⟨g, o, ha, Nat.lt_of_lt_of_le hlt hb.size, (hb.cell (p := ⟨g, o + j, none⟩) hlt).trans hc⟩
theorem byts_own {w w1 : World} {v : Value} {B : Nat} {l : List UInt8} (ho : w.ownsRow B 5 1 v l.length (bc l)) (hb : Below w.heap.size w w1) : Byts w1 v l := by
  obtain ⟨a, c, rfl⟩ := row_form ho
  exact byts_below (byts_row ho) hb rfl

theorem asked_of {a : Option Addr} {n c : Nat} {l : List UInt8} (hn : l.length = n) (h512 : n ≤ 512) (to : Int) (w : World) (hv : Byts w (.slice a n c) l) (m : Int) (hm : m = (n : Int)) :
    Asked (.slice a n c) m l to w.heap.size w := by
  subst hn
  subst hm
  refine ⟨fun P O R w1 h => ?_, fun P O R w1 h hb => ?_, fun P O R w1 h => ?_, fun P O R w1 h => ?_, fun P O R w1 h => ?_, fun P O R w1 h => ?_, fun w1 hb => conv_byts (byts_below hv hb rfl)⟩
  · have := grant_any h 3
    rw [ps1] at this; exact this
  · have := write_any h 0 0 (by omega) _ l (by omega) (byts_below hv hb rfl)
    rw [ps2 l h512] at this; exact this
  · have := pass_any h 0 to
    rw [ps3] at this; exact this
  · have hr := read_ok h 0 0 l.length (ps4 l to) (show 0 < 1 by decide) (show 0 + l.length ≤ 512 by omega)
    rw [ps5] at hr
    refine hr.mono fun e w' ⟨v, he, ho, hb⟩ => ?_
    obtain ⟨a', c', rfl⟩ := row_form ho
    exact ⟨a', l.length, c', he, fun w2 h2 => conv_byts (byts_own ho h2), hb⟩
  · have := owner_any h 0
    rw [show ownerOf (one (toOwn to) l).ow 0 = toOwn to from rfl] at this; exact this
  · have := pass_any h 1 0
    rw [ps6] at this
    exact this.mono fun e w' ⟨he, _, ho⟩ => ⟨he, ho⟩

set_option maxHeartbeats 4000000 in
set_option maxRecDepth 100000 in
theorem passes_law (a : Option Addr) (n c : Nat) (l : List UInt8) (hn : l.length = n) (hnc : n ≤ c) (hc63 : c ≤ 9223372036854775807) (to : Int) (w : World) (hv : Byts w (.slice a n c) l) :
    Calls Try.prog 6 #[.slice a n c, .int .i64 to] w fun e w' => e = .returned (.bool true) ∧ Below w.heap.size w w' := by
  have hcase : (n ≤ 512 ∧ ∃ l', Asked (.slice a n c) (n : Int) l' to w.heap.size w) ∨ (∃ g o, a = some ⟨g, o, none⟩ ∧ (512 : Int) < (n : Int) ∧ ∃ l', Asked (.slice (some ⟨g, o, none⟩) 512 c) 512 l' to w.heap.size w) := by
    by_cases h : n ≤ 512
    · exact .inl ⟨h, l, asked_of hn h to w hv _ rfl⟩
    · have h0 : 0 < l.length := by omega
      obtain ⟨g, o, ha⟩ : ∃ g o, a = some ⟨g, o, none⟩ := by
        obtain ⟨a', c', e, hx⟩ := hv
        cases e
        obtain ⟨g, o, ha, _⟩ := hx 0 l[0] (List.getElem?_eq_getElem h0)
        exact ⟨g, o, ha⟩
      subst ha
      exact .inr ⟨g, o, rfl, by omega, l.take 512, asked_of (by rw [List.length_take]; omega) (Nat.le_refl _) to w (Byts.take hv (by omega)) 512 rfl⟩
  have hto : (ownB to = true ∧ 0 ≤ to ∧ to < 63 ∧ toOwn to = to) ∨ (ownB to = false ∧ to < 0 ∧ toOwn to = 3) ∨ (ownB to = false ∧ ¬ to < 0 ∧ decide (to < 63) = false ∧ toOwn to = 3) := by
    cases ht : ownB to with
    | true =>
      refine .inl ⟨rfl, ?_, ?_, by unfold toOwn; rw [if_pos ht]⟩
      all_goals (unfold ownB at ht; rw [decide_eq_true_iff] at ht; omega)
    | false =>
      have e3 : toOwn to = 3 := by unfold toOwn; rw [if_neg (by rw [ht]; decide)]
      unfold ownB at ht; rw [decide_eq_false_iff_not] at ht
      by_cases h1 : to < 0
      · exact .inr (.inl ⟨rfl, h1, e3⟩)
      · exact .inr (.inr ⟨rfl, h1, by rw [decide_eq_false_iff_not]; omega, e3⟩)
  have hnew := fun w => new512 1 (by omega) (by omega) w
  clear hv hn
  rcases hcase with ⟨hn5, l', hA⟩ | ⟨g, o, rfl, hn5, l', hA⟩
  all_goals
    have HA := hid hA
    clear hA
    go_enter Try.func6, Try.ntmps6
    go_wp2_with fail
    refine (shown_any _).mono ?_
    rintro e w1 ⟨rfl, b1⟩
    go_wp2_with fail
    refine (hnew _).mono ?_
    rintro e w2 ⟨P, O, R, rfl, h, b2, -, hO, hR⟩
    have b3 := Below.then b1 b2
    have hO' : w.heap.size ≤ O := Nat.le_trans b1.size hO
    have hR' : w.heap.size ≤ R := Nat.le_trans b1.size hR
    have hg := HA.out.grant P O R _ h
    clear hnew h b1 b2 hO hR
    go_wp2_with fail
    refine hg.mono ?_
    rintro e w3 ⟨rfl, h, ho⟩
    have b4 := only_below b3 ho (Nat.le_refl _) hO'
    have hg2 := HA.out.write P O R _ h b4
    clear hg h ho b3
    go_wp2_with fail
    refine hg2.mono ?_
    rintro e w4 ⟨rfl, h, ho⟩
    have b5 := only_below b4 ho (Nat.le_refl _) hR'
    have hg3 := HA.out.pass P O R _ h
    clear hg2 h ho b4
    rcases hto with ⟨k1, k2, k3, k4⟩ | ⟨k1, k2, k4⟩ | ⟨k1, k2, k3, k4⟩
    all_goals
      rw [k1] at hg3
      simp only [if_true, Bool.false_eq_true, if_false] at hg3
      go_wp2_with fail
      refine hg3.mono ?_
      rintro e w5 ⟨rfl, h, ho⟩
      have b6 := only_below b5 ho (Nat.le_refl _) hO'
      have hg4 := HA.out.read P O R _ h
      clear hg3 ho b5
      have H := hid h
      clear h
      go_wp2_with fail
      refine hg4.mono ?_
      rintro e w6 ⟨a6, n6, c6, rfl, hcv, hb⟩
      have b7 := b6.trans (hb.mono b6.size)
      have h := H.out.below hb
      have hg5 := HA.out.owner P O R _ h
      rw [k4] at hg5
      have hg6 := HA.out.gone P O R _ h
      have cv1 := hcv _ (Below.refl _ _)
      have cv2 := HA.out.conv _ b7
      clear hg4 hb b6 h H hcv k1 k4
      go_wp2_with fail
      refine hg5.mono ?_
      rintro e w7 ⟨rfl, rfl⟩
      clear hg5
      go_wp2_with fail
      refine hg6.mono ?_
      rintro e w8 ⟨rfl, ho⟩
      have b8 := only_below b7 ho (Nat.le_refl _) hO'
      clear hg6 ho b7
      go_wp2_with fail
      go_ret
      exact ⟨rfl, b8⟩
end Go.Proofs.Ytclddaacbfgnlaa

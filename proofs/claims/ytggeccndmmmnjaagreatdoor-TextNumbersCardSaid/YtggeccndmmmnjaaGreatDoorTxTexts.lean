/-
  Lines that are written, read: the plain mathematics. No conditions.
-/
import Derived.Test.YtggeccndmmmnjaaGreatDoorTxShown
namespace Go.Proofs.YtggeccndmmmnjaaGreatDoor.Tx
open Go Go.RowKit Go.Lib Md

theorem S_app (l m : List UInt8) : S l ++ S m = S (l ++ m) := by
  apply ByteArray.ext
  apply Array.toList_inj.1
  simp [S]
/-- A number of seconds, written. -/
def secT (x : Int) : List UInt8 := if x < 0 then 45 :: Lib.decDigits (-x).toNat else Lib.decDigits x.toNat
theorem secT_pos (m : Nat) : secT (m : Int) = Lib.decDigits m := by unfold secT; rw [if_neg (by omega)]; rfl
theorem secT_neg (m : Nat) (h : 0 < m) : secT (-(m : Int)) = 45 :: Lib.decDigits m := by
  unfold secT; rw [if_pos (by omega)]
  congr 2
  omega
theorem keyB_of {l : List UInt8} (h1 : 1 ≤ l.length) (h2 : l.length ≤ 250) (h : ∀ c ∈ l, 33 ≤ c.toNat ∧ c.toNat ≠ 127) : keyB l = true := by
  simpa [keyB, keyByte, and_assoc] using ⟨h1, h2, h⟩
theorem keyB_dd {n : Nat} (h : n < 18446744073709551616) : keyB (Lib.decDigits n) = true :=
  keyB_of (Nu.dd_len_pos n) (by have := Nu.dd_len_le h; omega) fun c hc => by have := Nu.dd_digits n c hc; omega
theorem keyB_dash {n : Nat} (h : n < 18446744073709551616) : keyB (45 :: Lib.decDigits n) = true :=
  keyB_of (by simp) (by have := Nu.dd_len_le h; simp; omega) fun c hc => by
    rcases List.mem_cons.1 hc with rfl | hc
    · decide
    · have := Nu.dd_digits n c hc; omega
theorem keyB_secT {x : Int} (h0 : -1099511627776 ≤ x) (h1 : x ≤ 1099511627776) : keyB (secT x) = true := by
  unfold secT
  split
  · exact keyB_dash (by omega)
  · exact keyB_dd (by omega)
theorem secT_len {x : Int} (h0 : -1099511627776 ≤ x) (h1 : x ≤ 1099511627776) : (secT x).length ≤ 21 := by
  unfold secT
  split
  · have := Nu.dd_len_le (n := (-x).toNat) (by omega); simp; omega
  · have := Nu.dd_len_le (n := x.toNat) (by omega); omega
theorem numU_dd {n most : Nat} (h : n ≤ most) (hm : most < 18446744073709551616) : numU (Lib.decDigits n) most = some n := by
  unfold numU
  rw [Nu.parseU_dd (by omega)]
  exact if_neg (by omega)
theorem secs_T {x : Int} (h0 : -1099511627776 ≤ x) (h1 : x ≤ 1099511627776) : secs (secT x) = some x := by
  have e : Nu.signedU (secT x) = some x := by
    unfold secT
    split
    · rw [Nu.signedU_dash_small (by omega)]; congr 1; omega
    · rw [Nu.signedU_dd_small (by omega)]; congr 1; omega
  unfold secs
  rw [e]
  exact if_neg (by omega)
theorem dd_nr (n : Nat) : Lib.decDigits n ≠ wNoreply := fun h => by
  have := Nu.dd_digits n 110 (by rw [h]; decide)
  revert this; decide
theorem secT_nr (x : Int) : secT x ≠ wNoreply := by
  unfold secT
  split
  · intro h; injection h with h; revert h; decide
  · exact dd_nr _
theorem off_plain {ws : List (List UInt8)} {x : List UInt8} (hx : x ≠ wNoreply) : offW (ws ++ [x]) = ws ++ [x] ∧ offQ (ws ++ [x]) = false := by
  have h : ¬ (ws ++ [x]).getLast? = some wNoreply := by rw [List.getLast?_concat]; simpa using hx
  exact ⟨by unfold offW; rw [if_neg h], by unfold offQ; exact decide_eq_false h⟩
theorem off_quiet (ws : List (List UInt8)) : offW (ws ++ [wNoreply]) = ws ∧ offQ (ws ++ [wNoreply]) = true := by
  have h : (ws ++ [wNoreply]).getLast? = some wNoreply := by rw [List.getLast?_concat]
  exact ⟨by unfold offW; rw [if_pos h, List.dropLast_concat], by unfold offQ; exact decide_eq_true h⟩
/-- The words, with noreply behind them if quiet. -/
def nrW (quiet : Bool) : List (List UInt8) := if quiet then [wNoreply] else []
theorem off_nr {ws : List (List UInt8)} {x : List UInt8} (hx : x ≠ wNoreply) (quiet : Bool) : offW (ws ++ [x] ++ nrW quiet) = ws ++ [x] ∧ offQ (ws ++ [x] ++ nrW quiet) = quiet := by
  cases quiet
  · unfold nrW; simpa using off_plain (ws := ws) hx
  · exact off_quiet _
/-- What ends a line: its end alone, or noreply and its end. -/
def endT (quiet : Bool) : List UInt8 := if quiet then [32, 110, 111, 114, 101, 112, 108, 121, 13, 10] else [13, 10]
theorem join2 (a b : List UInt8) (quiet : Bool) : Lib.join ([a, b] ++ nrW quiet) [32] ++ [13, 10] = a ++ [32] ++ b ++ endT quiet := by cases quiet <;> simp [Lib.join, nrW, endT, List.intercalate]
theorem join3 (a b c : List UInt8) (quiet : Bool) : Lib.join ([a, b, c] ++ nrW quiet) [32] ++ [13, 10] = a ++ [32] ++ b ++ [32] ++ c ++ endT quiet := by cases quiet <;> simp [Lib.join, nrW, endT, List.intercalate]
theorem nr_keys (quiet : Bool) : ∀ x ∈ nrW quiet, keyB x = true := by cases quiet <;> simp [nrW] <;> decide
theorem end_len (quiet : Bool) : (endT quiet).length ≤ 10 := by cases quiet <;> decide
theorem parse_line2 (a b : List UInt8) (quiet : Bool) (ha : keyB a = true) (hb : keyB b = true) (hl : a.length + b.length ≤ 2000) :
    parse (a ++ [32] ++ b ++ endT quiet) = (readR ([a, b] ++ nrW quiet) []).fin (a ++ [32] ++ b ++ endT quiet).length := by
  have e := join2 a b quiet
  have hlen : (Lib.join ([a, b] ++ nrW quiet) [32]).length + 2 = (a ++ [32] ++ b ++ endT quiet).length := by rw [← e]; simp
  have h := parse_words (ws := [a, b] ++ nrW quiet) (fun x hx => by
    rcases List.mem_append.1 hx with h | h
    · simp at h; rcases h with rfl | rfl <;> assumption
    · exact nr_keys quiet x h) (by rw [hlen]; have := end_len quiet; simp; omega) []
  rw [e, hlen, List.append_nil] at h
  exact h
theorem parse_line3 (a b c : List UInt8) (quiet : Bool) (ha : keyB a = true) (hb : keyB b = true) (hc : keyB c = true) (hl : a.length + b.length + c.length ≤ 2000) :
    parse (a ++ [32] ++ b ++ [32] ++ c ++ endT quiet) = (readR ([a, b, c] ++ nrW quiet) []).fin (a ++ [32] ++ b ++ [32] ++ c ++ endT quiet).length := by
  have e := join3 a b c quiet
  have hlen : (Lib.join ([a, b, c] ++ nrW quiet) [32]).length + 2 = (a ++ [32] ++ b ++ [32] ++ c ++ endT quiet).length := by rw [← e]; simp
  have h := parse_words (ws := [a, b, c] ++ nrW quiet) (fun x hx => by
    rcases List.mem_append.1 hx with h | h
    · simp at h; rcases h with rfl | rfl | rfl <;> assumption
    · exact nr_keys quiet x h) (by rw [hlen]; have := end_len quiet; simp; omega) []
  rw [e, hlen, List.append_nil] at h
  exact h

/-! What the lines of TextNumbers say -/
theorem read_math (k : List UInt8) (n : Nat) (down quiet : Bool) (hk : keyB k = true) (hn : n < 18446744073709551616) (nm : List UInt8) (hnm : nm = if down then wDecr else wIncr) :
    readR ([nm, k, Lib.decDigits n] ++ nrW quiet) [] = .done (oneQ (mathC k n down) quiet) 0 := by
  have h : readR ([nm, k, Lib.decDigits n] ++ nrW quiet) [] = mathR ([k] ++ [Lib.decDigits n] ++ nrW quiet) down := by
    subst hnm; cases down <;> rfl
  obtain ⟨e1, e2⟩ := off_nr (ws := [k]) (dd_nr n) quiet
  rw [h]
  unfold mathR mathU
  rw [e1, e2, if_neg (by simp)]
  show (if keyB k = false then _ else match numU (Lib.decDigits n) 18446744073709551615 with | none => _ | some n => _) = _
  rw [hk, if_neg (by decide), numU_dd (by omega) (by omega)]
  rfl
theorem read_touch (k : List UInt8) (x : Int) (quiet : Bool) (hk : keyB k = true) (h0 : -1099511627776 ≤ x) (h1 : x ≤ 1099511627776) :
    readR ([wTouch, k, secT x] ++ nrW quiet) [] = .done (oneQ (touchC k x) quiet) 0 := by
  have h : readR ([wTouch, k, secT x] ++ nrW quiet) [] = touchR ([k] ++ [secT x] ++ nrW quiet) := rfl
  obtain ⟨e1, e2⟩ := off_nr (ws := [k]) (secT_nr x) quiet
  rw [h]
  unfold touchR touchU
  rw [e1, e2, if_neg (by simp)]
  show (if keyB k = false then _ else match secs (secT x) with | none => _ | some x => _) = _
  rw [hk, if_neg (by decide), secs_T h0 h1]
  rfl
theorem read_gat (k : List UInt8) (x : Int) (hk : keyB k = true) (h0 : -1099511627776 ≤ x) (h1 : x ≤ 1099511627776) :
    readR ([wGat, secT x, k] ++ nrW false) [] = .done (oneQ (withKey (gatC x) k) false) 0 := by
  have h : readR ([wGat, secT x, k] ++ nrW false) [] = gatR [secT x, k] false := rfl
  rw [h]
  unfold gatR
  rw [if_neg (by simp)]
  show (match secs (secT x) with | none => _ | some x => eachR [k] (gatC x) false) = _
  rw [secs_T h0 h1]
  show eachR [k] (gatC x) false = _
  unfold eachR
  rw [if_pos (by simpa using hk)]
  rfl
theorem read_flush (x : Int) (quiet : Bool) (h0 : -1099511627776 ≤ x) (h1 : x ≤ 1099511627776) :
    readR ([wFlush, secT x] ++ nrW quiet) [] = .done (oneQ (flushC x) quiet) 0 := by
  have h : readR ([wFlush, secT x] ++ nrW quiet) [] = flushR ([] ++ [secT x] ++ nrW quiet) := rfl
  obtain ⟨e1, e2⟩ := off_nr (ws := []) (secT_nr x) quiet
  rw [h]
  unfold flushR flushU
  rw [e1, e2, if_neg (by simp), if_pos (by simp)]
  show (match secs (secT x) with | none => _ | some x => _) = _
  rw [secs_T h0 h1]
/-- Parse of a line that is written. -/
theorem parse_written {s : ByteArray} {b : List UInt8} {q : Rq} {m : Nat} (hs : s = S b) (hp : parse b = (Rd.done q 0).fin m) (hk : q.kind ≠ 0) (hb : b.length ≤ 140737488355328) (w : World) (hv : Nu.Vars w) :
    Calls Tryz.prog 8 #[.string s] w fun e w' => ∃ cs, e = .returned (.tuple #[.agg (rqc q cs).toArray, .int .i64 (m : Int)]) ∧ Cms w.heap.size w' cs q.cmds ∧ Below w.heap.size w w' := by
  subst hs
  have e : parse b = (q, m) := by
    rw [hp]
    show (if q.kind = 0 then (q, 0) else (q, m + 0)) = (q, m)
    rw [if_neg hk]; rfl
  exact parse_known e hb w hv
end Go.Proofs.YtggeccndmmmnjaaGreatDoor.Tx

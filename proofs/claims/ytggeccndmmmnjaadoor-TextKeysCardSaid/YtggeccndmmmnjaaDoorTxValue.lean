/-
  The reader's value at this program: the bytes behind the line, less their end. Conditions: all of them have come.
-/
import Derived.Test.YtggeccndmmmnjaaDoorTxBox
import Derived.BigQuiet
namespace Go.Proofs.YtggeccndmmmnjaaDoor.Tx
open Go Go.RowKit Go.Lib Go.Shelf Md

theorem bdrew (W : World) (n : Nat) : Below W.heap.size W (W.drewN n) := ⟨rfl, rfl, rfl, Nat.le_refl _, fun _ _ => rfl⟩
theorem cut_crlf (s : ByteArray) (w : World) (hs : s.size ≤ 9223372036854775807) :
    Calls Tryd.prog 60 #[.string s, .string ⟨#[13, 10]⟩] w fun e w' => e = .returned (.tuple #[.string (S (Lib.trimSuffix s.data.toList [13, 10])), .bool (Lib.hasSuffix s.data.toList [13, 10])]) ∧ w' = w :=
  Any.strings_CutSuffix Tryd.laysCutSuffix s ⟨#[13, 10]⟩ w hs
theorem suf_yes {l : List UInt8} {n : Nat} (hl : n + 2 ≤ l.length) (hd : (l.take (n + 2)).drop n = [13, 10]) : Lib.hasSuffix (l.take (n + 2)) [13, 10] = true ∧ Lib.trimSuffix (l.take (n + 2)) [13, 10] = l.take n := by
  have h1 : Lib.hasSuffix (l.take (n + 2)) [13, 10] = true := by
    unfold Lib.hasSuffix
    rw [List.isSuffixOf_iff_suffix]
    exact ⟨(l.take (n + 2)).take n, by rw [← hd, List.take_append_drop]⟩
  refine ⟨h1, ?_⟩
  unfold Lib.trimSuffix
  rw [if_pos h1, List.length_take, List.take_take]
  congr 1
  simp; omega
theorem suf_no {l : List UInt8} {n : Nat} (hl : n + 2 ≤ l.length) (hd : (l.take (n + 2)).drop n ≠ [13, 10]) : Lib.hasSuffix (l.take (n + 2)) [13, 10] = false := by
  cases h : Lib.hasSuffix (l.take (n + 2)) [13, 10]
  · rfl
  · exfalso
    unfold Lib.hasSuffix at h
    rw [List.isSuffixOf_iff_suffix] at h
    refine hd ?_
    have := List.suffix_iff_eq_drop.1 h
    rw [this]
    congr 1
    simp; omega
/-- The reader behind it. -/
theorem value_set {R c n : Nat} {us : List (List UInt8)} {bh : List UInt8} {qt : Bool} {a : Option Addr} {w : World} (h : Rdr R ⟨us, bh, qt, n + 2, 0⟩ a c w) :
    Rdr R ⟨us, bh, qt, 0, n + 2⟩ a c ((w.setCell ⟨R, 4, none⟩ (.int .i64 ((n + 2 : Nat) : Int))).setCell ⟨R, 3, none⟩ (.int .i64 0)) ∧ Only (fun b => b = R) w ((w.setCell ⟨R, 4, none⟩ (.int .i64 ((n + 2 : Nat) : Int))).setCell ⟨R, 3, none⟩ (.int .i64 0)) := by
  have ho := oset (R := R) (oset (Only.refl _ w) 4 (.int .i64 ((n + 2 : Nat) : Int))) 3 (.int .i64 0)
  exact ⟨Rdr.stays ho ((h.blk.set 4 _).set 3 _) h.txt h.apart h.old h.len, ho⟩
/-- What value comes to. -/
def ValP (R c n : Nat) (us : List (List UInt8)) (bh : List UInt8) (qt : Bool) (a : Option Addr) (w : World) (e : Ending) (w' : World) : Prop :=
  (if (bh.take (n + 2)).drop n = [13, 10] then e = .returned (.string (S (bh.take n))) else e = .panicked [upE mData]) ∧ Rdr R ⟨us, bh, qt, 0, n + 2⟩ a c w' ∧ Only (fun b => b = R) w w'
set_option maxHeartbeats 2000000 in
set_option maxRecDepth 100000 in
theorem value_any {R c n : Nat} {us : List (List UInt8)} {bh : List UInt8} {qt : Bool} {a : Option Addr} {w : World} (h : Rdr R ⟨us, bh, qt, n + 2, 0⟩ a c w) (hl : n + 2 ≤ bh.length) (hn : n + 2 ≤ 9223372036854775807) :
    Calls Tryd.prog 48 #[.pointer (some ⟨R, 0, none⟩)] w (ValP R c n us bh qt a w) := by
  have HV := hidc (value_set h)
  have c3 : w.cell? ⟨R, 3, none⟩ = some (.int .i64 ((n + 2 : Nat) : Int)) := h.blk.cell (i := 3) rfl
  have c4 := h.blk.cell (i := 4) rfl
  have f3 := h.blk.frozen 3
  have f4 := h.blk.frozen 4
  have hex : (S bh).extract 0 (n + 2) = S (bh.take (n + 2)) := by rw [Lib.extract_eq, S_list]; rfl
  have hsz : (n + 2 : Nat) ≤ (S bh).size := by rw [S_size]; exact hl
  have cS := fun W => cut_crlf (S (bh.take (n + 2))) W (by rw [S_size, List.length_take]; omega)
  rw [S_list] at cS
  clear h
  obtain ⟨K, hK⟩ : ∃ K, K = n + 2 := ⟨_, rfl⟩
  rw [← hK] at HV c3 hex hsz cS
  have HS : Hid (if (bh.take (n + 2)).drop n = [13, 10] then Lib.hasSuffix (bh.take K) [13, 10] = true ∧ Lib.trimSuffix (bh.take K) [13, 10] = bh.take n else Lib.hasSuffix (bh.take K) [13, 10] = false) := hidc (by
    rw [hK]
    split
    · rename_i hd; exact suf_yes hl hd
    · rename_i hd; exact suf_no hl hd)
  have hK2 := hidc hK
  have hsz2 : (K : Int) ≤ ((S bh).size : Int) := by omega
  have hk0 : (0 : Int) ≤ (K : Int) := by omega
  clear hK hl hn
  go_enter Tryd.func48, Tryd.ntmps48
  go_upto_region 2 with fail
  clear c3 c4 f3 f4
  have HV2 := HV.out
  clear HV
  generalize (w.setCell ⟨R, 4, none⟩ (.int .i64 (K : Int))).setCell ⟨R, 3, none⟩ (.int .i64 0) = W at *
  have c1 : W.cell? ⟨R, 1, none⟩ = some (.string (S bh)) := HV2.1.blk.cell (i := 1) rfl
  have c4 : W.cell? ⟨R, 4, none⟩ = some (.int .i64 (K : Int)) := HV2.1.blk.cell (i := 4) rfl
  have cQ : ∀ m, Calls Tryd.prog 60 #[.string (S (bh.take K)), .string ⟨#[13, 10]⟩] (W.drewN m) fun e w'' => e = .returned (.tuple #[.string (S (Lib.trimSuffix (bh.take K) [13, 10])), .bool (Lib.hasSuffix (bh.take K) [13, 10])]) ∧ ∃ q, w'' = W.drewN q := fun m => (cS _).mono fun e w' ⟨he, hw⟩ => ⟨he, m, hw⟩
  clear cS
  have HW := hidc HV2
  clear HV2
  generalize Lib.trimSuffix (bh.take K) [13, 10] = t at *
  generalize Lib.hasSuffix (bh.take K) [13, 10] = b at *
  generalize bh.take K = l at *
  go_quiet (exact cQ _)
  have HW2 := hidc (And.intro (HW.out.1.below (bdrew W nq)) (Only.trans HW.out.2 (Below.only (bdrew W nq) (D := fun b => b = R)) (fun _ e => .inl e)))
  clear cQ c1 c4 HW
  rw [hK2.out] at HW2
  by_cases hd : (bh.take (n + 2)).drop n = [13, 10]
  · have HS2 := HS.out
    rw [if_pos hd] at HS2
    obtain ⟨hb1, ht⟩ := HS2
    have HQ : Hid (ValP R c n us bh qt a w (.returned (.string (S t))) (W.drewN nq)) := hidc ⟨by rw [if_pos hd, ht], HW2.out⟩
    generalize ValP R c n us bh qt a w = Q at *
    subst hb1
    clear HS hd HW2 ht
    generalize W.drewN nq = W2 at *
    go_wp2_with fail
    exact HQ.out
  · have HS2 := HS.out
    rw [if_neg hd] at HS2
    have HQ : Hid (ValP R c n us bh qt a w (.panicked [upE mData]) (W.drewN nq)) := hidc ⟨by rw [if_neg hd], HW2.out⟩
    generalize ValP R c n us bh qt a w = Q at *
    subst HS2
    clear HS hd HW2
    generalize W.drewN nq = W2 at *
    go_wp2_with fail
    exact ⟨rfl, HQ.out⟩
theorem numU_le {w : List UInt8} {most n : Nat} (h : numU w most = some n) : n ≤ most := by
  unfold numU at h
  split at h
  · cases h
  · split at h
    · cases h
    · cases h; omega
theorem skip_set {R c D : Nat} {us : List (List UInt8)} {bh : List UInt8} {qt : Bool} {a : Option Addr} {cm : Cm} {w W : World} (h : B2 R ⟨us, bh, qt, 0, 0⟩ a c D cm w W) (n : Nat) : B2 R ⟨us, bh, qt, n + 2, 0⟩ a c D cm w (W.setCell ⟨R, 3, none⟩ (.int .i64 ((n : Int) + 2))) := by
  have ho := oset (R := R) (Only.refl _ W) 3 (.int .i64 ((n : Int) + 2))
  exact h.turn (Rdr.stays ho (h.b1.rd.blk.set 3 _) h.b1.rd.txt h.b1.rd.apart h.b1.rd.old h.b1.rd.len) ho h.ap
end Go.Proofs.YtggeccndmmmnjaaDoor.Tx

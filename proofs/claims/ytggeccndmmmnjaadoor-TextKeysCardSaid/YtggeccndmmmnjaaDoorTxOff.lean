/-
  The reader's off, and command, mode, one of package text at this program. No conditions.
-/
import Derived.Test.YtggeccndmmmnjaaDoorTxRes
namespace Go.Proofs.YtggeccndmmmnjaaDoor.Tx
open Go Go.RowKit Go.Lib Md

def RS.off (s : RS) : RS := if offQ s.ws = true then { s with ws := offW s.ws, quiet := true } else s
theorem off_none {ws : List (List UInt8)} (h : ws.getLast? ≠ some wNoreply) : offQ ws = false ∧ offW ws = ws := by
  unfold offQ offW
  exact ⟨decide_eq_false h, if_neg h⟩
theorem off_some {ws : List (List UInt8)} (h : ws.getLast? = some wNoreply) : offQ ws = true ∧ offW ws = ws.dropLast := by
  unfold offQ offW
  exact ⟨decide_eq_true h, if_pos h⟩
/-- What off leaves. -/
def OffP (R : Nat) (s : RS) (a : Option Addr) (c : Nat) (w : World) (e : Ending) (w' : World) : Prop := e = .returned (.tuple #[]) ∧ Rdr R s.off a c w' ∧ Only (fun b => b = R) w w'
set_option maxRecDepth 100000 in
theorem off_nil {R : Nat} {s : RS} {a : Option Addr} {c : Nat} {w : World} (h : Rdr R s a c w) (h0 : s.ws = []) :
    Calls Tryd.prog 33 #[.pointer (some ⟨R, 0, none⟩)] w (OffP R s a c w) := by
  have HE : Hid (OffP R s a c w (.returned (.tuple #[])) w) := hidc ⟨rfl, by
    unfold RS.off
    rw [(off_none (ws := s.ws) (by rw [h0]; simp)).1]
    exact h, Only.refl _ _⟩
  have c0 := h.blk.cell (i := 0) rfl
  have e0 : s.ws.length = 0 := by rw [h0]; rfl
  rw [e0] at c0
  clear h e0
  generalize OffP R s a c w = Q at *
  go_enter Tryd.func33, Tryd.ntmps33
  go_wp2_with fail
  go_end0
  exact HE.out
set_option maxRecDepth 100000 in
theorem off_other {R : Nat} {s : RS} {a : Option Addr} {c : Nat} {w : World} (h : Rdr R s a c w) {M : Nat} {x : List UInt8} (hM : s.ws.length = M + 1) (hx : s.ws[M]? = some x) (hn : x ≠ wNoreply) :
    Calls Tryd.prog 33 #[.pointer (some ⟨R, 0, none⟩)] w (OffP R s a c w) := by
  have HE : Hid (OffP R s a c w (.returned (.tuple #[])) w) := hidc ⟨rfl, by
    unfold RS.off
    have : s.ws.getLast? ≠ some wNoreply := by
      rw [List.getLast?_eq_getElem?, hM, Nat.add_sub_cancel, hx]
      exact fun e => hn (Option.some.inj e)
    rw [(off_none this).1]
    exact h, Only.refl _ _⟩
  have c0 := h.blk.cell (i := 0) rfl
  obtain ⟨b, o, rfl, -, c1⟩ := texts_cell h.txt hx
  have hl := h.len.1
  have hne : ((S x).toList == [110, 111, 114, 101, 112, 108, 121]) = false := eq_no hn
  rw [hM] at c0 hl
  clear h hM hx hn
  generalize OffP R s (some ⟨b, o, none⟩) c w = Q at *
  generalize S x = X at *
  have i0 : (M : Int) < ((M + 1 : Nat) : Int) := by omega
  have e1 : ((M + 1 : Nat) : Int) - 1 = (M : Int) := by omega
  go_enter Tryd.func33, Tryd.ntmps33
  go_wp2_with fail
  go_end0
  exact HE.out
set_option maxRecDepth 100000 in
theorem off_last {R : Nat} {s : RS} {a : Option Addr} {c : Nat} {w : World} (h : Rdr R s a c w) {M : Nat} (hM : s.ws.length = M + 1) (hx : s.ws[M]? = some wNoreply) :
    Calls Tryd.prog 33 #[.pointer (some ⟨R, 0, none⟩)] w (OffP R s a c w) := by
  have hcap := texts_cap h.txt
  have hl := h.len
  have hoff : s.off = { s with ws := s.ws.dropLast, quiet := true } := by
    unfold RS.off
    have : s.ws.getLast? = some wNoreply := by rw [List.getLast?_eq_getElem?, hM, Nat.add_sub_cancel, hx]
    rw [(off_some this).1, (off_some this).2, if_pos rfl]
  have hdl : s.ws.dropLast.length = M := by rw [List.length_dropLast, hM]; rfl
  have HE : Hid (OffP R s a c w (.returned (.tuple #[])) ((w.setCell ⟨R, 0, none⟩ (.slice a M c)).setCell ⟨R, 2, none⟩ (.bool true))) := hidc ⟨rfl, by
    rw [hoff]
    refine Rdr.stays (w := w) (oset (oset (Only.refl _ w) 0 _) 2 _) ?_ ?_ h.apart h.old ?_
    · have hb := (h.blk.set 0 (.slice a M c)).set 2 (.bool true)
      simp only [RS.cells, hdl]
      exact hb
    · obtain ⟨a', c', hv, hc, hx'⟩ := h.txt
      refine ⟨a, c, rfl, by rw [hdl]; omega, fun j y hj => ?_⟩
      injection hv with e1
      subst e1
      refine hx' j y ?_
      have hjl := (List.getElem?_eq_some_iff.1 hj).1
      rw [List.dropLast_eq_take, List.getElem?_take_of_lt (by rw [hdl] at hjl; omega)] at hj
      exact hj
    · show s.ws.dropLast.length ≤ 2048 ∧ _
      rw [hdl]; omega, oset (oset (Only.refl _ w) 0 _) 2 _⟩
  have c0 := h.blk.cell (i := 0) rfl
  have f0 := h.blk.frozen 0
  have f2 := h.blk.frozen 2
  have c2 := h.blk.cell (i := 2) rfl
  obtain ⟨b, o, rfl, -, c1⟩ := texts_cell h.txt hx
  rw [hM] at c0 hl hcap
  have hne : ((S wNoreply).toList == [110, 111, 114, 101, 112, 108, 121]) = true := eq_yes _
  generalize S wNoreply = X at *
  have i9 : M ≤ c := by omega
  have i8 : (M : Int) ≤ (c : Int) := by omega
  clear h hM hx hoff hdl hcap
  generalize OffP R s (some ⟨b, o, none⟩) c w = Q at *
  have i0 : (M : Int) < ((M + 1 : Nat) : Int) := by omega
  have e1 : ((M + 1 : Nat) : Int) - 1 = (M : Int) := by omega
  go_enter Tryd.func33, Tryd.ntmps33
  go_wp2_with fail
  go_end0
  exact HE.out
theorem offE (ws : List (List UInt8)) (bh : List UInt8) (sk us : Nat) : RS.off ⟨ws, bh, false, sk, us⟩ = ⟨offW ws, bh, offQ ws, sk, us⟩ := by
  unfold RS.off
  by_cases h : ws.getLast? = some wNoreply
  · rw [(off_some h).1, (off_some h).2, if_pos rfl]
  · rw [(off_none h).1, (off_none h).2, if_neg (by decide)]
theorem off_any {R : Nat} {s : RS} {a : Option Addr} {c : Nat} {w : World} (h : Rdr R s a c w) :
    Calls Tryd.prog 33 #[.pointer (some ⟨R, 0, none⟩)] w (OffP R s a c w) := by
  rcases e : s.ws.length with _ | M
  · exact off_nil h (List.eq_nil_of_length_eq_zero e)
  · obtain ⟨x, hx⟩ : ∃ x, s.ws[M]? = some x := ⟨_, List.getElem?_eq_getElem (by omega)⟩
    by_cases hn : x = wNoreply
    · subst hn; exact off_last h e hx
    · exact off_other h e hx hn

set_option maxRecDepth 100000 in
theorem command_any (op : Int) (w : World) :
    Calls Tryd.prog 43 #[.int .i64 op] w fun e w' => e = .returned (.agg #[.int .i64 op, .int .i64 0, .string ⟨#[]⟩, .string ⟨#[]⟩, .int .u32 0, .int .i64 0, .bool false, .int .u64 0, .bool false, .int .u64 0, .int .u64 0, .bool false, .bool false, .int .i64 0, .int .i64 (-1), .bool false]) ∧ Below w.heap.size w w' := by
  have hb := Blk.new w (cc (command op)).toArray 35
  have hB : Below w.heap.size w (w.alloc (.cells (cc (command op)).toArray 35)) := (Below.refl w.heap.size w).alloc (Nat.le_refl _) _
  have HB := hidc (And.intro hb hB)
  clear hb hB
  go_enter Tryd.func43, Tryd.ntmps43
  go_wp2_with fail
  refine bodyPost_ret (res_cm rfl (B := w.heap.size) HB.out.1 rfl) rfl ?_
  exact ⟨rfl, HB.out.2⟩
set_option maxRecDepth 100000 in
theorem mode_any (k : List UInt8) (w : World) :
    Calls Tryd.prog 45 #[.string (S k)] w fun e w' => e = .returned (.int .i64 (modeN k)) ∧ w = w' := by
  by_cases h0 : k = wAdd
  · subst h0
    have q0 : ((S wAdd).toList == [97, 100, 100]) = true := eq_yes _
    have e : modeN wAdd = 1 := rfl
    rw [e]
    generalize S wAdd = K at *
    go_enter Tryd.func45, Tryd.ntmps45
    go_wp2_with fail
    go_ret
    exact ⟨rfl, rfl⟩
  by_cases h1 : k = wReplace
  · subst h1
    have q0 : ((S wReplace).toList == [97, 100, 100]) = false := eq_no (by decide)
    have q1 : ((S wReplace).toList == [114, 101, 112, 108, 97, 99, 101]) = true := eq_yes _
    have e : modeN wReplace = 2 := rfl
    rw [e]
    generalize S wReplace = K at *
    go_enter Tryd.func45, Tryd.ntmps45
    go_wp2_with fail
    go_ret
    exact ⟨rfl, rfl⟩
  by_cases h2 : k = wAppend
  · subst h2
    have q0 : ((S wAppend).toList == [97, 100, 100]) = false := eq_no (by decide)
    have q1 : ((S wAppend).toList == [114, 101, 112, 108, 97, 99, 101]) = false := eq_no (by decide)
    have q2 : ((S wAppend).toList == [97, 112, 112, 101, 110, 100]) = true := eq_yes _
    have e : modeN wAppend = 3 := rfl
    rw [e]
    generalize S wAppend = K at *
    go_enter Tryd.func45, Tryd.ntmps45
    go_wp2_with fail
    go_ret
    exact ⟨rfl, rfl⟩
  by_cases h3 : k = wPrepend
  · subst h3
    have q0 : ((S wPrepend).toList == [97, 100, 100]) = false := eq_no (by decide)
    have q1 : ((S wPrepend).toList == [114, 101, 112, 108, 97, 99, 101]) = false := eq_no (by decide)
    have q2 : ((S wPrepend).toList == [97, 112, 112, 101, 110, 100]) = false := eq_no (by decide)
    have q3 : ((S wPrepend).toList == [112, 114, 101, 112, 101, 110, 100]) = true := eq_yes _
    have e : modeN wPrepend = 4 := rfl
    rw [e]
    generalize S wPrepend = K at *
    go_enter Tryd.func45, Tryd.ntmps45
    go_wp2_with fail
    go_ret
    exact ⟨rfl, rfl⟩
  have e : modeN k = 0 := by unfold modeN; rw [if_neg h0, if_neg h1, if_neg h2, if_neg h3]
  rw [e]
  have q0 : ((S k).toList == [97, 100, 100]) = false := eq_no h0
  have q1 : ((S k).toList == [114, 101, 112, 108, 97, 99, 101]) = false := eq_no h1
  have q2 : ((S k).toList == [97, 112, 112, 101, 110, 100]) = false := eq_no h2
  have q3 : ((S k).toList == [112, 114, 101, 112, 101, 110, 100]) = false := eq_no h3
  clear h0 h1 h2 h3 e
  generalize S k = K at *
  go_enter Tryd.func45, Tryd.ntmps45
  go_wp2_with fail
  go_ret
  exact ⟨rfl, rfl⟩
end Go.Proofs.YtggeccndmmmnjaaDoor.Tx

/-
  Contract of ambryref08.low at this program: a number's lowest bytes behind a row of the call's own. Conditions: at most 140000 bytes in all.
-/
import Derived.Test.YtdbaldkinjdeaaaItemEnc
import Derived.Laws.AppendOwnNone
import Derived.Lib.AppendStr
namespace Go.Proofs.Ytdbaldkinjdeaaa
open Go Go.RowKit Go.Lib

theorem own_blk_ne {w : World} {base g : Nat} {e t : TypeId} {size n : Nat} {v : Value} {xs cs : List Value} (h : w.ownsRow base e size v n xs) (hg : Blk w g t cs) (hne : e ≠ t) : v.ownBlock ≠ some g := by
  rcases h.2 with ⟨rfl, _⟩ | ⟨g', cap, cur, rfl, _, hh, _⟩
  · simp [Value.ownBlock]
  · intro he
    have e1 : g' = g := by simpa [Value.ownBlock] using he
    subst e1
    unfold Blk at hg
    rw [hh] at hg
    injection hg with hg
    injection hg with _ ht
    exact hne ht

/-- While the document's answer is laid: the item's box B, the row v with the bytes cs. -/
structure RS (w0 : World) (B : Nat) (x : It) (v : Value) (cs : List UInt8) (w : World) : Prop where
  box : Blk w B 25 x.cells
  row : w.ownsRow w0.heap.size 5 1 v cs.length (bc cs)
  below : Below w0.heap.size w0 w
theorem RS.app {w0 : World} {B : Nat} {x : It} {v v' : Value} {cs l : List UInt8} {w w1 : World} {n : Nat} {xs : List Value} {tmp : Obj} (h : RS w0 B x v cs w) (hr : w1.ownsRow w0.heap.size 5 1 v' n xs) (hn : n = (cs ++ l).length) (hx : xs = bc (cs ++ l))
    (hg : (w.alloc tmp).grownBy w1 v.ownBlock) : RS w0 B x v' (cs ++ l) w1 := by
  subst hn hx
  have hne := own_blk_ne h.row h.box (by decide)
  exact ⟨(hg.block B (by have := h.box.lt; simp; omega) (Ne.symm hne)).trans (h.box.alloc tmp), hr, h.below.trans (own_grown h.row h.below.size hg)⟩
theorem RS.more {w0 : World} {B : Nat} {x : It} {v v' : Value} {cs l : List UInt8} {w w1 : World} {n : Nat} {xs : List Value} (h : RS w0 B x v cs w) (hr : w1.ownsRow w0.heap.size 5 1 v' n xs) (hn : n = (cs ++ l).length) (hx : xs = bc (cs ++ l))
    (hg : w.grownBy w1 v.ownBlock) : RS w0 B x v' (cs ++ l) w1 := by
  subst hn hx
  have hne := own_blk_ne h.row h.box (by decide)
  refine ⟨(hg.block B h.box.lt (Ne.symm hne)).trans h.box, hr, h.below.grown hg h.below.size fun j ej => ?_⟩
  rcases h.row.2 with ⟨rfl, _⟩ | ⟨g, cap, cur, rfl, hb, _, _⟩
  · simp [Value.ownBlock] at ej
  · obtain rfl : g = j := by simpa [Value.ownBlock] using ej
    exact hb
theorem bc_append (a b : List UInt8) : bc (a ++ b) = bc a ++ bc b := by simp [bc]
theorem one_ok8 (x : Int) : ∀ u ∈ [Value.int .u8 x], u.oneCell' = true := by
  intro u hu; simp at hu; subst hu; rfl

theorem low_byte (n : Nat) : IntKind.u8.wrap (n : Int) = ((UInt8.ofNat (n % 256)).toNat : Int) := by
  rw [IntKind.wrap_u8, UInt8.toNat_ofNat']; omega
theorem le_step (k n : Nat) : le (k + 1) n = le k n ++ [UInt8.ofNat (n / 256 ^ k % 256)] := by rw [le_add]; rfl

set_option maxHeartbeats 2000000 in
set_option maxRecDepth 100000 in
theorem low_any (w0 w : World) (B : Nat) (x : It) (v : Value) (cs : List UInt8) (n k : Nat) (h : RS w0 B x v cs w) (hn : n < 18446744073709551616) (hk : cs.length + k ≤ 140000) :
    Calls Try.prog 17 #[v, .int .u64 n, .int .i64 k] w fun e w' => ∃ v', e = .returned v' ∧ RS w0 B x v' (cs ++ le k n) w' := by
  obtain ⟨i0, hi, hz0, hz1, hz2⟩ := info_parts infoByte
  go_enter Try.func17, Try.ntmps17
  go_wp2_with fail
  go_loopw [0, 1, 7] (fun vv nv iv wr => ∃ j m : Nat, j ≤ k ∧ iv = .int .i64 j ∧ nv = .int .u64 m ∧ m < 18446744073709551616 ∧ Hid (m = n / 256 ^ j) ∧ Hid (RS w0 B x vv (cs ++ le j n) wr)) (fun _ _ iv _ => k - (RowKit.intOf iv).toNat)
  case atStart => exact ⟨0, n, by omega, rfl, rfl, hn, hid (by rw [Nat.pow_zero, Nat.div_one]), hid (by rw [le, List.append_nil]; exact h)⟩
  case round =>
    obtain ⟨j, m, hj, rfl, rfl, hm, HM, HR⟩ := hrel
    by_cases hlt : j < k
    · have hown := HR.out.row
      have hsz := HR.out.below.size
      have hby := low_byte m
      have hll : (cs ++ le j n).length ≤ 140000 := by rw [List.length_append, le_len]; omega
      have hk2 : k ≤ 140000 := by omega
      generalize hbb : UInt8.ofNat (m % 256) = b at *
      have HBB := hid hbb
      clear hbb h hk
      go_wp2_with (at_builtin; refine wpList_append_own _ rfl _ _ 27 rfl w0.heap.size 5 i0 (.int .u8 0) 1 1 Try.underlying27 hi hz0 hz1 hz2 rfl (by decide) _ _ _ rfl (hown.alloc _) ⟨wr.heap.size, 0, none⟩ 1 1 [.int .u8 (b.toNat : Int)] rfl rfl (one_cell _ _ _) (one_ok8 _) (by unfold maxLen; omega) (by omega) (by simp; omega) ?_)
      intro v' w1 hown1 hgrow _
      have hl1 : (cs ++ le (j + 1) n).length = (cs ++ le j n).length + 1 := by rw [List.length_append, List.length_append, le_len, le_len]; omega
      have el : cs ++ le (j + 1) n = (cs ++ le j n) ++ [b] := by
        rw [le_step, ← List.append_assoc, ← HM.out, HBB.out]
      have HR2 := HR.out.app (l := [b]) hown1 (by simp; omega) (by rw [bc_append (cs ++ le j n) [b]]; rfl) hgrow
      rw [← el] at HR2
      have HR2 := hid HR2
      have HM2 : Hid (m / 256 = n / 256 ^ (j + 1)) := hid (by rw [HM.out, Nat.div_div_eq_div_mul, Nat.pow_succ])
      have hq : (m : Int) / 256 = ((m / 256 : Nat) : Int) := by omega
      clear hown1 hgrow el hl1 hown hsz HR HM hby HBB
      obtain ⟨p, hp⟩ : ∃ p, p = m / 256 := ⟨_, rfl⟩
      have hp1 : p < 18446744073709551616 := by omega
      rw [← hp] at hq HM2
      have HQ := hid hq
      clear hp hq
      go_wp2_with fail
      go_roundw
      case rel => exact ⟨j + 1, p, by omega, by go_num, by rw [HQ.out], hp1, HM2, HR2⟩
      case measure => simp [RowKit.intOf] <;> omega
    · have ej : j = k := by omega
      subst ej
      go_wp2_with fail
      go_ret
      exact ⟨_, rfl, HR.out⟩
end Go.Proofs.Ytdbaldkinjdeaaa

/-
  Contract of ambryref08.Encode at this program: the bytes of an item that is right, in a row of its own; nothing, of another. Conditions: lengths below 2^63.
-/
import Derived.Test.YtdbaldkinjdeaaaItemLow
namespace Go.Proofs.Ytdbaldkinjdeaaa
open Go Go.RowKit Go.Lib

set_option maxHeartbeats 2000000 in
set_option maxRecDepth 100000 in
theorem ref_enc_bad (x : It) (hs : x.key.size < 9223372036854775807) (hr : x.right = false) (w : World) :
    Calls Try.prog 10 #[x.v] w fun e w' => e = .returned (.tuple #[.slice none 0 0, .int .i64 1]) ∧ Below w.heap.size w w' := by
  have hri := fun w => ref_right x w hs
  rw [hr] at hri
  clear hr hs
  obtain ⟨k, f, v, x, c, l, s, o⟩ := x
  simp only [It.v, It.cells] at hri ⊢
  go_enter Try.func10, Try.ntmps10
  go_wp2_with fail
  refine (hri _).mono ?_
  rintro e w1 ⟨rfl, b1⟩
  have hb := below_box b1
  clear hri b1
  go_wp2_with fail
  go_ret2
  exact ⟨rfl, hb⟩

theorem strCells_bc (s : ByteArray) : Lib.strCells s = bc s.data.toList := rfl

theorem marks_cases (x : It) : (x.stale = false ∧ x.won = false ∧ (x.marks : Int) = 0) ∨ (x.stale = true ∧ x.won = false ∧ (x.marks : Int) = 1) ∨ (x.stale = false ∧ x.won = true ∧ (x.marks : Int) = 2) ∨ (x.stale = true ∧ x.won = true ∧ (x.marks : Int) = 3) := by
  unfold It.marks
  cases x.stale <;> cases x.won <;> simp

set_option maxHeartbeats 4000000 in
set_option maxRecDepth 100000 in
theorem ref_enc_ok (x : It) (hx : x.Ok) (hr : x.right = true) (w : World) :
    Calls Try.prog 10 #[x.v] w fun e w' => ∃ v, e = .returned (.tuple #[v, .int .i64 0]) ∧ w'.ownsRow w.heap.size 5 1 v x.enc.length (bc x.enc) ∧ Below w.heap.size w w' := by
  obtain ⟨r1, r2, _, r3, r4, r5⟩ := It.right_parts hr
  have hri := fun w => ref_right x w (by omega)
  rw [hr] at hri
  have HX := hid (Blk.new w x.cells.toArray 25)
  have hf32 : IntKind.u64.wrap (x.flags : Int) = (x.flags : Int) := by rw [IntKind.wrap_u64]; have := hx.flags; omega
  have hk64 : IntKind.u64.wrap (x.key.size : Int) = (x.key.size : Int) := by rw [IntKind.wrap_u64]; omega
  have hv64 : IntKind.u64.wrap (x.val.size : Int) = (x.val.size : Int) := by rw [IntKind.wrap_u64]; omega
  have he64 : IntKind.u64.wrap x.exp = (x.exp.toNat : Int) := by rw [IntKind.wrap_u64]; have := hx.exp1; omega
  have hl64 : IntKind.u64.wrap x.last = (x.last.toNat : Int) := by rw [IntKind.wrap_u64]; have := hx.last1; omega
  have hfl : x.flags < 18446744073709551616 := by have := hx.flags; omega
  have hcl : x.cas < 18446744073709551616 := by have := hx.cas; omega
  obtain ⟨zE, hE⟩ : ∃ zE, zE = x.exp.toNat := ⟨_, rfl⟩
  obtain ⟨zL, hL⟩ : ∃ zL, zL = x.last.toNat := ⟨_, rfl⟩
  have hE2 : zE < 18446744073709551616 := by have := hx.exp1; omega
  have hL2 : zL < 18446744073709551616 := by have := hx.last1; omega
  rw [← hE] at he64
  rw [← hL] at hl64
  have hen : x.enc = ([] ++ le 1 x.key.size ++ le 3 x.marks ++ le 4 x.flags ++ le 8 x.val.size ++ le 8 zE ++ le 8 x.cas ++ le 8 zL) ++ x.key.data.toList ++ x.val.data.toList := by
    unfold It.enc It.head; rw [hE, hL]; simp only [List.append_assoc, List.nil_append]
  have HEN := hid hen
  clear hE hL hen hr
  obtain ⟨i0, hi, hz0, hz1, hz2⟩ := info_parts infoByte
  have hm3 := x.marks_le
  have hl3 : ∀ (B : Nat) (wa : World) (v : Value) (cs : List UInt8), RS w B x v cs wa → cs.length + 3 ≤ 140000 → Calls Try.prog 17 #[v, .int .u64 (x.marks : Int), .int .i64 (3 : Nat)] wa fun e w' => ∃ v', e = .returned v' ∧ RS w B x v' (cs ++ le 3 x.marks) w' :=
    fun B wa v cs h hk => low_any w wa B x v cs x.marks 3 h (by omega) hk
  simp only [It.v, It.cells] at hri HX ⊢
  rcases marks_cases x with ⟨ms, mw, mm⟩ | ⟨ms, mw, mm⟩ | ⟨ms, mw, mm⟩ | ⟨ms, mw, mm⟩
  all_goals
    rw [mm] at hl3
    have HMS := hid ms
    have HMW := hid mw
    clear mm ms mw
    go_enter Try.func10, Try.ntmps10
    go_wp2_with fail
    refine (hri _).mono ?_
    rintro e w1 ⟨rfl, b1⟩
    have hb := below_box b1
    have hB1 := HX.out.below b1
    have hR : RS w w.heap.size x (.slice none 0 0) [] w1 := ⟨hB1, World.ownsRow_nil _ _ _ _, hb⟩
    have HR := hid hR
    clear hri b1 hb hR HX hB1
    obtain ⟨q0, q1, q2, q3, q4, q5, q6, q7⟩ := box_cells HR.out.box
    rw [HMS.out] at q6
    rw [HMW.out] at q7
    generalize w.heap.size = B at *
    go_wp2_with fail
    refine (low_any w _ B x _ _ x.key.size 1 HR.out (by omega) (by simp)).mono ?_
    rintro e w2 ⟨v1, rfl, hR⟩
    have HR := hid hR
    clear q0 q1 q2 q3 q4 q5 q6 q7 hR
    obtain ⟨q0, q1, q2, q3, q4, q5, q6, q7⟩ := box_cells HR.out.box
    go_wp2_with fail
    refine (hl3 B _ _ _ HR.out (by simp [le_len])).mono ?_
    rintro e w3 ⟨v2, rfl, hR⟩
    have HR := hid hR
    clear q0 q1 q2 q3 q4 q5 q6 q7 hR
    obtain ⟨q0, q1, q2, q3, q4, q5, q6, q7⟩ := box_cells HR.out.box
    go_wp2_with fail
    refine (low_any w _ B x _ _ x.flags 4 HR.out (hfl) (by simp [le_len])).mono ?_
    rintro e w4 ⟨v3, rfl, hR⟩
    have HR := hid hR
    clear q0 q1 q2 q3 q4 q5 q6 q7 hR
    obtain ⟨q0, q1, q2, q3, q4, q5, q6, q7⟩ := box_cells HR.out.box
    go_wp2_with fail
    refine (low_any w _ B x _ _ x.val.size 8 HR.out (by omega) (by simp [le_len])).mono ?_
    rintro e w5 ⟨v4, rfl, hR⟩
    have HR := hid hR
    clear q0 q1 q2 q3 q4 q5 q6 q7 hR
    obtain ⟨q0, q1, q2, q3, q4, q5, q6, q7⟩ := box_cells HR.out.box
    go_wp2_with fail
    refine (low_any w _ B x _ _ zE 8 HR.out (hE2) (by simp [le_len])).mono ?_
    rintro e w6 ⟨v5, rfl, hR⟩
    have HR := hid hR
    clear q0 q1 q2 q3 q4 q5 q6 q7 hR
    obtain ⟨q0, q1, q2, q3, q4, q5, q6, q7⟩ := box_cells HR.out.box
    go_wp2_with fail
    refine (low_any w _ B x _ _ x.cas 8 HR.out (hcl) (by simp [le_len])).mono ?_
    rintro e w7 ⟨v6, rfl, hR⟩
    have HR := hid hR
    clear q0 q1 q2 q3 q4 q5 q6 q7 hR
    obtain ⟨q0, q1, q2, q3, q4, q5, q6, q7⟩ := box_cells HR.out.box
    go_wp2_with fail
    refine (low_any w _ B x _ _ zL 8 HR.out (hL2) (by simp [le_len])).mono ?_
    rintro e w8 ⟨v7, rfl, hR⟩
    have HR := hid hR
    clear q0 q1 q2 q3 q4 q5 q6 q7 hR
    obtain ⟨q0, q1, q2, q3, q4, q5, q6, q7⟩ := box_cells HR.out.box
    have hl8 : ([] ++ le 1 x.key.size ++ le 3 x.marks ++ le 4 x.flags ++ le 8 x.val.size ++ le 8 zE ++ le 8 x.cas ++ le 8 zL).length = 40 := by simp [le_len]
    generalize [] ++ le 1 x.key.size ++ le 3 x.marks ++ le 4 x.flags ++ le 8 x.val.size ++ le 8 zE ++ le 8 x.cas ++ le 8 zL = cs8 at *
    have HEN' := hid (HEN.out)
    have f1 : cs8.length + x.key.size ≤ maxLen := by unfold maxLen; omega
    have f2 : cs8.length + x.key.size ≤ 140737488355328 := by omega
    have hl9 : (cs8 ++ x.key.data.toList).length = 40 + x.key.size := by rw [List.length_append, ← size_len]; omega
    have f3 : (cs8 ++ x.key.data.toList).length + x.val.size ≤ maxLen := by unfold maxLen; omega
    have f4 : (cs8 ++ x.key.data.toList).length + x.val.size ≤ 140737488355328 := by omega
    have F1 := hid f1
    have F2 := hid f2
    have F3 := hid f3
    have F4 := hid f4
    clear f1 f2 f3 f4 hl8 hl9
    go_wp2_with (first | (at_builtin; have hz := hA1; refine wpList_append_own_string _ rfl _ _ 27 9 rfl w.heap.size 5 i0 Try.underlying27 Try.underlying9 hi hz0 hz1 hz2 v8 _ _ rfl HR.out.row x.val rfl F3.out F4.out HR.out.below.size ?_; intro v9 w10 hown hgrow _; have HR := hid (HR.out.more (l := x.val.data.toList) hown (by simp only [List.length_append, ← size_len]) (by rw [bc_append _ x.val.data.toList]; rfl) hgrow); clear hown hgrow; have hA2 := True.intro) | (at_builtin; refine wpList_append_own_string _ rfl _ _ 27 9 rfl w.heap.size 5 i0 Try.underlying27 Try.underlying9 hi hz0 hz1 hz2 v7 _ _ rfl HR.out.row x.key rfl F1.out F2.out HR.out.below.size ?_; intro v8 w9 hown hgrow _; have HR := hid (HR.out.more (l := x.key.data.toList) hown (by simp only [List.length_append, ← size_len]) (by rw [bc_append _ x.key.data.toList]; rfl) hgrow); clear hown hgrow; obtain ⟨q0, q1, q2, q3, q4, q5, q6, q7⟩ := box_cells HR.out.box; have hA1 := True.intro))
    go_ret2
    rw [← HEN'.out] at HR
    exact ⟨_, rfl, HR.out.row, HR.out.below⟩
end Go.Proofs.Ytdbaldkinjdeaaa

/-
  The law ItemWrites at this program: an item is written in one way. Conditions: the fields are such as their types hold; the key below 2^47 bytes.
-/
import Derived.Test.YtdbaldkinjdeaaaItemBits
import Derived.Test.YtdbaldkinjdeaaaItemRefEnc
namespace Go.Proofs.Ytdbaldkinjdeaaa
open Go Go.RowKit Go.Lib

theorem blk_conv0 {w : World} {g : Nat} {l : List UInt8} {n c : Nat} (h : Blk w g 5 (bc l)) (hn : n = l.length) : (convert 27 9 (.slice (some ⟨g, 0, none⟩) n c)).run Try.prog w = .ok (.string (S l)) w := by
  subst hn
  exact run_convert_bytes_back (P := Try.prog) w 27 9 5 ⟨g, 0, none⟩ c l Try.underlying27 Try.underlying5 Try.underlying9 (fun j hj => by
    rw [addr_plain, Nat.zero_add]
    exact h.cell (bc_at (List.getElem?_eq_getElem hj)))
/-- The document's row, for reading. -/
theorem row_read {w : World} {base n : Nat} {v : Value} {l : List UInt8} (h : w.ownsRow base 5 1 v n (bc l)) (hn : n = l.length) (h0 : 0 < n) :
    ∃ g c, v = .slice (some ⟨g, 0, none⟩) n c ∧ g < w.heap.size ∧ ∀ w', Below w.heap.size w w' → (convert 27 9 (.slice (some ⟨g, 0, none⟩) n c)).run Try.prog w' = .ok (.string (S l)) w' := by
  have hlt := h.lt
  have hcs := @World.ownsRow.cells _ _ _ _ _ _ _ h
  rcases h.2 with ⟨rfl, h1⟩ | ⟨g, cap, cur, rfl, hb, hg, hcap, _⟩
  · omega
  · refine ⟨g, cap, rfl, (hlt g rfl).2, fun w' hw => ?_⟩
    subst hn
    exact run_convert_bytes_back (P := Try.prog) w' 27 9 5 ⟨g, 0, none⟩ cap l Try.underlying27 Try.underlying5 Try.underlying9 (fun j hj => by
      have := hcs rfl j _ (bc_at (List.getElem?_eq_getElem hj))
      rw [addr_plain] at this ⊢
      exact (hw.cell (p := ⟨g, 0 + j, none⟩) (hlt g rfl).2).trans this)

/-- While it is written twice. -/
structure WS (w ws : World) (x : It) (wk : World) : Prop where
  one : One w x ws
  keep : Below ws.heap.size ws wk
theorem WS.next {w ws wk wl : World} {x : It} (h : WS w ws x wk) (hb : Below wk.heap.size wk wl) : WS w ws x wl := ⟨h.one, Below.then h.keep hb⟩
theorem WS.box {w ws wk : World} {x : It} (h : WS w ws x wk) : Blk wk w.heap.size 25 x.cells := h.one.one.below h.keep
theorem WS.below {w ws wk : World} {x : It} (h : WS w ws x wk) : Below w.heap.size w wk := Below.then h.one.below h.keep
theorem WS.put {w ws wk : World} {x : It} (h : WS w ws x wk) {g : Nat} (hg : ws.heap.size ≤ g) (i : Nat) (u : Value) : WS w ws x (wk.setCell ⟨g, i, none⟩ u) := ⟨h.one, h.keep.setCell (p := ⟨g, i, none⟩) hg u⟩

set_option maxHeartbeats 4000000 in
set_option maxRecDepth 100000 in
theorem writes_yes (x : It) (hx : x.Ok) (rx : x.right = true) (k v : Int) (w : World) :
    Calls Try.prog 3 #[x.v, .int .i64 k, .int .i64 v] w fun e w' => e = .returned (.bool true) ∧ Below w.heap.size w w' := by
  have hex := fun w => enc_ok x hx rx w
  have hre := fun w => ref_enc_ok x hx rx w
  have hs1 := fun w => size_any k v w
  have hs2 := fun w => ref_size k v w
  have hel := x.enc_len
  obtain ⟨N, hN⟩ : ∃ N, N = x.enc.length := ⟨_, rfl⟩
  rw [← hN] at hex hre
  have n0 : 0 < N := by omega
  have HN := hid hN
  have HT := hid (one_of w x)
  have hNb : N ≤ 1000000 := by have := It.right_parts rx; omega
  clear hel hN rx hx
  generalize sizeZ k v = z at *
  simp only [It.v, It.cells] at hex hre HT ⊢
  go_enter Try.func3, Try.ntmps3
  go_wp2_with fail
  refine (shown_any _).mono ?_
  rintro e w1 ⟨rfl, b1⟩
  have HT1 := hid (HT.out.next b1)
  clear HT b1
  obtain ⟨q0, q1, q2, q3, q4, q5, q6, q7⟩ := box_cells HT1.out.one
  go_wp2_with fail
  refine (hre _).mono ?_
  rintro e ws ⟨vr, rfl, hrow, hb⟩
  have HS := hid (HT1.out.next hb)
  obtain ⟨gr, cr, rfl, hgr, hcr⟩ := row_read hrow HN.out n0
  have HC := hid hcr
  clear HT1 hb hrow hre q0 q1 q2 q3 q4 q5 q6 q7 hcr
  go_wp2_with fail
  go_loopw [10] (fun t wr => ∃ j : Nat, j ≤ 2 ∧ t = .int .i64 j ∧ Hid (WS w ws x wr)) (fun t _ => 2 - (RowKit.intOf t).toNat)
  case atStart => exact ⟨0, by omega, rfl, hid ⟨HS.out, Below.refl _ _⟩⟩
  case round =>
    obtain ⟨j, hj, rfl, HW⟩ := hrel
    by_cases hlt : j < 2
    · obtain ⟨q0, q1, q2, q3, q4, q5, q6, q7⟩ := box_cells HW.out.box
      go_wp2_with fail
      refine (hex _).mono ?_
      rintro e w2 ⟨g, rfl, hg, hB, hb⟩
      have hW2 := HW.out.next hb
      have hc1 := blk_conv0 (c := N) hB HN.out
      have hc2 := HC.out w2 hW2.keep
      have HW2 := hid hW2
      have HG := hid (Nat.le_trans HW.out.keep.size hg)
      have HB := hid hB
      clear HW hb hB hg q0 q1 q2 q3 q4 q5 q6 q7 hW2
      go_wp2_with fail
      clear hc1 hc2
      go_loopw [13] (fun i wq => ∃ m : Nat, m ≤ N ∧ i = .int .i64 m ∧ Hid (∃ cs, cs.length = N ∧ Blk wq g 5 cs ∧ ∀ i, i < N → ∃ v, cs[i]? = some (.int .u8 v)) ∧ Hid (WS w ws x wq)) (fun i _ => N - (RowKit.intOf i).toNat)
      case atStart => exact ⟨0, by omega, rfl, hid ⟨bc x.enc, by rw [bc_len]; exact HN.out.symm, HB.out, fun i hi => ⟨_, bc_at (List.getElem?_eq_getElem (by have := HN.out; omega))⟩⟩, HW2⟩
      case round =>
        obtain ⟨m, hm, rfl, HCS, HW3⟩ := hrel
        by_cases hlm : m < N
        · obtain ⟨cs, hcl, hbl, hcv⟩ := HCS.out
          obtain ⟨v0, hv0⟩ := hcv m hlm
          have hce := hbl.cell hv0
          have hfr := hbl.frozen m
          have HW4 := hid (HW3.out.put HG.out m (.int .u8 7))
          have HCS4 : Hid (∃ cs', cs'.length = N ∧ Blk (wr.setCell ⟨g, m, none⟩ (.int .u8 7)) g 5 cs' ∧ ∀ i, i < N → ∃ v, cs'[i]? = some (.int .u8 v)) := hid ⟨cs.set m (.int .u8 7), by rw [List.length_set]; exact hcl, hbl.set m _, fun i hi => by
            by_cases him : m = i
            · subst him; exact ⟨7, by rw [List.getElem?_set_self (by omega)]⟩
            · obtain ⟨v, hv⟩ := hcv i hi
              exact ⟨v, by rw [List.getElem?_set_ne him]; exact hv⟩⟩
          clear hcl hbl hcv hv0 HCS HW3 cs
          go_wp2_with fail
          go_roundw
          case rel => exact ⟨m + 1, by omega, by go_num, HCS4, HW4⟩
          case measure => simp [RowKit.intOf] <;> omega
        · clear HCS
          go_wp2_with fail
          go_roundw
          case rel => exact ⟨j + 1, by omega, by go_num, HW3⟩
          case measure => simp [RowKit.intOf] <;> omega
    · go_wp2_with fail
      refine (hs1 _).mono ?_
      rintro e w3 ⟨rfl, rfl⟩
      go_wp2_with fail
      refine (hs2 _).mono ?_
      rintro e w3 ⟨rfl, rfl⟩
      go_wp2_with fail
      go_ret
      exact ⟨ret_bool (by simp), HW.out.below⟩

theorem nil_conv (W : World) : (convert 27 9 (.slice none 0 0)).run Try.prog W = .ok (.string ⟨#[]⟩) W := by kernel_rfl

set_option maxHeartbeats 4000000 in
set_option maxRecDepth 100000 in
theorem writes_no (x : It) (rx : x.right = false) (hk : x.key.size < 9223372036854775807) (k v : Int) (w : World) :
    Calls Try.prog 3 #[x.v, .int .i64 k, .int .i64 v] w fun e w' => e = .returned (.bool true) ∧ Below w.heap.size w w' := by
  have hex := fun w => enc_bad x rx w
  have hre := fun w => ref_enc_bad x hk rx w
  have hs1 := fun w => size_any k v w
  have hs2 := fun w => ref_size k v w
  have hc1 := nil_conv
  have HT := hid (one_of w x)
  clear rx hk
  generalize sizeZ k v = z at *
  simp only [It.v, It.cells] at hex hre HT ⊢
  go_enter Try.func3, Try.ntmps3
  go_wp2_with fail
  refine (shown_any _).mono ?_
  rintro e w1 ⟨rfl, b1⟩
  have HT1 := hid (HT.out.next b1)
  clear HT b1
  obtain ⟨q0, q1, q2, q3, q4, q5, q6, q7⟩ := box_cells HT1.out.one
  go_wp2_with fail
  refine (hre _).mono ?_
  rintro e ws ⟨rfl, hb⟩
  have HS := hid (HT1.out.next hb)
  clear HT1 hb hre q0 q1 q2 q3 q4 q5 q6 q7
  go_wp2_with fail
  go_loopw [10] (fun t wr => ∃ j : Nat, j ≤ 2 ∧ t = .int .i64 j ∧ Hid (WS w ws x wr)) (fun t _ => 2 - (RowKit.intOf t).toNat)
  case atStart => exact ⟨0, by omega, rfl, hid ⟨HS.out, Below.refl _ _⟩⟩
  case round =>
    obtain ⟨j, hj, rfl, HW⟩ := hrel
    by_cases hlt : j < 2
    · obtain ⟨q0, q1, q2, q3, q4, q5, q6, q7⟩ := box_cells HW.out.box
      go_wp2_with fail
      refine (hex _).mono ?_
      rintro e w2 ⟨rfl, hb⟩
      have HW2 := hid (HW.out.next hb)
      clear HW hb q0 q1 q2 q3 q4 q5 q6 q7
      go_wp2_with fail
      go_loopw [13] (fun i wq => i = .int .i64 0 ∧ wq = w2) (fun _ _ => 0)
      case atStart => exact ⟨rfl, rfl⟩
      case round =>
        obtain ⟨rfl, rfl⟩ := hrel
        go_wp2_with fail
        go_roundw
        case rel => exact ⟨j + 1, by omega, by go_num, HW2⟩
        case measure => simp [RowKit.intOf] <;> omega
    · go_wp2_with fail
      refine (hs1 _).mono ?_
      rintro e w3 ⟨rfl, rfl⟩
      go_wp2_with fail
      refine (hs2 _).mono ?_
      rintro e w3 ⟨rfl, rfl⟩
      go_wp2_with fail
      go_ret
      exact ⟨ret_bool (by simp), HW.out.below⟩

theorem writes_law (x : It) (hx : x.Ok) (hk : x.key.size ≤ 140737488351232) (k v : Int) (w : World) :
    Calls Try.prog 3 #[x.v, .int .i64 k, .int .i64 v] w fun e w' => e = .returned (.bool true) ∧ Below w.heap.size w w' := by
  cases rx : x.right with
  | false => exact writes_no x rx (by omega) k v w
  | true => exact writes_yes x hx rx k v w
end Go.Proofs.Ytdbaldkinjdeaaa

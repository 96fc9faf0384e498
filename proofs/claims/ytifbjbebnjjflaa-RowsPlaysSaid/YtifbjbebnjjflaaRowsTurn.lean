/-
  What goes in at the front comes out at the end in order: the statement, walked. No conditions.
-/
import Derived.Test.YtifbjbebnjjflaaRowsMoves
import Derived.Maps.AppendAt
namespace Go.Proofs.Ytifbjbebnjjflaa
open Go Go.RowKit Go.Lib

/-- The three rows behind these were put. -/
def TL (bk : Bool) (ins : List Int) : List (List Int) := [[], if bk then ins else ins.reverse, []]
theorem TL_flat (bk : Bool) (ins : List Int) : (TL bk ins).flatten = if bk then ins else ins.reverse := by cases bk <;> simp [TL]
theorem TL_mem {bk : Bool} {ins : List Int} {z : Int} : z ∈ (TL bk ins).flatten ↔ z ∈ ins := by rw [TL_flat]; cases bk <;> simp
theorem TL_row (bk : Bool) {ins : List Int} (z : Int) (hg : GoodL (TL bk ins)) : rv (rowOf (TL bk ins) z) = if z ∈ ins then 1 else -1 := by
  by_cases h : z ∈ ins
  · rw [if_pos h, rowOf_at (i := 1) (l := if bk then ins else ins.reverse) hg.nd rfl (by cases bk <;> simpa using h)]; rfl
  · rw [if_neg h, rowOf_none'.2 (fun e => h (TL_mem.1 e))]; rfl
theorem TL_may {bk : Bool} {ins : List Int} {z : Int} (h0 : 0 ≤ z) (h1 : z ≤ 4194303) : May (TL bk ins).length 1 z := ⟨by omega, (by show (1 : Int) < ((3 : Nat) : Int); decide), h0, h1⟩
theorem TL_back {ins : List Int} {z : Int} (h0 : 0 ≤ z) (h1 : z ≤ 4194303) (hz : z ∉ ins) : opBack (TL true ins) 1 z = TL true (ins ++ [z]) := by
  rw [opBack_yes (TL_may h0 h1)]
  unfold backL
  rw [take_no (fun e => hz (TL_mem.1 e))]; rfl
theorem TL_front {ins : List Int} {z : Int} (h0 : 0 ≤ z) (h1 : z ≤ 4194303) (hz : z ∉ ins) : opFront (TL false ins) 1 z = TL false (ins ++ [z]) := by
  rw [opFront_yes (TL_may h0 h1)]
  unfold frontL
  rw [take_no (fun e => hz (TL_mem.1 e))]
  show [[], z :: ins.reverse, []] = [[], (ins ++ [z]).reverse, []]
  rw [List.reverse_append]; rfl
theorem TL_take {bk : Bool} {z : Int} {r : List Int} (hg : GoodL (TL bk (z :: r))) : takeL (TL bk (z :: r)) z = TL bk r ∧ (rowOf (TL bk (z :: r)) z).isSome = true := by
  constructor
  · cases bk with
    | true => rw [take_split (i := 1) (a := []) (b := r) hg.nd rfl]; rfl
    | false => rw [take_split (i := 1) (a := r.reverse) (b := []) hg.nd (by show some (z :: r).reverse = _; rw [List.reverse_cons])]; simp [TL]
  · rw [rowOf_at (i := 1) (l := if bk then z :: r else (z :: r).reverse) hg.nd rfl (by cases bk <;> simp)]; rfl
theorem TL_ends (bk : Bool) (z : Int) (r : List Int) : (if bk then firstOf (rowAt (TL bk (z :: r)) 1) else lastOf (rowAt (TL bk (z :: r)) 1)) = z := by
  cases bk
  · show lastOf (z :: r).reverse = z
    unfold lastOf; rw [List.getLast?_reverse]; rfl
  · rfl
theorem TL_len (bk : Bool) (ins : List Int) : (rowAt (TL bk ins) 1).length = ins.length := by
  cases bk
  · show ins.reverse.length = _; rw [List.length_reverse]
  · rfl
theorem TL_len0 (bk : Bool) (ins : List Int) : (rowAt (TL bk ins) 0).length = 0 := rfl
theorem TL_nil (bk : Bool) : firstOf (rowAt (TL bk []) 1) = -1 ∧ lastOf (rowAt (TL bk []) 1) = -1 := by cases bk <;> exact ⟨rfl, rfl⟩
theorem own_only {D : Nat → Prop} {w w' : World} {base : Nat} {e : TypeId} {v : Value} {n : Nat} {xs : List Value} (h : w.ownsRow base e 1 v n xs) (ho : Only D w w') (hd : ∀ b, v.ownBlock = some b → ¬ D b) : w'.ownsRow base e 1 v n xs := by
  refine ⟨h.1, ?_⟩
  rcases h.2 with hn | ⟨g, cap, cur, hv, hb, hg, rest⟩
  · exact .inl hn
  · refine .inr ⟨g, cap, cur, hv, hb, ?_, rest⟩
    rw [ho.block g (Array.getElem?_eq_some_iff.1 hg).1 (hd g (by rw [hv]; rfl))]
    exact hg
theorem own_base_le {w : World} {base : Nat} {e : TypeId} {v : Value} {n : Nat} {xs : List Value} (h : w.ownsRow base e 1 v n xs) {b : Nat} (hb : v.ownBlock = some b) : base ≤ b ∧ b < w.heap.size := by
  rcases h.2 with ⟨rfl, _⟩ | ⟨g, cap, cur, rfl, h1, hg, _⟩
  · simp [Value.ownBlock] at hb
  · obtain rfl : g = b := by simpa [Value.ownBlock] using hb
    exact ⟨h1, (Array.getElem?_eq_some_iff.1 hg).1⟩
/-- What the append leaves of rows and slice. -/
theorem has_append {w1 w w' : World} {P : Nat} {L : List (List Int)} {v v' : Value} {n m : Nat} {xs ys : List Value} {o : Obj} (h : HasR w1 P L (fun x => v.ownBlock = some x) w) (hv : w.ownsRow w1.heap.size 3 1 v n xs)
    (hg : (w.alloc o).grownBy w' v.ownBlock) (hv' : w'.ownsRow w1.heap.size 3 1 v' m ys) (hl : v'.ownBlock = v.ownBlock ∨ v'.ownBlock = some (w.alloc o).heap.size) : HasR w1 P L (fun x => v'.ownBlock = some x) w' := by
  have h1 : HasR w1 P L (fun x => v.ownBlock = some x) (w.alloc o) := h.after ((Below.refl _ _).alloc (Nat.le_refl _) o)
  refine h1.turn ⟨hg.os, hg.tape, hg.output, hg.size, fun k hk hn => hg.block k hk (fun e => hn e.symm)⟩ (fun x hx => (own_base_le hv hx).1) (fun x hx => ⟨?_, (own_base_le hv' hx).2⟩)
  rcases hl with e | e
  · exact .inl (e.symm.trans hx)
  · rw [e] at hx; exact .inr (by rw [Option.some.inj hx]; exact Nat.le_refl _)

set_option maxRecDepth 100000 in
set_option maxHeartbeats 2000000 in
theorem turn_law (a : Option Addr) (n c0 : Nat) (zs : List Int) (bk : Bool) (w : World) (hx : Nums w a n zs) :
    Calls Try.prog 4 #[.slice a n c0, .bool bk] w fun e w' => e = .returned (.bool true) ∧ Below w.heap.size w w' := by
  have hX := hid hx
  have hn := hx.1
  obtain ⟨i0, hi0, hz0, hz1, hz2⟩ := info_parts infoInt
  clear hx
  go_enter Try.func4, Try.ntmps4
  go_wp2_with fail
  refine (shown_any w).mono ?_
  rintro e w1 ⟨rfl, b1⟩
  go_wp2_with fail
  refine (has_new 3 (by decide) (by decide) w1).mono ?_
  rintro e w2 ⟨P, rfl, hT⟩
  have HT : Hid (HasR w1 P (TL bk []) (fun x => (Value.slice none 0 0).ownBlock = some x) w2) := hid (by
    have e : TL bk [] = List.replicate 3 [] := by cases bk <;> rfl
    rw [e]
    exact hT.more (Below.refl _ _) (fun x hx => by simp [Value.ownBlock] at hx))
  clear hT
  go_wp2_with fail
  go_loopw [7, 8] (fun p1 p2 wr => ∃ (i : Nat) (v : Value) (ins : List Int), v = p1 ∧ p2 = .int .i64 i ∧ i ≤ 60 ∧ i ≤ n ∧ Hid (ins.length ≤ i) ∧ Hid (wr.ownsRow w1.heap.size 3 1 v ins.length (ic ins)) ∧ Hid (HasR w1 P (TL bk ins) (fun x => v.ownBlock = some x) wr)) (fun _ p _ => 60 - (RowKit.intOf p).toNat)
  case atStart => exact ⟨0, _, [], rfl, rfl, Nat.zero_le _, Nat.zero_le _, hid (Nat.zero_le _), hid (World.ownsRow_nil _ _ _ _), HT⟩
  case round =>
    obtain ⟨i, v, ins, rfl, rfl, hi, hin, hIl, hOw, hTr⟩ := hrel
    clear HT
    by_cases hlt : i < n ∧ i < 60
    · obtain ⟨l1, l2⟩ := hlt
      obtain ⟨x, hxi⟩ : ∃ x, zs[i]? = some x := ⟨_, List.getElem?_eq_getElem (by rw [hn]; exact l1)⟩
      obtain ⟨B, o, rfl, hB, hc⟩ := hX.out.2 i x hxi
      have hcw := ((Below.then b1 hTr.out.below).cell (p := ⟨B, o + i, none⟩) hB).trans hc
      obtain ⟨m, hm, hm2⟩ : ∃ m : Nat, bits .and .i64 x 65535 = (m : Int) ∧ m < 65536 := ⟨(x % 65536).toNat, by rw [i64_and65535]; omega, by omega⟩
      have hro := has_row hTr.out (m : Int) (by unfold i64ok; omega)
      rw [TL_row bk (m : Int) hTr.out.good] at hro
      clear hxi hc
      by_cases hmi : (m : Int) ∈ ins
      · rw [if_pos hmi] at hro
        clear hmi
        go_wp2_with fail
        refine hro.mono ?_
        rintro e w5 ⟨rfl, rfl⟩
        clear hro
        go_wp2_with fail
        go_roundw
        case rel => exact ⟨i + 1, v, ins, rfl, by go_num, by omega, by omega, hid (Nat.le_trans hIl.out (Nat.le_succ _)), hOw, hTr⟩
        case measure => simp [RowKit.intOf] <;> omega
      · rw [if_neg hmi] at hro
        have hmay := TL_may (bk := bk) (ins := ins) (z := (m : Int)) (by omega) (by omega)
        cases bk with
        | true =>
          have hb := has_back hTr.out 1 (m : Int) (by unfold i64ok; omega)
          rw [decide_eq_true hmay, TL_back (by omega) (by omega) hmi] at hb
          clear hmay hmi hTr
          go_wp2_with fail
          refine hro.mono ?_
          rintro e w5 ⟨rfl, rfl⟩
          clear hro
          go_wp2_with fail
          refine hb.mono ?_
          rintro e w5 ⟨rfl, h5, D, d1, d2⟩
          have hO5 := own_only hOw.out d1 d2
          have H5 := hid h5
          have HO5 := hid hO5
          have hsz := h5.below.size
          have hil := hIl.out
          clear hb h5 d1 d2 hOw
          go_wp2_with (at_builtin; refine wpList_append_own_at _ rfl _ _ 33 rfl w1.heap.size 3 i0 (.int .i64 0) 1 8 Try.underlying33 hi0 hz0 hz1 hz2 rfl (by decide) v _ _ rfl (hO5.alloc _) ⟨w5.heap.size, 0, none⟩ 1 1 [.int .i64 (m : Int)] rfl rfl (one_cell _ _ _) (one_ok _) (by unfold maxLen; omega) (by omega) (by simp; omega) ?_; intro v6 w6 hown6 hgrow6 hnil6 hloc6)
          exact ⟨⟨i + 1, v6, ins ++ [(m : Int)], rfl, rfl, by omega, by omega, hid (by rw [show (ins ++ [(m : Int)]).length = ins.length + 1 by simp]; omega), hid (by rw [show (ins ++ [(m : Int)]).length = ins.length + 1 by simp, ic_snoc]; exact hown6), hid (has_append H5.out HO5.out hgrow6 hown6 hloc6)⟩, by simp [RowKit.intOf]; omega⟩
        | false =>
          have hb := has_front hTr.out 1 (m : Int) (by unfold i64ok; omega)
          rw [decide_eq_true hmay, TL_front (by omega) (by omega) hmi] at hb
          clear hmay hmi hTr
          go_wp2_with fail
          refine hro.mono ?_
          rintro e w5 ⟨rfl, rfl⟩
          clear hro
          go_wp2_with fail
          refine hb.mono ?_
          rintro e w5 ⟨rfl, h5, D, d1, d2⟩
          have hO5 := own_only hOw.out d1 d2
          have H5 := hid h5
          have HO5 := hid hO5
          have hsz := h5.below.size
          have hil := hIl.out
          clear hb h5 d1 d2 hOw
          go_wp2_with (at_builtin; refine wpList_append_own_at _ rfl _ _ 33 rfl w1.heap.size 3 i0 (.int .i64 0) 1 8 Try.underlying33 hi0 hz0 hz1 hz2 rfl (by decide) v _ _ rfl (hO5.alloc _) ⟨w5.heap.size, 0, none⟩ 1 1 [.int .i64 (m : Int)] rfl rfl (one_cell _ _ _) (one_ok _) (by unfold maxLen; omega) (by omega) (by simp; omega) ?_; intro v6 w6 hown6 hgrow6 hnil6 hloc6)
          exact ⟨⟨i + 1, v6, ins ++ [(m : Int)], rfl, rfl, by omega, by omega, hid (by rw [show (ins ++ [(m : Int)]).length = ins.length + 1 by simp]; omega), hid (by rw [show (ins ++ [(m : Int)]).length = ins.length + 1 by simp, ic_snoc]; exact hown6), hid (has_append H5.out HO5.out hgrow6 hown6 hloc6)⟩, by simp [RowKit.intOf]; omega⟩
    · have hstop : (n : Int) ≤ (i : Int) ∨ ((i : Int) < (n : Int) ∧ (60 : Int) ≤ (i : Int)) := by omega
      obtain ⟨a7, c7, rfl⟩ := row_form hOw.out
      have hl1 := has_len hTr.out 1
      rw [TL_len] at hl1
      have hl0 := has_len hTr.out 0
      rw [TL_len0] at hl0
      have hall := has_all hTr.out 1
      rw [TL_len] at hall
      obtain ⟨N, hN⟩ : ∃ N, N = ins.length := ⟨_, rfl⟩
      have hNb : N ≤ 60 := by have := hIl.out; omega
      rw [← hN] at hl1 hall
      have hOw2 := hOw.out
      rw [← hN] at hOw2
      have HO := hid hOw2
      have hTr2 := hTr.out
      rw [← hN] at hTr2
      replace hTr := hid hTr2
      clear hTr2
      have HN := hid hN
      rw [← hN]
      clear hlt hOw hOw2 hIl hN
      rcases hstop with h0 | ⟨h0, h0'⟩
      all_goals
        go_wp2_with fail
        refine hl1.mono ?_
        rintro e w5 ⟨rfl, rfl⟩
        clear hl1
        go_wp2_with fail
        refine hl0.mono ?_
        rintro e w5 ⟨rfl, rfl⟩
        clear hl0
        go_wp2_with fail
        refine hall.mono ?_
        rintro e w5 ⟨v5, rfl, o5, b5⟩
        clear hall
        obtain ⟨a5, c5, rfl⟩ := row_form o5
        have HT5 := hid (hTr.out.after b5)
        have HO5 := hid (own_only HO.out (Below.only (D := fun _ => False) b5) (fun _ _ => id))
        clear o5 b5 hTr HO
        go_wp2_with fail
        go_loopw [10] (fun p wr => ∃ t : Nat, p = .int .i64 t ∧ t ≤ N ∧ Hid (wr.ownsRow w1.heap.size 3 1 (.slice a7 N c7) N (ic ins)) ∧ Hid (HasR w1 P (TL bk (ins.drop t)) (fun x => (Value.slice a7 N c7).ownBlock = some x) wr)) (fun p _ => N - (RowKit.intOf p).toNat)
        case atStart => exact ⟨0, rfl, Nat.zero_le _, HO5, HT5⟩
        case round =>
          obtain ⟨t, rfl, ht, hOr, hTr⟩ := hrel
          clear HO5 HT5
          by_cases hlt : t < N
          · obtain ⟨z, hz⟩ : ∃ z, ins[t]? = some z := ⟨_, List.getElem?_eq_getElem (by rw [← HN.out]; exact hlt)⟩
            have hdr := drop_cons hz
            obtain ⟨g, cap, hv, hcap, -, -⟩ := row_pos hOr.out (by omega)
            cases hv
            have hcz := cel_of hOr.out t z hz
            have h5 := hTr.out
            rw [hdr] at h5
            have hzr := h5.good.rng z (TL_mem.2 (List.mem_cons_self ..))
            have hla := has_last h5 1
            have hfi := has_first h5 1
            have hen := TL_ends bk z (ins.drop (t + 1))
            have htk := has_take h5 z (by unfold i64ok; omega)
            rw [(TL_take h5.good).1, (TL_take h5.good).2] at htk
            have hln := fun w6 (h : HasR w1 P (TL bk (ins.drop (t + 1))) (fun x => (Value.slice (some ⟨g, 0, none⟩) N c7).ownBlock = some x) w6) => has_len h 1
            have hlq : (((ins.drop (t + 1)).length : Nat) : Int) = (N : Int) - 1 - (t : Int) := by rw [List.length_drop, ← HN.out]; omega
            rw [TL_len, hlq] at hln
            have HLN := hid hln
            clear hz hdr hln hlq h5 hTr hzr
            generalize lastOf (rowAt (TL bk (z :: ins.drop (t + 1))) 1) = la at *
            generalize firstOf (rowAt (TL bk (z :: ins.drop (t + 1))) 1) = fi at *
            cases bk with
            | true =>
              replace hen : fi = z := hen
              rw [hen] at hfi
              clear hen
              go_wp2_with fail
              refine hla.mono ?_
              rintro e w6 ⟨rfl, rfl⟩
              clear hla
              go_wp2_with fail
              refine hfi.mono ?_
              rintro e w6 ⟨rfl, rfl⟩
              clear hfi
              go_wp2_with fail
              refine htk.mono ?_
              rintro e w6 ⟨rfl, h6, D, d1, d2⟩
              have hl6 := HLN.out w6 h6
              have HO6 := hid (own_only hOr.out d1 d2)
              have H6 := hid h6
              clear htk h6 d1 d2 hOr
              go_wp2_with fail
              refine hl6.mono ?_
              rintro e w7 ⟨rfl, rfl⟩
              clear hl6
              go_wp2_with fail
              go_roundw
              case rel => exact ⟨t + 1, by go_num, by omega, HO6, H6⟩
              case measure => simp [RowKit.intOf] <;> omega
            | false =>
              replace hen : la = z := hen
              rw [hen] at hla
              clear hen hfi
              go_wp2_with fail
              refine hla.mono ?_
              rintro e w6 ⟨rfl, rfl⟩
              clear hla
              go_wp2_with fail
              refine htk.mono ?_
              rintro e w6 ⟨rfl, h6, D, d1, d2⟩
              have hl6 := HLN.out w6 h6
              have HO6 := hid (own_only hOr.out d1 d2)
              have H6 := hid h6
              clear htk h6 d1 d2 hOr
              go_wp2_with fail
              refine hl6.mono ?_
              rintro e w7 ⟨rfl, rfl⟩
              clear hl6
              go_wp2_with fail
              go_roundw
              case rel => exact ⟨t + 1, by go_num, by omega, HO6, H6⟩
              case measure => simp [RowKit.intOf] <;> omega
          · obtain rfl : t = N := by omega
            have h5 := hTr.out
            rw [HN.out, List.drop_length] at h5
            have hla := has_last h5 1
            have hfi := has_first h5 1
            rw [(TL_nil bk).1] at hfi
            rw [(TL_nil bk).2] at hla
            have HB := hid (Below.then b1 h5.below)
            clear h5 hTr hOr
            go_wp2_with fail
            refine hfi.mono ?_
            rintro e w6 ⟨rfl, rfl⟩
            clear hfi
            go_wp2_with fail
            refine hla.mono ?_
            rintro e w6 ⟨rfl, rfl⟩
            clear hla
            go_wp2_with fail
            go_ret
            exact ⟨rfl, HB.out⟩
end Go.Proofs.Ytifbjbebnjjflaa

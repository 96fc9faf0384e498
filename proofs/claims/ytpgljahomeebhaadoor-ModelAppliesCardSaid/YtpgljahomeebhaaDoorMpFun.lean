/-
  The contracts of the program's small function values: find's, standing's, insert's; of strings.Compare; slices.IndexFunc and slices.BinarySearchFunc over items. Conditions: items can be read.
-/
import Derived.Test.YtpgljahomeebhaaDoorM1
import Derived.Test.YtpgljahomeebhaaDoorM2
import Derived.Shelf.Small.Strs
namespace Go.Proofs.YtpgljahomeebhaaDoor.Md
open Go Go.RowKit Go.Lib

theorem cmp_lt (a b : ByteArray) : decide (compareBytes a.data.toList b.data.toList < 0) = klt a b := by
  rw [Bool.eq_iff_iff, decide_eq_true_iff, klt_lt]
  generalize a.data.toList = x
  generalize b.data.toList = y
  induction x generalizing y with
  | nil => cases y <;> simp [compareBytes]
  | cons u x ih =>
    cases y with
    | nil => simp [compareBytes]
    | cons v y =>
      rw [List.cons_lt_cons_iff]
      unfold compareBytes
      by_cases h1 : u < v
      · simp [h1]
      · by_cases h2 : v < u
        · have : u ≠ v := fun e => by subst e; exact h1 h2
          simp [h1, h2, this]
        · have e : u = v := by
            have a1 := UInt8.not_lt.1 h1
            have a2 := UInt8.not_lt.1 h2
            exact UInt8.le_antisymm a2 a1
          subst e
          simp [h1, ih]
theorem cmp_zero (a b : ByteArray) : (compareBytes a.data.toList b.data.toList == 0) = decide (a = b) := by
  have h : ∀ x y : List UInt8, compareBytes x y = 0 ↔ x = y := fun x => by
    induction x with
    | nil => intro y; cases y <;> simp [compareBytes]
    | cons u x ih =>
      intro y
      cases y with
      | nil => simp [compareBytes]
      | cons v y =>
        unfold compareBytes
        by_cases h1 : u < v
        · have : u ≠ v := fun e => by subst e; exact UInt8.lt_irrefl _ h1
          simp [h1, this]
        · by_cases h2 : v < u
          · have : u ≠ v := fun e => by subst e; exact h1 h2
            simp [h1, h2, this]
          · have e : u = v := UInt8.le_antisymm (UInt8.not_lt.1 h2) (UInt8.not_lt.1 h1)
            subst e
            simp [h1, ih]
  rw [Bool.eq_iff_iff, beq_iff_eq, decide_eq_true_iff, h]
  exact ⟨key_eq, fun e => by rw [e]⟩
theorem pos_iff {l : List It} (h : Sorted l) (k : ByteArray) {j : Nat} {x : It} (hj : l[j]? = some x) : klt x.key k = decide (j < pos l k) := by
  by_cases hp : j < pos l k
  · rw [decide_eq_true hp]; exact pos_fwd l k j x hj hp
  · rw [decide_eq_false hp]
    by_cases he : j = pos l k
    · subst he; exact pos_stop l k x hj
    · have hjl : j < l.length := (List.getElem?_eq_some_iff.1 hj).1
      obtain ⟨y, hy⟩ : ∃ y, l[pos l k]? = some y := ⟨_, List.getElem?_eq_getElem (by omega)⟩
      have h1 := pos_stop l k y hy
      have h2 : klt y.key x.key = true := by
        have hy2 := (List.getElem?_eq_some_iff.1 hy).2
        have hx2 := (List.getElem?_eq_some_iff.1 hj).2
        have := List.pairwise_iff_getElem.1 h (pos l k) j (by omega) hjl (by omega)
        rw [hy2, hx2] at this; exact this
      rw [Bool.eq_false_iff]
      intro h3
      rw [klt_trans h2 h3] at h1; cases h1
set_option maxRecDepth 100000 in
theorem fn_find (x : It) (k : ByteArray) (B : Nat) (w : World) (hB : w.cell? ⟨B, 0, none⟩ = some (.string k)) :
    Calls Tryd.prog 48 #[x.v, .pointer (some ⟨B, 0, none⟩)] w fun e w' => e = .returned (.bool (decide (x.key = k))) ∧ Below w.heap.size w w' := by
  obtain ⟨kx, f, v, e, c, l, s, o⟩ := x
  show Calls Tryd.prog 48 #[.agg #[.string kx, .int .u32 f, .string v, .int .i64 e, .int .u64 c, .int .i64 l, .bool s, .bool o], .pointer (some ⟨B, 0, none⟩)] w fun x w' => x = .returned (.bool (decide (kx = k))) ∧ Below w.heap.size w w'
  have HB := hid (abelow w)
  have hc : Hid (decide (kx = k) = (kx.toList == k.toList)) := hid (key_beq kx k).symm
  have hB2 := cell_lt hB
  go_enter Tryd.func48, Tryd.ntmps48
  go_wp2_with fail
  go_ret
  exact ⟨ret_bool hc.out.symm, HB.out _⟩
set_option maxRecDepth 100000 in
theorem fn_gone (x : It) (now : Int) (B : Nat) (w : World) (hB : w.cell? ⟨B, 0, none⟩ = some (.int .i64 now)) :
    Calls Tryd.prog 46 #[x.v, .pointer (some ⟨B, 0, none⟩)] w fun e w' => e = .returned (.bool (gone now x)) ∧ Below w.heap.size w w' := by
  obtain ⟨k, f, v, e, c, l, s, o⟩ := x
  show Calls Tryd.prog 46 #[.agg #[.string k, .int .u32 f, .string v, .int .i64 e, .int .u64 c, .int .i64 l, .bool s, .bool o], .pointer (some ⟨B, 0, none⟩)] w fun x w' => x = .returned (.bool (gone now ⟨k, f, v, e, c, l, s, o⟩)) ∧ Below w.heap.size w w'
  have HB := hid (abelow w)
  have hB2 := cell_lt hB
  by_cases h0 : e = 0
  · have hg : Hid (gone now ⟨k, f, v, e, c, l, s, o⟩ = false) := hid (by unfold gone; simp [h0])
    subst h0
    go_enter Tryd.func46, Tryd.ntmps46
    go_wp2_with fail
    go_ret
    exact ⟨ret_bool hg.out.symm, HB.out _⟩
  · have h0' : (e == 0) = false := beq_eq_false_iff_ne.2 h0
    have hg : Hid (gone now ⟨k, f, v, e, c, l, s, o⟩ = decide (e ≤ now)) := hid (by unfold gone; simp [h0])
    go_enter Tryd.func46, Tryd.ntmps46
    go_wp2_with fail
    go_ret
    exact ⟨ret_bool (by rw [hg.out]; simp [h0]), HB.out _⟩
theorem compare_any (a b : ByteArray) (w : World) : Calls Tryd.prog 77 #[.string a, .string b] w fun e w' => e = .returned (.int .i64 (compareBytes a.data.toList b.data.toList)) ∧ w' = w :=
  Any.strings_Compare Tryd.laysCompare a b w
set_option maxRecDepth 100000 in
theorem fn_insert (x : It) (k : ByteArray) (w : World) :
    Calls Tryd.prog 76 #[x.v, .string k] w fun e w' => e = .returned (.int .i64 (compareBytes x.key.data.toList k.data.toList)) ∧ Below w.heap.size w w' := by
  obtain ⟨kx, f, v, e, c, l, s, o⟩ := x
  show Calls Tryd.prog 76 #[.agg #[.string kx, .int .u32 f, .string v, .int .i64 e, .int .u64 c, .int .i64 l, .bool s, .bool o], .string k] w fun x w' => x = .returned (.int .i64 (compareBytes kx.data.toList k.data.toList)) ∧ Below w.heap.size w w'
  have HB := hid (abelow w)
  have hc := fun W => compare_any kx k W
  go_enter Tryd.func76, Tryd.ntmps76
  go_wp2_with fail
  refine (hc _).mono ?_
  rintro e w' ⟨rfl, rfl⟩
  go_wp2_with fail
  go_ret
  exact ⟨rfl, HB.out _⟩
/-- Where the first one is, or -1. -/
def idx (p : It → Bool) (l : List It) : Int := match l.findIdx? p with
  | some i => (i : Int)
  | none => -1
theorem idx_hit {p : It → Bool} {l : List It} {k : Nat} {x : It} (hk : l[k]? = some x) (hp : p x = true) (hn : ∀ (j : Nat) (y : It), j < k → l[j]? = some y → p y = false) : idx p l = (k : Int) := by
  unfold idx
  obtain ⟨hlt, rfl⟩ := List.getElem?_eq_some_iff.1 hk
  rw [List.findIdx?_eq_some_iff_getElem.2 ⟨hlt, hp, fun j hj => by rw [hn j l[j] hj (List.getElem?_eq_getElem (by omega))]; decide⟩]
theorem idx_none {p : It → Bool} {l : List It} (hn : ∀ (j : Nat) (y : It), l[j]? = some y → p y = false) : idx p l = -1 := by
  unfold idx
  rw [List.findIdx?_eq_none_iff.2 (fun x hx => by obtain ⟨j, hj, rfl⟩ := List.mem_iff_getElem.1 hx; exact hn j l[j] (List.getElem?_eq_getElem hj))]
set_option maxHeartbeats 1000000 in
set_option maxRecDepth 100000 in
theorem index_any (f : Nat) (lb : Value) (p : It → Bool) {v : Value} {l : List It} {w : World} (hI : Its w v l) (hlen : l.length ≤ 4194304)
    (hf : ∀ W x, Below w.heap.size w W → Calls Tryd.prog f #[It.v x, lb] W fun e w' => e = .returned (.bool (p x)) ∧ Below W.heap.size W w') (eg : ∀ args w, (callFunc f args).run Tryd.prog w = .ok (.enter f args) w) :
    Calls Tryd.prog 47 #[v, .func (.func f) #[] #[lb]] w fun e w' => e = .returned (.int .i64 (idx p l)) ∧ Below w.heap.size w w' := by
  obtain ⟨a, c, rfl⟩ := hI.form
  have HI := hid hI
  clear hI
  obtain ⟨N, hN⟩ : ∃ N, N = l.length := ⟨_, rfl⟩
  rw [← hN] at HI hlen ⊢
  have HN := hid hN
  clear hN
  have HF := hid hf
  clear hf
  obtain ⟨B, hB⟩ : ∃ B, B = w.heap.size := ⟨_, rfl⟩
  rw [← hB] at HF ⊢
  have HW : Hid (Below B w w) := hid (Below.refl _ _)
  have HB := hid hB
  clear hB
  obtain ⟨r, hr⟩ : ∃ r, r = idx p l := ⟨_, rfl⟩
  rw [← hr]
  have HR := hid hr
  clear hr
  go_enter Tryd.func47, Tryd.ntmps47
  go_wp2_with fail
  go_loopw [5, 8] (fun _ i wr => ∃ k : Nat, k ≤ N ∧ i = .int .i64 k ∧ Hid (Below B w wr) ∧ Hid (∀ (j : Nat) (y : It), j < k → l[j]? = some y → p y = false)) (fun _ i _ => N - (RowKit.intOf i).toNat)
  case atStart => exact ⟨0, Nat.zero_le _, rfl, HW, hid (fun j y hj _ => absurd hj (Nat.not_lt_zero _))⟩
  case round =>
    obtain ⟨k, hk, rfl, HW2, HK⟩ := hrel
    clear HW
    by_cases hlt : k < N
    · have hlt1 : (k : Int) < (N : Int) := by omega
      have k0 : (0 : Int) ≤ (k : Int) := by omega
      obtain ⟨x, hx⟩ : ∃ x, l[k]? = some x := ⟨_, List.getElem?_eq_getElem (by rw [← HN.out]; exact hlt)⟩
      have HI2 := HI.out.below (by rw [← HB.out]; exact HW2.out)
      obtain ⟨b, o, rfl, d0, d1, d2, d3, d4, d5, d6, d7⟩ := HI2.at hx
      have hcall := HF.out wr x HW2.out
      have HX := hid hx
      clear hx HI2
      cases hp : p x
      · rw [hp] at hcall
        have HP := hid hp
        clear hp
        go_wp2_with fail
        refine hcall.mono ?_
        rintro e w2 ⟨rfl, hb2⟩
        have HW3 := hid (HW2.out.trans (hb2.mono (by have := HW2.out.size; have := HB.out; omega)))
        clear hb2 d0 d1 d2 d3 d4 d5 d6 d7
        have HK2 : Hid (∀ (j : Nat) (y : It), j < k + 1 → l[j]? = some y → p y = false) := hid (fun j y hj hy => by
          by_cases e : j < k
          · exact HK.out j y e hy
          · obtain rfl : j = k := by omega
            rw [HX.out] at hy; cases hy; exact HP.out)
        go_wp2_with fail
        go_roundw
        case rel => exact ⟨k + 1, by omega, by go_num, HW3, HK2⟩
        case measure => simp [RowKit.intOf] <;> omega
      · rw [hp] at hcall
        have HP := hid hp
        clear hp
        go_wp2_with fail
        refine hcall.mono ?_
        rintro e w2 ⟨rfl, hb2⟩
        have HW3 := hid (HW2.out.trans (hb2.mono (by have := HW2.out.size; have := HB.out; omega)))
        have HE := hid (HR.out.trans (idx_hit HX.out HP.out HK.out))
        clear hb2 d0 d1 d2 d3 d4 d5 d6 d7
        go_wp2_with fail
        go_ret
        exact ⟨ret_i64 HE.out.symm, HW3.out⟩
    · have hlt1 : ¬ (k : Int) < (N : Int) := by omega
      have HE := hid (HR.out.trans (idx_none (fun j y hy => HK.out j y (by have := (List.getElem?_eq_some_iff.1 hy).1; have := HN.out; omega) hy)))
      go_wp2_with fail
      go_ret
      exact ⟨ret_i64 HE.out.symm, HW2.out⟩
set_option maxHeartbeats 1000000 in
set_option maxRecDepth 100000 in
theorem search_any {v : Value} {l : List It} {w : World} (hI : Its w v l) (hs : Sorted l) (hlen : l.length ≤ 4194304) (k : ByteArray) :
    Calls Tryd.prog 75 #[v, .string k, .func (.func 76) #[] #[]] w fun e w' => e = .returned (.tuple #[.int .i64 (pos l k), .bool (isAt l k)]) ∧ Below w.heap.size w w' := by
  obtain ⟨a, c, rfl⟩ := hI.form
  have HI := hid hI
  clear hI
  obtain ⟨N, hN⟩ : ∃ N, N = l.length := ⟨_, rfl⟩
  have hpn : pos l k ≤ N := by rw [hN]; exact pos_le _ _
  rw [← hN] at HI hlen ⊢
  have HN := hid hN
  clear hN
  have HS := hid hs
  have HK := hid (pos_key hs k)
  have HE := hid (pos_end hs k)
  clear hs
  have HF := hid (fn_insert)
  obtain ⟨P, hP⟩ : ∃ P, P = pos l k := ⟨_, rfl⟩
  rw [← hP] at hpn HK HE ⊢
  have HP := hid hP
  clear hP
  generalize isAt l k = A at *
  obtain ⟨B, hB⟩ : ∃ B, B = w.heap.size := ⟨_, rfl⟩
  rw [← hB]
  have HW : Hid (Below B w w) := hid (Below.refl _ _)
  have HB := hid hB
  clear hB
  go_enter Tryd.func75, Tryd.ntmps75
  go_wp2_with fail
  go_loopw [9, 10, 11] (fun i j _ wr => ∃ x y : Nat, i = .int .i64 x ∧ j = .int .i64 y ∧ x ≤ P ∧ P ≤ y ∧ y ≤ N ∧ Hid (Below B w wr)) (fun i j _ _ => (RowKit.intOf j).toNat - (RowKit.intOf i).toNat)
  case atStart => exact ⟨0, N, rfl, rfl, Nat.zero_le _, hpn, Nat.le_refl _, HW⟩
  case round =>
    obtain ⟨x, y, rfl, rfl, hx, hy, hyN, HW2⟩ := hrel
    clear HW
    by_cases hlt : x < y
    · have hlt1 : (x : Int) < (y : Int) := by omega
      obtain ⟨S, hS⟩ : ∃ S, S = x + y := ⟨_, rfl⟩
      obtain ⟨H, hH⟩ : ∃ H, H = S / 2 := ⟨_, rfl⟩
      have q1 : (x : Int) + (y : Int) = (S : Int) := by omega
      have q2 : IntKind.i64.wrap (S : Int) = (S : Int) := by rw [IntKind.wrap_i64]; omega
      have q3 : IntKind.u64.wrap (S : Int) = (S : Int) := by rw [show IntKind.u64.wrap (S : Int) = (S : Int) % 18446744073709551616 from rfl]; omega
      have q4 : (S : Int) / 2 = (H : Int) := by omega
      have q5 : IntKind.u64.wrap (H : Int) = (H : Int) := by rw [show IntKind.u64.wrap (H : Int) = (H : Int) % 18446744073709551616 from rfl]; omega
      have q6 : IntKind.i64.wrap (H : Int) = (H : Int) := by rw [IntKind.wrap_i64]; omega
      have hHN : H < N := by omega
      have hH1 : (H : Int) < (N : Int) := by omega
      have hH0 : (0 : Int) ≤ (H : Int) := by omega
      obtain ⟨z, hz⟩ : ∃ z, l[H]? = some z := ⟨_, List.getElem?_eq_getElem (by rw [← HN.out]; exact hHN)⟩
      have HI2 := HI.out.below (by rw [← HB.out]; exact HW2.out)
      obtain ⟨b, o, rfl, d0, d1, d2, d3, d4, d5, d6, d7⟩ := HI2.at hz
      have hcall := HF.out z k wr
      have HX := hid (pos_iff HS.out k hz)
      rw [← HP.out, ← cmp_lt] at HX
      have HXY := hid (show x ≤ H ∧ H < y by omega)
      clear hz HI2 hS hH
      generalize compareBytes z.key.data.toList k.data.toList = C at *
      by_cases hc : C < 0
      · have HL : Hid (H < P) := hid (by have := HX.out; rw [decide_eq_true hc] at this; exact of_decide_eq_true this.symm)
        clear HX
        go_wp2_with fail
        refine hcall.mono ?_
        rintro e w2 ⟨rfl, hb2⟩
        have HW3 := hid (HW2.out.trans (hb2.mono (by have := HW2.out.size; have := HB.out; omega)))
        clear hb2 d0 d1 d2 d3 d4 d5 d6 d7
        go_wp2_with fail
        go_roundw
        case rel => exact ⟨H + 1, y, by go_num, rfl, HL.out, hy, hyN, HW3⟩
        case measure => have := HXY.out; simp [RowKit.intOf] <;> omega
      · have HL : Hid (P ≤ H) := hid (by have := HX.out; rw [decide_eq_false hc] at this; exact Nat.not_lt.1 (of_decide_eq_false this.symm))
        clear HX
        go_wp2_with fail
        refine hcall.mono ?_
        rintro e w2 ⟨rfl, hb2⟩
        have HW3 := hid (HW2.out.trans (hb2.mono (by have := HW2.out.size; have := HB.out; omega)))
        clear hb2 d0 d1 d2 d3 d4 d5 d6 d7
        go_wp2_with fail
        go_roundw
        case rel => exact ⟨x, H, rfl, rfl, hx, HL.out, by have := HXY.out; omega, HW3⟩
        case measure => have := HXY.out; simp [RowKit.intOf] <;> omega
    · have hlt1 : ¬ (x : Int) < (y : Int) := by omega
      obtain rfl : x = P := by omega
      by_cases hend : x < N
      · have hlt2 : (x : Int) < (N : Int) := by omega
        have x0 : (0 : Int) ≤ (x : Int) := by omega
        obtain ⟨z, hz⟩ : ∃ z, l[x]? = some z := ⟨_, List.getElem?_eq_getElem (by rw [← HN.out]; exact hend)⟩
        have HI2 := HI.out.below (by rw [← HB.out]; exact HW2.out)
        obtain ⟨b, o, rfl, d0, d1, d2, d3, d4, d5, d6, d7⟩ := HI2.at hz
        have hcall := HF.out z k wr
        have HZ := hid ((cmp_zero z.key k).trans (HK.out z hz))
        clear hz HI2
        generalize compareBytes z.key.data.toList k.data.toList = C at *
        go_wp2_with fail
        refine hcall.mono ?_
        rintro e w2 ⟨rfl, hb2⟩
        have HW3 := hid (HW2.out.trans (hb2.mono (by have := HW2.out.size; have := HB.out; omega)))
        clear hb2 d0 d1 d2 d3 d4 d5 d6 d7
        go_wp2_with fail
        go_ret2
        exact ⟨by rw [← HZ.out]; rfl, HW3.out⟩
      · have hlt2 : decide ((x : Int) < (N : Int)) = false := decide_eq_false (by omega)
        go_wp2_with fail
        go_ret2
        exact ⟨by rw [HE.out (by have := HN.out; omega)]; rfl, HW2.out⟩
set_option maxRecDepth 100000 in
theorem find_any {v : Value} {l : List It} {w : World} (hI : Its w v l) (hlen : l.length ≤ 4194304) (k : ByteArray) :
    Calls Tryd.prog 32 #[v, .string k] w fun e w' => e = .returned (.int .i64 (idx (fun x => decide (x.key = k)) l)) ∧ Below w.heap.size w w' := by
  obtain ⟨a, c, rfl⟩ := hI.form
  have hb := abelow w (.cells #[.string k] 9)
  have hB := (Blk.new w #[.string k] 9)
  have HI := hid (hI.below hb)
  have hx := index_any 48 (.pointer (some ⟨w.heap.size, 0, none⟩)) (fun x => decide (x.key = k)) HI.out hlen (fun W x hW => fn_find x k w.heap.size W ((hB.below hW).cell (i := 0) rfl)) (enters_of Tryd.func48 (by kernel_rfl) rfl)
  have HB := hid hb
  generalize idx (fun x => decide (x.key = k)) l = R at *
  generalize l.length = N at *
  clear hB hI hb HI
  go_enter Tryd.func32, Tryd.ntmps32
  go_wp2_with fail
  refine hx.mono ?_
  rintro e w2 ⟨rfl, hb2⟩
  have HW := hid (HB.out.trans (hb2.mono HB.out.size))
  go_wp2_with fail
  go_ret
  exact ⟨rfl, HW.out⟩
end Go.Proofs.YtpgljahomeebhaaDoor.Md

/-
  The walks of layer 1's laws at this program, third part: NumsBad. It answers true, for every argument, and leaves what was there as it was. Conditions: the package variables hold what they were laid with ('Vars').
-/
import Derived.Test.YtkodgfbalclaeaaDoorNumsLawsB
import Derived.RegionTactic
namespace Go.Proofs.YtkodgfbalclaeaaDoor
open Go Go.Shelf Go.RowKit

set_option maxRecDepth 100000 in
theorem bad_digit (n c : Nat) (i : Int) (h0 : 48 ≤ c) (h1 : c ≤ 57) (w : World) (hv : Vars w) :
    Calls Tryd.prog 10 #[.int .u64 n, .int .u8 c, .int .i64 i] w fun e w' => e = .returned (.bool true) ∧ Below w.heap.size w w' := by
  have hs := shown_true w hv
  have i0 : (48 : Int) ≤ (c : Int) := by omega
  have i1 : (c : Int) ≤ 57 := by omega
  clear h0 h1 hv
  go_enter Tryd.func10, Tryd.ntmps10
  go_wp2_with fail
  refine hs.mono ?_
  rintro e w1 ⟨rfl, b1⟩
  go_wp2_with fail
  go_ret
  exact ⟨rfl, b1⟩

theorem conv_one (c : Nat) (hc : c < 256) (W : World) :
    (convert 36 9 (.slice (some ⟨W.heap.size, 0, none⟩) 1 1)).run Tryd.prog (W.alloc (Obj.cells #[Value.int IntKind.u8 (c : Int)] 5)).drew = .ok (.string (S [UInt8.ofNat c])) (W.alloc (Obj.cells #[Value.int IntKind.u8 (c : Int)] 5)).drew := by
  have e : ((UInt8.ofNat c).toNat : Int) = (c : Int) := by rw [UInt8.toNat_ofNat']; omega
  have e2 : (W.alloc (Obj.cells #[Value.int IntKind.u8 (c : Int)] 5)).drew = (W.alloc (Obj.cells #[Value.int IntKind.u8 ((UInt8.ofNat c).toNat : Int)] 5)).drew := by rw [e]
  rw [e2]
  exact run_convert_bytes_back (P := Tryd.prog) _ 36 9 5 ⟨W.heap.size, 0, none⟩ 1 [UInt8.ofNat c] Tryd.underlying36 Tryd.underlying5 Tryd.underlying9 (fun j hj => by
    have hj0 : j = 0 := by simpa using hj
    subst hj0
    rw [Lib.add_plain, World.cell?_drew, World.cell?_alloc_new]
    rfl)

set_option maxHeartbeats 1000000 in
set_option maxRecDepth 100000 in
theorem bad_neg_low (n c : Nat) (hc : c < 256) (i : Int) (k : Nat) (s x : ByteArray) (l0 : -9223372036854775808 ≤ i) (l1 : i < 0) (ik : (i + 1).tmod ((s.size : Int) + 1) = -(k : Int)) (i0 : (c : Int) < 48) (hk1 : k ≤ s.size) (hl : s.size ≤ 20) (hx : x.size ≤ 1) (v : Int) (y : Bool) (hy : y = true → ((c : Int) == 45) = true ∧ ((k : Int) == 0) = true)
    (w : World) (hs : Calls Tryd.prog 11 #[] w fun e w' => e = .returned (.bool true) ∧ Below w.heap.size w w')
    (hvb : ∀ W, Below w.heap.size w W → Vars W)
    (ht : ∀ W, Vars W → Calls Tryd.prog 16 #[.int .u64 n] W fun e w' => e = .returned (.string s) ∧ Below W.heap.size W w')
    (hcv : ∀ W : World, (convert 36 9 (.slice (some ⟨W.heap.size, 0, none⟩) 1 1)).run Tryd.prog (W.alloc (Obj.cells #[Value.int IntKind.u8 (c : Int)] 5)).drew = .ok (.string x) (W.alloc (Obj.cells #[Value.int IntKind.u8 (c : Int)] 5)).drew)
    (h1 : ∀ W, Vars W → Calls Tryd.prog 12 #[.string (s.extract 0 k ++ x ++ s.extract k s.size)] W fun e w' => e = .returned (.tuple #[.int .u64 0, .bool false]) ∧ Below W.heap.size W w')
    (h2 : ∀ W, Vars W → Calls Tryd.prog 18 #[.string (s.extract 0 k ++ x ++ s.extract k s.size), .int .u64 1] W fun e w' => e = .returned (.tuple #[.string ⟨#[]⟩, .bool false]) ∧ Below W.heap.size W w')
    (h3 : ∀ W, Vars W → Calls Tryd.prog 20 #[.string (s.extract 0 k ++ x ++ s.extract k s.size), .int .u64 1] W fun e w' => e = .returned (.tuple #[.string ⟨#[]⟩, .bool false]) ∧ Below W.heap.size W w')
    (h4 : ∀ W, Vars W → Calls Tryd.prog 14 #[.string (s.extract 0 k ++ x ++ s.extract k s.size)] W fun e w' => e = .returned (.tuple #[.int .i64 v, .bool y]) ∧ Below W.heap.size W w') :
    Calls Tryd.prog 10 #[.int .u64 n, .int .u8 c, .int .i64 i] w fun e w' => e = .returned (.bool true) ∧ Below w.heap.size w w' := by
  have H1 := Lib.hid h1
  have H2 := Lib.hid h2
  have H3 := Lib.hid h3
  have H4 := Lib.hid h4
  have HY := Lib.hid hy
  clear h1 h2 h3 h4 hy
  go_enter Tryd.func10, Tryd.ntmps10
  go_wp2_with fail
  refine hs.mono ?_
  rintro e w1 ⟨rfl, b1⟩
  go_wp2_with fail
  refine (ht _ (hvb _ b1)).mono ?_
  rintro e w2 ⟨rfl, b2⟩
  have b12 := Below.then b1 b2
  go_wp2_with fail
  clear ht hs
  go_region
  go_wp2_with fail
  have b13 := Below.then b12 (((Below.refl w2.heap.size w2).alloc (Nat.le_refl _) (Obj.cells #[Value.int IntKind.u8 (c : Int)] 5)).drew)
  refine (H1.out _ (hvb _ b13)).mono ?_
  rintro e w4 ⟨rfl, b4⟩
  have b14 := Below.then b13 b4
  go_wp2_with fail
  refine (H2.out _ (hvb _ b14)).mono ?_
  rintro e w5 ⟨rfl, b5⟩
  have b15 := Below.then b14 b5
  go_wp2_with fail
  refine (H3.out _ (hvb _ b15)).mono ?_
  rintro e w6 ⟨rfl, b6⟩
  have b16 := Below.then b15 b6
  go_wp2_with fail
  refine (H4.out _ (hvb _ b16)).mono ?_
  rintro e w7 ⟨rfl, b7⟩
  have b17 := Below.then b16 b7
  clear b1 b2 b12 b13 b4 b14 b5 b15 b6 b16 b7
  cases y
  · go_wp2_with fail
    go_ret
    exact ⟨rfl, b17⟩
  · obtain ⟨y1, y2⟩ := HY.out rfl
    go_wp2_with fail
    go_ret
    exact ⟨rfl, b17⟩

set_option maxHeartbeats 1000000 in
set_option maxRecDepth 100000 in
theorem bad_neg_high (n c : Nat) (hc : c < 256) (i : Int) (k : Nat) (s x : ByteArray) (l0 : -9223372036854775808 ≤ i) (l1 : i < 0) (ik : (i + 1).tmod ((s.size : Int) + 1) = -(k : Int)) (i0 : (57 : Int) < (c : Int)) (hk1 : k ≤ s.size) (hl : s.size ≤ 20) (hx : x.size ≤ 1) (v : Int) (y : Bool) (hy : y = true → ((c : Int) == 45) = true ∧ ((k : Int) == 0) = true)
    (w : World) (hs : Calls Tryd.prog 11 #[] w fun e w' => e = .returned (.bool true) ∧ Below w.heap.size w w')
    (hvb : ∀ W, Below w.heap.size w W → Vars W)
    (ht : ∀ W, Vars W → Calls Tryd.prog 16 #[.int .u64 n] W fun e w' => e = .returned (.string s) ∧ Below W.heap.size W w')
    (hcv : ∀ W : World, (convert 36 9 (.slice (some ⟨W.heap.size, 0, none⟩) 1 1)).run Tryd.prog (W.alloc (Obj.cells #[Value.int IntKind.u8 (c : Int)] 5)).drew = .ok (.string x) (W.alloc (Obj.cells #[Value.int IntKind.u8 (c : Int)] 5)).drew)
    (h1 : ∀ W, Vars W → Calls Tryd.prog 12 #[.string (s.extract 0 k ++ x ++ s.extract k s.size)] W fun e w' => e = .returned (.tuple #[.int .u64 0, .bool false]) ∧ Below W.heap.size W w')
    (h2 : ∀ W, Vars W → Calls Tryd.prog 18 #[.string (s.extract 0 k ++ x ++ s.extract k s.size), .int .u64 1] W fun e w' => e = .returned (.tuple #[.string ⟨#[]⟩, .bool false]) ∧ Below W.heap.size W w')
    (h3 : ∀ W, Vars W → Calls Tryd.prog 20 #[.string (s.extract 0 k ++ x ++ s.extract k s.size), .int .u64 1] W fun e w' => e = .returned (.tuple #[.string ⟨#[]⟩, .bool false]) ∧ Below W.heap.size W w')
    (h4 : ∀ W, Vars W → Calls Tryd.prog 14 #[.string (s.extract 0 k ++ x ++ s.extract k s.size)] W fun e w' => e = .returned (.tuple #[.int .i64 v, .bool y]) ∧ Below W.heap.size W w') :
    Calls Tryd.prog 10 #[.int .u64 n, .int .u8 c, .int .i64 i] w fun e w' => e = .returned (.bool true) ∧ Below w.heap.size w w' := by
  have i1 : (48 : Int) ≤ (c : Int) := by omega
  have H1 := Lib.hid h1
  have H2 := Lib.hid h2
  have H3 := Lib.hid h3
  have H4 := Lib.hid h4
  have HY := Lib.hid hy
  clear h1 h2 h3 h4 hy
  go_enter Tryd.func10, Tryd.ntmps10
  go_wp2_with fail
  refine hs.mono ?_
  rintro e w1 ⟨rfl, b1⟩
  go_wp2_with fail
  refine (ht _ (hvb _ b1)).mono ?_
  rintro e w2 ⟨rfl, b2⟩
  have b12 := Below.then b1 b2
  go_wp2_with fail
  clear ht hs
  go_region
  go_wp2_with fail
  have b13 := Below.then b12 (((Below.refl w2.heap.size w2).alloc (Nat.le_refl _) (Obj.cells #[Value.int IntKind.u8 (c : Int)] 5)).drew)
  refine (H1.out _ (hvb _ b13)).mono ?_
  rintro e w4 ⟨rfl, b4⟩
  have b14 := Below.then b13 b4
  go_wp2_with fail
  refine (H2.out _ (hvb _ b14)).mono ?_
  rintro e w5 ⟨rfl, b5⟩
  have b15 := Below.then b14 b5
  go_wp2_with fail
  refine (H3.out _ (hvb _ b15)).mono ?_
  rintro e w6 ⟨rfl, b6⟩
  have b16 := Below.then b15 b6
  go_wp2_with fail
  refine (H4.out _ (hvb _ b16)).mono ?_
  rintro e w7 ⟨rfl, b7⟩
  have b17 := Below.then b16 b7
  clear b1 b2 b12 b13 b4 b14 b5 b15 b6 b16 b7
  cases y
  · go_wp2_with fail
    go_ret
    exact ⟨rfl, b17⟩
  · obtain ⟨y1, y2⟩ := HY.out rfl
    go_wp2_with fail
    go_ret
    exact ⟨rfl, b17⟩

set_option maxHeartbeats 1000000 in
set_option maxRecDepth 100000 in
theorem bad_pos_low (n c : Nat) (hc : c < 256) (i : Int) (k : Nat) (s x : ByteArray) (l0 : 0 ≤ i) (l1 : i ≤ 9223372036854775807) (ik : i % ((s.size : Int) + 1) = (k : Int)) (i0 : (c : Int) < 48) (hk1 : k ≤ s.size) (hl : s.size ≤ 20) (hx : x.size ≤ 1) (v : Int) (y : Bool) (hy : y = true → ((c : Int) == 45) = true ∧ ((k : Int) == 0) = true)
    (w : World) (hs : Calls Tryd.prog 11 #[] w fun e w' => e = .returned (.bool true) ∧ Below w.heap.size w w')
    (hvb : ∀ W, Below w.heap.size w W → Vars W)
    (ht : ∀ W, Vars W → Calls Tryd.prog 16 #[.int .u64 n] W fun e w' => e = .returned (.string s) ∧ Below W.heap.size W w')
    (hcv : ∀ W : World, (convert 36 9 (.slice (some ⟨W.heap.size, 0, none⟩) 1 1)).run Tryd.prog (W.alloc (Obj.cells #[Value.int IntKind.u8 (c : Int)] 5)).drew = .ok (.string x) (W.alloc (Obj.cells #[Value.int IntKind.u8 (c : Int)] 5)).drew)
    (h1 : ∀ W, Vars W → Calls Tryd.prog 12 #[.string (s.extract 0 k ++ x ++ s.extract k s.size)] W fun e w' => e = .returned (.tuple #[.int .u64 0, .bool false]) ∧ Below W.heap.size W w')
    (h2 : ∀ W, Vars W → Calls Tryd.prog 18 #[.string (s.extract 0 k ++ x ++ s.extract k s.size), .int .u64 1] W fun e w' => e = .returned (.tuple #[.string ⟨#[]⟩, .bool false]) ∧ Below W.heap.size W w')
    (h3 : ∀ W, Vars W → Calls Tryd.prog 20 #[.string (s.extract 0 k ++ x ++ s.extract k s.size), .int .u64 1] W fun e w' => e = .returned (.tuple #[.string ⟨#[]⟩, .bool false]) ∧ Below W.heap.size W w')
    (h4 : ∀ W, Vars W → Calls Tryd.prog 14 #[.string (s.extract 0 k ++ x ++ s.extract k s.size)] W fun e w' => e = .returned (.tuple #[.int .i64 v, .bool y]) ∧ Below W.heap.size W w') :
    Calls Tryd.prog 10 #[.int .u64 n, .int .u8 c, .int .i64 i] w fun e w' => e = .returned (.bool true) ∧ Below w.heap.size w w' := by
  have H1 := Lib.hid h1
  have H2 := Lib.hid h2
  have H3 := Lib.hid h3
  have H4 := Lib.hid h4
  have HY := Lib.hid hy
  clear h1 h2 h3 h4 hy
  go_enter Tryd.func10, Tryd.ntmps10
  go_wp2_with fail
  refine hs.mono ?_
  rintro e w1 ⟨rfl, b1⟩
  go_wp2_with fail
  refine (ht _ (hvb _ b1)).mono ?_
  rintro e w2 ⟨rfl, b2⟩
  have b12 := Below.then b1 b2
  go_wp2_with fail
  clear ht hs
  go_region
  go_wp2_with fail
  have b13 := Below.then b12 (((Below.refl w2.heap.size w2).alloc (Nat.le_refl _) (Obj.cells #[Value.int IntKind.u8 (c : Int)] 5)).drew)
  refine (H1.out _ (hvb _ b13)).mono ?_
  rintro e w4 ⟨rfl, b4⟩
  have b14 := Below.then b13 b4
  go_wp2_with fail
  refine (H2.out _ (hvb _ b14)).mono ?_
  rintro e w5 ⟨rfl, b5⟩
  have b15 := Below.then b14 b5
  go_wp2_with fail
  refine (H3.out _ (hvb _ b15)).mono ?_
  rintro e w6 ⟨rfl, b6⟩
  have b16 := Below.then b15 b6
  go_wp2_with fail
  refine (H4.out _ (hvb _ b16)).mono ?_
  rintro e w7 ⟨rfl, b7⟩
  have b17 := Below.then b16 b7
  clear b1 b2 b12 b13 b4 b14 b5 b15 b6 b16 b7
  cases y
  · go_wp2_with fail
    go_ret
    exact ⟨rfl, b17⟩
  · obtain ⟨y1, y2⟩ := HY.out rfl
    go_wp2_with fail
    go_ret
    exact ⟨rfl, b17⟩

set_option maxHeartbeats 1000000 in
set_option maxRecDepth 100000 in
theorem bad_pos_high (n c : Nat) (hc : c < 256) (i : Int) (k : Nat) (s x : ByteArray) (l0 : 0 ≤ i) (l1 : i ≤ 9223372036854775807) (ik : i % ((s.size : Int) + 1) = (k : Int)) (i0 : (57 : Int) < (c : Int)) (hk1 : k ≤ s.size) (hl : s.size ≤ 20) (hx : x.size ≤ 1) (v : Int) (y : Bool) (hy : y = true → ((c : Int) == 45) = true ∧ ((k : Int) == 0) = true)
    (w : World) (hs : Calls Tryd.prog 11 #[] w fun e w' => e = .returned (.bool true) ∧ Below w.heap.size w w')
    (hvb : ∀ W, Below w.heap.size w W → Vars W)
    (ht : ∀ W, Vars W → Calls Tryd.prog 16 #[.int .u64 n] W fun e w' => e = .returned (.string s) ∧ Below W.heap.size W w')
    (hcv : ∀ W : World, (convert 36 9 (.slice (some ⟨W.heap.size, 0, none⟩) 1 1)).run Tryd.prog (W.alloc (Obj.cells #[Value.int IntKind.u8 (c : Int)] 5)).drew = .ok (.string x) (W.alloc (Obj.cells #[Value.int IntKind.u8 (c : Int)] 5)).drew)
    (h1 : ∀ W, Vars W → Calls Tryd.prog 12 #[.string (s.extract 0 k ++ x ++ s.extract k s.size)] W fun e w' => e = .returned (.tuple #[.int .u64 0, .bool false]) ∧ Below W.heap.size W w')
    (h2 : ∀ W, Vars W → Calls Tryd.prog 18 #[.string (s.extract 0 k ++ x ++ s.extract k s.size), .int .u64 1] W fun e w' => e = .returned (.tuple #[.string ⟨#[]⟩, .bool false]) ∧ Below W.heap.size W w')
    (h3 : ∀ W, Vars W → Calls Tryd.prog 20 #[.string (s.extract 0 k ++ x ++ s.extract k s.size), .int .u64 1] W fun e w' => e = .returned (.tuple #[.string ⟨#[]⟩, .bool false]) ∧ Below W.heap.size W w')
    (h4 : ∀ W, Vars W → Calls Tryd.prog 14 #[.string (s.extract 0 k ++ x ++ s.extract k s.size)] W fun e w' => e = .returned (.tuple #[.int .i64 v, .bool y]) ∧ Below W.heap.size W w') :
    Calls Tryd.prog 10 #[.int .u64 n, .int .u8 c, .int .i64 i] w fun e w' => e = .returned (.bool true) ∧ Below w.heap.size w w' := by
  have i1 : (48 : Int) ≤ (c : Int) := by omega
  have H1 := Lib.hid h1
  have H2 := Lib.hid h2
  have H3 := Lib.hid h3
  have H4 := Lib.hid h4
  have HY := Lib.hid hy
  clear h1 h2 h3 h4 hy
  go_enter Tryd.func10, Tryd.ntmps10
  go_wp2_with fail
  refine hs.mono ?_
  rintro e w1 ⟨rfl, b1⟩
  go_wp2_with fail
  refine (ht _ (hvb _ b1)).mono ?_
  rintro e w2 ⟨rfl, b2⟩
  have b12 := Below.then b1 b2
  go_wp2_with fail
  clear ht hs
  go_region
  go_wp2_with fail
  have b13 := Below.then b12 (((Below.refl w2.heap.size w2).alloc (Nat.le_refl _) (Obj.cells #[Value.int IntKind.u8 (c : Int)] 5)).drew)
  refine (H1.out _ (hvb _ b13)).mono ?_
  rintro e w4 ⟨rfl, b4⟩
  have b14 := Below.then b13 b4
  go_wp2_with fail
  refine (H2.out _ (hvb _ b14)).mono ?_
  rintro e w5 ⟨rfl, b5⟩
  have b15 := Below.then b14 b5
  go_wp2_with fail
  refine (H3.out _ (hvb _ b15)).mono ?_
  rintro e w6 ⟨rfl, b6⟩
  have b16 := Below.then b15 b6
  go_wp2_with fail
  refine (H4.out _ (hvb _ b16)).mono ?_
  rintro e w7 ⟨rfl, b7⟩
  have b17 := Below.then b16 b7
  clear b1 b2 b12 b13 b4 b14 b5 b15 b6 b16 b7
  cases y
  · go_wp2_with fail
    go_ret
    exact ⟨rfl, b17⟩
  · obtain ⟨y1, y2⟩ := HY.out rfl
    go_wp2_with fail
    go_ret
    exact ⟨rfl, b17⟩


theorem list_putIn (l : List UInt8) (k c : Nat) : ((S l).extract 0 k ++ S [UInt8.ofNat c] ++ (S l).extract k (S l).size) = S (putIn l k (UInt8.ofNat c)) := by
  rw [Lib.extract_eq, Lib.extract_eq, S_list, S_size]
  show S _ ++ S _ ++ S _ = _
  rw [S_append, S_append]
  congr 1
  rw [putIn, List.drop_zero, Nat.sub_zero, List.take_of_length_le (l := l.drop k) (by rw [List.length_drop]; omega)]
  simp

theorem bad_law (n : Nat) (hn : n < 18446744073709551616) (c : Nat) (hc : c < 256) (i : Int) (l0 : -9223372036854775808 ≤ i) (l1 : i ≤ 9223372036854775807) (w : World) (hv : Vars w) :
    Calls Tryd.prog 10 #[.int .u64 n, .int .u8 c, .int .i64 i] w fun e w' => e = .returned (.bool true) ∧ Below w.heap.size w w' := by
  by_cases hd : 48 ≤ c ∧ c ≤ 57
  · exact bad_digit n c i hd.1 hd.2 w hv
  · have hct : (UInt8.ofNat c).toNat = c := by rw [UInt8.toNat_ofNat']; omega
    have hnd : ¬ (48 ≤ (UInt8.ofNat c).toNat ∧ (UInt8.ofNat c).toNat ≤ 57) := by rw [hct]; exact hd
    have hsz : (S (Lib.decDigits n)).size ≤ 20 := by rw [S_size]; exact dd_len_le hn
    have hx : (S [UInt8.ofNat c]).size ≤ 1 := by rw [S_size]; simp
    have hvb : ∀ W, Below w.heap.size w W → Vars W := fun W hb => hv.below hb
    -- what is called with the text that has the byte put in
    have all : ∀ k, k ≤ (S (Lib.decDigits n)).size →
        (∀ W, Vars W → Calls Tryd.prog 12 #[.string ((S (Lib.decDigits n)).extract 0 k ++ S [UInt8.ofNat c] ++ (S (Lib.decDigits n)).extract k (S (Lib.decDigits n)).size)] W fun e w' => e = .returned (.tuple #[.int .u64 0, .bool false]) ∧ Below W.heap.size W w') ∧
        (∀ W, Vars W → Calls Tryd.prog 18 #[.string ((S (Lib.decDigits n)).extract 0 k ++ S [UInt8.ofNat c] ++ (S (Lib.decDigits n)).extract k (S (Lib.decDigits n)).size), .int .u64 1] W fun e w' => e = .returned (.tuple #[.string ⟨#[]⟩, .bool false]) ∧ Below W.heap.size W w') ∧
        (∀ W, Vars W → Calls Tryd.prog 20 #[.string ((S (Lib.decDigits n)).extract 0 k ++ S [UInt8.ofNat c] ++ (S (Lib.decDigits n)).extract k (S (Lib.decDigits n)).size), .int .u64 1] W fun e w' => e = .returned (.tuple #[.string ⟨#[]⟩, .bool false]) ∧ Below W.heap.size W w') ∧
        ∃ (v : Int) (y : Bool), (y = true → ((c : Int) == 45) = true ∧ ((k : Int) == 0) = true) ∧
          (∀ W, Vars W → Calls Tryd.prog 14 #[.string ((S (Lib.decDigits n)).extract 0 k ++ S [UInt8.ofNat c] ++ (S (Lib.decDigits n)).extract k (S (Lib.decDigits n)).size)] W fun e w' => e = .returned (.tuple #[.int .i64 v, .bool y]) ∧ Below W.heap.size W w') := by
      intro k _
      rw [list_putIn]
      have hp := parseU_putIn (Lib.decDigits n) k (UInt8.ofNat c) hnd
      refine ⟨fun W hV => parse_none _ (by rw [S_list]; exact hp) W hV, fun W hV => ?_, fun W hV => ?_, ?_⟩
      · have h := add_any (S (putIn (Lib.decDigits n) k (UInt8.ofNat c))) 1 W hV
        rw [S_list, addU, hp] at h
        exact h
      · have h := sub_any (S (putIn (Lib.decDigits n) k (UInt8.ofNat c))) 1 W hV
        rw [S_list, subU, hp] at h
        exact h
      · by_cases he : UInt8.ofNat c = 45 ∧ k = 0
        · have hc45 : c = 45 := by rw [← hct, he.1]; rfl
          obtain ⟨v, y, hs⟩ : ∃ v y, sv (signedU (putIn (Lib.decDigits n) k (UInt8.ofNat c))) = .tuple #[.int .i64 v, .bool y] := by
            cases signedU (putIn (Lib.decDigits n) k (UInt8.ofNat c)) <;> exact ⟨_, _, rfl⟩
          refine ⟨v, y, fun _ => ⟨by rw [hc45]; rfl, by rw [he.2]; rfl⟩, fun W hV => ?_⟩
          have h := signed_any (S (putIn (Lib.decDigits n) k (UInt8.ofNat c))) W hV
          rw [S_list, hs] at h
          exact h
        · refine ⟨0, false, (fun e => by cases e), fun W hV => ?_⟩
          have h := signed_any (S (putIn (Lib.decDigits n) k (UInt8.ofNat c))) W hV
          rw [S_list, signedU_putIn n k (UInt8.ofNat c) hnd he] at h
          exact h
    by_cases hi : i < 0
    · obtain ⟨j, rfl⟩ : ∃ j : Nat, i = -((j : Int) + 1) := ⟨(-(i + 1)).toNat, by omega⟩
      have hk : j % ((S (Lib.decDigits n)).size + 1) ≤ (S (Lib.decDigits n)).size := by have := Nat.mod_lt j (show 0 < (S (Lib.decDigits n)).size + 1 by omega); omega
      obtain ⟨h1, h2, h3, v, y, hy, h4⟩ := all _ hk
      have ik : (-((j : Int) + 1) + 1).tmod (((S (Lib.decDigits n)).size : Int) + 1) = -((j % ((S (Lib.decDigits n)).size + 1) : Nat) : Int) := by
        rw [show -((j : Int) + 1) + 1 = -(j : Int) from by omega, Int.neg_tmod, Int.tmod_eq_emod_of_nonneg (by omega)]
        simp
      rcases Nat.lt_or_ge c 48 with h | h
      · exact bad_neg_low n c hc _ _ _ _ l0 hi ik (by omega) hk hsz hx v y hy w (shown_true w hv) hvb (fun W hV => text_any n hn W hV) (conv_one c hc) h1 h2 h3 h4
      · exact bad_neg_high n c hc _ _ _ _ l0 hi ik (by omega) hk hsz hx v y hy w (shown_true w hv) hvb (fun W hV => text_any n hn W hV) (conv_one c hc) h1 h2 h3 h4
    · obtain ⟨j, rfl⟩ : ∃ j : Nat, i = (j : Int) := ⟨i.toNat, by omega⟩
      have hk : j % ((S (Lib.decDigits n)).size + 1) ≤ (S (Lib.decDigits n)).size := by have := Nat.mod_lt j (show 0 < (S (Lib.decDigits n)).size + 1 by omega); omega
      obtain ⟨h1, h2, h3, v, y, hy, h4⟩ := all _ hk
      have ik : (j : Int) % (((S (Lib.decDigits n)).size : Int) + 1) = ((j % ((S (Lib.decDigits n)).size + 1) : Nat) : Int) := by simp
      rcases Nat.lt_or_ge c 48 with h | h
      · exact bad_pos_low n c hc _ _ _ _ (by omega) l1 ik (by omega) hk hsz hx v y hy w (shown_true w hv) hvb (fun W hV => text_any n hn W hV) (conv_one c hc) h1 h2 h3 h4
      · exact bad_pos_high n c hc _ _ _ _ (by omega) l1 ik (by omega) hk hsz hx v y hy w (shown_true w hv) hvb (fun W hV => text_any n hn W hV) (conv_one c hc) h1 h2 h3 h4
end Go.Proofs.YtkodgfbalclaeaaDoor

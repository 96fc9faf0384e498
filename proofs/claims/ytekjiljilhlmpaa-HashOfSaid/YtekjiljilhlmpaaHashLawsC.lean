/-
  The laws HashByte, HashGoes at this program. Condition: a text takes at most 2^47 bytes.
-/
import Derived.Test.YtekjiljilhlmpaaHashLaws
namespace Go.Proofs.Ytekjiljilhlmpaa
open Go Go.RowKit Go.Lib

theorem conv_one (c : Nat) (hc : c < 256) (W : World) :
    (convert 29 9 (.slice (some ⟨W.heap.size, 0, none⟩) 1 1)).run Try.prog (W.alloc (Obj.cells #[Value.int IntKind.u8 (c : Int)] 5)) = .ok (.string (S [UInt8.ofNat c])) (W.alloc (Obj.cells #[Value.int IntKind.u8 (c : Int)] 5)) := by
  have e : ((UInt8.ofNat c).toNat : Int) = (c : Int) := by rw [UInt8.toNat_ofNat']; omega
  have e2 : (W.alloc (Obj.cells #[Value.int IntKind.u8 (c : Int)] 5)) = (W.alloc (Obj.cells #[Value.int IntKind.u8 ((UInt8.ofNat c).toNat : Int)] 5)) := by rw [e]
  rw [e2]
  exact run_convert_bytes_back (P := Try.prog) _ 29 9 5 ⟨W.heap.size, 0, none⟩ 1 [UInt8.ofNat c] Try.underlying29 Try.underlying5 Try.underlying9 (fun j hj => by
    have hj0 : j = 0 := by simpa using hj
    subst hj0
    have ea : (⟨W.heap.size, 0, none⟩ : Addr).add 0 = ⟨W.heap.size, 0, none⟩ := by simp [Addr.add]
    rw [ea, World.cell?_alloc_new]
    rfl)

theorem conv_two (c : Nat) (hc : c < 256) (W : World) (o : Obj) :
    (convert 29 9 (.slice (some ⟨W.heap.size + 1, 0, none⟩) 1 1)).run Try.prog ((W.alloc o).alloc (Obj.cells #[Value.int IntKind.u8 (c : Int)] 5)) = .ok (.string (S [UInt8.ofNat c])) ((W.alloc o).alloc (Obj.cells #[Value.int IntKind.u8 (c : Int)] 5)) := by
  have h := conv_one c hc (W.alloc o)
  rw [show (W.alloc o).heap.size = W.heap.size + 1 from by simp] at h
  exact h
theorem sum_list (s : ByteArray) (c : UInt8) : (s ++ S [c]).data.toList = s.data.toList ++ [c] := by
  rw [ByteArray.data_append, Array.toList_append, S_list]
theorem sum_size (s : ByteArray) (c : UInt8) : (s ++ S [c]).size = s.size + 1 := by
  rw [size_len, sum_list, List.length_append, ← size_len]; rfl

set_option maxHeartbeats 1000000 in
set_option maxRecDepth 100000 in
theorem byte_law (s : ByteArray) (a : Nat) (ha : a < 256) (b : Nat) (hb : b < 256) (hs : s.size ≤ 140737488355328) (w : World) :
    Calls Try.prog 6 #[.string s, .int .u8 a, .int .u8 b] w fun e w' => e = .returned (.bool true) ∧ Below w.heap.size w w' := by
  have v1 := conv_one a ha
  have v2 := conv_two b hb
  have c1 := fun w => of_any (s ++ S [UInt8.ofNat a]) (by rw [sum_size]; omega) w
  have c2 := fun w => of_any (s ++ S [UInt8.ofNat b]) (by rw [sum_size]; omega) w
  rw [sum_list, fnv_snoc] at c1 c2
  have hinj := step_inj (fnv s.data.toList) (UInt8.ofNat a) (UInt8.ofNat b) (fnv_lt _)
  have hab : (UInt8.ofNat a = UInt8.ofNat b) ↔ a = b := by
    rw [← UInt8.toNat_inj, UInt8.toNat_ofNat', UInt8.toNat_ofNat']; omega
  rw [hab] at hinj
  have z1 : (S [UInt8.ofNat a]).size = 1 := rfl
  have z2 : (S [UInt8.ofNat b]).size = 1 := rfl
  have hsz1 : s.size + (S [UInt8.ofNat a]).size ≤ 9223372036854775807 := by omega
  have hsz2 : s.size + (S [UInt8.ofNat b]).size ≤ 9223372036854775807 := by omega
  generalize step (fnv s.data.toList) (UInt8.ofNat a) = X at *
  generalize step (fnv s.data.toList) (UInt8.ofNat b) = Y at *
  generalize S [UInt8.ofNat a] = A at *
  generalize S [UInt8.ofNat b] = B at *
  clear hab z1 z2 ha hb hs
  by_cases hxy : a = b
  · obtain rfl := hinj.2 hxy
    subst hxy
    clear hinj
    go_enter Try.func6, Try.ntmps6
    go_wp2_with fail
    refine (shown_any _).mono ?_
    rintro e w1 ⟨rfl, rfl⟩
    go_wp2_with fail
    refine (c1 _).mono ?_
    rintro e w1 ⟨rfl, rfl⟩
    go_wp2_with fail
    refine (c2 _).mono ?_
    rintro e w1 ⟨rfl, rfl⟩
    go_wp2_with fail
    go_ret
    exact ⟨rfl, ((Below.refl _ _).alloc (Nat.le_refl _) _).alloc (by simp) _⟩
  · have n1 : ((X : Int) == (Y : Int)) = false := by
      have : X ≠ Y := fun h => hxy (hinj.1 h)
      simp; omega
    have n2 : ((a : Int) == (b : Int)) = false := by simp; omega
    clear hinj hxy
    go_enter Try.func6, Try.ntmps6
    go_wp2_with fail
    refine (shown_any _).mono ?_
    rintro e w1 ⟨rfl, rfl⟩
    go_wp2_with fail
    refine (c1 _).mono ?_
    rintro e w1 ⟨rfl, rfl⟩
    go_wp2_with fail
    refine (c2 _).mono ?_
    rintro e w1 ⟨rfl, rfl⟩
    go_wp2_with fail
    go_ret
    exact ⟨rfl, ((Below.refl _ _).alloc (Nat.le_refl _) _).alloc (by simp) _⟩

set_option maxRecDepth 100000 in
theorem goes_law (s t : ByteArray) (hs : s.size ≤ 140737488355328) (ht : t.size ≤ 140737488355328) (w : World) :
    Calls Try.prog 7 #[.string s, .string t] w fun e w' => e = .returned (.bool true) ∧ Below w.heap.size w w' := by
  have c1 := fun w => of_any s (by omega) w
  have c2 := fun w => of_any (s ++ t) (by rw [ByteArray.size_append]; omega) w
  have HST : Hid (fnv (s ++ t).data.toList = fnvFrom (fnv s.data.toList) t.data.toList) := hid (by
    rw [show (s ++ t).data.toList = s.data.toList ++ t.data.toList from by rw [ByteArray.data_append, Array.toList_append], fnv_eq, fnvFrom_append, ← fnv_eq])
  rw [HST.out] at c2
  have hF := fnv_lt s.data.toList
  generalize fnv s.data.toList = F at *
  clear HST
  go_enter Try.func7, Try.ntmps7
  go_wp2_with fail
  refine (shown_any _).mono ?_
  rintro e w1 ⟨rfl, rfl⟩
  go_wp2_with fail
  refine (c1 _).mono ?_
  rintro e w1 ⟨rfl, rfl⟩
  go_wp2_with fail
  go_loop [6, 7] (fun h i => ∃ k : Nat, k ≤ t.size ∧ i = .int .i64 k ∧ h = .int .u64 (fnvFrom F (t.data.toList.take k))) (fun _ i => t.size - (intOf i).toNat)
  case atStart => exact ⟨0, Nat.zero_le _, rfl, rfl⟩
  case round =>
    obtain ⟨k, hk, rfl, rfl⟩ := hrel
    have hG := fnvFrom_lt (t.data.toList.take k) F hF
    by_cases hlt : k < t.size
    · have HS : Hid (IntKind.u64.wrap (bits .xor .u64 (fnvFrom F (t.data.toList.take k) : Int) (IntKind.u64.wrap (t[k].toNat : Int)) * 1099511628211) = (fnvFrom F (t.data.toList.take (k + 1)) : Int)) := hid (by rw [take_snoc t k hlt, fnvFrom_append, fnvFrom_one]; exact step_of _ _ hG)
      generalize fnvFrom F (t.data.toList.take k) = H at *
      clear c1 c2
      go_wp2_with fail
      go_round
      case rel => exact ⟨k + 1, by omega, by go_num, int_u64 HS.out⟩
      case measure => simp [intOf] <;> omega
    · have e1 : t.data.toList.take k = t.data.toList := List.take_of_length_le (by rw [← size_len]; omega)
      rw [e1]
      clear e1
      generalize fnvFrom F t.data.toList = H at *
      go_wp2_with fail
      refine (c2 _).mono ?_
      rintro e w1 ⟨rfl, rfl⟩
      go_wp2_with fail
      go_ret
      exact ⟨rfl, Below.refl _ _⟩
end Go.Proofs.Ytekjiljilhlmpaa

/-
  The law TextNumbers for any arguments. Conditions: the package variables hold what they were laid with.
-/
import Derived.Test.YtggeccndmmmnjaaGreatDoorTxNumbersA
import Derived.Test.YtggeccndmmmnjaaGreatDoorTxNumbersB
import Derived.Test.YtggeccndmmmnjaaGreatDoorTxNumbersC
import Derived.Test.YtggeccndmmmnjaaGreatDoorTxNumbersD
namespace Go.Proofs.YtggeccndmmmnjaaGreatDoor.Tx
open Go Go.RowKit Go.Lib Md

set_option maxHeartbeats 1000000 in
set_option maxRecDepth 100000 in
theorem numbers_early (K : ByteArray) (b : Bool) (n : Nat) (sec : Int) (quiet : Bool)
    (hkey : ∀ w, Calls Tryz.prog 10 #[.string K] w fun e w' => e = .returned (.bool b) ∧ w' = w)
    (h : b = false ∨ (b = true ∧ sec < -1099511627776) ∨ (b = true ∧ sec > 1099511627776) ∨ (b = true ∧ -1099511627776 ≤ sec ∧ sec ≤ 1099511627776 ∧ (K.toList == [110, 111, 114, 101, 112, 108, 121]) = true))
    (w : World) (hv : Nu.Vars w) :
    Calls Tryz.prog 6 #[.string K, .int .u64 (n : Int), .int .i64 sec, .bool quiet] w fun e w' => e = .returned (.bool true) ∧ Below w.heap.size w w' := by
  go_enter Tryz.func6, Tryz.ntmps6
  go_wp2_with fail
  refine (shown_any _ hv).mono ?_
  rintro e w1 ⟨rfl, b1⟩
  go_wp2_with fail
  refine (hkey _).mono ?_
  rintro e w2 ⟨rfl, rfl⟩
  clear hkey
  rcases h with rfl | ⟨rfl, h⟩ | ⟨rfl, h⟩ | ⟨rfl, h1, h2, h⟩
  all_goals
    go_wp2_with fail
    go_ret
    exact ⟨rfl, b1⟩
theorem says_math (k : List UInt8) (n : Nat) (down quiet : Bool) (hk : keyB k = true) (hn : n < 18446744073709551616) (nm : List UInt8) (hnm : nm = if down then wDecr else wIncr) :
    Says (S (nm ++ [32]) ++ S k ++ S [32] ++ S (Lib.decDigits n) ++ S (endT quiet)) (⟨3, 0, S k, ⟨#[]⟩, 0, 0, false, 0, false, n, 0, down, false, 0, -1, false⟩ : Cm) quiet (nm ++ [32] ++ k ++ [32] ++ Lib.decDigits n ++ endT quiet).length := fun W hv => by
  have hl := keyB_parts hk
  have hd := Nu.dd_len_le hn
  have h4 : nm.length = 4 := by subst hnm; cases down <;> rfl
  have hkn : keyB nm = true := by subst hnm; cases down <;> decide
  have hp := parse_line3 nm k (Lib.decDigits n) quiet hkn hk (keyB_dd hn) (by omega)
  have hr := read_math k n down quiet hk hn nm hnm
  rw [hr] at hp
  exact parse_written (q := oneQ (mathC k n down) quiet) (by simp only [S_app]) hp (by show (1 : Int) ≠ 0; decide) (by have := end_len quiet; simp; omega) W hv
theorem says_touch (k : List UInt8) (x : Int) (quiet : Bool) (hk : keyB k = true) (h0 : -1099511627776 ≤ x) (h1 : x ≤ 1099511627776) :
    Says (S (wTouch ++ [32]) ++ S k ++ S [32] ++ S (secT x) ++ S (endT quiet)) (⟨4, 0, S k, ⟨#[]⟩, 0, x, false, 0, false, 0, 0, false, false, 0, -1, false⟩ : Cm) quiet (wTouch ++ [32] ++ k ++ [32] ++ secT x ++ endT quiet).length := fun W hv => by
  have hl := keyB_parts hk
  have hd := secT_len h0 h1
  have h4 : wTouch.length = 5 := rfl
  have hp := parse_line3 wTouch k (secT x) quiet (by decide) hk (keyB_secT h0 h1) (by omega)
  rw [read_touch k x quiet hk h0 h1] at hp
  exact parse_written (q := oneQ (touchC k x) quiet) (by simp only [S_app]) hp (by show (1 : Int) ≠ 0; decide) (by have := end_len quiet; simp; omega) W hv
theorem says_gat (k : List UInt8) (x : Int) (hk : keyB k = true) (h0 : -1099511627776 ≤ x) (h1 : x ≤ 1099511627776) :
    Says (S (wGat ++ [32]) ++ S (secT x) ++ S [32] ++ S k ++ S (endT false)) (⟨1, 0, S k, ⟨#[]⟩, 0, x, true, 0, false, 0, 0, false, false, 0, -1, false⟩ : Cm) false (wGat ++ [32] ++ secT x ++ [32] ++ k ++ endT false).length := fun W hv => by
  have hl := keyB_parts hk
  have hd := secT_len h0 h1
  have h4 : wGat.length = 3 := rfl
  have hp := parse_line3 wGat (secT x) k false (by decide) (keyB_secT h0 h1) hk (by omega)
  rw [read_gat k x hk h0 h1] at hp
  exact parse_written (q := oneQ (withKey (gatC x) k) false) (by simp only [S_app]) hp (by show (1 : Int) ≠ 0; decide) (by have := end_len false; simp; omega) W hv
theorem says_flush (x : Int) (quiet : Bool) (h0 : -1099511627776 ≤ x) (h1 : x ≤ 1099511627776) :
    Says (S (wFlush ++ [32]) ++ S (secT x) ++ S (endT quiet)) (⟨6, 0, ⟨#[]⟩, ⟨#[]⟩, 0, x, false, 0, false, 0, 0, false, false, 0, -1, false⟩ : Cm) quiet (wFlush ++ [32] ++ secT x ++ endT quiet).length := fun W hv => by
  have hd := secT_len h0 h1
  have h4 : wFlush.length = 9 := rfl
  have hp := parse_line2 wFlush (secT x) quiet (by decide) (keyB_secT h0 h1) (by omega)
  rw [read_flush x quiet h0 h1] at hp
  exact parse_written (q := oneQ (flushC x) quiet) (by simp only [S_app]) hp (by show (1 : Int) ≠ 0; decide) (by have := end_len quiet; simp; omega) W hv
theorem tells_any (u : Nat) (hu : u < 18446744073709551616) : Tells u (S (Lib.decDigits u)) := fun W hv => Nu.text_any u hu W hv.tabV
theorem S_self' (s : ByteArray) : S s.data.toList = s := by cases s; simp [S]
theorem numbers_law (s : ByteArray) (n : Nat) (hn : n < 18446744073709551616) (sec : Int) (u0 : -9223372036854775808 ≤ sec) (u1 : sec ≤ 9223372036854775807) (quiet : Bool) (w : World) (hv : Nu.Vars w) :
    Calls Tryz.prog 6 #[.string s, .int .u64 (n : Int), .int .i64 sec, .bool quiet] w fun e w' => e = .returned (.bool true) ∧ Below w.heap.size w w' := by
  obtain ⟨k, rfl⟩ : ∃ k, s = S k := ⟨s.data.toList, (S_self' s).symm⟩
  have hkey : ∀ w, Calls Tryz.prog 10 #[.string (S k)] w fun e w' => e = .returned (.bool (keyB k)) ∧ w' = w := fun w => by
    have h := key_any (S k) w
    rw [S_list] at h
    exact h.mono fun e w' h => ⟨h.1, h.2.symm⟩
  by_cases hk : keyB k = true
  rotate_left
  · exact numbers_early (S k) (keyB k) n sec quiet hkey (.inl (by simpa using hk)) w hv
  by_cases h0 : sec < -1099511627776
  · exact numbers_early (S k) (keyB k) n sec quiet hkey (.inr (.inl ⟨hk, h0⟩)) w hv
  by_cases h1 : sec > 1099511627776
  · exact numbers_early (S k) (keyB k) n sec quiet hkey (.inr (.inr (.inl ⟨hk, h1⟩))) w hv
  by_cases hnr : k = wNoreply
  · exact numbers_early (S k) (keyB k) n sec quiet hkey (.inr (.inr (.inr ⟨hk, by omega, by omega, by rw [hnr]; exact eq_yes _⟩))) w hv
  have hnr' : ((S k).toList == [110, 111, 114, 101, 112, 108, 121]) = false := eq_no hnr
  have h0' : -1099511627776 ≤ sec := by omega
  have h1' : sec ≤ 1099511627776 := by omega
  have hkey' : ∀ w, Calls Tryz.prog 10 #[.string (S k)] w fun e w' => e = .returned (.bool true) ∧ w' = w := fun w => by
    have h := hkey w
    rw [hk] at h
    exact h
  have sK : (S k).size ≤ 250 := by rw [S_size]; exact (keyB_parts hk).2.1
  have sN : (S (Lib.decDigits n)).size ≤ 20 := by rw [S_size]; exact Nu.dd_len_le hn
  have sT : (S (secT sec)).size ≤ 21 := by rw [S_size]; exact secT_len h0' h1'
  have tN := tells_any n hn
  have P0 := says_math k n false quiet hk hn wIncr rfl
  have P1 := says_math k n true quiet hk hn wDecr rfl
  have P2 := says_touch k sec quiet hk h0' h1'
  have P3 := says_gat k sec hk h0' h1'
  have P4 := says_flush sec quiet h0' h1'
  by_cases hs : sec < 0
  · obtain ⟨m, hm⟩ : ∃ m : Nat, sec = -(m : Int) := ⟨(-sec).toNat, by omega⟩
    have hw : IntKind.u64.wrap (-(m : Int)) = ((18446744073709551616 - m : Nat) : Int) := by rw [IntKind.wrap_u64]; omega
    have hTT : S (secT sec) = ⟨#[45]⟩ ++ S (Lib.decDigits m) := by
      rw [hm, secT_neg m (by omega)]
      exact (S_app [45] _).symm
    have sT' : (S (Lib.decDigits m)).size ≤ 20 := by rw [S_size]; exact Nu.dd_len_le (by omega)
    cases quiet
    · exact numbers_a (S k) _ _ _ sK sN sT n sec false h0' h1' hkey' hnr' rfl rfl m _ _ _ (by omega) hm hw (tells_any _ (by omega)) (tells_any m (by omega)) sT' hTT tN _ P0 _ P1 _ P2 _ P3 _ P4 w hv
    · exact numbers_b (S k) _ _ _ sK sN sT n sec true h0' h1' hkey' hnr' rfl rfl m _ _ _ (by omega) hm hw (tells_any _ (by omega)) (tells_any m (by omega)) sT' hTT tN _ P0 _ P1 _ P2 _ P3 _ P4 w hv
  · obtain ⟨m, hm⟩ : ∃ m : Nat, sec = (m : Int) := ⟨sec.toNat, by omega⟩
    have tT : Tells m (S (secT sec)) := by rw [hm, secT_pos]; exact tells_any m (by omega)
    cases quiet
    · exact numbers_c (S k) _ _ _ sK sN sT n sec false h0' h1' hkey' hnr' rfl rfl m hm tT tN _ P0 _ P1 _ P2 _ P3 _ P4 w hv
    · exact numbers_d (S k) _ _ _ sK sN sT n sec true h0' h1' hkey' hnr' rfl rfl m hm tT tN _ P0 _ P1 _ P2 _ P3 _ P4 w hv
end Go.Proofs.YtggeccndmmmnjaaGreatDoor.Tx

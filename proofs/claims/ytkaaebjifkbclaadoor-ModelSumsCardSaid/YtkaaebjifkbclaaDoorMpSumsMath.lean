/-
  Plain mathematics: numbers counted. No conditions.
-/
import Derived.Test.YtkaaebjifkbclaaDoorMpFlushMath
namespace Go.Proofs.YtkaaebjifkbclaaDoor.Md
open Go

def kN : ByteArray := ⟨#[110]⟩
def kX : ByteArray := ⟨#[120]⟩
def cViv (n : Nat) : Cm := ⟨3, 0, kN, emp, 0, 0, false, 0, false, 0, n, false, true, 0, -1, false⟩
def suX (m cas : Nat) (last : Int) : It := ⟨kN, 0, S (Lib.decDigits m), 0, cas, last, false, false⟩
theorem kN_fine : keyB kN.data.toList = true := by decide
theorem kX_fine : keyB kX.data.toList = true := by decide
theorem cviv_ok {n : Nat} (h : n ≤ 18446744073709551615) : (cViv n).Ok := ⟨⟨by show (-9223372036854775808 : Int) ≤ _; simp [cViv], by show _ ≤ (9223372036854775807 : Int); simp [cViv]⟩, ⟨by show (-9223372036854775808 : Int) ≤ _; simp [cViv], by show _ ≤ (9223372036854775807 : Int); simp [cViv]⟩, zf, ⟨by show (-9223372036854775808 : Int) ≤ _; simp [cViv], by show _ ≤ (9223372036854775807 : Int); simp [cViv]⟩, zc, zc, h, ⟨by show (-9223372036854775808 : Int) ≤ _; simp [cViv], by show _ ≤ (9223372036854775807 : Int); simp [cViv]⟩, ⟨by show (-9223372036854775808 : Int) ≤ _; simp [cViv], by show _ ≤ (9223372036854775807 : Int); simp [cViv]⟩⟩
theorem cmat_ok (k : ByteArray) {d : Nat} (dn : Bool) (h : d ≤ 18446744073709551615) : (cMat k d dn).Ok := ⟨⟨by show (-9223372036854775808 : Int) ≤ _; simp [cMat], by show _ ≤ (9223372036854775807 : Int); simp [cMat]⟩, ⟨by show (-9223372036854775808 : Int) ≤ _; simp [cMat], by show _ ≤ (9223372036854775807 : Int); simp [cMat]⟩, zf, ⟨by show (-9223372036854775808 : Int) ≤ _; simp [cMat], by show _ ≤ (9223372036854775807 : Int); simp [cMat]⟩, zc, h, zc, ⟨by show (-9223372036854775808 : Int) ≤ _; simp [cMat], by show _ ≤ (9223372036854775807 : Int); simp [cMat]⟩, ⟨by show (-9223372036854775808 : Int) ≤ _; simp [cMat], by show _ ≤ (9223372036854775807 : Int); simp [cMat]⟩⟩
theorem S_list (l : List UInt8) : (S l).data.toList = l := by cases l <;> rfl
theorem S_size (l : List UInt8) : (S l).size = l.length := by rw [size_len, S_list]
theorem mat_fine {k : ByteArray} {now : Int} {d : Nat} {dn : Bool} (hk : keyB k.data.toList = true) (h1 : 1 ≤ now) (h2 : now ≤ 1099511627776) : fine now (cMat k d dn) = true := by
  unfold fine may farM cMat
  simp [hk, h1, h2, emp]
  exact decide_eq_true (show (0 : Nat) ≤ 65536 by omega)
theorem viv_fine {n : Nat} : fine 5 (cViv n) = true := by
  unfold fine may farM cViv
  simp [kN_fine, emp]
  exact decide_eq_true (show (0 : Nat) ≤ 65536 by omega)
theorem matE_num {y : It} {n cas : Nat} (hn : n < 18446744073709551616) (hk : y.key = kN) : matE 900 cas y (S (Lib.decDigits n)) = ⟨.put { y with cas := bump cas, val := S (Lib.decDigits n) }, bump cas, ⟨6, { y with cas := bump cas, val := S (Lib.decDigits n) }, n, false, false, false⟩⟩ := by
  have h1 := Nu.dd_len_le hn
  have h2 : kN.size = 1 := rfl
  unfold matE
  rw [if_neg (by rw [S_size, hk, h2]; omega), S_list, Nu.parseU_dd hn]; rfl
theorem su_one {n : Nat} (hn : n < 18446744073709551616) : apply ⟨[], 0, 0⟩ 5 (cViv n) 900 = (⟨[suX n 1 0], 1, 0⟩, ⟨6, suX n 1 0, n, false, false, false⟩) := by
  refine (one_step (o := none) (cas := 0) (now := 5) (c := cViv n) (most := 900) (fun y h => by cases h) viv_fine (by show ¬ (3 : Int) = 6; decide)).trans ?_
  have h1 : core 5 (cViv n) 900 0 ((none : Option It).filter fun x => !gone 5 x) = ⟨.put (suX n 1 0), 1, ⟨6, suX n 1 0, n, false, false, false⟩⟩ := by
    show matE 900 0 ⟨kN, 0, emp, moment 5 0, 0, 0, false, false⟩ (S (Lib.decDigits n)) = _
    rw [matE_num hn rfl]; rfl
  rw [h1]; rfl
theorem su_live (n cas : Nat) (last now : Int) : (some (suX n cas last)).filter (fun x => !gone now x) = some (suX n cas last) := by simp [Option.filter, gone, suX]
theorem su_two {n d m : Nat} {dn : Bool} (hn : n < 18446744073709551616) (hm : m < 18446744073709551616) (h : (if dn then n - d else (n + d) % 18446744073709551616) = m) : apply ⟨[suX n 1 0], 1, 0⟩ 5 (cMat kN d dn) 900 = (⟨[suX m 2 0], 2, 0⟩, ⟨6, suX m 2 0, m, false, false, false⟩) := by
  refine (one_step (o := some (suX n 1 0)) (cas := 1) (now := 5) (c := cMat kN d dn) (most := 900) (fun y h => by cases h; rfl) (mat_fine kN_fine (by decide) (by decide)) (by show ¬ (3 : Int) = 6; decide)).trans ?_
  rw [su_live]
  have h1 : core 5 (cMat kN d dn) 900 1 (some (suX n 1 0)) = ⟨.put (suX m 2 0), 2, ⟨6, suX m 2 0, m, false, false, false⟩⟩ := by
    show matO 5 (cMat kN d dn) 900 1 (some (suX n 1 0)) = _
    rw [mat_up (c := cMat kN d dn) (x := suX n 1 0) (v := Lib.decDigits m) rfl rfl (by
      show (if dn then subU (S (Lib.decDigits n)).data.toList d else addU (S (Lib.decDigits n)).data.toList d) = _
      unfold subU addU
      rw [S_list, Nu.parseU_dd hn, ← h]
      cases dn <;> rfl)]
    rw [matE_num hm rfl]; rfl
  rw [h1]; rfl
def xvX (v : ByteArray) : It := ⟨kX, 0, ⟨#[120]⟩ ++ v, 0, 1, 0, false, false⟩
theorem su_bad {v : ByteArray} {d : Nat} {dn : Bool} : apply ⟨[xvX v], 1, 0⟩ 5 (cMat kX d dn) 900 = (⟨[xvX v], 1, 0⟩, An.of 7) := by
  refine (one_step (o := some (xvX v)) (cas := 1) (now := 5) (c := cMat kX d dn) (most := 900) (fun y h => by cases h; rfl) (mat_fine kX_fine (by decide) (by decide)) (by show ¬ (3 : Int) = 6; decide)).trans ?_
  have hl : (some (xvX v)).filter (fun x => !gone 5 x) = some (xvX v) := by simp [Option.filter, gone, xvX]
  rw [hl]
  have hb : Nu.parseU (xvX v).val.data.toList = none := Nu.parseU_bad (c := 120) (by
    show (120 : UInt8) ∈ ((⟨#[120]⟩ : ByteArray) ++ v).data.toList
    rw [ByteArray.data_append, Array.toList_append]
    exact List.mem_append_left _ (List.mem_cons_self)) (by decide)
  have h1 : core 5 (cMat kX d dn) 900 1 (some (xvX v)) = Out.no 1 7 := by
    show matO 5 (cMat kX d dn) 900 1 (some (xvX v)) = _
    rw [mat_bad (c := cMat kX d dn) (x := xvX v) rfl (by
      show (if dn then subU (xvX v).val.data.toList d else addU (xvX v).val.data.toList d) = _
      unfold subU addU
      rw [hb]
      cases dn <;> rfl)]
  rw [h1]; rfl
end Go.Proofs.YtkaaebjifkbclaaDoor.Md

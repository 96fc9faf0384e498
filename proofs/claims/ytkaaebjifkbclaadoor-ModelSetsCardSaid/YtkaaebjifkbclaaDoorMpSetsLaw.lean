/-
  The law ModelSets for all arguments. Conditions: numbers are in their types' ranges; the library's variables are as they begin.
-/
import Derived.Test.YtkaaebjifkbclaaDoorMpSets
import Derived.Test.YtkaaebjifkbclaaDoorMpClose
namespace Go.Proofs.YtkaaebjifkbclaaDoor.Md
open Go Go.RowKit Go.Lib

theorem sets_law (k : ByteArray) (fl : Nat) (hfl : fl ≤ 4294967295) (v : ByteArray) (e : Int) (e1 : -9223372036854775808 ≤ e) (e2 : e ≤ 9223372036854775807) (now : Int) (_ : -9223372036854775808 ≤ now) (_ : now ≤ 9223372036854775807) (later : Int) (_ : -9223372036854775808 ≤ later) (_ : later ≤ 9223372036854775807) (w : World) (hv : Nu.Vars w) :
    Calls Tryd.prog 4 #[.string k, .int .u32 fl, .string v, .int .i64 e, .int .i64 now, .int .i64 later] w fun e w' => e = .returned (.bool true) ∧ Below w.heap.size w w' := by
  have hcok : (cSto k v fl e (-1)).Ok := csto_ok hfl e1 e2 (by decide) (by decide)
  have a1 := mask32i now
  have a2 := mask32i later
  obtain ⟨T, hT⟩ : ∃ T, T = now % 4294967296 + 1 := ⟨_, rfl⟩
  obtain ⟨L, hL⟩ : ∃ L, L = later % 4294967296 := ⟨_, rfl⟩
  obtain ⟨T2, hT2⟩ : ∃ T2, T2 = T + L := ⟨_, rfl⟩
  have m1 : bits .and .i64 now 4294967295 + 1 = T := by rw [a1, hT]
  have m3 : bits .and .i64 later 4294967295 = L := by rw [a2, hL]
  have m2 : IntKind.i64.wrap T = T := by rw [IntKind.wrap_i64]; omega
  have m5 : IntKind.i64.wrap T2 = T2 := by rw [IntKind.wrap_i64]; omega
  cases hf : fine T (cSto k v fl e (-1))
  · exact sets_no hv hcok m1 m2 m3 (app_no hf)
  · by_cases hm : ((k.size + v.size : Nat) : Int) ≤ 65536
    · have hr1 := sto_new hf hm
      have hfit : Fit 1 65536 ⟨[stoX k v fl e T], 1, 0⟩ := by
        have h := (fit_no 0 65536).apply (now := T) (c := cSto k v fl e (-1)) hcok (most := 65536) (by decide)
        rw [show noMs = (⟨[], 0, 0⟩ : Ms) from rfl, hr1] at h; exact h
      have hg := get_fine (now := T2) (sto_key hf) (by omega) (by omega)
      have hmo : (stoX k v fl e T).exp = moment T e := rfl
      cases hgo : gone T2 (stoX k v fl e T)
      · refine sets_live hv hcok m1 m2 m3 hr1 hfit hT2.symm m5 (get_live hg rfl hgo rfl rfl) ?_
        unfold gone at hgo
        rw [hmo] at hgo
        unfold moment at hgo
        by_cases c0 : e = 0
        · exact .inl c0
        · right
          rw [if_neg c0] at hgo
          have hb : (e == 0) = false := beq_eq_false_iff_ne.2 c0
          by_cases c1 : e < 0
          · rw [if_pos c1] at hgo
            simp at hgo; omega
          · rw [if_neg c1] at hgo
            by_cases c2 : e ≤ 2592000
            · rw [if_pos c2] at hgo
              have h3 : L < e := by simp at hgo; omega
              exact .inl ⟨c0, hb, by omega, c2, by omega, h3, decide_eq_true h3⟩
            · rw [if_neg c2] at hgo
              have h3 : T2 < e := by simp at hgo; omega
              exact .inr ⟨c0, hb, by omega, by omega, c2, h3, decide_eq_true h3⟩
      · refine sets_gone hv hcok m1 m2 m3 hr1 hfit hT2.symm m5 (get_gone hg rfl hgo) ?_
        unfold gone at hgo
        rw [hmo] at hgo
        unfold moment at hgo
        by_cases c0 : e = 0
        · rw [if_pos c0] at hgo; simp at hgo
        · rw [if_neg c0] at hgo
          have hb : (e == 0) = false := beq_eq_false_iff_ne.2 c0
          by_cases c1 : e < 0
          · exact .inl ⟨c1, c0, hb, by omega, by omega⟩
          · rw [if_neg c1] at hgo
            by_cases c2 : e ≤ 2592000
            · rw [if_pos c2] at hgo
              have h3 : ¬ L < e := by simp at hgo; omega
              exact .inr (.inl ⟨c0, hb, by omega, c2, by omega, h3, decide_eq_false h3⟩)
            · rw [if_neg c2] at hgo
              have h3 : ¬ T2 < e := by simp at hgo; omega
              exact .inr (.inr ⟨c0, hb, by omega, by omega, c2, h3, decide_eq_false h3⟩)
    · exact sets_large hv hcok m1 m2 m3 (sto_large hf hm)
end Go.Proofs.YtkaaebjifkbclaaDoor.Md

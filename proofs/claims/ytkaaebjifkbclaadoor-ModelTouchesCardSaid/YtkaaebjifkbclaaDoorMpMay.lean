/-
  The contract of the program's own mayBe: may a command be? No conditions.
-/
import Derived.Test.YtkaaebjifkbclaaDoorBaseB
namespace Go.Proofs.YtkaaebjifkbclaaDoor.Md
open Go Go.RowKit Go.Lib

set_option maxRecDepth 100000 in
theorem sec_any (e : Int) (w : World) : Calls Tryd.prog 43 #[.int .i64 e] w fun x w' => x = .returned (.bool (farM e)) ∧ w = w' := by
  by_cases h1 : -1099511627776 ≤ e
  · by_cases h2 : e ≤ 1099511627776
    · have HM : Hid (farM e = true) := hid (by unfold farM; rw [decide_eq_true h1, decide_eq_true h2]; rfl)
      go_enter Tryd.func43, Tryd.ntmps43
      go_wp2_with fail
      go_ret
      exact ⟨ret_bool HM.out.symm, rfl⟩
    · have HM : Hid (farM e = false) := hid (by unfold farM; rw [decide_eq_true h1, decide_eq_false h2]; rfl)
      go_enter Tryd.func43, Tryd.ntmps43
      go_wp2_with fail
      go_ret
      exact ⟨ret_bool HM.out.symm, rfl⟩
  · have HM : Hid (farM e = false) := hid (by unfold farM; rw [decide_eq_false h1]; rfl)
    go_enter Tryd.func43, Tryd.ntmps43
    go_wp2_with fail
    go_ret
    exact ⟨ret_bool HM.out.symm, rfl⟩
set_option maxRecDepth 100000 in
set_option maxHeartbeats 4000000 in
theorem may_any (c : Cm) (w : World) : Calls Tryd.prog 30 #[c.v] w fun e w' => e = .returned (.bool (may c)) ∧ Below w.heap.size w w' := by
  obtain ⟨op, mode, k, v, fl, exp, hx, cs, hc, de, ini, dn, vv, vive, rc, iv⟩ := c
  show Calls Tryd.prog 30 #[.agg #[.int .i64 op, .int .i64 mode, .string k, .string v, .int .u32 fl, .int .i64 exp, .bool hx, .int .u64 cs, .bool hc, .int .u64 de, .int .u64 ini, .bool dn, .bool vv, .int .i64 vive, .int .i64 rc, .bool iv]] w fun e w' => e = .returned (.bool (may ⟨op, mode, k, v, fl, exp, hx, cs, hc, de, ini, dn, vv, vive, rc, iv⟩)) ∧ Below w.heap.size w w'
  have HB := hid (abelow w)
  have hk := fun W => key_any k W
  have he := fun W => sec_any exp W
  have hv := fun W => sec_any vive W
  have hr := fun W => sec_any rc W
  generalize hkB : keyB k.data.toList = K at hk
  generalize hE : farM exp = E at he
  generalize hV : farM vive = V at hv
  generalize hR : farM rc = R at hr
  by_cases o1 : 1 ≤ op
  · by_cases o7 : op ≤ 7
    · by_cases o6 : op = 6
      · subst o6
        by_cases m0 : 0 ≤ mode
        · by_cases m4 : mode ≤ 4
          · by_cases vs : (v.size : Int) ≤ 65536
            · cases E
              · have HM : Hid (may ⟨6, mode, k, v, fl, exp, hx, cs, hc, de, ini, dn, vv, vive, rc, iv⟩ = false) := hid (by unfold may; dsimp only; simp [*])
                clear hkB hE hV hR
                go_enter Tryd.func30, Tryd.ntmps30
                go_wp2_with fail
                refine (he _).mono ?_
                rintro e w1 ⟨rfl, rfl⟩
                go_wp2_with fail
                go_ret
                exact ⟨ret_bool HM.out.symm, HB.out _⟩
              · cases V
                · have HM : Hid (may ⟨6, mode, k, v, fl, exp, hx, cs, hc, de, ini, dn, vv, vive, rc, iv⟩ = false) := hid (by unfold may; dsimp only; simp [*])
                  clear hkB hE hV hR
                  go_enter Tryd.func30, Tryd.ntmps30
                  go_wp2_with fail
                  refine (he _).mono ?_
                  rintro e w1 ⟨rfl, rfl⟩
                  go_wp2_with fail
                  refine (hv _).mono ?_
                  rintro e w1 ⟨rfl, rfl⟩
                  go_wp2_with fail
                  go_ret
                  exact ⟨ret_bool HM.out.symm, HB.out _⟩
                · cases R
                  · have HM : Hid (may ⟨6, mode, k, v, fl, exp, hx, cs, hc, de, ini, dn, vv, vive, rc, iv⟩ = false) := hid (by unfold may; dsimp only; simp [*])
                    clear hkB hE hV hR
                    go_enter Tryd.func30, Tryd.ntmps30
                    go_wp2_with fail
                    refine (he _).mono ?_
                    rintro e w1 ⟨rfl, rfl⟩
                    go_wp2_with fail
                    refine (hv _).mono ?_
                    rintro e w1 ⟨rfl, rfl⟩
                    go_wp2_with fail
                    refine (hr _).mono ?_
                    rintro e w1 ⟨rfl, rfl⟩
                    go_wp2_with fail
                    go_ret
                    exact ⟨ret_bool HM.out.symm, HB.out _⟩
                  · have HM : Hid (may ⟨6, mode, k, v, fl, exp, hx, cs, hc, de, ini, dn, vv, vive, rc, iv⟩ = true) := hid (by have vs' : v.size ≤ 65536 := (by omega); unfold may; dsimp only; simp [*])
                    clear hkB hE hV hR
                    go_enter Tryd.func30, Tryd.ntmps30
                    go_wp2_with fail
                    refine (he _).mono ?_
                    rintro e w1 ⟨rfl, rfl⟩
                    go_wp2_with fail
                    refine (hv _).mono ?_
                    rintro e w1 ⟨rfl, rfl⟩
                    go_wp2_with fail
                    refine (hr _).mono ?_
                    rintro e w1 ⟨rfl, rfl⟩
                    go_wp2_with fail
                    go_ret
                    exact ⟨ret_bool HM.out.symm, HB.out _⟩
            · have HM : Hid (may ⟨6, mode, k, v, fl, exp, hx, cs, hc, de, ini, dn, vv, vive, rc, iv⟩ = false) := hid (by have vs' : ¬ v.size ≤ 65536 := (by omega); unfold may; dsimp only; simp [*])
              clear hkB hE hV hR
              go_enter Tryd.func30, Tryd.ntmps30
              go_wp2_with fail
              go_ret
              exact ⟨ret_bool HM.out.symm, HB.out _⟩
          · have HM : Hid (may ⟨6, mode, k, v, fl, exp, hx, cs, hc, de, ini, dn, vv, vive, rc, iv⟩ = false) := hid (by unfold may; dsimp only; simp [*])
            clear hkB hE hV hR
            go_enter Tryd.func30, Tryd.ntmps30
            go_wp2_with fail
            go_ret
            exact ⟨ret_bool HM.out.symm, HB.out _⟩
        · have HM : Hid (may ⟨6, mode, k, v, fl, exp, hx, cs, hc, de, ini, dn, vv, vive, rc, iv⟩ = false) := hid (by unfold may; dsimp only; simp [*])
          clear hkB hE hV hR
          go_enter Tryd.func30, Tryd.ntmps30
          go_wp2_with fail
          go_ret
          exact ⟨ret_bool HM.out.symm, HB.out _⟩
      · have o6' : (op == 6) = false := beq_eq_false_iff_ne.2 o6
        cases K
        · have HM : Hid (may ⟨op, mode, k, v, fl, exp, hx, cs, hc, de, ini, dn, vv, vive, rc, iv⟩ = false) := hid (by unfold may; dsimp only; simp [*])
          clear hkB hE hV hR
          go_enter Tryd.func30, Tryd.ntmps30
          go_wp2_with fail
          refine (hk _).mono ?_
          rintro e w1 ⟨rfl, rfl⟩
          go_wp2_with fail
          go_ret
          exact ⟨ret_bool HM.out.symm, HB.out _⟩
        · by_cases m0 : 0 ≤ mode
          · by_cases m4 : mode ≤ 4
            · by_cases vs : (v.size : Int) ≤ 65536
              · cases E
                · have HM : Hid (may ⟨op, mode, k, v, fl, exp, hx, cs, hc, de, ini, dn, vv, vive, rc, iv⟩ = false) := hid (by unfold may; dsimp only; simp [*])
                  clear hkB hE hV hR
                  go_enter Tryd.func30, Tryd.ntmps30
                  go_wp2_with fail
                  refine (hk _).mono ?_
                  rintro e w1 ⟨rfl, rfl⟩
                  go_wp2_with fail
                  refine (he _).mono ?_
                  rintro e w1 ⟨rfl, rfl⟩
                  go_wp2_with fail
                  go_ret
                  exact ⟨ret_bool HM.out.symm, HB.out _⟩
                · cases V
                  · have HM : Hid (may ⟨op, mode, k, v, fl, exp, hx, cs, hc, de, ini, dn, vv, vive, rc, iv⟩ = false) := hid (by unfold may; dsimp only; simp [*])
                    clear hkB hE hV hR
                    go_enter Tryd.func30, Tryd.ntmps30
                    go_wp2_with fail
                    refine (hk _).mono ?_
                    rintro e w1 ⟨rfl, rfl⟩
                    go_wp2_with fail
                    refine (he _).mono ?_
                    rintro e w1 ⟨rfl, rfl⟩
                    go_wp2_with fail
                    refine (hv _).mono ?_
                    rintro e w1 ⟨rfl, rfl⟩
                    go_wp2_with fail
                    go_ret
                    exact ⟨ret_bool HM.out.symm, HB.out _⟩
                  · cases R
                    · have HM : Hid (may ⟨op, mode, k, v, fl, exp, hx, cs, hc, de, ini, dn, vv, vive, rc, iv⟩ = false) := hid (by unfold may; dsimp only; simp [*])
                      clear hkB hE hV hR
                      go_enter Tryd.func30, Tryd.ntmps30
                      go_wp2_with fail
                      refine (hk _).mono ?_
                      rintro e w1 ⟨rfl, rfl⟩
                      go_wp2_with fail
                      refine (he _).mono ?_
                      rintro e w1 ⟨rfl, rfl⟩
                      go_wp2_with fail
                      refine (hv _).mono ?_
                      rintro e w1 ⟨rfl, rfl⟩
                      go_wp2_with fail
                      refine (hr _).mono ?_
                      rintro e w1 ⟨rfl, rfl⟩
                      go_wp2_with fail
                      go_ret
                      exact ⟨ret_bool HM.out.symm, HB.out _⟩
                    · have HM : Hid (may ⟨op, mode, k, v, fl, exp, hx, cs, hc, de, ini, dn, vv, vive, rc, iv⟩ = true) := hid (by have vs' : v.size ≤ 65536 := (by omega); unfold may; dsimp only; simp [*])
                      clear hkB hE hV hR
                      go_enter Tryd.func30, Tryd.ntmps30
                      go_wp2_with fail
                      refine (hk _).mono ?_
                      rintro e w1 ⟨rfl, rfl⟩
                      go_wp2_with fail
                      refine (he _).mono ?_
                      rintro e w1 ⟨rfl, rfl⟩
                      go_wp2_with fail
                      refine (hv _).mono ?_
                      rintro e w1 ⟨rfl, rfl⟩
                      go_wp2_with fail
                      refine (hr _).mono ?_
                      rintro e w1 ⟨rfl, rfl⟩
                      go_wp2_with fail
                      go_ret
                      exact ⟨ret_bool HM.out.symm, HB.out _⟩
              · have HM : Hid (may ⟨op, mode, k, v, fl, exp, hx, cs, hc, de, ini, dn, vv, vive, rc, iv⟩ = false) := hid (by have vs' : ¬ v.size ≤ 65536 := (by omega); unfold may; dsimp only; simp [*])
                clear hkB hE hV hR
                go_enter Tryd.func30, Tryd.ntmps30
                go_wp2_with fail
                refine (hk _).mono ?_
                rintro e w1 ⟨rfl, rfl⟩
                go_wp2_with fail
                go_ret
                exact ⟨ret_bool HM.out.symm, HB.out _⟩
            · have HM : Hid (may ⟨op, mode, k, v, fl, exp, hx, cs, hc, de, ini, dn, vv, vive, rc, iv⟩ = false) := hid (by unfold may; dsimp only; simp [*])
              clear hkB hE hV hR
              go_enter Tryd.func30, Tryd.ntmps30
              go_wp2_with fail
              refine (hk _).mono ?_
              rintro e w1 ⟨rfl, rfl⟩
              go_wp2_with fail
              go_ret
              exact ⟨ret_bool HM.out.symm, HB.out _⟩
          · have HM : Hid (may ⟨op, mode, k, v, fl, exp, hx, cs, hc, de, ini, dn, vv, vive, rc, iv⟩ = false) := hid (by unfold may; dsimp only; simp [*])
            clear hkB hE hV hR
            go_enter Tryd.func30, Tryd.ntmps30
            go_wp2_with fail
            refine (hk _).mono ?_
            rintro e w1 ⟨rfl, rfl⟩
            go_wp2_with fail
            go_ret
            exact ⟨ret_bool HM.out.symm, HB.out _⟩
    · have HM : Hid (may ⟨op, mode, k, v, fl, exp, hx, cs, hc, de, ini, dn, vv, vive, rc, iv⟩ = false) := hid (by unfold may; dsimp only; simp [*])
      clear hkB hE hV hR
      go_enter Tryd.func30, Tryd.ntmps30
      go_wp2_with fail
      go_ret
      exact ⟨ret_bool HM.out.symm, HB.out _⟩
  · have HM : Hid (may ⟨op, mode, k, v, fl, exp, hx, cs, hc, de, ini, dn, vv, vive, rc, iv⟩ = false) := hid (by unfold may; dsimp only; simp [*])
    clear hkB hE hV hR
    go_enter Tryd.func30, Tryd.ntmps30
    go_wp2_with fail
    go_ret
    exact ⟨ret_bool HM.out.symm, HB.out _⟩
end Go.Proofs.YtkaaebjifkbclaaDoor.Md

/-
  The contract of remove. Conditions: the items stand in order, and are not over many; now is a moment; the item is there.
-/
import Derived.Test.YtpgljahomeebhaaDoorMpOps
namespace Go.Proofs.YtpgljahomeebhaaDoor.Md
open Go Go.RowKit Go.Lib

def Wk.rem (s : Wk) : An × Wk :=
  if s.oth then (An.of 4, s)
  else if s.c.inv then (An.is 9 { s.x with stale := true, won := false, exp := s.nexp, cas := bump s.cas }, { s with cas := bump s.cas, l := s.kept { s.x with stale := true, won := false, exp := s.nexp, cas := bump s.cas } })
  else (An.of 9, { s with l := s.l.eraseIdx s.ix.toNat })
section
variable {B : Nat} {F : Nat → Prop} {s : Wk} {w : World}
set_option maxHeartbeats 1000000 in
set_option maxRecDepth 100000 in
theorem wk_remove (h : WP B F s w) (hs : Sorted s.l) (hlen : s.l.length ≤ 4194304) (hi : s.ix < s.l.length) (h0 : 0 ≤ s.ix) (n1 : 1 ≤ s.now) (n2 : s.now ≤ 1099511627776) :
    Calls Tryd.prog 55 #[.pointer (some ⟨B, 0, none⟩)] w fun e w' => e = .returned s.rem.1.v ∧ ∃ F', WP B F' s.rem.2 w' ∧ Stp F F' w w' := by
  obtain ⟨k, hk⟩ : ∃ k : Nat, s.ix = (k : Int) := ⟨s.ix.toNat, by omega⟩
  have hkt : s.ix.toNat = k := by omega
  have hkl : k < s.l.length := by omega
  obtain ⟨C, hC⟩ : ∃ C, C = bump s.cas := ⟨_, rfl⟩
  obtain ⟨M, hM⟩ : ∃ M, M = s.nexp := ⟨_, rfl⟩
  have hmo := fun W (hW : WR B s W) => wk_nexp hW n1 n2
  have hkp := fun W (hW : WP B F s W) => wk_anew hW hs hlen hi 9 { s.x with stale := true, won := false, exp := M }
  simp only [an_lit] at hkp
  have hot := fun W (hW : WR B s W) => wk_oth hW
  rw [← hM] at hmo
  simp only [← hC] at hkp
  obtain ⟨R, hR⟩ : ∃ R, R = s.rem := ⟨_, rfl⟩
  rw [← hR]
  have HR : Hid (R = if s.oth then (An.of 4, s) else if s.c.inv then (An.mk 9 (It.mk s.x.key s.x.flags s.x.val M C s.x.last true false) 0 false false false, { s with cas := C, l := s.kept { s.x with stale := true, won := false, exp := M, cas := C } }) else (An.of 9, { s with l := s.l.eraseIdx k })) := hid (by rw [hR, hC, hM, ← hkt]; rfl)
  have hdel : Hid (∀ W, WP B F s W → ∃ v c, (W.cell? ⟨B, 0, none⟩ = some (.slice v s.l.length c) ∧ W.cell? ⟨B, 21, none⟩ = some (.int .i64 k)) ∧ Calls Tryd.prog 69 #[.slice v s.l.length c, .int .i64 k, .int .i64 ((k : Int) + 1)] W fun e w' => ∃ a' n' c', e = .returned (.slice a' n' c') ∧ Hid (((w'.cell? ⟨B, 0, none⟩ = some (.slice v s.l.length c) ∧ w'.cell? ⟨B, 21, none⟩ = some (.int .i64 k)) ∧ w'.frozen? ⟨B, 0, none⟩ = false) ∧ WP B F { s with l := s.l.eraseIdx k } (w'.setCell ⟨B, 0, none⟩ (.slice a' n' c')) ∧ Stp F F W (w'.setCell ⟨B, 0, none⟩ (.slice a' n' c')))) := hid (fun W hW => by
    obtain ⟨v, G, hB, hR, hFB, hGB, hGF, hFl⟩ := hW
    obtain ⟨a, c, rfl⟩ := hR.form
    have hB21 := hB.cell (i := 21) rfl
    change W.cell? ⟨B, 21, none⟩ = some (.int .i64 s.ix) at hB21
    rw [hk] at hB21
    refine ⟨a, c, ⟨hB.cell (i := 0) rfl, hB21⟩, (delete_any hR hlen k hkl).mono ?_⟩
    rintro e w' ⟨v', rfl, h1, h2⟩
    obtain ⟨a', c', rfl⟩ := h1.form
    have hB2 := hB.only h2 hGB
    have hc2 := hB2.cell (i := 21) rfl
    change w'.cell? ⟨B, 21, none⟩ = some (.int .i64 s.ix) at hc2
    rw [hk] at hc2
    have ho2 : Only (fun b => b = B) w' (w'.setCell ⟨B, 0, none⟩ (.slice a' (s.l.eraseIdx k).length c')) := Only.setCell (D := fun b => b = B) (Only.refl _ _) (p := ⟨B, 0, none⟩) (.inl rfl) _
    have hz : (w'.setCell ⟨B, 0, none⟩ (.slice a' (s.l.eraseIdx k).length c')).heap.size = w'.heap.size := by simp [World.setCell]
    refine ⟨_, _, _, rfl, hid ⟨⟨⟨hB2.cell (i := 0) rfl, hc2⟩, hB2.frozen 0⟩, ⟨_, G, hB2.set 0 _, h1.only ho2 (fun b hb e => hGB (by rw [← e]; exact hb)), hFB, hGB, fun b hb => ⟨(hGF b hb).1, by rw [hz]; exact Nat.lt_of_lt_of_le (hGF b hb).2 h2.size⟩, fun b hb => by rw [hz]; exact Nat.lt_of_lt_of_le (hFl b hb) h2.size⟩, ⟨(h2.mono (fun b hb => (hGF b hb).1)).trans ho2 (fun b hb => .inl (by rw [hb]; exact hFB)), fun b hb => .inl hb⟩⟩⟩)
  have HL := hid hlen
  have hk4 : (k : Int) < 4194304 := by omega
  clear hR hM hC hs hi h0 n1 n2 hk hkt hkl
  --GEN open
  obtain ⟨A, hA⟩ : ∃ A, A = w.heap.size := ⟨_, rfl⟩
  obtain ⟨W1, h1⟩ : ∃ W1, w.alloc (.cells #[.int .i64 0, .string ⟨#[]⟩, .int .u32 0, .string ⟨#[]⟩, .int .i64 0, .int .u64 0, .int .i64 0, .bool false, .bool false, .int .u64 0, .bool false, .bool false, .bool false] 35) = W1 := ⟨_, rfl⟩
  have hb1 : Below w.heap.size w W1 := by rw [← h1]; exact abelow _ _
  have HA : Hid (Ka w.heap.size A F [.int .i64 0, .string ⟨#[]⟩, .int .u32 0, .string ⟨#[]⟩, .int .i64 0, .int .u64 0, .int .i64 0, .bool false, .bool false, .int .u64 0, .bool false, .bool false, .bool false] W1) := hid (by rw [← h1, hA]; exact Ka.begin h.lt #[.int .i64 0, .string ⟨#[]⟩, .int .u32 0, .string ⟨#[]⟩, .int .i64 0, .int .u64 0, .int .i64 0, .bool false, .bool false, .int .u64 0, .bool false, .bool false, .bool false])
  have HW := hid (h.below hb1)
  have HS : Hid (Stp F F w W1) := hid (Stp.of_below hb1)
  rw [eq_comm] at hA
  clear h hb1
  go_enter Tryd.func55, Tryd.ntmps55
  go_upto_region 1 with fail
  clear h1
  have ho1 := hot W1 HW.out.head
  clear hot
  go_wp2_with fail
  refine ho1.mono ?_
  rintro e W2 ⟨rfl, hb2⟩
  have HA2 := hid (HA.out.step hb2)
  have HW2 := hid (HW.out.below hb2)
  have HS2 := hid (HS.out.below hb2)
  clear hb2 HA HW HS ho1
  --END
  cases ho : s.oth
  · obtain ⟨v, G, hB, -⟩ := HW2.out
    have b18 := hB.cell (i := 18) rfl
    change W2.cell? ⟨B, 18, none⟩ = some (.bool s.c.inv) at b18
    clear hB
    cases hv : s.c.inv
    · have hR3 : R = (An.of 9, { s with l := s.l.eraseIdx k }) := by rw [HR.out, ho, hv]; rfl
      rw [hv] at b18
      clear HR ho hkp hv hmo
      subst hR3
      obtain ⟨a, c, ⟨d0, d1⟩, hcall⟩ := hdel.out W2.drew (HW2.out.below (Below.drew (Below.refl _ W2)))
      clear hdel
      generalize s.l.length = N at *
      have qk : IntKind.i64.wrap ((k : Int) + 1) = (k : Int) + 1 := by rw [IntKind.wrap_i64]; omega
      go_wp2_with fail
      obtain ⟨S, hSd⟩ : ∃ S : World → Prop, S = fun W => W.cell? ⟨B, 0, none⟩ = some (.slice a N c) ∧ W.cell? ⟨B, 21, none⟩ = some (.int .i64 k) := ⟨_, rfl⟩
      have hS : S W2.drew := by rw [hSd]; exact ⟨d0, d1⟩
      refine wp_region_E S 19 (by kernel_rfl) ?_
      --GEN takes
      refine wpAnyE_take (i := 0) (v := .pointer (some ⟨B, 0, none⟩)) rfl (by kernel_rfl) (by kernel_rfl) (by kernel_rfl) (fun _ _ _ h => h) (by kernel_rfl) (by kernel_rfl) hS (Or.inl ⟨by rfl, ?_⟩) ?_
      · intro w' hw'
        rw [hSd] at hw'; obtain ⟨s0, s1⟩ := hw'
        go_simp
      refine wpAnyE_take (i := 1) (v := .pointer (some ⟨B, 0, none⟩)) rfl (by kernel_rfl) (by kernel_rfl) (by kernel_rfl) (fun _ _ _ h => h) (by kernel_rfl) (by kernel_rfl) hS (Or.inl ⟨by rfl, ?_⟩) ?_
      · intro w' hw'
        rw [hSd] at hw'; obtain ⟨s0, s1⟩ := hw'
        go_simp
      refine wpAnyE_take (i := 2) (v := .pointer (some ⟨B, 0, none⟩)) rfl (by kernel_rfl) (by kernel_rfl) (by kernel_rfl) (fun _ _ _ h => h) (by kernel_rfl) (by kernel_rfl) hS (Or.inl ⟨by rfl, ?_⟩) ?_
      · intro w' hw'
        rw [hSd] at hw'; obtain ⟨s0, s1⟩ := hw'
        go_simp
      refine wpAnyE_take (i := 3) (v := .pointer (some ⟨B, 0, none⟩)) rfl (by kernel_rfl) (by kernel_rfl) (by kernel_rfl) (fun _ _ _ h => h) (by kernel_rfl) (by kernel_rfl) hS (Or.inl ⟨by rfl, ?_⟩) ?_
      · intro w' hw'
        rw [hSd] at hw'; obtain ⟨s0, s1⟩ := hw'
        go_simp
      refine wpAnyE_take (i := 4) (v := .pointer (some ⟨B, 0, none⟩)) rfl (by kernel_rfl) (by kernel_rfl) (by kernel_rfl) (fun _ _ _ h => h) (by kernel_rfl) (by kernel_rfl) hS (Or.inl ⟨by rfl, ?_⟩) ?_
      · intro w' hw'
        rw [hSd] at hw'; obtain ⟨s0, s1⟩ := hw'
        go_simp
      refine wpAnyE_take (i := 5) (v := .slice a N c) rfl (by kernel_rfl) (by kernel_rfl) (by kernel_rfl) (fun _ _ _ h => h) (by kernel_rfl) (by kernel_rfl) hS (Or.inl ⟨by rfl, ?_⟩) ?_
      · intro w' hw'
        rw [hSd] at hw'; obtain ⟨s0, s1⟩ := hw'
        go_simp
      refine wpAnyE_take (i := 6) (v := .pointer (some ⟨B, 0, none⟩)) rfl (by kernel_rfl) (by kernel_rfl) (by kernel_rfl) (fun _ _ _ h => h) (by kernel_rfl) (by kernel_rfl) hS (Or.inl ⟨by rfl, ?_⟩) ?_
      · intro w' hw'
        rw [hSd] at hw'; obtain ⟨s0, s1⟩ := hw'
        go_simp
      refine wpAnyE_take (i := 7) (v := .pointer (some ⟨B, 0, none⟩)) rfl (by kernel_rfl) (by kernel_rfl) (by kernel_rfl) (fun _ _ _ h => h) (by kernel_rfl) (by kernel_rfl) hS (Or.inl ⟨by rfl, ?_⟩) ?_
      · intro w' hw'
        rw [hSd] at hw'; obtain ⟨s0, s1⟩ := hw'
        go_simp
      refine wpAnyE_take (i := 8) (v := .pointer (some ⟨B, 21, none⟩)) rfl (by kernel_rfl) (by kernel_rfl) (by kernel_rfl) (fun _ _ _ h => h) (by kernel_rfl) (by kernel_rfl) hS (Or.inl ⟨by rfl, ?_⟩) ?_
      · intro w' hw'
        rw [hSd] at hw'; obtain ⟨s0, s1⟩ := hw'
        go_simp
      refine wpAnyE_take (i := 9) (v := .int .i64 (k : Int)) rfl (by kernel_rfl) (by kernel_rfl) (by kernel_rfl) (fun _ _ _ h => h) (by kernel_rfl) (by kernel_rfl) hS (Or.inl ⟨by rfl, ?_⟩) ?_
      · intro w' hw'
        rw [hSd] at hw'; obtain ⟨s0, s1⟩ := hw'
        go_simp
      refine wpAnyE_take (i := 10) (v := .pointer (some ⟨B, 0, none⟩)) rfl (by kernel_rfl) (by kernel_rfl) (by kernel_rfl) (fun _ _ _ h => h) (by kernel_rfl) (by kernel_rfl) hS (Or.inl ⟨by rfl, ?_⟩) ?_
      · intro w' hw'
        rw [hSd] at hw'; obtain ⟨s0, s1⟩ := hw'
        go_simp
      refine wpAnyE_take (i := 11) (v := .pointer (some ⟨B, 0, none⟩)) rfl (by kernel_rfl) (by kernel_rfl) (by kernel_rfl) (fun _ _ _ h => h) (by kernel_rfl) (by kernel_rfl) hS (Or.inl ⟨by rfl, ?_⟩) ?_
      · intro w' hw'
        rw [hSd] at hw'; obtain ⟨s0, s1⟩ := hw'
        go_simp
      refine wpAnyE_take (i := 12) (v := .pointer (some ⟨B, 21, none⟩)) rfl (by kernel_rfl) (by kernel_rfl) (by kernel_rfl) (fun _ _ _ h => h) (by kernel_rfl) (by kernel_rfl) hS (Or.inl ⟨by rfl, ?_⟩) ?_
      · intro w' hw'
        rw [hSd] at hw'; obtain ⟨s0, s1⟩ := hw'
        go_simp
      refine wpAnyE_take (i := 13) (v := .int .i64 (k : Int)) rfl (by kernel_rfl) (by kernel_rfl) (by kernel_rfl) (fun _ _ _ h => h) (by kernel_rfl) (by kernel_rfl) hS (Or.inl ⟨by rfl, ?_⟩) ?_
      · intro w' hw'
        rw [hSd] at hw'; obtain ⟨s0, s1⟩ := hw'
        go_simp
      refine wpAnyE_take (i := 14) (v := .int .i64 ((k : Int) + 1)) rfl (by kernel_rfl) (by kernel_rfl) (by kernel_rfl) (fun _ _ _ h => h) (by kernel_rfl) (by kernel_rfl) hS (Or.inl ⟨by rfl, ?_⟩) ?_
      · intro w' hw'
        rw [hSd] at hw'; obtain ⟨s0, s1⟩ := hw'
        go_simp
      --END
      clear d0 d1
      refine wpAnyE_one (i := 15) rfl (by kernel_rfl) (fun K hK => ?_)
      go_simp
      refine hcall.mono ?_
      rintro e W3 ⟨a', n', c', rfl, HX⟩
      obtain ⟨⟨⟨e0, e1⟩, f0⟩, -⟩ := HX.out
      have hS3 : S W3 := by rw [hSd]; exact ⟨e0, e1⟩
      refine hK _ _ (fun _ => hS3) ?_
      clear hK K hcall
      refine wpAnyE_one (i := 16) rfl (by kernel_rfl) (fun K hK => ?_)
      go_simp
      refine hK _ _ (fun _ => hS3) ?_
      clear hK K
      refine wpAnyE_one (i := 17) rfl (by kernel_rfl) (fun K hK => ?_)
      go_simp
      refine hK _ _ (fun _ => hS3) ?_
      clear hK K
      refine wpAnyE_one (i := 18) rfl (by kernel_rfl) (fun K hK => ?_)
      go_simp
      refine hK _ _ (fun _ => hS3) ?_
      clear hK K
      refine wpAnyE_one (i := 19) rfl (by kernel_rfl) (fun K hK => ?_)
      go_simp
      have hb2 := Below.drew (Below.refl W2.heap.size W2)
      have HA4 := hid ((HA2.out.stp (Stp.ahead hb2 HX.out.2.2)))
      have HW4 := hid HX.out.2.1
      have HS4 := hid (HS2.out.trans (Stp.ahead hb2 HX.out.2.2))
      refine hK _ (W3.setCell ⟨B, 0, none⟩ (.slice a' n' c')) (fun h => (by cases (show true = false from h))) (wpAnyE_done (by kernel_rfl) ?_ _)
      clear hK K hS3 e0 e1 f0 hS hSd HX hb2 HA2 HW2 HS2
      generalize W3.setCell ⟨B, 0, none⟩ (.slice a' n' c') = W4 at *
      --GEN f2
      have e0 := HA4.out.ba.cell (i := 0) rfl
      have f0 := HA4.out.ba.frozen 0
      have e1 := HA4.out.ba.cell (i := 1) rfl
      have f1 := HA4.out.ba.frozen 1
      have e2 := HA4.out.ba.cell (i := 2) rfl
      have f2 := HA4.out.ba.frozen 2
      have e3 := HA4.out.ba.cell (i := 3) rfl
      have f3 := HA4.out.ba.frozen 3
      have e4 := HA4.out.ba.cell (i := 4) rfl
      have f4 := HA4.out.ba.frozen 4
      have e5 := HA4.out.ba.cell (i := 5) rfl
      have f5 := HA4.out.ba.frozen 5
      have e6 := HA4.out.ba.cell (i := 6) rfl
      have f6 := HA4.out.ba.frozen 6
      have e7 := HA4.out.ba.cell (i := 7) rfl
      have f7 := HA4.out.ba.frozen 7
      have e8 := HA4.out.ba.cell (i := 8) rfl
      have f8 := HA4.out.ba.frozen 8
      have e9 := HA4.out.ba.cell (i := 9) rfl
      have f9 := HA4.out.ba.frozen 9
      have e10 := HA4.out.ba.cell (i := 10) rfl
      have f10 := HA4.out.ba.frozen 10
      have e11 := HA4.out.ba.cell (i := 11) rfl
      have f11 := HA4.out.ba.frozen 11
      have e12 := HA4.out.ba.cell (i := 12) rfl
      have f12 := HA4.out.ba.frozen 12
      go_wp2_with fail
      change bodyPost _ _ _ _ _ (stc W4 A (An.of 9).cells 0)
      exact bodyPost_ret (res_ans (a := An.of 9) rfl (stc_all HA4.out.ba rfl) rfl) rfl ⟨rfl, F, wp_stc HW4.out HA4.out.na _ _, stp_stc HS4.out HA4.out.ga _ _⟩
      --END
    · have hR3 : R = (An.mk 9 (It.mk s.x.key s.x.flags s.x.val M C s.x.last true false) 0 false false false, { s with cas := C, l := s.kept { s.x with stale := true, won := false, exp := M, cas := C } }) := by rw [HR.out, ho, hv]; rfl
      rw [hv] at b18
      clear HR ho hv hdel
      subst hR3
      --GEN inval
      go_upto_region 6 with fail
      clear b18
      obtain ⟨X, hX⟩ : ∃ X, W2.heap.size = X := ⟨_, rfl⟩
      obtain ⟨W3, h2⟩ : ∃ W3, W2.alloc (.cells #[.string s.x.key, .int .u32 s.x.flags, .string s.x.val, .int .i64 s.x.exp, .int .u64 s.x.cas, .int .i64 s.x.last, .bool s.x.stale, .bool s.x.won] 33) = W3 := ⟨_, rfl⟩
      have hb2 : Below W2.heap.size W2 W3 := by rw [← h2]; exact abelow _ _
      have HB3 : Hid (Kb w.heap.size A X F [.int .i64 0, .string ⟨#[]⟩, .int .u32 0, .string ⟨#[]⟩, .int .i64 0, .int .u64 0, .int .i64 0, .bool false, .bool false, .int .u64 0, .bool false, .bool false, .bool false] [.string s.x.key, .int .u32 s.x.flags, .string s.x.val, .int .i64 s.x.exp, .int .u64 s.x.cas, .int .i64 s.x.last, .bool s.x.stale, .bool s.x.won] W3) := hid (by rw [← h2, ← hX]; exact Kb.begin HA2.out HW2.out.lt #[.string s.x.key, .int .u32 s.x.flags, .string s.x.val, .int .i64 s.x.exp, .int .u64 s.x.cas, .int .i64 s.x.last, .bool s.x.stale, .bool s.x.won])
      have HW3 := hid (HW2.out.below hb2)
      have HS3 := hid (HS2.out.below hb2)
      have H2 := hid h2
      obtain ⟨v, G, hB, -⟩ := HW2.out
      have b22 := hB.cell (i := 22) rfl
      have b23 := hB.cell (i := 23) rfl
      have b24 := hB.cell (i := 24) rfl
      have b25 := hB.cell (i := 25) rfl
      have b26 := hB.cell (i := 26) rfl
      have b27 := hB.cell (i := 27) rfl
      have b28 := hB.cell (i := 28) rfl
      have b29 := hB.cell (i := 29) rfl
      clear hB
      clear h2 hb2 HA2 HW2 HS2
      go_upto_region 7 with fail
      try rw [hX]
      try rw [H2.out]
      clear hX H2 b22 b23 b24 b25 b26 b27 b28 b29
      have hm := hmo W3 HW3.out.head
      clear hmo
      have x6 := HB3.out.bx.cell (i := 6) rfl
      have x7 := HB3.out.bx.cell (i := 7) rfl
      have x3 := HB3.out.bx.cell (i := 3) rfl
      have g6 := HB3.out.bx.frozen 6
      have g7 := HB3.out.bx.frozen 7
      have g3 := HB3.out.bx.frozen 3
      have lX := HB3.out.bx.lt
      have HB4 := hid (((HB3.out.setx 6 (.bool true)).setx 7 (.bool false)).setx 3 (.int .i64 M))
      have HW4 := hid (wp_own (wp_own (wp_own HW3.out HB3.out.nx 6 (.bool true)) HB3.out.nx 7 (.bool false)) HB3.out.nx 3 (.int .i64 M))
      have hge : w.heap.size ≤ X := by have := HB3.out.ga; have := HB3.out.gx; omega
      have HS4 := hid (stp_own (stp_own (stp_own HS3.out hge 6 (.bool true)) hge 7 (.bool false)) hge 3 (.int .i64 M))
      clear HB3 HW3 HS3 hge
      go_wp2_with fail
      refine hm.mono ?_
      rintro e _ ⟨rfl, rfl⟩
      go_upto_region 8 with fail
      generalize ((W3.setCell ⟨X, 6, none⟩ (.bool true)).setCell ⟨X, 7, none⟩ (.bool false)).setCell ⟨X, 3, none⟩ (.int .i64 M) = W4 at *
      clear hm x3 x6 x7 g3 g6 g7 lX
      have x0 := HB4.out.bx.cell (i := 0) rfl
      have x1 := HB4.out.bx.cell (i := 1) rfl
      have x2 := HB4.out.bx.cell (i := 2) rfl
      have x3 := HB4.out.bx.cell (i := 3) rfl
      have x4 := HB4.out.bx.cell (i := 4) rfl
      have x5 := HB4.out.bx.cell (i := 5) rfl
      have x6 := HB4.out.bx.cell (i := 6) rfl
      have x7 := HB4.out.bx.cell (i := 7) rfl
      have hk := hkp W4 HW4.out
      clear hkp
      go_wp2_with fail
      refine hk.mono ?_
      rintro e W5 ⟨rfl, F5, h4, k4⟩
      have HB5 := hid (HB4.out.stp k4)
      have HW5 := hid h4
      have HS5 := hid (HS4.out.trans k4)
      clear h4 k4 hk x0 x1 x2 x3 x4 x5 x6 x7 HB4 HW4 HS4 
      have e0 := HB5.out.ba.cell (i := 0) rfl
      have f0 := HB5.out.ba.frozen 0
      have e1 := HB5.out.ba.cell (i := 1) rfl
      have f1 := HB5.out.ba.frozen 1
      have e2 := HB5.out.ba.cell (i := 2) rfl
      have f2 := HB5.out.ba.frozen 2
      have e3 := HB5.out.ba.cell (i := 3) rfl
      have f3 := HB5.out.ba.frozen 3
      have e4 := HB5.out.ba.cell (i := 4) rfl
      have f4 := HB5.out.ba.frozen 4
      have e5 := HB5.out.ba.cell (i := 5) rfl
      have f5 := HB5.out.ba.frozen 5
      have e6 := HB5.out.ba.cell (i := 6) rfl
      have f6 := HB5.out.ba.frozen 6
      have e7 := HB5.out.ba.cell (i := 7) rfl
      have f7 := HB5.out.ba.frozen 7
      have e8 := HB5.out.ba.cell (i := 8) rfl
      have f8 := HB5.out.ba.frozen 8
      have e9 := HB5.out.ba.cell (i := 9) rfl
      have f9 := HB5.out.ba.frozen 9
      have e10 := HB5.out.ba.cell (i := 10) rfl
      have f10 := HB5.out.ba.frozen 10
      have e11 := HB5.out.ba.cell (i := 11) rfl
      have f11 := HB5.out.ba.frozen 11
      have e12 := HB5.out.ba.cell (i := 12) rfl
      have f12 := HB5.out.ba.frozen 12
      go_wp2_with fail
      change bodyPost _ _ _ _ _ (stc W5 A (An.mk 9 (It.mk s.x.key s.x.flags s.x.val M C s.x.last true false) 0 false false false).cells 0)
      exact bodyPost_ret (res_ans (a := An.mk 9 (It.mk s.x.key s.x.flags s.x.val M C s.x.last true false) 0 false false false) rfl (stc_all HB5.out.ba rfl) rfl) rfl ⟨rfl, F5, wp_stc HW5.out HB5.out.na _ _, stp_stc HS5.out HB5.out.ga _ _⟩
      --END
  · have hR3 : R = (An.of 4, s) := by rw [HR.out, ho]; rfl
    clear HR ho hkp hmo hdel
    subst hR3
    --GEN f1
    have e0 := HA2.out.ba.cell (i := 0) rfl
    have f0 := HA2.out.ba.frozen 0
    have e1 := HA2.out.ba.cell (i := 1) rfl
    have f1 := HA2.out.ba.frozen 1
    have e2 := HA2.out.ba.cell (i := 2) rfl
    have f2 := HA2.out.ba.frozen 2
    have e3 := HA2.out.ba.cell (i := 3) rfl
    have f3 := HA2.out.ba.frozen 3
    have e4 := HA2.out.ba.cell (i := 4) rfl
    have f4 := HA2.out.ba.frozen 4
    have e5 := HA2.out.ba.cell (i := 5) rfl
    have f5 := HA2.out.ba.frozen 5
    have e6 := HA2.out.ba.cell (i := 6) rfl
    have f6 := HA2.out.ba.frozen 6
    have e7 := HA2.out.ba.cell (i := 7) rfl
    have f7 := HA2.out.ba.frozen 7
    have e8 := HA2.out.ba.cell (i := 8) rfl
    have f8 := HA2.out.ba.frozen 8
    have e9 := HA2.out.ba.cell (i := 9) rfl
    have f9 := HA2.out.ba.frozen 9
    have e10 := HA2.out.ba.cell (i := 10) rfl
    have f10 := HA2.out.ba.frozen 10
    have e11 := HA2.out.ba.cell (i := 11) rfl
    have f11 := HA2.out.ba.frozen 11
    have e12 := HA2.out.ba.cell (i := 12) rfl
    have f12 := HA2.out.ba.frozen 12
    go_wp2_with fail
    change bodyPost _ _ _ _ _ (stc W2 A (An.of 4).cells 0)
    exact bodyPost_ret (res_ans (a := An.of 4) rfl (stc_all HA2.out.ba rfl) rfl) rfl ⟨rfl, F, wp_stc HW2.out HA2.out.na _ _, stp_stc HS2.out HA2.out.ga _ _⟩
    --END
end
end Go.Proofs.YtpgljahomeebhaaDoor.Md

/-
  The contracts of store, count. Conditions: the items stand in order, and are not over many; now is a moment; texts are not over long.
-/
import Derived.Test.YtpgljahomeebhaaDoorMpStored
namespace Go.Proofs.YtpgljahomeebhaaDoor.Md
open Go Go.RowKit Go.Lib

def Wk.sto (s : Wk) : An × Wk :=
  if s.refu ≠ 0 then (An.of s.refu, s)
  else if s.large s.std then (An.of 11, s)
  else (An.is 2 { s.std with cas := bump s.cas }, { s with cas := bump s.cas, l := s.kept { s.std with cas := bump s.cas } })
def Wk.num (s : Wk) : Option (List UInt8) := if s.c.down then Nu.subU s.x.val.data.toList s.c.delta else Nu.addU s.x.val.data.toList s.c.delta
def Wk.count (s : Wk) : An × Wk :=
  if s.oth then (An.of 4, s)
  else match s.num with
    | none => (An.of 7, s)
    | some v => s.cnt { s.x with val := S v, exp := s.nexp }
section
variable {B : Nat} {F : Nat → Prop} {s : Wk} {w w0 : World}
theorem it_lit (x : It) : x.v = .agg #[.string x.key, .int .u32 x.flags, .string x.val, .int .i64 x.exp, .int .u64 x.cas, .int .i64 x.last, .bool x.stale, .bool x.won] := rfl
theorem std_size (hk : s.x.key.size ≤ 1048576) (hck : s.c.key.size ≤ 1048576) (hv : s.x.val.size + s.c.val.size ≤ 2097152) : s.std.key.size ≤ 4194304 ∧ s.std.val.size ≤ 4194304 := by
  unfold Wk.std
  split
  · exact ⟨by show s.x.key.size ≤ _; omega, by show (s.x.val ++ s.c.val).size ≤ _; rw [ByteArray.size_append]; omega⟩
  · split
    · exact ⟨by show s.x.key.size ≤ _; omega, by show (s.c.val ++ s.x.val).size ≤ _; rw [ByteArray.size_append]; omega⟩
    · exact ⟨by show s.c.key.size ≤ _; omega, by show s.c.val.size ≤ _; omega⟩
set_option maxHeartbeats 1000000 in
set_option maxRecDepth 100000 in
theorem wk_store (h : WP B F s w) (hs : Sorted s.l) (hlen : s.l.length ≤ 4194304) (hi : s.ix < s.l.length) (n1 : 1 ≤ s.now) (n2 : s.now ≤ 1099511627776) (hk : s.x.key.size ≤ 1048576) (hck : s.c.key.size ≤ 1048576) (hv : s.x.val.size + s.c.val.size ≤ 2097152) :
    Calls Tryd.prog 49 #[.pointer (some ⟨B, 0, none⟩)] w fun e w' => e = .returned s.sto.1.v ∧ ∃ F', WP B F' s.sto.2 w' ∧ Stp F F' w w' := by
  have hz := std_size hk hck hv
  have hrf := fun W (hW : WR B s W) => wk_refusal hW
  have hst := fun W (hW : WR B s W) => wk_stored hW n1 n2 (by omega)
  have hlg := fun W (hW : WR B s W) => wk_large hW s.std hz.1 hz.2
  have hkp := fun W (hW : WP B F s W) => wk_anew hW hs hlen hi 2 s.std
  obtain ⟨R, hR⟩ : ∃ R, R = s.sto := ⟨_, rfl⟩
  rw [← hR]
  have HR := hid (show R = (if s.refu ≠ 0 then (An.of s.refu, s) else if s.large s.std then (An.of 11, s) else (An.is 2 { s.std with cas := bump s.cas }, { s with cas := bump s.cas, l := s.kept { s.std with cas := bump s.cas } })) from hR)
  clear hR hz hk hck hv hs hlen hi n1 n2
  generalize s.std = y at *
  obtain ⟨ky, fy, vy, ey, cy, ly, sy, oy⟩ := y
  obtain ⟨C, hC⟩ : ∃ C, C = bump s.cas := ⟨_, rfl⟩
  simp only [an_lit, ← hC] at hkp
  simp only [it_lit] at hst
  have HC := hid hC
  clear hC
  --GEN open
  obtain ⟨A, hA⟩ : ∃ A, A = w.heap.size := ⟨_, rfl⟩
  obtain ⟨W1, h1⟩ : ∃ W1, w.alloc (.cells #[.int .i64 0, .string ⟨#[]⟩, .int .u32 0, .string ⟨#[]⟩, .int .i64 0, .int .u64 0, .int .i64 0, .bool false, .bool false, .int .u64 0, .bool false, .bool false, .bool false] 35) = W1 := ⟨_, rfl⟩
  have hb1 : Below w.heap.size w W1 := by rw [← h1]; exact abelow _ _
  have HA : Hid (Ka w.heap.size A F [.int .i64 0, .string ⟨#[]⟩, .int .u32 0, .string ⟨#[]⟩, .int .i64 0, .int .u64 0, .int .i64 0, .bool false, .bool false, .int .u64 0, .bool false, .bool false, .bool false] W1) := hid (by rw [← h1, hA]; exact Ka.begin h.lt #[.int .i64 0, .string ⟨#[]⟩, .int .u32 0, .string ⟨#[]⟩, .int .i64 0, .int .u64 0, .int .i64 0, .bool false, .bool false, .int .u64 0, .bool false, .bool false, .bool false])
  have HW := hid (h.below hb1)
  have HS : Hid (Stp F F w W1) := hid (Stp.of_below hb1)
  rw [eq_comm] at hA
  clear h hb1
  go_enter Tryd.func49, Tryd.ntmps49
  go_upto_region 1 with fail
  clear h1
  have hrf1 := hrf W1 HW.out.head
  clear hrf
  --END
  by_cases hr : s.refu = 0
  · rw [hr] at hrf1
    --GEN go
    go_wp2_with fail
    refine hrf1.mono ?_
    rintro e W2 ⟨rfl, hb2⟩
    have HA2 := hid (HA.out.step hb2)
    have HW2 := hid (HW.out.below hb2)
    have HS2 := hid (HS.out.below hb2)
    clear hb2 HA HW HS hrf1
    have hs1 := hst W2 HW2.out.head
    clear hst
    go_wp2_with fail
    refine hs1.mono ?_
    rintro e Wq ⟨rfl, hbq⟩
    have HAq := hid (HA2.out.step hbq)
    have HWq := hid (HW2.out.below hbq)
    have HSq := hid (HS2.out.below hbq)
    clear hbq HA2 HW2 HS2 hs1
    obtain ⟨X, hX⟩ : ∃ X, Wq.heap.size = X := ⟨_, rfl⟩
    obtain ⟨W4, h2⟩ : ∃ W4, Wq.alloc (.cells #[.string ky, .int .u32 fy, .string vy, .int .i64 ey, .int .u64 cy, .int .i64 ly, .bool sy, .bool oy] 33) = W4 := ⟨_, rfl⟩
    have hb2 : Below Wq.heap.size Wq W4 := by rw [← h2]; exact abelow _ _
    have HB4 : Hid (Kb w.heap.size A X F [.int .i64 0, .string ⟨#[]⟩, .int .u32 0, .string ⟨#[]⟩, .int .i64 0, .int .u64 0, .int .i64 0, .bool false, .bool false, .int .u64 0, .bool false, .bool false, .bool false] [.string ky, .int .u32 fy, .string vy, .int .i64 ey, .int .u64 cy, .int .i64 ly, .bool sy, .bool oy] W4) := hid (by rw [← h2, ← hX]; exact Kb.begin HAq.out HWq.out.lt #[.string ky, .int .u32 fy, .string vy, .int .i64 ey, .int .u64 cy, .int .i64 ly, .bool sy, .bool oy])
    have HW4 := hid (HWq.out.below hb2)
    have HS4 := hid (HSq.out.below hb2)
    have H2 := hid h2
    clear h2 hb2 HAq HWq HSq
    go_upto_region 5 with fail
    try rw [hX]
    try rw [H2.out]
    clear hX H2
    have hl1 := hlg W4 HW4.out.head
    clear hlg
    have x0 := HB4.out.bx.cell (i := 0) rfl
    have x1 := HB4.out.bx.cell (i := 1) rfl
    have x2 := HB4.out.bx.cell (i := 2) rfl
    have x3 := HB4.out.bx.cell (i := 3) rfl
    have x4 := HB4.out.bx.cell (i := 4) rfl
    have x5 := HB4.out.bx.cell (i := 5) rfl
    have x6 := HB4.out.bx.cell (i := 6) rfl
    have x7 := HB4.out.bx.cell (i := 7) rfl
    go_wp2_with fail
    refine hl1.mono ?_
    rintro e W5 ⟨rfl, hb5⟩
    have HB5 := hid (HB4.out.step hb5)
    have HW5 := hid (HW4.out.below hb5)
    have HS5 := hid (HS4.out.below hb5)
    clear hb5 HB4 HW4 HS4 hl1 x0 x1 x2 x3 x4 x5 x6 x7
    --END
    cases hl : s.large ⟨ky, fy, vy, ey, cy, ly, sy, oy⟩
    · have hR3 : R = (An.mk 2 (It.mk ky fy vy ey C ly sy oy) 0 false false false, { s with cas := C, l := s.kept ⟨ky, fy, vy, ey, C, ly, sy, oy⟩ }) := by rw [HR.out, if_neg (by simp [hr]), hl, HC.out]; rfl
      subst hR3
      clear HR hl HC
      --GEN anew
      have x0 := HB5.out.bx.cell (i := 0) rfl
      have x1 := HB5.out.bx.cell (i := 1) rfl
      have x2 := HB5.out.bx.cell (i := 2) rfl
      have x3 := HB5.out.bx.cell (i := 3) rfl
      have x4 := HB5.out.bx.cell (i := 4) rfl
      have x5 := HB5.out.bx.cell (i := 5) rfl
      have x6 := HB5.out.bx.cell (i := 6) rfl
      have x7 := HB5.out.bx.cell (i := 7) rfl
      have hk := hkp W5 HW5.out
      clear hkp
      go_wp2_with fail
      refine hk.mono ?_
      rintro e W6 ⟨rfl, F6, h4, k4⟩
      have HB6 := hid (HB5.out.stp k4)
      have HW6 := hid h4
      have HS6 := hid (HS5.out.trans k4)
      clear h4 k4 hk x0 x1 x2 x3 x4 x5 x6 x7 HB5 HW5 HS5 
      have e0 := HB6.out.ba.cell (i := 0) rfl
      have f0 := HB6.out.ba.frozen 0
      have e1 := HB6.out.ba.cell (i := 1) rfl
      have f1 := HB6.out.ba.frozen 1
      have e2 := HB6.out.ba.cell (i := 2) rfl
      have f2 := HB6.out.ba.frozen 2
      have e3 := HB6.out.ba.cell (i := 3) rfl
      have f3 := HB6.out.ba.frozen 3
      have e4 := HB6.out.ba.cell (i := 4) rfl
      have f4 := HB6.out.ba.frozen 4
      have e5 := HB6.out.ba.cell (i := 5) rfl
      have f5 := HB6.out.ba.frozen 5
      have e6 := HB6.out.ba.cell (i := 6) rfl
      have f6 := HB6.out.ba.frozen 6
      have e7 := HB6.out.ba.cell (i := 7) rfl
      have f7 := HB6.out.ba.frozen 7
      have e8 := HB6.out.ba.cell (i := 8) rfl
      have f8 := HB6.out.ba.frozen 8
      have e9 := HB6.out.ba.cell (i := 9) rfl
      have f9 := HB6.out.ba.frozen 9
      have e10 := HB6.out.ba.cell (i := 10) rfl
      have f10 := HB6.out.ba.frozen 10
      have e11 := HB6.out.ba.cell (i := 11) rfl
      have f11 := HB6.out.ba.frozen 11
      have e12 := HB6.out.ba.cell (i := 12) rfl
      have f12 := HB6.out.ba.frozen 12
      go_wp2_with fail
      change bodyPost _ _ _ _ _ (stc W6 A (An.mk 2 (It.mk ky fy vy ey C ly sy oy) 0 false false false).cells 0)
      exact bodyPost_ret (res_ans (a := An.mk 2 (It.mk ky fy vy ey C ly sy oy) 0 false false false) rfl (stc_all HB6.out.ba rfl) rfl) rfl ⟨rfl, F6, wp_stc HW6.out HB6.out.na _ _, stp_stc HS6.out HB6.out.ga _ _⟩
      --END
    · have hR3 : R = (An.of 11, s) := by rw [HR.out, if_neg (by simp [hr]), hl]; rfl
      subst hR3
      clear HR hl hkp HC
      --GEN lar
      have e0 := HB5.out.ba.cell (i := 0) rfl
      have f0 := HB5.out.ba.frozen 0
      have e1 := HB5.out.ba.cell (i := 1) rfl
      have f1 := HB5.out.ba.frozen 1
      have e2 := HB5.out.ba.cell (i := 2) rfl
      have f2 := HB5.out.ba.frozen 2
      have e3 := HB5.out.ba.cell (i := 3) rfl
      have f3 := HB5.out.ba.frozen 3
      have e4 := HB5.out.ba.cell (i := 4) rfl
      have f4 := HB5.out.ba.frozen 4
      have e5 := HB5.out.ba.cell (i := 5) rfl
      have f5 := HB5.out.ba.frozen 5
      have e6 := HB5.out.ba.cell (i := 6) rfl
      have f6 := HB5.out.ba.frozen 6
      have e7 := HB5.out.ba.cell (i := 7) rfl
      have f7 := HB5.out.ba.frozen 7
      have e8 := HB5.out.ba.cell (i := 8) rfl
      have f8 := HB5.out.ba.frozen 8
      have e9 := HB5.out.ba.cell (i := 9) rfl
      have f9 := HB5.out.ba.frozen 9
      have e10 := HB5.out.ba.cell (i := 10) rfl
      have f10 := HB5.out.ba.frozen 10
      have e11 := HB5.out.ba.cell (i := 11) rfl
      have f11 := HB5.out.ba.frozen 11
      have e12 := HB5.out.ba.cell (i := 12) rfl
      have f12 := HB5.out.ba.frozen 12
      go_wp2_with fail
      change bodyPost _ _ _ _ _ (stc W5 A (An.of 11).cells 0)
      exact bodyPost_ret (res_ans (a := An.of 11) rfl (stc_all HB5.out.ba rfl) rfl) rfl ⟨rfl, F, wp_stc HW5.out HB5.out.na _ _, stp_stc HS5.out HB5.out.ga _ _⟩
      --END
  · have hr' : (s.refu != 0) = true := bne_iff_ne.2 hr
    obtain ⟨rf, hrf0⟩ : ∃ rf, s.refu = rf := ⟨_, rfl⟩
    have hR3 : R = (An.of rf, s) := by rw [HR.out, if_pos hr, hrf0]
    rw [hrf0] at hrf1 hr'
    subst hR3
    clear HR hkp hlg hst hr hrf0
    --GEN ref
    go_wp2_with fail
    refine hrf1.mono ?_
    rintro e W2 ⟨rfl, hb2⟩
    have HA2 := hid (HA.out.step hb2)
    have HW2 := hid (HW.out.below hb2)
    have HS2 := hid (HS.out.below hb2)
    clear hb2 HA HW HS hrf1
    have e0 := HA2.out.ba.cell (i := 0) rfl
    have f0 := HA2.out.ba.frozen 0
    have e1 := HA2.out.ba.cell (i := 1) rfl
    have f1 := HA2.out.ba.frozen 1
    have e2 := HA2.out.ba.cell (i := 2) rfl
    have f2 := HA2.out.ba.frozen 2
    have e3 := HA2.out.ba.cell (i := 3) rfl
    have f3 := HA2.out.ba.frozen 3
    have e4 := HA2.out.ba.cell (i := 4) rfl
    have f4 := HA2.out.ba.frozen 4
    have e5 := HA2.out.ba.cell (i := 5) rfl
    have f5 := HA2.out.ba.frozen 5
    have e6 := HA2.out.ba.cell (i := 6) rfl
    have f6 := HA2.out.ba.frozen 6
    have e7 := HA2.out.ba.cell (i := 7) rfl
    have f7 := HA2.out.ba.frozen 7
    have e8 := HA2.out.ba.cell (i := 8) rfl
    have f8 := HA2.out.ba.frozen 8
    have e9 := HA2.out.ba.cell (i := 9) rfl
    have f9 := HA2.out.ba.frozen 9
    have e10 := HA2.out.ba.cell (i := 10) rfl
    have f10 := HA2.out.ba.frozen 10
    have e11 := HA2.out.ba.cell (i := 11) rfl
    have f11 := HA2.out.ba.frozen 11
    have e12 := HA2.out.ba.cell (i := 12) rfl
    have f12 := HA2.out.ba.frozen 12
    go_wp2_with fail
    change bodyPost _ _ _ _ _ (stc W2 A (An.of rf).cells 0)
    exact bodyPost_ret (res_ans (a := An.of rf) rfl (stc_all HA2.out.ba rfl) rfl) rfl ⟨rfl, F, wp_stc HW2.out HA2.out.na _ _, stp_stc HS2.out HA2.out.ga _ _⟩
    --END
theorem num_any (hV : Nu.Vars w) : Calls Tryd.prog (if s.c.down then 68 else 67) #[.string s.x.val, .int .u64 s.c.delta] w fun e w' => e = .returned (Nu.tv s.num) ∧ Below w.heap.size w w' := by
  unfold Wk.num
  cases s.c.down
  · exact Nu.add_any s.x.val s.c.delta w hV
  · exact Nu.sub_any s.x.val s.c.delta w hV
theorem num_size {v : List UInt8} (h : s.num = some v) : v.length ≤ 20 := by
  unfold Wk.num Nu.subU Nu.addU at h
  split at h
  · obtain ⟨n, hn, rfl⟩ := Option.map_eq_some_iff.1 h
    have := Nu.parseU_lt hn
    exact Nu.dd_len_le (by omega)
  · obtain ⟨n, hn, rfl⟩ := Option.map_eq_some_iff.1 h
    exact Nu.dd_len_le (Nat.mod_lt _ (by decide))
set_option maxHeartbeats 1000000 in
set_option maxRecDepth 100000 in
theorem wk_count (h : WP B F s w) (hg : Bg w0 F w) (hs : Sorted s.l) (hlen : s.l.length ≤ 4194304) (hi : s.ix < s.l.length) (n1 : 1 ≤ s.now) (n2 : s.now ≤ 1099511627776) (hk : s.x.key.size ≤ 1048576) :
    Calls Tryd.prog 53 #[.pointer (some ⟨B, 0, none⟩)] w fun e w' => e = .returned s.count.1.v ∧ ∃ F', WP B F' s.count.2 w' ∧ Stp F F' w w' := by
  have hot := fun W (hW : WR B s W) => wk_oth hW
  have hmo := fun W (hW : WR B s W) => wk_nexp hW n1 n2
  have hnu := fun W (hV : Nu.Vars W) => num_any (s := s) hV
  have hkp := fun v (hv : s.num = some v) F' W (hW : WP B F' s W) (hG : Bg w0 F' W) => wk_counted hW hG hs hlen hi { s.x with val := S v, exp := s.nexp } (by show s.x.key.size ≤ _; omega) (by show (Nu.S v).size ≤ _; rw [Nu.S_size]; have := num_size hv; omega)
  obtain ⟨R, hR⟩ : ∃ R, R = s.count := ⟨_, rfl⟩
  rw [← hR]
  have HR := hid (show R = (if s.oth then (An.of 4, s) else match s.num with | none => (An.of 7, s) | some v => s.cnt { s.x with val := S v, exp := s.nexp }) from hR)
  have HG := hid hg
  clear hR hs hlen hi n1 n2 hk hg
  obtain ⟨M, hM⟩ : ∃ M, M = s.nexp := ⟨_, rfl⟩
  simp only [← hM] at hkp hmo HR
  clear hM
  --GEN copen
  obtain ⟨A, hA⟩ : ∃ A, A = w.heap.size := ⟨_, rfl⟩
  obtain ⟨W1, h1⟩ : ∃ W1, w.alloc (.cells #[.int .i64 0, .string ⟨#[]⟩, .int .u32 0, .string ⟨#[]⟩, .int .i64 0, .int .u64 0, .int .i64 0, .bool false, .bool false, .int .u64 0, .bool false, .bool false, .bool false] 35) = W1 := ⟨_, rfl⟩
  have hb1 : Below w.heap.size w W1 := by rw [← h1]; exact abelow _ _
  have HA : Hid (Ka w.heap.size A F [.int .i64 0, .string ⟨#[]⟩, .int .u32 0, .string ⟨#[]⟩, .int .i64 0, .int .u64 0, .int .i64 0, .bool false, .bool false, .int .u64 0, .bool false, .bool false, .bool false] W1) := hid (by rw [← h1, hA]; exact Ka.begin h.lt #[.int .i64 0, .string ⟨#[]⟩, .int .u32 0, .string ⟨#[]⟩, .int .i64 0, .int .u64 0, .int .i64 0, .bool false, .bool false, .int .u64 0, .bool false, .bool false, .bool false])
  have HW := hid (h.below hb1)
  have HS : Hid (Stp F F w W1) := hid (Stp.of_below hb1)
  rw [eq_comm] at hA
  clear h hb1
  go_enter Tryd.func53, Tryd.ntmps53
  go_upto_region 1 with fail
  clear h1
  have ho1 := hot W1 HW.out.head
  clear hot
  go_wp2_with fail
  refine ho1.mono ?_
  rintro e W2 ⟨rfl, hb2⟩
  have HA2 := hid (HA.out.step hb2)
  have HW2 := hid (HW.out.below hb2)
  have HS2 := hid (HS.out.below hb2)
  clear hb2 HA HW HS ho1
  --END
  cases ho : s.oth
  · have hR2 := HR.out
    rw [ho, if_neg (by decide)] at hR2
    have HR2 := hid hR2
    clear HR hR2 ho
    obtain ⟨fn, hfn⟩ : ∃ fn, fn = (if s.c.down then 68 else 67) := ⟨_, rfl⟩
    rw [← hfn] at hnu
    obtain ⟨v, G, hB, -⟩ := HW2.out
    have b14 := hB.cell (i := 14) rfl
    change W2.cell? ⟨B, 14, none⟩ = some (.bool s.c.down) at b14
    clear hB
    cases hd : s.c.down
    · rw [hd] at b14 hfn
      rw [if_neg (by decide)] at hfn
      subst hfn
      clear hd
      --GEN tl1
      obtain ⟨X, hX⟩ : ∃ X, W2.heap.size = X := ⟨_, rfl⟩
      obtain ⟨W3, h2⟩ : ∃ W3, W2.alloc (.cells #[.string s.x.key, .int .u32 s.x.flags, .string s.x.val, .int .i64 s.x.exp, .int .u64 s.x.cas, .int .i64 s.x.last, .bool s.x.stale, .bool s.x.won] 33) = W3 := ⟨_, rfl⟩
      have hb2 : Below W2.heap.size W2 W3 := by rw [← h2]; exact abelow _ _
      have HB3 : Hid (Kb w.heap.size A X F [.int .i64 0, .string ⟨#[]⟩, .int .u32 0, .string ⟨#[]⟩, .int .i64 0, .int .u64 0, .int .i64 0, .bool false, .bool false, .int .u64 0, .bool false, .bool false, .bool false] [.string s.x.key, .int .u32 s.x.flags, .string s.x.val, .int .i64 s.x.exp, .int .u64 s.x.cas, .int .i64 s.x.last, .bool s.x.stale, .bool s.x.won] W3) := hid (by rw [← h2, ← hX]; exact Kb.begin HA2.out HW2.out.lt #[.string s.x.key, .int .u32 s.x.flags, .string s.x.val, .int .i64 s.x.exp, .int .u64 s.x.cas, .int .i64 s.x.last, .bool s.x.stale, .bool s.x.won])
      have HW3 := hid (HW2.out.below hb2)
      have HS3 := hid (HS2.out.below hb2)
      have H2 := hid h2
      obtain ⟨v, G, hB, -⟩ := HW2.out
      have b22 := hB.cell (i := 22) rfl
      have b23 := hB.cell (i := 23) rfl
      have b24 := hB.cell (i := 24) rfl
      have b25 := hB.cell (i := 25) rfl
      have b26 := hB.cell (i := 26) rfl
      have b27 := hB.cell (i := 27) rfl
      have b28 := hB.cell (i := 28) rfl
      have b29 := hB.cell (i := 29) rfl
      clear hB
      clear h2 hb2 HA2 HW2 HS2
      go_upto_region 7 with fail
      try rw [hX]
      try rw [H2.out]
      clear hX H2 b14 b22 b23 b24 b25 b26 b27 b28 b29
      have x2 := HB3.out.bx.cell (i := 2) rfl
      change W3.cell? ⟨X, 2, none⟩ = some (.string s.x.val) at x2
      obtain ⟨v3, G3, hB, -⟩ := HW3.out
      have b12 := hB.cell (i := 12) rfl
      change W3.cell? ⟨B, 12, none⟩ = some (.int .u64 s.c.delta) at b12
      clear hB
      have hcl := hnu W3 ((HG.out.stp HS3.out).v)
      obtain ⟨tvv, htv⟩ : ∃ t, t = Nu.tv s.num := ⟨_, rfl⟩
      obtain ⟨st, ok, htx⟩ : ∃ st ok, tvv = .tuple #[.string st, .bool ok] := by
        rw [htv]
        cases s.num with
        | none => exact ⟨_, _, rfl⟩
        | some v => exact ⟨_, _, rfl⟩
      rw [← htv, htx] at hcl
      have cS : ∀ d os, Calls Tryd.prog 67 #[.string s.x.val, .int .u64 s.c.delta] (Sort.grow (redrawn W3 d) os) fun e w'' => e = .returned (.tuple #[.string st, .bool ok]) ∧ ∃ p : Regrown, w'' = Sort.grow (redrawn W3 p.d) p.os := fun d os => Calls.regrown_of (by
        have hq := hnu (Sort.grow (redrawn W3 d) os) (((HG.out.stp HS3.out).v).below (below_regrown W3 d os))
        rw [← htv, htx] at hq
        exact hq)
      have xx2 := fun d os => cell_regrown x2 d os
      have bb12 := fun d os => cell_regrown b12 d os
      have HT := hid (htx.symm.trans htv)
      clear hcl hnu htv htx x2 b12
      refine wp_region_quiet_below (by kernel_rfl) (by kernel_rfl) ?_
      iterate 8 (quiet_step (fail))
      quiet_step (exact cS _ _)
      iterate 5 (quiet_step (fail))
      refine wpQuiet_nil ?_
      intro _ hw'
      obtain ⟨⟨dq, osq⟩, hw''⟩ := hw'
      subst hw''
      have hbq := below_regrown W3 dq osq
      generalize Sort.grow (redrawn W3 dq) osq = W4 at *
      have HB4 := hid (HB3.out.step hbq)
      have HW4 := hid (HW3.out.below hbq)
      have HS4 := hid (HS3.out.below hbq)
      clear hbq cS xx2 bb12 HB3 HW3 HS3
      cases hn : s.num with
      | none =>
        have hq := HT.out
        rw [hn] at hq
        have hR2 := HR2.out
        rw [hn] at hR2
        simp [Nu.tv] at hq
        obtain ⟨q1, q2⟩ := hq
        subst q1 q2
        have hR3 : R = (An.of 7, s) := hR2
        subst hR3
        clear hR2 HT HR2 hn hkp hmo
        have e0 := HB4.out.ba.cell (i := 0) rfl
        have f0 := HB4.out.ba.frozen 0
        have e1 := HB4.out.ba.cell (i := 1) rfl
        have f1 := HB4.out.ba.frozen 1
        have e2 := HB4.out.ba.cell (i := 2) rfl
        have f2 := HB4.out.ba.frozen 2
        have e3 := HB4.out.ba.cell (i := 3) rfl
        have f3 := HB4.out.ba.frozen 3
        have e4 := HB4.out.ba.cell (i := 4) rfl
        have f4 := HB4.out.ba.frozen 4
        have e5 := HB4.out.ba.cell (i := 5) rfl
        have f5 := HB4.out.ba.frozen 5
        have e6 := HB4.out.ba.cell (i := 6) rfl
        have f6 := HB4.out.ba.frozen 6
        have e7 := HB4.out.ba.cell (i := 7) rfl
        have f7 := HB4.out.ba.frozen 7
        have e8 := HB4.out.ba.cell (i := 8) rfl
        have f8 := HB4.out.ba.frozen 8
        have e9 := HB4.out.ba.cell (i := 9) rfl
        have f9 := HB4.out.ba.frozen 9
        have e10 := HB4.out.ba.cell (i := 10) rfl
        have f10 := HB4.out.ba.frozen 10
        have e11 := HB4.out.ba.cell (i := 11) rfl
        have f11 := HB4.out.ba.frozen 11
        have e12 := HB4.out.ba.cell (i := 12) rfl
        have f12 := HB4.out.ba.frozen 12
        go_wp2_with fail
        change bodyPost _ _ _ _ _ (stc W4 A (An.of 7).cells 0)
        exact bodyPost_ret (res_ans (a := An.of 7) rfl (stc_all HB4.out.ba rfl) rfl) rfl ⟨rfl, F, wp_stc HW4.out HB4.out.na _ _, stp_stc HS4.out HB4.out.ga _ _⟩
      | some v =>
        have hq := HT.out
        rw [hn] at hq
        have hR2 := HR2.out
        rw [hn] at hR2
        simp [Nu.tv] at hq
        obtain ⟨q1, q2⟩ := hq
        subst q2
        have hR3 : R = s.cnt { s.x with val := S v, exp := M } := hR2
        have hst : st = S v := q1
        subst hst
        clear HT HR2 hR2 q1
        have hk := hkp v hn
        rw [← hR3] at hk
        clear hn hR3 hkp
        obtain ⟨⟨ast, ⟨ak, af, av, ae, ac, al, asb, ao⟩, an, aw, ax, az⟩, S2⟩ := R
        simp only [an_all] at hk
        have hm := hmo W4 HW4.out.head
        clear hmo
        have x2 := HB4.out.bx.cell (i := 2) rfl
        have x3 := HB4.out.bx.cell (i := 3) rfl
        have g2 := HB4.out.bx.frozen 2
        have g3 := HB4.out.bx.frozen 3
        have lX := HB4.out.bx.lt
        have hge : w.heap.size ≤ X := by have := HB4.out.ga; have := HB4.out.gx; omega
        have HB5 := hid ((HB4.out.setx 2 (.string (S v))).setx 3 (.int .i64 M))
        have HW5 := hid (wp_own (wp_own HW4.out HB4.out.nx 2 (.string (S v))) HB4.out.nx 3 (.int .i64 M))
        have HS5 := hid (stp_own (stp_own HS4.out hge 2 (.string (S v))) hge 3 (.int .i64 M))
        clear HB4 HW4 HS4 hge
        go_wp2_with fail
        refine hm.mono ?_
        rintro e _ ⟨rfl, rfl⟩
        go_upto_region 11 with fail
        generalize (W4.setCell ⟨X, 2, none⟩ (.string (S v))).setCell ⟨X, 3, none⟩ (.int .i64 M) = W5 at *
        clear hm x2 x3 g2 g3 lX
        have x0 := HB5.out.bx.cell (i := 0) rfl
        have x1 := HB5.out.bx.cell (i := 1) rfl
        have x2 := HB5.out.bx.cell (i := 2) rfl
        have x3 := HB5.out.bx.cell (i := 3) rfl
        have x4 := HB5.out.bx.cell (i := 4) rfl
        have x5 := HB5.out.bx.cell (i := 5) rfl
        have x6 := HB5.out.bx.cell (i := 6) rfl
        have x7 := HB5.out.bx.cell (i := 7) rfl
        have hk2 := hk F W5 HW5.out (HG.out.stp HS5.out)
        clear hk
        go_wp2_with fail
        refine hk2.mono ?_
        rintro e W6 ⟨rfl, F6, h6, k6⟩
        have HB6 := hid (HB5.out.stp k6)
        have HW6 := hid h6
        have HS6 := hid (HS5.out.trans k6)
        clear h6 k6 hk2 HB5 HW5 HS5 x0 x1 x2 x3 x4 x5 x6 x7
        have e0 := HB6.out.ba.cell (i := 0) rfl
        have f0 := HB6.out.ba.frozen 0
        have e1 := HB6.out.ba.cell (i := 1) rfl
        have f1 := HB6.out.ba.frozen 1
        have e2 := HB6.out.ba.cell (i := 2) rfl
        have f2 := HB6.out.ba.frozen 2
        have e3 := HB6.out.ba.cell (i := 3) rfl
        have f3 := HB6.out.ba.frozen 3
        have e4 := HB6.out.ba.cell (i := 4) rfl
        have f4 := HB6.out.ba.frozen 4
        have e5 := HB6.out.ba.cell (i := 5) rfl
        have f5 := HB6.out.ba.frozen 5
        have e6 := HB6.out.ba.cell (i := 6) rfl
        have f6 := HB6.out.ba.frozen 6
        have e7 := HB6.out.ba.cell (i := 7) rfl
        have f7 := HB6.out.ba.frozen 7
        have e8 := HB6.out.ba.cell (i := 8) rfl
        have f8 := HB6.out.ba.frozen 8
        have e9 := HB6.out.ba.cell (i := 9) rfl
        have f9 := HB6.out.ba.frozen 9
        have e10 := HB6.out.ba.cell (i := 10) rfl
        have f10 := HB6.out.ba.frozen 10
        have e11 := HB6.out.ba.cell (i := 11) rfl
        have f11 := HB6.out.ba.frozen 11
        have e12 := HB6.out.ba.cell (i := 12) rfl
        have f12 := HB6.out.ba.frozen 12
        go_wp2_with fail
        change bodyPost _ _ _ _ _ (stc W6 A (An.mk ast (It.mk ak af av ae ac al asb ao) an aw ax az).cells 0)
        exact bodyPost_ret (res_ans (a := An.mk ast (It.mk ak af av ae ac al asb ao) an aw ax az) rfl (stc_all HB6.out.ba rfl) rfl) rfl ⟨rfl, F6, wp_stc HW6.out HB6.out.na _ _, stp_stc HS6.out HB6.out.ga _ _⟩
      --END
    · rw [hd] at b14 hfn
      rw [if_pos rfl] at hfn
      subst hfn
      clear hd
      --GEN tl2
      obtain ⟨X, hX⟩ : ∃ X, W2.heap.size = X := ⟨_, rfl⟩
      obtain ⟨W3, h2⟩ : ∃ W3, W2.alloc (.cells #[.string s.x.key, .int .u32 s.x.flags, .string s.x.val, .int .i64 s.x.exp, .int .u64 s.x.cas, .int .i64 s.x.last, .bool s.x.stale, .bool s.x.won] 33) = W3 := ⟨_, rfl⟩
      have hb2 : Below W2.heap.size W2 W3 := by rw [← h2]; exact abelow _ _
      have HB3 : Hid (Kb w.heap.size A X F [.int .i64 0, .string ⟨#[]⟩, .int .u32 0, .string ⟨#[]⟩, .int .i64 0, .int .u64 0, .int .i64 0, .bool false, .bool false, .int .u64 0, .bool false, .bool false, .bool false] [.string s.x.key, .int .u32 s.x.flags, .string s.x.val, .int .i64 s.x.exp, .int .u64 s.x.cas, .int .i64 s.x.last, .bool s.x.stale, .bool s.x.won] W3) := hid (by rw [← h2, ← hX]; exact Kb.begin HA2.out HW2.out.lt #[.string s.x.key, .int .u32 s.x.flags, .string s.x.val, .int .i64 s.x.exp, .int .u64 s.x.cas, .int .i64 s.x.last, .bool s.x.stale, .bool s.x.won])
      have HW3 := hid (HW2.out.below hb2)
      have HS3 := hid (HS2.out.below hb2)
      have H2 := hid h2
      obtain ⟨v, G, hB, -⟩ := HW2.out
      have b22 := hB.cell (i := 22) rfl
      have b23 := hB.cell (i := 23) rfl
      have b24 := hB.cell (i := 24) rfl
      have b25 := hB.cell (i := 25) rfl
      have b26 := hB.cell (i := 26) rfl
      have b27 := hB.cell (i := 27) rfl
      have b28 := hB.cell (i := 28) rfl
      have b29 := hB.cell (i := 29) rfl
      clear hB
      clear h2 hb2 HA2 HW2 HS2
      go_upto_region 7 with fail
      try rw [hX]
      try rw [H2.out]
      clear hX H2 b14 b22 b23 b24 b25 b26 b27 b28 b29
      have x2 := HB3.out.bx.cell (i := 2) rfl
      change W3.cell? ⟨X, 2, none⟩ = some (.string s.x.val) at x2
      obtain ⟨v3, G3, hB, -⟩ := HW3.out
      have b12 := hB.cell (i := 12) rfl
      change W3.cell? ⟨B, 12, none⟩ = some (.int .u64 s.c.delta) at b12
      clear hB
      have hcl := hnu W3 ((HG.out.stp HS3.out).v)
      obtain ⟨tvv, htv⟩ : ∃ t, t = Nu.tv s.num := ⟨_, rfl⟩
      obtain ⟨st, ok, htx⟩ : ∃ st ok, tvv = .tuple #[.string st, .bool ok] := by
        rw [htv]
        cases s.num with
        | none => exact ⟨_, _, rfl⟩
        | some v => exact ⟨_, _, rfl⟩
      rw [← htv, htx] at hcl
      have cS : ∀ d os, Calls Tryd.prog 68 #[.string s.x.val, .int .u64 s.c.delta] (Sort.grow (redrawn W3 d) os) fun e w'' => e = .returned (.tuple #[.string st, .bool ok]) ∧ ∃ p : Regrown, w'' = Sort.grow (redrawn W3 p.d) p.os := fun d os => Calls.regrown_of (by
        have hq := hnu (Sort.grow (redrawn W3 d) os) (((HG.out.stp HS3.out).v).below (below_regrown W3 d os))
        rw [← htv, htx] at hq
        exact hq)
      have xx2 := fun d os => cell_regrown x2 d os
      have bb12 := fun d os => cell_regrown b12 d os
      have HT := hid (htx.symm.trans htv)
      clear hcl hnu htv htx x2 b12
      refine wp_region_quiet_below (by kernel_rfl) (by kernel_rfl) ?_
      iterate 8 (quiet_step (fail))
      quiet_step (exact cS _ _)
      iterate 5 (quiet_step (fail))
      refine wpQuiet_nil ?_
      intro _ hw'
      obtain ⟨⟨dq, osq⟩, hw''⟩ := hw'
      subst hw''
      have hbq := below_regrown W3 dq osq
      generalize Sort.grow (redrawn W3 dq) osq = W4 at *
      have HB4 := hid (HB3.out.step hbq)
      have HW4 := hid (HW3.out.below hbq)
      have HS4 := hid (HS3.out.below hbq)
      clear hbq cS xx2 bb12 HB3 HW3 HS3
      cases hn : s.num with
      | none =>
        have hq := HT.out
        rw [hn] at hq
        have hR2 := HR2.out
        rw [hn] at hR2
        simp [Nu.tv] at hq
        obtain ⟨q1, q2⟩ := hq
        subst q1 q2
        have hR3 : R = (An.of 7, s) := hR2
        subst hR3
        clear hR2 HT HR2 hn hkp hmo
        have e0 := HB4.out.ba.cell (i := 0) rfl
        have f0 := HB4.out.ba.frozen 0
        have e1 := HB4.out.ba.cell (i := 1) rfl
        have f1 := HB4.out.ba.frozen 1
        have e2 := HB4.out.ba.cell (i := 2) rfl
        have f2 := HB4.out.ba.frozen 2
        have e3 := HB4.out.ba.cell (i := 3) rfl
        have f3 := HB4.out.ba.frozen 3
        have e4 := HB4.out.ba.cell (i := 4) rfl
        have f4 := HB4.out.ba.frozen 4
        have e5 := HB4.out.ba.cell (i := 5) rfl
        have f5 := HB4.out.ba.frozen 5
        have e6 := HB4.out.ba.cell (i := 6) rfl
        have f6 := HB4.out.ba.frozen 6
        have e7 := HB4.out.ba.cell (i := 7) rfl
        have f7 := HB4.out.ba.frozen 7
        have e8 := HB4.out.ba.cell (i := 8) rfl
        have f8 := HB4.out.ba.frozen 8
        have e9 := HB4.out.ba.cell (i := 9) rfl
        have f9 := HB4.out.ba.frozen 9
        have e10 := HB4.out.ba.cell (i := 10) rfl
        have f10 := HB4.out.ba.frozen 10
        have e11 := HB4.out.ba.cell (i := 11) rfl
        have f11 := HB4.out.ba.frozen 11
        have e12 := HB4.out.ba.cell (i := 12) rfl
        have f12 := HB4.out.ba.frozen 12
        go_wp2_with fail
        change bodyPost _ _ _ _ _ (stc W4 A (An.of 7).cells 0)
        exact bodyPost_ret (res_ans (a := An.of 7) rfl (stc_all HB4.out.ba rfl) rfl) rfl ⟨rfl, F, wp_stc HW4.out HB4.out.na _ _, stp_stc HS4.out HB4.out.ga _ _⟩
      | some v =>
        have hq := HT.out
        rw [hn] at hq
        have hR2 := HR2.out
        rw [hn] at hR2
        simp [Nu.tv] at hq
        obtain ⟨q1, q2⟩ := hq
        subst q2
        have hR3 : R = s.cnt { s.x with val := S v, exp := M } := hR2
        have hst : st = S v := q1
        subst hst
        clear HT HR2 hR2 q1
        have hk := hkp v hn
        rw [← hR3] at hk
        clear hn hR3 hkp
        obtain ⟨⟨ast, ⟨ak, af, av, ae, ac, al, asb, ao⟩, an, aw, ax, az⟩, S2⟩ := R
        simp only [an_all] at hk
        have hm := hmo W4 HW4.out.head
        clear hmo
        have x2 := HB4.out.bx.cell (i := 2) rfl
        have x3 := HB4.out.bx.cell (i := 3) rfl
        have g2 := HB4.out.bx.frozen 2
        have g3 := HB4.out.bx.frozen 3
        have lX := HB4.out.bx.lt
        have hge : w.heap.size ≤ X := by have := HB4.out.ga; have := HB4.out.gx; omega
        have HB5 := hid ((HB4.out.setx 2 (.string (S v))).setx 3 (.int .i64 M))
        have HW5 := hid (wp_own (wp_own HW4.out HB4.out.nx 2 (.string (S v))) HB4.out.nx 3 (.int .i64 M))
        have HS5 := hid (stp_own (stp_own HS4.out hge 2 (.string (S v))) hge 3 (.int .i64 M))
        clear HB4 HW4 HS4 hge
        go_wp2_with fail
        refine hm.mono ?_
        rintro e _ ⟨rfl, rfl⟩
        go_upto_region 11 with fail
        generalize (W4.setCell ⟨X, 2, none⟩ (.string (S v))).setCell ⟨X, 3, none⟩ (.int .i64 M) = W5 at *
        clear hm x2 x3 g2 g3 lX
        have x0 := HB5.out.bx.cell (i := 0) rfl
        have x1 := HB5.out.bx.cell (i := 1) rfl
        have x2 := HB5.out.bx.cell (i := 2) rfl
        have x3 := HB5.out.bx.cell (i := 3) rfl
        have x4 := HB5.out.bx.cell (i := 4) rfl
        have x5 := HB5.out.bx.cell (i := 5) rfl
        have x6 := HB5.out.bx.cell (i := 6) rfl
        have x7 := HB5.out.bx.cell (i := 7) rfl
        have hk2 := hk F W5 HW5.out (HG.out.stp HS5.out)
        clear hk
        go_wp2_with fail
        refine hk2.mono ?_
        rintro e W6 ⟨rfl, F6, h6, k6⟩
        have HB6 := hid (HB5.out.stp k6)
        have HW6 := hid h6
        have HS6 := hid (HS5.out.trans k6)
        clear h6 k6 hk2 HB5 HW5 HS5 x0 x1 x2 x3 x4 x5 x6 x7
        have e0 := HB6.out.ba.cell (i := 0) rfl
        have f0 := HB6.out.ba.frozen 0
        have e1 := HB6.out.ba.cell (i := 1) rfl
        have f1 := HB6.out.ba.frozen 1
        have e2 := HB6.out.ba.cell (i := 2) rfl
        have f2 := HB6.out.ba.frozen 2
        have e3 := HB6.out.ba.cell (i := 3) rfl
        have f3 := HB6.out.ba.frozen 3
        have e4 := HB6.out.ba.cell (i := 4) rfl
        have f4 := HB6.out.ba.frozen 4
        have e5 := HB6.out.ba.cell (i := 5) rfl
        have f5 := HB6.out.ba.frozen 5
        have e6 := HB6.out.ba.cell (i := 6) rfl
        have f6 := HB6.out.ba.frozen 6
        have e7 := HB6.out.ba.cell (i := 7) rfl
        have f7 := HB6.out.ba.frozen 7
        have e8 := HB6.out.ba.cell (i := 8) rfl
        have f8 := HB6.out.ba.frozen 8
        have e9 := HB6.out.ba.cell (i := 9) rfl
        have f9 := HB6.out.ba.frozen 9
        have e10 := HB6.out.ba.cell (i := 10) rfl
        have f10 := HB6.out.ba.frozen 10
        have e11 := HB6.out.ba.cell (i := 11) rfl
        have f11 := HB6.out.ba.frozen 11
        have e12 := HB6.out.ba.cell (i := 12) rfl
        have f12 := HB6.out.ba.frozen 12
        go_wp2_with fail
        change bodyPost _ _ _ _ _ (stc W6 A (An.mk ast (It.mk ak af av ae ac al asb ao) an aw ax az).cells 0)
        exact bodyPost_ret (res_ans (a := An.mk ast (It.mk ak af av ae ac al asb ao) an aw ax az) rfl (stc_all HB6.out.ba rfl) rfl) rfl ⟨rfl, F6, wp_stc HW6.out HB6.out.na _ _, stp_stc HS6.out HB6.out.ga _ _⟩
      --END
  · have hR3 : R = (An.of 4, s) := by rw [HR.out, ho]; rfl
    subst hR3
    clear HR ho hkp hmo hnu
    --GEN coth
    have e0 := HA2.out.ba.cell (i := 0) rfl
    have f0 := HA2.out.ba.frozen 0
    have e1 := HA2.out.ba.cell (i := 1) rfl
    have f1 := HA2.out.ba.frozen 1
    have e2 := HA2.out.ba.cell (i := 2) rfl
    have f2 := HA2.out.ba.frozen 2
    have e3 := HA2.out.ba.cell (i := 3) rfl
    have f3 := HA2.out.ba.frozen 3
    have e4 := HA2.out.ba.cell (i := 4) rfl
    have f4 := HA2.out.ba.frozen 4
    have e5 := HA2.out.ba.cell (i := 5) rfl
    have f5 := HA2.out.ba.frozen 5
    have e6 := HA2.out.ba.cell (i := 6) rfl
    have f6 := HA2.out.ba.frozen 6
    have e7 := HA2.out.ba.cell (i := 7) rfl
    have f7 := HA2.out.ba.frozen 7
    have e8 := HA2.out.ba.cell (i := 8) rfl
    have f8 := HA2.out.ba.frozen 8
    have e9 := HA2.out.ba.cell (i := 9) rfl
    have f9 := HA2.out.ba.frozen 9
    have e10 := HA2.out.ba.cell (i := 10) rfl
    have f10 := HA2.out.ba.frozen 10
    have e11 := HA2.out.ba.cell (i := 11) rfl
    have f11 := HA2.out.ba.frozen 11
    have e12 := HA2.out.ba.cell (i := 12) rfl
    have f12 := HA2.out.ba.frozen 12
    go_wp2_with fail
    change bodyPost _ _ _ _ _ (stc W2 A (An.of 4).cells 0)
    exact bodyPost_ret (res_ans (a := An.of 4) rfl (stc_all HA2.out.ba rfl) rfl) rfl ⟨rfl, F, wp_stc HW2.out HA2.out.na _ _, stp_stc HS2.out HA2.out.ga _ _⟩
    --END
end
end Go.Proofs.YtpgljahomeebhaaDoor.Md

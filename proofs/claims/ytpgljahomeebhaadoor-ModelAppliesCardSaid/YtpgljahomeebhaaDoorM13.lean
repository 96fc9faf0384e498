/-
  How long a state that came in is, and its keys, and a command's key, by the arguments' weights; for the claim of ModelApplies. No conditions.
  ModelApplies: what is over great, as the law asks it. Condition: the state's items can be read.
-/
import Derived.Test.YtpgljahomeebhaaDoorM12
import Derived.Test.YtpgljahomeebhaaDoorM8
import Derived.BigRegion
import Derived.BigQuiet
namespace Go.Proofs.YtpgljahomeebhaaDoor
open Go Go.ChangeShapes Go.WideShapes Go.ChangeAt Go.RowKit Go.Deep Go.Joins

theorem reach_small : reachBytes = 140737488351232 := by decide
theorem bytesIm : Tryd.prog.bytesOf 33 = 72 := by kernel_rfl
theorem weights_mem_all {H : Type} {P : Program} {e : TypeId} : ∀ {l : List (DataW H)} {d : DataW H}, d ∈ l → ∀ n ∈ d.weights P e, n ∈ DataW.weightsAll P e l
  | [], _, h, _, _ => (by cases h)
  | d0 :: l, d, h, n, hn => by
    simp only [DataW.weightsAll, List.mem_append]
    rcases List.mem_cons.1 h with rfl | h
    · exact .inl hn
    · exact .inr (weights_mem_all h n hn)
set_option maxRecDepth 100000 in
set_option maxHeartbeats 2000000 in
theorem item_key_sized {H : Type} {enc : TypeId × Value → H} {W : World} {held : Bool} {k : Nat} {cs : List Value} {D : DataW H} {Pl : List MemPlace} (h : DataW.trod enc Tryd.prog W 0 (fun _ => true) held k 33 cs = some (D, Pl)) (hz : ∀ n ∈ D.weights Tryd.prog 33, n ≤ reachBytes) {key : ByteArray} (hk : cs[0]? = some (.string key)) : key.size ≤ 140737488351232 := by
  obtain ⟨xs, k', _, hx, _, hlen, hfs⟩ := DataW.trod_struct Tryd.underlying33 h
  match xs, hlen with
  | [y0, y1, y2, y3, y4, y5, y6, y7], _ =>
    have f0 : DataW.trod enc Tryd.prog W 0 (fun _ => true) held k' 9 ((cs.drop 0).take (Tryd.prog.cellsOf 9)) = some y0 := hfs 0 _ rfl
    obtain ⟨z0, q0, g0, -⟩ := DataW.trod_string Tryd.underlying9 f0
    have hkz : key = z0 := by
      rw [cells9, List.drop_zero] at q0
      cases cs with
      | nil => simp at hk
      | cons c cs =>
        simp only [List.take_succ_cons, List.take_zero, List.cons.injEq, and_true] at q0
        simp only [List.getElem?_cons_zero, Option.some.injEq] at hk
        rw [q0] at hk
        injection hk with e
        exact e.symm
    subst hkz
    have hD : D = .agg [y0.1, y1.1, y2.1, y3.1, y4.1, y5.1, y6.1, y7.1] := by
      have := congrArg Prod.fst hx
      simpa using this
    have := hz key.data.toList.length (by
      rw [hD]
      unfold DataW.weights
      rw [Tryd.underlying33]
      exact DataW.weights_mem_each (j := 0) (t := 9) rfl (by rw [g0]; rfl) _ (by simp [DataW.weights]))
    rw [reach_small, ← size_len] at this
    exact this
set_option maxRecDepth 100000 in
set_option maxHeartbeats 2000000 in
theorem state_sized {H : Type} {enc : TypeId × Value → H} {W : World} {held : Bool} {r : Reach} {b0 : Nat} {v : Value} {d : DataW H} {p : List MemPlace} {ts : List TypeId} {ds : List (DataW H)} (hsz : (DataW.weightsEach Tryd.prog ts ds).all (· ≤ reachBytes) = true) {j : Nat} (ht : ts[j]? = some 25) (hd : ds[j]? = some d)
    (hv : Value.okWide Tryd.prog W r b0 25 v) (h : DataW.Trod enc Tryd.prog W 0 (fun _ => true) held 25 v d p) {s : Md.Ms} (hs : Md.Sv W v s) : s.its.length ≤ 140737488351232 ∧ ∀ x ∈ s.its, x.key.size ≤ 140737488351232 := by
  obtain ⟨v0, v1, v2, y0, y1, y2, n, rfl, rfl, rfl, t0, t1, t2⟩ := open_agg3 Tryd.underlying25 (by kernel_rfl) cellsSt hv h
  obtain ⟨v', e, a, c, rfl, hle, hn, hx⟩ := hs
  obtain rfl : v0 = .slice a s.its.length c := by
    simp only [Md.msv, Value.agg.injEq] at e
    have := congrArg (fun x : Array Value => x[0]?) e
    simpa using this
  have hwt : ∀ m ∈ y0.1.weights Tryd.prog 22, m ≤ reachBytes := fun m hm => by
    have := List.all_eq_true.1 hsz m (DataW.weights_mem_each ht hd m (by
      unfold DataW.weights
      rw [Tryd.underlying25]
      exact DataW.weights_mem_each (j := 0) (t := 22) rfl rfl m hm))
    simpa using this
  rcases open_slice Tryd.underlying22 t0 with ⟨hcs, -⟩ | ⟨a', len, cap, m, k, D, Pl, hcs, _, hl, _, hmm, hyy, hx2⟩
  · simp only [List.cons.injEq, and_true, Value.slice.injEq] at hcs
    have h0 : s.its = [] := List.eq_nil_of_length_eq_zero hcs.2.1
    rw [h0]
    exact ⟨Nat.zero_le _, fun x hx => (by cases hx)⟩
  · simp only [List.cons.injEq, and_true, Value.slice.injEq] at hcs
    obtain ⟨rfl, rfl, rfl⟩ := hcs
    simp only [if_true] at hmm
    subst hyy
    refine ⟨?_, fun x hxm => ?_⟩
    · have := hwt ((((List.range s.its.length).map D).length + ((List.range (m - s.its.length)).map fun j => D (s.its.length + j)).length) * Tryd.prog.bytesOf 33) (by simp [DataW.weights, Tryd.underlying22])
      rw [bytesIm, reach_small] at this
      simp only [List.length_map, List.length_range] at this
      omega
    · obtain ⟨i, hi⟩ := List.getElem?_of_mem hxm
      have hil : i < s.its.length := (List.getElem?_eq_some_iff.1 hi).1
      obtain ⟨b, o, e2, h4⟩ := hx i x hi
      cases e2
      obtain ⟨cs', h1, h2⟩ := hx2 i (by omega)
      rw [cellsIm] at h1
      obtain ⟨_, hlen, hcell⟩ := World.cells?_some h1
      refine item_key_sized h2 (fun n hn => hwt n ?_) ?_
      · simp only [DataW.weights, Tryd.underlying22]
        refine List.mem_cons_of_mem _ (List.mem_append.2 (.inl (weights_mem_all (d := D i) (List.mem_map.2 ⟨i, List.mem_range.2 hil, rfl⟩) n hn)))
      · have h5 := hcell 0 (by omega)
        have h6 := h4 0 (.string x.key) rfl
        simp only [addr_plain, Nat.add_zero] at h5 h6
        rw [← h6]
        exact h5.symm
set_option maxRecDepth 100000 in
set_option maxHeartbeats 2000000 in
theorem command_sized {H : Type} {enc : TypeId × Value → H} {W : World} {held : Bool} {r : Reach} {b0 : Nat} {d : DataW H} {p : List MemPlace} {ts : List TypeId} {ds : List (DataW H)} (hsz : (DataW.weightsEach Tryd.prog ts ds).all (· ≤ reachBytes) = true) {j : Nat} (ht : ts[j]? = some 28) (hd : ds[j]? = some d)
    {c : Md.Cm} (hv : Value.okWide Tryd.prog W r b0 28 c.v) (h : DataW.Trod enc Tryd.prog W 0 (fun _ => true) held 28 c.v d p) : c.key.size ≤ 140737488351232 := by
  have HH := open_agg16 Tryd.underlying28 (by kernel_rfl) cellsCm hv h
  obtain ⟨v0, v1, v2, v3, v4, v5, v6, v7, v8, v9, v10, v11, v12, v13, v14, v15, HH⟩ := HH
  obtain ⟨y0, y1, y2, y3, y4, y5, y6, y7, y8, y9, y10, y11, y12, y13, y14, y15, n, hvv, hdd, -, HH⟩ := HH
  obtain ⟨-, -, t2, -⟩ := HH
  obtain ⟨z2, e2, g2, -⟩ := DataW.trod_string Tryd.underlying9 t2
  simp only [List.cons.injEq, and_true] at e2
  obtain rfl : c.key = z2 := by
    simp only [Md.Cm.v, Md.Cm.cells, Value.agg.injEq] at hvv
    have := congrArg (fun x : Array Value => x[2]?) hvv
    rw [e2] at this
    simpa using this
  have := List.all_eq_true.1 hsz c.key.data.toList.length (DataW.weights_mem_each ht hd _ (by
    rw [hdd]
    unfold DataW.weights
    rw [Tryd.underlying28]
    exact DataW.weights_mem_each (j := 2) (t := 9) rfl (by rw [g2]; rfl) _ (by simp [DataW.weights])))
  have h2 : c.key.data.toList.length ≤ reachBytes := by simpa using this
  rw [reach_small, ← size_len] at h2
  exact h2
end Go.Proofs.YtpgljahomeebhaaDoor
namespace Go.Proofs.YtpgljahomeebhaaDoor.Md
open Go Go.RowKit Go.Lib

def LargeP (w : World) (s : Ms) (e : Ending) (w' : World) : Prop := ∃ b : Bool, e = .returned (.bool b) ∧ (b = false → s.its.length ≤ 200) ∧ Below w.heap.size w w'

set_option maxRecDepth 100000 in
set_option maxHeartbeats 16000000 in
theorem large_any {s : Ms} {w : World} {V : Value} (HS : Sv w V s) : Calls Tryd.prog 13 #[V] w fun e w' => LargeP w s e w' := by
  obtain ⟨v, rfl, HI0⟩ := HS
  obtain ⟨a, c, rfl⟩ := HI0.form
  have HI := hid HI0
  clear HI0
  unfold msv
  obtain ⟨N, hN⟩ : ∃ N, N = s.its.length := ⟨_, rfl⟩
  rw [← hN] at HI ⊢
  have HN := hid hN
  clear hN
  have HB : Hid (∀ W, W = w.alloc (.cells #[.slice a N c, .int .u64 s.cas, .int .i64 s.fl] 25) → W.cell? ⟨w.heap.size, 0, none⟩ = some (.slice a N c) ∧ Below w.heap.size w W) := hid (by
    rintro W rfl
    exact ⟨(Blk.new w #[.slice a N c, .int .u64 s.cas, .int .i64 s.fl] 25).cell (i := 0) rfl, abelow _ _⟩)
  go_enter Tryd.func13, Tryd.ntmps13
  go_wp2_with fail
  obtain ⟨c0, hb⟩ := HB.out _ rfl
  have HB2 := hid hb
  generalize w.alloc (.cells #[.slice a N c, .int .u64 s.cas, .int .i64 s.fl] 25) = W0 at *
  clear HB hb
  go_loopw [3, 4] (fun n i wr => ∃ (m j : Nat), n = .int .i64 m ∧ i = .int .i64 j ∧ j ≤ N ∧ 2500 * j ≤ m ∧ m ≤ 2000000 ∧ Hid (Below w.heap.size w wr) ∧ wr.cell? ⟨w.heap.size, 0, none⟩ = some (.slice a N c)) (fun _ i _ => N - (RowKit.intOf i).toNat)
  case atStart => exact ⟨0, 0, rfl, rfl, Nat.zero_le _, by omega, by omega, HB2, c0⟩
  case round =>
    obtain ⟨m, j, rfl, rfl, hj, hm1, hm2, hbd, c0d⟩ := hrel
    have hI2 := HI.out.below hbd.out
    clear c0 HB2
    rename World => W1
    have j0 : (0 : Int) ≤ (j : Int) := by omega
    by_cases hlt : j < N
    · have hlt1 : (j : Int) < (N : Int) := by omega
      by_cases hml : m < 500000
      · have hml1 : (m : Int) < 500000 := by omega
        obtain ⟨x, hx⟩ : ∃ x, s.its[j]? = some x := ⟨_, List.getElem?_eq_getElem (by rw [← HN.out]; omega)⟩
        obtain ⟨b, o, rfl, d0, d1, d2, -⟩ := hI2.at hx
        clear HI HN hI2
        obtain ⟨p, hp, hp5⟩ : ∃ p : Nat, min (x.key.size : Int) 500000 = (p : Int) ∧ p ≤ 500000 := ⟨min x.key.size 500000, by omega, by omega⟩
        obtain ⟨q, hq, hq5⟩ : ∃ q : Nat, min (x.val.size : Int) 500000 = (q : Int) ∧ q ≤ 500000 := ⟨min x.val.size 500000, by omega, by omega⟩
        have w1 : wrap64 ((m : Int) + 2500) = (m : Int) + 2500 := by unfold wrap64; omega
        have w2 : wrap64 ((m : Int) + 2500 + p) = (m : Int) + 2500 + p := by unfold wrap64; omega
        have w3 : wrap64 ((m : Int) + 2500 + p + q) = (m : Int) + 2500 + p + q := by unfold wrap64; omega
        clear d1 hx
        go_upto_region 5 with fail
        go_quiet (fail)
        go_wp2_with fail
        go_roundw
        case rel => exact ⟨m + 2500 + p + q, j + 1, by go_num, by go_num, by omega, by omega, by omega, hid (Below.trans hbd.out (below_drewN _ _ _)), c0d⟩
        case measure => simp [RowKit.intOf] <;> omega
      · have hml1 : ¬ (m : Int) < 500000 := by omega
        have hmd : decide ((m : Int) < 500000) = false := decide_eq_false hml1
        have hge : decide ((500000 : Int) ≤ (m : Int)) = true := decide_eq_true (by omega)
        clear HI hI2
        go_wp2_with fail
        go_ret
        exact ⟨true, rfl, by simp, hbd.out⟩
    · have hlt1 : ¬ (j : Int) < (N : Int) := by omega
      have hd : decide ((j : Int) < (N : Int)) = false := decide_eq_false hlt1
      have hn : j = N := by omega
      obtain ⟨r, hr⟩ : ∃ r, decide ((500000 : Int) ≤ (m : Int)) = r := ⟨_, rfl⟩
      have hz : Hid (r = false → s.its.length ≤ 200) := hid (fun h => by rw [h] at hr; have := of_decide_eq_false hr; have := HN.out; omega)
      clear HI hI2
      go_wp2_with fail
      go_ret
      exact ⟨r, rfl, hz.out, hbd.out⟩
end Go.Proofs.YtpgljahomeebhaaDoor.Md

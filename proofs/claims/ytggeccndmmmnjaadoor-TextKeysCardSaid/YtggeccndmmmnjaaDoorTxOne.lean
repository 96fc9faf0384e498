/-
  The reader's one at this program: a request for one command. No conditions.
-/
import Derived.Test.YtggeccndmmmnjaaDoorTxHeld
namespace Go.Proofs.YtggeccndmmmnjaaDoor.Tx
open Go Go.RowKit Go.Lib Md

theorem put_eq (a : Act) (d : Nat) (v : Value) : a.put (some d) v = a.put (some d) v := rfl
set_option maxHeartbeats 400000 in
set_option maxRecDepth 100000 in
theorem one_any {R : Nat} {s : RS} {a : Option Addr} {c : Nat} {w : World} (h : Rdr R s a c w) (cm : Cm) :
    Calls Tryd.prog 49 #[.pointer (some ⟨R, 0, none⟩), .agg (cc cm).toArray] w fun e w' => ∃ v, e = .returned v ∧ IsRq w.heap.size (oneQ cm s.quiet) v w' ∧ Below w.heap.size w w' := by
  have hA := alloc2 w (cc cm).toArray #[.int .i64 0, .slice none 0 0, .bool false, .bool false, .string ⟨#[]⟩, .string ⟨#[]⟩, .int .i64 0, .bool false, .string ⟨#[]⟩, .slice none 0 0, .string ⟨#[]⟩] 35 27
  have hlt := h.blk.lt
  have HR := (h.below hA.2.2.2).blk.cell (i := 2) rfl
  have HA := hidc (And.intro hA HR)
  clear hA HR
  go_enter Tryd.func49, Tryd.ntmps49
  go_wp2_with fail
  generalize (w.alloc (.cells (cc cm).toArray 35)).alloc (.cells #[.int .i64 0, .slice none 0 0, .bool false, .bool false, .string ⟨#[]⟩, .string ⟨#[]⟩, .int .i64 0, .bool false, .string ⟨#[]⟩, .slice none 0 0, .string ⟨#[]⟩] 27) = W at *
  obtain ⟨⟨h0, h1, z2, hb⟩, c2⟩ := HA.out
  clear HA h
  obtain ⟨S, hSd⟩ : ∃ S : World → Prop, Hid (S = fun W' => Blk W' w.heap.size 35 (cc cm) ∧ W'.cell? ⟨R, 2, none⟩ = some (.bool s.quiet)) := ⟨_, hidc rfl⟩
  have hS : S W.drew := by rw [hSd.out]; exact ⟨h0.drew, c2⟩
  refine wp_region_E S 7 (by kernel_rfl) ?_
  refine wpAnyE_take (i := 0) (v := .agg #[.int .i64 cm.op, .int .i64 cm.mode, .string cm.key, .string cm.val, .int .u32 cm.flags, .int .i64 cm.exp, .bool cm.hasExp, .int .u64 cm.cas, .bool cm.hasCas, .int .u64 cm.delta, .int .u64 cm.init, .bool cm.down, .bool cm.viv, .int .i64 cm.vive, .int .i64 cm.rcc, .bool cm.inv]) rfl (by kernel_rfl) (by kernel_rfl) (by kernel_rfl) (fun _ _ _ h => h) (by kernel_rfl) (by kernel_rfl) hS (yieldsIf_load_mid (by rfl) 35 (.tmp 3) rfl w.heap.size 0 rfl [.int .i64 cm.op, .int .i64 cm.mode, .string cm.key, .string cm.val, .int .u32 cm.flags, .int .i64 cm.exp, .bool cm.hasExp, .int .u64 cm.cas, .bool cm.hasCas, .int .u64 cm.delta, .int .u64 cm.init, .bool cm.down, .bool cm.viv, .int .i64 cm.vive, .int .i64 cm.rcc, .bool cm.inv] _ ?_ Tryd.underlying35 rfl (by kernel_rfl)) ?_
  · intro w' hw' j v hj
    rw [hSd.out] at hw'
    rw [Nat.zero_add]; exact hw'.1.cell hj
  refine wpAnyE_take (i := 2) (v := .pointer (some ⟨R, 0, none⟩)) rfl (by kernel_rfl) (by kernel_rfl) (by kernel_rfl) (fun _ _ _ h => h) (by kernel_rfl) (by kernel_rfl) hS (Or.inl ⟨by rfl, ?_⟩) ?_
  · intro w' hw'
    go_simp
  refine wpAnyE_take (i := 3) (v := .pointer (some ⟨R, 0, none⟩)) rfl (by kernel_rfl) (by kernel_rfl) (by kernel_rfl) (fun _ _ _ h => h) (by kernel_rfl) (by kernel_rfl) hS (Or.inl ⟨by rfl, ?_⟩) ?_
  · intro w' hw'
    go_simp
  refine wpAnyE_take (i := 4) (v := .pointer (some ⟨R, 2, none⟩)) rfl (by kernel_rfl) (by kernel_rfl) (by kernel_rfl) (fun _ _ _ h => h) (by kernel_rfl) (by kernel_rfl) hS (Or.inl ⟨by rfl, ?_⟩) ?_
  · intro w' hw'
    go_simp
  refine wpAnyE_take (i := 5) (v := .bool s.quiet) rfl (by kernel_rfl) (by kernel_rfl) (by kernel_rfl) (fun _ _ _ h => h) (by kernel_rfl) (by kernel_rfl) hS (Or.inl ⟨by rfl, ?_⟩) ?_
  · intro w' hw'
    rw [hSd.out] at hw'
    have s0 := hw'.2
    clear hw'
    go_simp
  have hq := ((Only.refl (fun b => b = w.heap.size + 1) W).alloc (.cells #[.int .i64 cm.op, .int .i64 cm.mode, .string cm.key, .string cm.val, .int .u32 cm.flags, .int .i64 cm.exp, .bool cm.hasExp, .int .u64 cm.cas, .bool cm.hasCas, .int .u64 cm.delta, .int .u64 cm.init, .bool cm.down, .bool cm.viv, .int .i64 cm.vive, .int .i64 cm.rcc, .bool cm.inv] 35)).drew
  have hSA : S ((W.alloc (.cells #[.int .i64 cm.op, .int .i64 cm.mode, .string cm.key, .string cm.val, .int .u32 cm.flags, .int .i64 cm.exp, .bool cm.hasExp, .int .u64 cm.cas, .bool cm.hasCas, .int .u64 cm.delta, .int .u64 cm.init, .bool cm.down, .bool cm.viv, .int .i64 cm.vive, .int .i64 cm.rcc, .bool cm.inv] 35)).drew) := by
    rw [hSd.out]
    exact ⟨(h0.alloc _).drew, cell_alloc c2 _⟩
  have h1A := (h1.alloc (.cells #[.int .i64 cm.op, .int .i64 cm.mode, .string cm.key, .string cm.val, .int .u32 cm.flags, .int .i64 cm.exp, .bool cm.hasExp, .int .u64 cm.cas, .bool cm.hasCas, .int .u64 cm.delta, .int .u64 cm.init, .bool cm.down, .bool cm.viv, .int .i64 cm.vive, .int .i64 cm.rcc, .bool cm.inv] 35)).drew
  have hN := (Blk.new W #[.int .i64 cm.op, .int .i64 cm.mode, .string cm.key, .string cm.val, .int .u32 cm.flags, .int .i64 cm.exp, .bool cm.hasExp, .int .u64 cm.cas, .bool cm.hasCas, .int .u64 cm.delta, .int .u64 cm.init, .bool cm.down, .bool cm.viv, .int .i64 cm.vive, .int .i64 cm.rcc, .bool cm.inv] 35).drew
  have hN : Blk (W.alloc (.cells #[.int .i64 cm.op, .int .i64 cm.mode, .string cm.key, .string cm.val, .int .u32 cm.flags, .int .i64 cm.exp, .bool cm.hasExp, .int .u64 cm.cas, .bool cm.hasCas, .int .u64 cm.delta, .int .u64 cm.init, .bool cm.down, .bool cm.viv, .int .i64 cm.vive, .int .i64 cm.rcc, .bool cm.inv] 35)).drew W.heap.size 35 (cc cm) := hN
  rw [z2] at hN
  have HSA := hidc hSA
  have HG := hidc (And.intro h1A (And.intro hN (And.intro hq hb)))
  clear hSA h1A hN hq hb h0 h1 c2 hS hSd
  refine wpAnyE_one (i := 1) rfl (by kernel_rfl) (fun K hK => ?_)
  go_simp
  refine hK _ _ (fun _ => HSA.out) ?_
  clear hK K
  obtain ⟨h1A, hN, hq, hb⟩ := HG.out
  generalize (W.alloc (.cells #[.int .i64 cm.op, .int .i64 cm.mode, .string cm.key, .string cm.val, .int .u32 cm.flags, .int .i64 cm.exp, .bool cm.hasExp, .int .u64 cm.cas, .bool cm.hasCas, .int .u64 cm.delta, .int .u64 cm.init, .bool cm.down, .bool cm.viv, .int .i64 cm.vive, .int .i64 cm.rcc, .bool cm.inv] 35)).drew = W2 at *
  refine wpAnyE_one (i := 6) rfl (by kernel_rfl) (fun K hK => ?_)
  go_simp
  refine hK _ _ (fun _ => HSA.out) ?_
  clear hK K
  refine wpAnyE_one (i := 7) rfl (by kernel_rfl) (fun K hK => ?_)
  rw [if_pos (by rfl)]
  refine wp_store_mid 27 (.tmp 4) (.tmp 11) rfl (w.heap.size + 1) 0 (rqc (oneQ cm s.quiet) (.slice (some ⟨w.heap.size + 1 + 1, 0, none⟩) 1 1)).toArray rfl ?_ (Blk.there h1A (by rfl)) (by kernel_rfl) (all_oneCell_toArray (rq_ok _ ⟨_, _, _, rfl⟩)) ?_
  · rfl
  have kB := setCells_blk (rqc (oneQ cm s.quiet) (.slice (some ⟨w.heap.size + 1 + 1, 0, none⟩) 1 1)) 0 W2 [] _ h1A rfl rfl
  have kO := setCells_only (b := w.heap.size + 1) (rqc (oneQ cm s.quiet) (.slice (some ⟨w.heap.size + 1 + 1, 0, none⟩) 1 1)) 0 W2 W2 (Only.refl _ _)
  have kN := hN.only kO (by omega)
  have kF : Hid (IsRq w.heap.size (oneQ cm s.quiet) (.agg (rqc (oneQ cm s.quiet) (.slice (some ⟨w.heap.size + 1 + 1, 0, none⟩) 1 1)).toArray) (W2.setCells (w.heap.size + 1) 0 (rqc (oneQ cm s.quiet) (.slice (some ⟨w.heap.size + 1 + 1, 0, none⟩) 1 1))) ∧ Below w.heap.size w (W2.setCells (w.heap.size + 1) 0 (rqc (oneQ cm s.quiet) (.slice (some ⟨w.heap.size + 1 + 1, 0, none⟩) 1 1)))) := hidc ⟨⟨_, rfl, cms_one kN (by omega)⟩, Below.trans hb ((Only.trans hq kO (fun x h => .inl h)).below (by rw [z2]; omega) (fun b e => by omega))⟩
  have HB := hidc kB
  clear kB kO kN hN hq hb h1A HG HSA
  have HK := hidc hK
  clear hK
  have e0 : ((rqc (oneQ cm s.quiet) (.slice (some ⟨w.heap.size + 1 + 1, 0, none⟩) 1 1)).toArray.toList) = rqc (oneQ cm s.quiet) (.slice (some ⟨w.heap.size + 1 + 1, 0, none⟩) 1 1) := rfl
  rw [e0]
  clear e0
  generalize W2.setCells (w.heap.size + 1) 0 (rqc (oneQ cm s.quiet) (.slice (some ⟨w.heap.size + 1 + 1, 0, none⟩) 1 1)) = D at *
  refine HK.out _ _ (fun h => (by cases (show true = false from h))) (wpAnyE_done (by kernel_rfl) ?_ _)
  clear HK K
  go_wp2_with fail
  exact bodyPost_ret (res_rq rfl HB.out rfl) rfl ⟨_, rfl, kF.out⟩
end Go.Proofs.YtggeccndmmmnjaaDoor.Tx

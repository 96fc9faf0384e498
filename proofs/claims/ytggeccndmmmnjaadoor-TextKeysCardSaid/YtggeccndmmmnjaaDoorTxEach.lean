/-
  text.each at this program: a request for one command with each of the keys. Conditions: at most 2048 keys.
-/
import Derived.Test.YtggeccndmmmnjaaDoorTxStep
import Derived.Test.YtggeccndmmmnjaaDoorTxOff
namespace Go.Proofs.YtggeccndmmmnjaaDoor.Tx
open Go Go.RowKit Go.Lib Md

def zeroCm : Value := .agg #[.int .i64 0, .int .i64 0, .string ByteArray.empty, .string ByteArray.empty, .int .u32 0, .int .i64 0, .bool false, .int .u64 0, .bool false, .int .u64 0, .int .u64 0, .bool false, .bool false, .int .i64 0, .int .i64 0, .bool false]
theorem infoCm : (Tryd.prog.info? 35).map (fun i => (i.zero, i.size, i.bytes)) = some (some zeroCm, 16, 136) := by kernel_rfl

/-- What each comes to. -/
def EachP (w : World) (ks : List (List UInt8)) (cm : Cm) (tokens : Bool) (e : Ending) (w' : World) : Prop :=
  match eachR ks cm tokens with
  | .done q _ => ∃ v, e = .returned v ∧ IsRq w.heap.size q v w' ∧ Below w.heap.size w w'
  | .up why _ _ => e = .panicked [upE why] ∧ Below w.heap.size w w'
theorem each_yes {w : World} {ks : List (List UInt8)} {cm : Cm} {tokens : Bool} (h : ks.all keyB = true) {v : Value} {w' : World} (hI : IsRq w.heap.size ⟨1, ks.map (withKey cm), false, tokens, [], [], 0, false⟩ v w') (hb : Below w.heap.size w w') : EachP w ks cm tokens (.returned v) w' := by
  unfold EachP eachR
  rw [if_pos h]
  exact ⟨v, rfl, hI, hb⟩
theorem each_no {w : World} {ks : List (List UInt8)} {cm : Cm} {tokens : Bool} {k : Nat} {x : List UInt8} (hx : ks[k]? = some x) (hk : keyB x = false) {w' : World} (hb : Below w.heap.size w w') : EachP w ks cm tokens (.panicked [upE mLine]) w' := by
  unfold EachP eachR
  have : ¬ ks.all keyB = true := fun h => by
    have := List.all_eq_true.1 h x (List.mem_of_getElem? hx)
    rw [hk] at this; cases this
  rw [if_neg this]
  exact ⟨rfl, hb⟩
/-- The boxes that each makes. -/
structure EB (w : World) (cm : Cm) (ks : List (List UInt8)) (tokens : Bool) (k : Nat) (key : List UInt8) (v : Value) (W : World) : Prop where
  b0 : Blk W w.heap.size 35 (cc { cm with key := if k = 0 then cm.key else S key })
  b1 : Blk W (w.heap.size + 1) 27 (rqc noRq (.slice none 0 0))
  b2 : Blk W (w.heap.size + 1 + 1) 27 (rqc ⟨1, [], false, tokens, [], [], 0, false⟩ v)
  row : W.ownsRow (w.heap.size + 1 + 1 + 1) 35 16 v k (ccs ((ks.take k).map (withKey cm)))
  below : Below w.heap.size w W
  size : w.heap.size + 1 + 1 + 1 ≤ W.heap.size
theorem EB.start (w : World) (cm : Cm) (ks : List (List UInt8)) (tokens : Bool) : EB w cm ks tokens 0 [] (.slice none 0 0) (((w.alloc (.cells (cc cm).toArray 35)).alloc (.cells (rqc noRq (.slice none 0 0)).toArray 27)).alloc (.cells (rqc ⟨1, [], false, tokens, [], [], 0, false⟩ (.slice none 0 0)).toArray 27)) := by
  have h0 := Blk.new w (cc cm).toArray 35
  have q1 : Below w.heap.size w (w.alloc (.cells (cc cm).toArray 35)) := (Below.refl _ _).alloc (Nat.le_refl _) _
  generalize hw1 : w.alloc (.cells (cc cm).toArray 35) = w1 at *
  have z1 : w1.heap.size = w.heap.size + 1 := by rw [← hw1]; simp
  have h1 := Blk.new w1 (rqc noRq (.slice none 0 0)).toArray 27
  have q2 : Below w1.heap.size w1 (w1.alloc (.cells (rqc noRq (.slice none 0 0)).toArray 27)) := (Below.refl _ _).alloc (Nat.le_refl _) _
  rw [z1] at h1
  generalize hw2 : w1.alloc (.cells (rqc noRq (.slice none 0 0)).toArray 27) = w2 at *
  have z2 : w2.heap.size = w.heap.size + 1 + 1 := by rw [← hw2]; simp [z1]
  have h2 := Blk.new w2 (rqc ⟨1, [], false, tokens, [], [], 0, false⟩ (.slice none 0 0)).toArray 27
  have q3 : Below w2.heap.size w2 (w2.alloc (.cells (rqc ⟨1, [], false, tokens, [], [], 0, false⟩ (.slice none 0 0)).toArray 27)) := (Below.refl _ _).alloc (Nat.le_refl _) _
  rw [z2] at h2
  exact ⟨(h0.below q2).below q3, h1.below q3, h2, World.ownsRow_nil _ _ _ _, Below.then q1 (Below.then q2 q3), by simp [z2]⟩
/-- The key of a round is laid. -/
theorem EB.key {w W : World} {cm : Cm} {ks : List (List UInt8)} {tokens : Bool} {k : Nat} {key : List UInt8} {v : Value} (h : EB w cm ks tokens k key v W) (x : List UInt8) :
    let W' := W.setCell ⟨w.heap.size, 2, none⟩ (.string (S x))
    Blk W' w.heap.size 35 (cc (withKey cm x)) ∧ Blk W' (w.heap.size + 1) 27 (rqc noRq (.slice none 0 0)) ∧ Blk W' (w.heap.size + 1 + 1) 27 (rqc ⟨1, [], false, tokens, [], [], 0, false⟩ v) ∧ W'.ownsRow (w.heap.size + 1 + 1 + 1) 35 16 v k (ccs ((ks.take k).map (withKey cm))) ∧ Below w.heap.size w W' ∧ w.heap.size + 1 + 1 + 1 ≤ W'.heap.size := by
  refine ⟨h.b0.set 2 (.string (S x)), h.b1.setOther (p := ⟨w.heap.size, 2, none⟩) (by show w.heap.size + 1 ≠ w.heap.size; omega) _, h.b2.setOther (p := ⟨w.heap.size, 2, none⟩) (by show w.heap.size + 1 + 1 ≠ w.heap.size; omega) _, ?_, h.below.setCell (p := ⟨w.heap.size, 2, none⟩) (Nat.le_refl _) _, by simpa [World.setCell] using h.size⟩
  refine h.row.kept (row := some w.heap.size) ⟨rfl, rfl, rfl, by simp [World.setCell], fun i _ hne => ?_⟩ ?_
  · exact Below.heap_setCell _ _ _ _ (fun e => hne (by rw [e]))
  · rcases h.row.2 with ⟨rfl, _⟩ | ⟨g, cap, _, rfl, hb, _⟩
    · exact .inl rfl
    · refine .inr fun e => ?_
      have : g = w.heap.size := by simpa [Value.ownBlock] using e
      omega
theorem take_more {ks : List (List UInt8)} {k : Nat} {x : List UInt8} (h : ks[k]? = some x) (cm : Cm) : ccs ((ks.take k).map (withKey cm)) ++ cc (withKey cm x) = ccs ((ks.take (k + 1)).map (withKey cm)) := by
  rw [List.take_add_one, h, Option.toList_some, List.map_append, ccs_append]
  show _ = _ ++ ccs [withKey cm x]
  rw [ccs_one]
/-- A round's end. -/
theorem EB.more {w W w1 : World} {cm : Cm} {ks : List (List UInt8)} {tokens : Bool} {k : Nat} {x : List UInt8} {v v' : Value} (hx : ks[k]? = some x)
    (hB : Blk W w.heap.size 35 (cc (withKey cm x)) ∧ Blk W (w.heap.size + 1) 27 (rqc noRq (.slice none 0 0)) ∧ Blk W (w.heap.size + 1 + 1) 27 (rqc ⟨1, [], false, tokens, [], [], 0, false⟩ v) ∧ Below w.heap.size w W ∧ w.heap.size + 1 + 1 + 1 ≤ W.heap.size)
    (hV : v.ownBlock = none ∨ ∃ g, v.ownBlock = some g ∧ w.heap.size + 1 + 1 + 1 ≤ g)
    (hown : w1.ownsRow (w.heap.size + 1 + 1 + 1) 35 16 v' (k + 1) (ccs ((ks.take k).map (withKey cm)) ++ cc (withKey cm x))) (hgrow : (W.alloc (.cells (cc (withKey cm x)).toArray 35)).grownBy w1 v.ownBlock) :
    ∃ g cap, v' = .slice (some ⟨g, 0, none⟩) (k + 1) cap ∧ w1.cell? ⟨w.heap.size + 1 + 1, 1, none⟩ = some v ∧ w1.frozen? ⟨w.heap.size + 1 + 1, 1, none⟩ = false ∧ EB w cm ks tokens (k + 1) x v' (w1.setCell ⟨w.heap.size + 1 + 1, 1, none⟩ v') := by
  obtain ⟨b0, b1, b2, hb, hs⟩ := hB
  obtain ⟨g, cap, hv'⟩ := ownsRow_succ hown
  rw [take_more hx] at hown
  have hA : Below W.heap.size W (W.alloc (.cells (cc (withKey cm x)).toArray 35)) := (Below.refl _ _).alloc (Nat.le_refl _) _
  have ho : Only (fun b => w.heap.size + 1 + 1 + 1 ≤ b) W w1 := by
    refine Only.trans (Below.only hA) (E := fun b => w.heap.size + 1 + 1 + 1 ≤ b) ⟨hgrow.os, hgrow.tape, hgrow.output, hgrow.size, fun i hi hn => hgrow.block i hi (fun e => ?_)⟩ (fun b hb => .inl hb)
    rcases hV with h0 | ⟨g0, h0, hg0⟩
    · rw [h0] at e; cases e
    · rw [h0] at e
      injection e with e
      exact hn (by omega)
  have c0 := b0.only ho (by omega)
  have c1 := b1.only ho (by omega)
  have c2 := b2.only ho (by omega)
  refine ⟨g, cap, hv', c2.cell (i := 1) rfl, c2.frozen 1, c0.setOther (p := ⟨w.heap.size + 1 + 1, 1, none⟩) (by show w.heap.size ≠ w.heap.size + 1 + 1; omega) _, c1.setOther (p := ⟨w.heap.size + 1 + 1, 1, none⟩) (by show w.heap.size + 1 ≠ w.heap.size + 1 + 1; omega) _, c2.set 1 v', ?_, ?_, ?_⟩
  · refine hown.kept (row := some (w.heap.size + 1 + 1)) ⟨rfl, rfl, rfl, by simp [World.setCell], fun i _ hne => Below.heap_setCell _ _ _ _ (fun e => hne (by rw [e]))⟩ ?_
    rcases hown.2 with ⟨rfl, _⟩ | ⟨g, cap, _, rfl, hb, _⟩
    · exact .inl rfl
    · refine .inr fun e => ?_
      have : g = w.heap.size + 1 + 1 := by simpa [Value.ownBlock] using e
      omega
  · exact (Below.trans hb (ho.below (by omega) (fun b h => by omega))).setCell (p := ⟨w.heap.size + 1 + 1, 1, none⟩) (by show w.heap.size ≤ w.heap.size + 1 + 1; omega) v'
  · have := ho.size
    simp only [World.setCell, Array.size_modify]; omega
theorem own_of_row {W : World} {n k : Nat} {v : Value} {xs : List Value} (h : W.ownsRow n 35 16 v k xs) : v.ownBlock = none ∨ ∃ g, v.ownBlock = some g ∧ n ≤ g := by
  rcases h.2 with ⟨rfl, _⟩ | ⟨g, cap, _, rfl, hb, _⟩
  · exact .inl rfl
  · exact .inr ⟨g, rfl, hb⟩
set_option maxHeartbeats 4000000 in
set_option maxRecDepth 100000 in
theorem each_any (a : Option Addr) (c : Nat) (ks : List (List UInt8)) (cm : Cm) (tokens : Bool) (w : World) (hT : Texts w (.slice a ks.length c) ks) (hn : ks.length ≤ 2048) :
    Calls Tryd.prog 42 #[.slice a ks.length c, .agg (cc cm).toArray, .bool tokens] w (EachP w ks cm tokens) := by
  have HT := hidc hT
  obtain ⟨i0, hi, hz0, hz1, hz2⟩ := info_parts infoCm
  have HS := hidc (EB.start w cm ks tokens)
  clear hT
  go_enter Tryd.func42, Tryd.ntmps42
  go_wp2_with fail
  go_loopw [14] (fun i W => ∃ (k : Nat) (key : List UInt8) (v : Value), k ≤ ks.length ∧ i = .int .i64 k ∧ (∀ j x, j < k → ks[j]? = some x → keyB x = true) ∧ EB w cm ks tokens k key v W) (fun i _ => ks.length - (RowKit.intOf i).toNat)
  case atStart => exact ⟨0, [], .slice none 0 0, Nat.zero_le _, rfl, fun j x h => by omega, HS.out⟩
  case round =>
    obtain ⟨k, key, v, hk, rfl, HA, HE⟩ := hrel
    clear HS
    by_cases hlt : k < ks.length
    · obtain ⟨x, hx⟩ : ∃ x, ks[k]? = some x := ⟨_, List.getElem?_eq_getElem hlt⟩
      obtain ⟨ba, oa, rfl, l1, h1⟩ := texts_cell HT.out hx
      have g1 : wr.cell? ⟨ba, oa + k, none⟩ = some (.string (S x)) := (HE.below.cell (p := ⟨ba, oa + k, none⟩) l1).trans h1
      have i1 : (k : Int) < (ks.length : Int) := by omega
      by_cases hkey : keyB x = true
      · have ck := fun W => key_ok x hkey W
        have HN := hidc (EB.key HE x)
        have f2 := HE.b0.frozen 2
        have g2 := HE.b0.cell (i := 2) rfl
        have HX := hidc hx
        clear h1 l1 hx HE
        go_wp2_with fail
        refine (ck _).mono ?_
        rintro e w1 ⟨rfl, rfl⟩
        go_upto_region 6 with fail
        generalize wr.setCell ⟨w.heap.size, 2, none⟩ (.string (S x)) = W at *
        obtain ⟨n0, n1, n2, n3, n4, n5⟩ := HN.out
        clear HN g1 g2 f2 ck
        have hok := cc_ok (withKey cm x)
        have hsrc : ∀ j u, (cc (withKey cm x))[j]? = some u → (W.alloc (.cells (cc (withKey cm x)).toArray 35)).cell? ((⟨W.heap.size, 0, none⟩ : Addr).add j) = some u := fun j u hj => by
          rw [addr_plain, Nat.zero_add]
          exact (Blk.new W (cc (withKey cm x)).toArray 35).cell hj
        have q0 := n0.cell (i := 0) rfl
        have q1 := n0.cell (i := 1) rfl
        have q2 := n0.cell (i := 2) rfl
        have q3 := n0.cell (i := 3) rfl
        have q4 := n0.cell (i := 4) rfl
        have q5 := n0.cell (i := 5) rfl
        have q6 := n0.cell (i := 6) rfl
        have q7 := n0.cell (i := 7) rfl
        have q8 := n0.cell (i := 8) rfl
        have q9 := n0.cell (i := 9) rfl
        have q10 := n0.cell (i := 10) rfl
        have q11 := n0.cell (i := 11) rfl
        have q12 := n0.cell (i := 12) rfl
        have q13 := n0.cell (i := 13) rfl
        have q14 := n0.cell (i := 14) rfl
        have q15 := n0.cell (i := 15) rfl
        have r1 := n2.cell (i := 1) rfl
        have fr := n2.frozen 1
        have HB := hidc (And.intro n0 (And.intro n1 (And.intro n2 (And.intro n4 n5))))
        have HO := hidc (n3.alloc (.cells (cc (withKey cm x)).toArray 35))
        have HK := hidc hok
        have HV := hidc (own_of_row n3)
        have HSR := hidc hsrc
        clear n0 n1 n2 n3 n4 n5 hok hsrc
        go_wp2_with (at_builtin; refine wpList_append_own _ rfl _ _ 24 rfl (w.heap.size + 1 + 1 + 1) 35 i0 zeroCm 16 136 Tryd.underlying24 hi hz0 hz1 hz2 rfl (by decide) v k (ccs ((ks.take k).map (withKey cm))) rfl HO.out ⟨W.heap.size, 0, none⟩ 1 1 (cc (withKey cm x)) rfl rfl HSR.out HK.out (by unfold maxLen; omega) (by omega) (by have := HB.out.2.2.2.2; simp; omega) ?_; intro v' w1 hown hgrow _; obtain ⟨g', cap', rfl, s1, s2, HE2⟩ := EB.more HX.out HB.out HV.out hown hgrow; have HE3 := hidc HE2; clear HE2 hown hgrow)
        go_roundw
        case rel =>
          refine ⟨k + 1, x, _, by omega, by go_num, fun j y hj hy => ?_, HE3.out⟩
          by_cases e : j = k
          · subst e
            have := HX.out.symm.trans hy
            injection this with this
            subst this; exact hkey
          · exact HA j y (by omega) hy
        case measure => simp [RowKit.intOf]; omega
      · have hkey : keyB x = false := by simpa using hkey
        have ck := fun W => key_no x hkey W
        have HP := hidc (each_no (cm := cm) (tokens := tokens) hx hkey HE.below)
        generalize EachP w ks cm tokens = Q at *
        clear h1 l1 hx hkey HE HA
        go_wp2_with fail
        refine (ck _).mono ?_
        rintro e w1 ⟨rfl, rfl⟩
        go_wp2_with fail
        exact ⟨rfl, HP.out⟩
    · obtain rfl : k = ks.length := by omega
      have hall : ks.all keyB = true := List.all_eq_true.2 fun x hx => by
        obtain ⟨j, hj⟩ := List.getElem?_of_mem hx
        exact HA j x (List.getElem?_eq_some_iff.1 hj).1 hj
      have hr := HE.row
      rw [List.take_length] at hr
      have hr' : wr.ownsRow (w.heap.size + 1 + 1 + 1) 35 16 v (ks.map (withKey cm)).length (ccs (ks.map (withKey cm))) := by rw [List.length_map]; exact hr
      have hC := cms_row hr'
      obtain ⟨av, nv, kv, hvv⟩ := hvs hC
      have hok : ∀ u ∈ rqc ⟨1, [], false, tokens, [], [], 0, false⟩ v, u.oneCell' = true := rq_ok _ ⟨av, nv, kv, hvv⟩
      have HF : Hid (∀ W, Blk W (w.heap.size + 1) 27 (rqc ⟨1, [], false, tokens, [], [], 0, false⟩ v) → Only (fun x => x = w.heap.size + 1) wr W → EachP w ks cm tokens (.returned (.agg (rqc ⟨1, [], false, tokens, [], [], 0, false⟩ v).toArray)) W) := hidc fun W _ ho => by
        refine each_yes hall ⟨v, rfl, ?_⟩ (Below.trans HE.below (ho.below (Nat.le_trans (by omega) HE.size) (fun b e => by omega)))
        exact Cms.mono (hC.only ho (fun b h1 _ e => by omega)) (by omega)
      have HB1 := hidc HE.b1
      have HB2 := hidc HE.b2
      have HOK := hidc hok
      generalize EachP w ks cm tokens = Q at *
      clear HE HA hall hr hr' hC hok hvv
      go_wp2_with (first | (refine ldRq rfl rfl rfl HB2.out rfl ?_) | (refine stRq rfl rfl rfl rfl rfl HB1.out rfl rfl HOK.out ?_; intro W hW oW; have HW := hidc (And.intro hW (HF.out W hW oW)); clear hW oW))
      exact bodyPost_ret (res_rq rfl HW.out.1 rfl) rfl HW.out.2
end Go.Proofs.YtggeccndmmmnjaaDoor.Tx

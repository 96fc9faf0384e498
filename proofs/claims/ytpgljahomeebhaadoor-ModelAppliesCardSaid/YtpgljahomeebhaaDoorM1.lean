/-
  The contract of the document's own Find: where a key's item stands. Conditions: the state's items can be read.
  A region that draws its order, whose last operation writes what others of it read: a condition on the world that is kept until that one comes up; appends of items. No program in it. No conditions.
-/
import Derived.Test.YtpgljahomeebhaaDoorModLive
import Derived.BigQuiet
import Derived.Laws.OwnMore
import Derived.Laws.AppendOwn
import Derived.Deep.RegionHeld3
namespace Go.Proofs.YtpgljahomeebhaaDoor.Md
open Go Go.RowKit Go.Lib

/-- How many stand ahead of a key. -/
def pos (l : List It) (k : ByteArray) : Nat := (l.takeWhile (fun x => klt x.key k)).length
def isAt (l : List It) (k : ByteArray) : Bool := (find l k).isSome
theorem pos_cons (x : It) (l : List It) (k : ByteArray) : pos (x :: l) k = if klt x.key k = true then pos l k + 1 else 0 := by
  unfold pos
  rw [List.takeWhile_cons]
  cases h : klt x.key k <;> simp
theorem pos_le (l : List It) (k : ByteArray) : pos l k ≤ l.length := by
  induction l with
  | nil => exact Nat.le_refl _
  | cons x l ih => rw [pos_cons, List.length_cons]; split <;> omega
theorem all_below {x : It} {l : List It} {k : ByteArray} (h : Sorted (x :: l)) (hx : klt x.key k = false) : ∀ y ∈ l, klt y.key k = false := fun y hy => by
  have h' := (List.pairwise_cons.1 h).1 y hy
  rw [Bool.eq_false_iff]
  intro e
  rw [klt_trans h' e] at hx; cases hx
theorem pos_take {l : List It} (h : Sorted l) (k : ByteArray) : l.take (pos l k) = l.filter (fun y => klt y.key k) := by
  induction l with
  | nil => rfl
  | cons x l ih =>
    have h' := List.pairwise_cons.1 h
    rw [pos_cons, List.filter_cons]
    cases e : klt x.key k
    · rw [if_neg (by decide), if_neg (by decide), List.take_zero]
      exact (List.filter_eq_nil_iff.2 (fun y hy => by rw [all_below h e y hy]; decide)).symm
    · rw [if_pos rfl, if_pos rfl, List.take_succ_cons, ih h'.2]
theorem pos_drop {l : List It} (h : Sorted l) (k : ByteArray) : l.drop (if isAt l k then pos l k + 1 else pos l k) = l.filter (fun y => klt k y.key) := by
  induction l with
  | nil => simp [isAt, find_nil, pos]
  | cons x l ih =>
    have h' := List.pairwise_cons.1 h
    unfold isAt
    rw [pos_cons, List.filter_cons, find_cons]
    cases e : klt x.key k
    · have hl : ∀ y ∈ l, klt x.key y.key = true := h'.1
      by_cases ek : x.key = k
      · have e2 : klt k x.key = false := by rw [ek]; exact klt_irrefl k
        rw [if_pos ek, e2]
        simp only [Option.isSome_some, if_true, Bool.false_eq_true, if_false, Nat.zero_add, List.drop_succ_cons, List.drop_zero]
        exact (List.filter_eq_self.2 (fun y hy => by rw [← ek]; exact hl y hy)).symm
      · have e2 : klt k x.key = true := by
          cases e3 : klt k x.key
          · exact absurd (klt_total e e3) ek
          · rfl
        have hn : find l k = none := find_none.2 (fun y hy hk => by
          have := klt_trans e2 (hl y hy)
          rw [hk, klt_irrefl] at this; cases this)
        rw [if_neg ek, hn, e2, List.filter_eq_self.2 (fun y hy => klt_trans e2 (hl y hy))]
        simp only [Option.isSome_none, if_true, Bool.false_eq_true, if_false, List.drop_zero]
    · have ek : x.key ≠ k := klt_ne e
      rw [if_neg ek, klt_asymm e, ← ih h'.2]
      unfold isAt
      simp only [if_true, Bool.false_eq_true, if_false]
      cases find l k <;> simp only [Option.isSome_some, Option.isSome_none, if_true, Bool.false_eq_true, if_false, List.drop_succ_cons]
theorem pos_at {l : List It} (h : Sorted l) (k : ByteArray) : isAt l k = true → l[pos l k]? = find l k := by
  induction l with
  | nil => intro e; simp [isAt, find_nil] at e
  | cons x l ih =>
    have h' := List.pairwise_cons.1 h
    unfold isAt
    rw [pos_cons, find_cons]
    cases e : klt x.key k
    · by_cases ek : x.key = k
      · rw [if_pos ek, if_neg (by decide)]; intro _; rfl
      · rw [if_neg ek, if_neg (by decide)]
        intro hs
        cases hf : find l k with
        | none => rw [hf] at hs; cases hs
        | some y =>
          obtain ⟨hy, hk⟩ := find_some hf
          have := all_below h e y hy
          have h2 := h'.1 y hy
          rw [hk] at h2
          rw [h2] at e; cases e
    · have ek : x.key ≠ k := klt_ne e
      rw [if_neg ek, if_pos rfl]
      intro hs
      rw [List.getElem?_cons_succ]
      exact ih h'.2 hs
/-- What stands at the place, and ahead of it. -/
theorem pos_fwd (l : List It) (k : ByteArray) (j : Nat) (x : It) (hj : l[j]? = some x) (hlt : j < pos l k) : klt x.key k = true := by
  induction l generalizing j with
  | nil => simp at hj
  | cons y l ih =>
    rw [pos_cons] at hlt
    split at hlt
    · rename_i e
      cases j with
      | zero => simp at hj; rw [← hj]; exact e
      | succ j => exact ih j (by simpa using hj) (by omega)
    · omega
theorem pos_stop (l : List It) (k : ByteArray) (x : It) (hj : l[pos l k]? = some x) : klt x.key k = false := by
  induction l with
  | nil => simp at hj
  | cons y l ih =>
    rw [pos_cons] at hj
    split at hj
    · exact ih (by simpa using hj)
    · rename_i e; simp at hj; rw [← hj]; simpa using e
theorem pos_key {l : List It} (h : Sorted l) (k : ByteArray) (x : It) (hj : l[pos l k]? = some x) : decide (x.key = k) = isAt l k := by
  cases e : isAt l k
  · rw [decide_eq_false]
    intro hk
    unfold isAt at e
    cases hf : find l k with
    | none => exact find_none.1 hf x (List.mem_of_getElem? hj) hk
    | some y => rw [hf] at e; cases e
  · have := pos_at h k e
    rw [hj] at this
    exact decide_eq_true (find_some this.symm).2
theorem pos_end {l : List It} (h : Sorted l) (k : ByteArray) (hj : pos l k = l.length) : isAt l k = false := by
  cases e : isAt l k
  · rfl
  · have := pos_at h k e
    rw [hj, List.getElem?_eq_none (Nat.le_refl _)] at this
    unfold isAt at e
    rw [← this] at e; cases e
theorem key_beq (a b : ByteArray) : (a.toList == b.toList) = decide (a = b) := by
  rw [Bool.eq_iff_iff, beq_iff_eq, decide_eq_true_iff, Lib.toList_data, Lib.toList_data]
  exact ⟨key_eq, fun h => by rw [h]⟩
theorem below_drewN (B : Nat) (w : World) (n : Nat) : Below B w (w.drewN n) := ⟨rfl, rfl, rfl, Nat.le_refl _, fun _ _ => rfl⟩
set_option maxRecDepth 100000 in
set_option maxHeartbeats 4000000 in
theorem ref_find {s : Ms} {V : Value} {w : World} (h : Sv w V s) (hs : Sorted s.its) (hlen : s.its.length ≤ 4194304) (k : ByteArray) :
    Calls Tryd.prog 23 #[V, .string k] w fun e w' => e = .returned (.tuple #[.int .i64 (pos s.its k), .bool (isAt s.its k)]) ∧ Below w.heap.size w w' := by
  obtain ⟨v, rfl, hI⟩ := h
  obtain ⟨a, c, rfl⟩ := hI.form
  have HI := hid hI
  clear hI
  unfold msv
  obtain ⟨N, hN⟩ : ∃ N, N = s.its.length := ⟨_, rfl⟩
  rw [← hN] at HI hlen ⊢
  have hpn : pos s.its k ≤ N := by rw [hN]; exact pos_le _ _
  have HF := hid (pos_fwd s.its k)
  have HS := hid (pos_stop s.its k)
  have HK := hid (pos_key hs k)
  have HE := hid (pos_end hs k)
  have HN := hid hN
  clear hN hs
  have HB : Hid (∀ W, W = w.alloc (.cells #[.slice a N c, .int .u64 s.cas, .int .i64 s.fl] 25) → W.cell? ⟨w.heap.size, 0, none⟩ = some (.slice a N c) ∧ Below w.heap.size w W) := hid (by
    rintro W rfl
    exact ⟨(Blk.new w #[.slice a N c, .int .u64 s.cas, .int .i64 s.fl] 25).cell (i := 0) rfl, abelow _ _⟩)
  generalize hP : pos s.its k = P at *
  generalize hA : isAt s.its k = A at *
  clear hA
  go_enter Tryd.func23, Tryd.ntmps23
  go_wp2_with fail
  obtain ⟨c0, hb⟩ := HB.out _ rfl
  have HB2 := hid hb
  generalize w.alloc (.cells #[.slice a N c, .int .u64 s.cas, .int .i64 s.fl] 25) = W0 at *
  clear HB hb
  go_loopw [6] (fun i wr => ∃ (j : Nat), i = .int .i64 j ∧ j ≤ P ∧ W0 = wr) (fun i _ => P - (RowKit.intOf i).toNat)
  case atStart => exact ⟨0, rfl, Nat.zero_le _, rfl⟩
  case round =>
    obtain ⟨j, rfl, hj, rfl⟩ := hrel
    have j0 : (0 : Int) ≤ (j : Int) := by omega
    by_cases hlt : j < P
    · have hlt1 : (j : Int) < (N : Int) := by omega
      obtain ⟨x, hx⟩ : ∃ x, s.its[j]? = some x := ⟨_, List.getElem?_eq_getElem (by rw [← HN.out]; omega)⟩
      obtain ⟨b, o, rfl, d0, -⟩ := (HI.out.below HB2.out).at hx
      have hk : Op.bytesLess x.key.toList k.toList = true := HF.out j x hx (by omega)
      clear HF HS HK HE hP
      go_wp2_with fail
      go_roundw
      case rel => exact ⟨j + 1, by go_num, by omega, by first | rfl | trivial⟩
      case measure => simp [RowKit.intOf] <;> omega
    · obtain rfl : j = P := by omega
      by_cases hend : j < N
      · have hlt1 : (j : Int) < (N : Int) := by omega
        obtain ⟨x, hx⟩ : ∃ x, s.its[j]? = some x := ⟨_, List.getElem?_eq_getElem (by rw [← HN.out]; omega)⟩
        obtain ⟨b, o, rfl, d0, -⟩ := (HI.out.below HB2.out).at hx
        have hk : Op.bytesLess x.key.toList k.toList = false := HS.out x hx
        have hk2 : (x.key.toList == k.toList) = A := by rw [key_beq]; exact HK.out x hx
        clear HF HS HK HE hP
        go_wp2_with fail
        go_quiet (fail)
        go_wp2_with fail
        go_ret2
        exact ⟨rfl, Below.trans HB2.out (below_drewN _ _ _)⟩
      · have hlt1 : ¬ (j : Int) < (N : Int) := by omega
        have hd : decide ((j : Int) < (N : Int)) = false := decide_eq_false hlt1
        have hA : A = false := HE.out (by have := HN.out; omega)
        subst hA
        clear HF HS HK HE hP
        go_wp2_with fail
        go_quiet (fail)
        go_wp2_with fail
        go_ret2
        exact ⟨rfl, Below.trans HB2.out (below_drewN _ _ _)⟩
end Go.Proofs.YtpgljahomeebhaaDoor.Md
namespace Go.Proofs.YtpgljahomeebhaaDoor.Md
open Go Go.RowKit Go.Lib

section
variable {P : Program} {ops : Array Oper} {Q : Exit → Act → World → Prop} {md : Region.Mode} {S : World → Prop} {st : Nat}
def wpAnyE (P : Program) (md : Region.Mode) (ops : Array Oper) (Q : Exit → Act → World → Prop) (S : World → Prop) (st : Nat) : Nat → Array Bool → Act → World → Prop
  | 0, listed, a, w => Region.ready md ops listed = [] ∧ Q .normal a w
  | fuel + 1, listed, a, w =>
    (Region.ready md ops listed = [] → Q .normal a w) ∧
    ∀ i ∈ Region.ready md ops listed, wpOp P ops Q i (fun a' w' => ((listed.setIfInBounds i true).getD st true = false → S w') ∧ wpAnyE P md ops Q S st fuel (listed.setIfInBounds i true) a' w') a w
theorem wpAny_of_E : ∀ (fuel : Nat) (listed : Array Bool) (a : Act) (w : World), wpAnyE P md ops Q S st fuel listed a w → wpAny P md ops Q fuel listed a w
  | 0, _, _, _, h => h
  | fuel + 1, _, _, _, h => ⟨h.1, fun i hi => wpOp_mono (fun a' w' h' => wpAny_of_E fuel _ a' w' h'.2) (h.2 i hi)⟩
/-- Does that one wait for number i? -/
def waits (md : Region.Mode) (ops : Array Oper) (st i : Nat) : Bool := i != st && match ops[st]? with | none => false | some o => o.after.toList.any fun e => Region.binds md e && e.on == i
theorem waits_spec {i : Nat} (h : waits md ops st i = true) : i ≠ st ∧ ∃ o, ops[st]? = some o ∧ ∃ e ∈ o.after, Region.binds md e = true ∧ e.on = i := by
  unfold waits at h
  rw [Bool.and_eq_true] at h
  refine ⟨by simpa using h.1, ?_⟩
  have h2 := h.2
  cases ho : ops[st]? with
  | none => rw [ho] at h2; cases h2
  | some o =>
    rw [ho] at h2
    obtain ⟨e, he, hb⟩ := List.any_eq_true.1 h2
    rw [Bool.and_eq_true] at hb
    exact ⟨o, rfl, e, by simpa using he, hb.1, by simpa using hb.2⟩
theorem wpAnyE_first {i : Nat} {oi : Oper} {v : Value} (hi : ops[i]? = some oi) (hsel : ∀ (j : Nat) (o : Oper) cs b, ops[j]? = some o → o.op ≠ .select cs b)
    (hQ : ∀ c a w, Q (.panic c) (a.put oi.dst v) w → Q (.panic c) a w) (hw : waits md ops st i = true) : ∀ (fuel : Nat) (listed : Array Bool) (a : Act) (w : World),
      (∀ j oj, ops[j]? = some oj → j ≠ i → listed.getD j true = false → (∀ e ∈ oj.after, Region.binds md e = true → e.on ≠ i) → oi.apart ops oj = true) →
      i ∈ Region.ready md ops listed → YieldsIf P ops S oi v a → S w → listed.getD st true = false →
      wpAnyE P md ops Q S st fuel (listed.setIfInBounds i true) (a.put oi.dst v) w → wpAnyE P md ops Q S st (fuel + 1) listed a w := by
  obtain ⟨his, ost, host, est, hest, hbst, hon⟩ := waits_spec hw
  intro fuel
  induction fuel with
  | zero =>
    intro listed a w _ hr hy hS _ H
    refine ⟨fun h => (by rw [h] at hr; cases hr), fun j hj => ?_⟩
    by_cases hji : j = i
    · subst hji; exact hy.wpOp hi hS ⟨fun _ => hS, H⟩
    · have := ready_mono hj hji
      rw [H.1] at this
      cases this
  | succ fuel ih =>
    intro listed a w hfree hr hy hS hst H
    refine ⟨fun h => (by rw [h] at hr; cases hr), fun j hj => ?_⟩
    by_cases hji : j = i
    · subst hji; exact hy.wpOp hi hS ⟨fun _ => hS, H⟩
    · have h1 := H.2 j (ready_mono hj hji)
      obtain ⟨hjun, oj, hoj, hall⟩ := mem_ready.1 hj
      have hnot : ∀ e ∈ oj.after, Region.binds md e = true → e.on ≠ i := fun e he hb heq => by
        have h1 := hall e he hb
        have h0 := (mem_ready.1 hr).1
        rw [heq] at h1
        rcases Nat.lt_or_ge i listed.size with h' | h'
        · simp [h'] at h0 h1; rw [h0] at h1; cases h1
        · simp [Array.getElem?_eq_none h'] at h1
      have hjs : j ≠ st := fun e => by
        subst e
        rw [host] at hoj
        cases hoj
        exact hnot est hest hbst hon
      have h2 := wpOp_putIf hoj (hfree j oj hoj hji hjun hnot) (fun cs b => hsel i oi cs b hi) (fun cs b => hsel j oj cs b hoj) hQ hy h1
      have hfree' : ∀ k ok, ops[k]? = some ok → k ≠ i → (listed.setIfInBounds j true).getD k true = false →
          (∀ e ∈ ok.after, Region.binds md e = true → e.on ≠ i) → oi.apart ops ok = true := fun k ok hk hki hun hno => by
        refine hfree k ok hk hki ?_ hno
        by_cases hjk : j = k
        · subst hjk; exact hjun
        · rw [getD_set_ne true hjk] at hun; exact hun
      have hst2 : (listed.setIfInBounds j true).getD st true = false := by rw [getD_set_ne true hjs]; exact hst
      have hst3 : ((listed.setIfInBounds i true).setIfInBounds j true).getD st true = false := by rw [getD_set_ne true hjs, getD_set_ne true his]; exact hst
      refine wpOp_mono (fun a' w' h3 => ⟨fun _ => h3.2.1 hst3, ih (listed.setIfInBounds j true) a' w' hfree' (ready_mono hr (Ne.symm hji)) h3.1 (h3.2.1 hst3) hst2 ?_⟩) h2
      rw [Array.setIfInBounds_comm _ _ hji]
      exact h3.2.2
/-- Take number 'i' first. -/
theorem wpAnyE_take {i : Nat} {oi : Oper} {v : Value} {fuel : Nat} {listed : Array Bool} {a : Act} {w : World} (hi : ops[i]? = some oi)
    (hs : Region.noSelect ops = true) (hf : Region.free md ops listed i = true) (hr : (Region.ready md ops listed).contains i = true)
    (hQ : ∀ c a w, Q (.panic c) (a.put oi.dst v) w → Q (.panic c) a w) (hw : waits md ops st i = true) (hst : listed.getD st true = false) (hS : S w) (hy : YieldsIf P ops S oi v a)
    (h : wpAnyE P md ops Q S st fuel (listed.setIfInBounds i true) (a.put oi.dst v) w) : wpAnyE P md ops Q S st (fuel + 1) listed a w :=
  wpAnyE_first hi (Region.noSelect_spec hs) hQ hw fuel listed a w (Region.free_spec hi hf) (by simpa using hr) hy hS hst h
/-- One alone may come up. -/
theorem wpAnyE_one {i : Nat} {o : Oper} {fuel : Nat} {listed : Array Bool} {a : Act} {w : World} (ho : ops[i]? = some o) (hr : Region.ready md ops listed = [i])
    (hs : ∀ K : Act → World → Prop, (∀ a' w', ((listed.setIfInBounds i true).getD st true = false → S w') → wpAnyE P md ops Q S st fuel (listed.setIfInBounds i true) a' w' → K a' w') → if Region.wanted o (yielded ops a.tmps) = true then Oper.wp P o a w K Q else K (a.put o.dst undef) w) :
    wpAnyE P md ops Q S st (fuel + 1) listed a w := by
  refine ⟨fun h => (by rw [hr] at h; cases h), fun j hj => ?_⟩
  rw [hr] at hj
  obtain rfl : j = i := by simpa using hj
  unfold wpOp
  rw [ho]
  dsimp only
  have h1 := hs (fun a' w' => ((listed.setIfInBounds j true).getD st true = false → S w') ∧ wpAnyE P md ops Q S st fuel (listed.setIfInBounds j true) a' w') (fun a' w' h1 h2 => ⟨h1, h2⟩)
  split
  · rename_i hw
    rw [if_pos hw] at h1
    exact .inl h1
  · rename_i hw
    rw [if_neg hw] at h1
    exact h1
theorem wpAnyE_done {listed : Array Bool} {a : Act} {w : World} (hr : Region.ready md ops listed = []) (h : Q .normal a w) :
    ∀ fuel, wpAnyE P md ops Q S st fuel listed a w
  | 0 => ⟨hr, h⟩
  | _ + 1 => ⟨fun _ => h, by rw [hr]; simp⟩
/-- The beginning. -/
theorem wp_region_E {id : Nat} {a : Act} {w : World} (S : World → Prop) (st : Nat) (hm : P.follows .mixedOrders = true)
    (h : wpAnyE P .any ops Q S st ops.size (Array.replicate ops.size false) a w.drew) : (Code.region id ops true).wp P Q a w :=
  wp_region_any hm (wpAny_of_E _ _ _ _ h)
end
theorem wp_append_more {P : Program} (w : World) {o : Oper} {a : Act} {K : Act → World → Prop} {Q : Exit → Act → World → Prop} (s x : Operand) (t : TypeId)
    (ho : o.op = .call { callee := .builtin .append, args := #[s, x], argTypes := #[t, t] })
    (base : Nat) (e : TypeId) (i : TypeInfo) (z : Value) (size bytes : Nat) (ht : P.underlying t = some (.slice e)) (hi : P.info? e = some i) (hz : i.zero = some z)
    (hsize : i.size = size) (hby : i.bytes = bytes) (hzs : z.cells.size = size) (hsz : 0 < size)
    (v : Value) (n : Nat) (xs : List Value) (hs : a.eval s = v) (hown : w.ownsRow base e size v n xs)
    (ad : Addr) (m c : Nat) (news : List Value) (hx : a.eval x = .slice (some ad) m c) (hl : news.length = m * size) (hnews : ∀ j u, news[j]? = some u → w.cell? (ad.add j) = some u) (h1 : ∀ u ∈ news, u.oneCell' = true)
    (h63 : n + m ≤ maxLen) (hbytes : (n + m) * bytes ≤ 140737488355328) (hbase : base ≤ w.heap.size) (N : Nat) (hN : n + m = N)
    (h : ∀ v' w', w'.ownsRow base e size v' N (xs ++ news) → w.grownBy w' v.ownBlock → (v'.ownBlock = v.ownBlock ∨ v'.ownBlock = some w.heap.size) → K (a.put o.dst v') w') : o.wp P a w K Q := by
  obtain ⟨v', w', hr, h2, h3, _, h5⟩ := run_append_own_at (P := P) w base t o.type e i z size bytes ht hi hz hsize hby hzs hsz v n xs hown ad m c news hl hnews h1 h63 hbytes hbase
  unfold Oper.wp execOp
  simp only [ho, resolve, invoke, builtin, Sem.run_bind, Sem.run_pure, Result.andThen_ok, List.map_toArray, List.map_cons, List.map_nil, hs, hx, hr]
  exact h v' w' (hN ▸ h2) h3 h5
theorem step_append_more {P : Program} (w : World) {ops : Array Oper} {o : Oper} {a : Act} {K : Act → World → Prop} {Q : Exit → Act → World → Prop} {E : Prop} (hgd : o.guard = none) (s x : Operand) (t : TypeId)
    (ho : o.op = .call { callee := .builtin .append, args := #[s, x], argTypes := #[t, t] })
    (base : Nat) (e : TypeId) (i : TypeInfo) (z : Value) (size bytes : Nat) (ht : P.underlying t = some (.slice e)) (hi : P.info? e = some i) (hz : i.zero = some z)
    (hsize : i.size = size) (hby : i.bytes = bytes) (hzs : z.cells.size = size) (hsz : 0 < size)
    (v : Value) (n : Nat) (xs : List Value) (hs : a.eval s = v) (hown : w.ownsRow base e size v n xs)
    (ad : Addr) (m c : Nat) (news : List Value) (hx : a.eval x = .slice (some ad) m c) (hl : news.length = m * size) (hnews : ∀ j u, news[j]? = some u → w.cell? (ad.add j) = some u) (h1 : ∀ u ∈ news, u.oneCell' = true)
    (h63 : n + m ≤ maxLen) (hbytes : (n + m) * bytes ≤ 140737488355328) (hbase : base ≤ w.heap.size) (N : Nat) (hN : n + m = N)
    (h : ∀ v' w', w'.ownsRow base e size v' N (xs ++ news) → w.grownBy w' v.ownBlock → (v'.ownBlock = v.ownBlock ∨ v'.ownBlock = some w.heap.size) → K (a.put o.dst v') w') :
    if Region.wanted o (yielded ops a.tmps) = true then Oper.wp P o a w K Q else E := by
  have hw : Region.wanted o (yielded ops a.tmps) = true := by simp [Region.wanted, hgd]
  rw [if_pos hw]
  exact wp_append_more w s x t ho base e i z size bytes ht hi hz hsize hby hzs hsz v n xs hs hown ad m c news hx hl hnews h1 h63 hbytes hbase N hN h
section
variable {P : Program} {ops : Array Oper} {Q : Exit → Act → World → Prop} {md : Region.Mode} {S : World → Prop} {st : Nat}
/-- One of two may come up. -/
theorem wpAnyE_two {i j : Nat} {oi oj : Oper} {fuel : Nat} {listed : Array Bool} {a : Act} {w : World} (hoi : ops[i]? = some oi) (hoj : ops[j]? = some oj) (hr : Region.ready md ops listed = [i, j])
    (hi : ∀ K : Act → World → Prop, (∀ a' w', ((listed.setIfInBounds i true).getD st true = false → S w') → wpAnyE P md ops Q S st fuel (listed.setIfInBounds i true) a' w' → K a' w') → if Region.wanted oi (yielded ops a.tmps) = true then Oper.wp P oi a w K Q else K (a.put oi.dst undef) w)
    (hj : ∀ K : Act → World → Prop, (∀ a' w', ((listed.setIfInBounds j true).getD st true = false → S w') → wpAnyE P md ops Q S st fuel (listed.setIfInBounds j true) a' w' → K a' w') → if Region.wanted oj (yielded ops a.tmps) = true then Oper.wp P oj a w K Q else K (a.put oj.dst undef) w) :
    wpAnyE P md ops Q S st (fuel + 1) listed a w := by
  refine ⟨fun h => (by rw [hr] at h; cases h), fun m hm => ?_⟩
  rw [hr] at hm
  have key : ∀ {n : Nat} {o : Oper}, ops[n]? = some o → (∀ K : Act → World → Prop, (∀ a' w', ((listed.setIfInBounds n true).getD st true = false → S w') → wpAnyE P md ops Q S st fuel (listed.setIfInBounds n true) a' w' → K a' w') → if Region.wanted o (yielded ops a.tmps) = true then Oper.wp P o a w K Q else K (a.put o.dst undef) w) →
      wpOp P ops Q n (fun a' w' => ((listed.setIfInBounds n true).getD st true = false → S w') ∧ wpAnyE P md ops Q S st fuel (listed.setIfInBounds n true) a' w') a w := fun {n o} ho hs => by
    unfold wpOp
    rw [ho]
    dsimp only
    have h1 := hs (fun a' w' => ((listed.setIfInBounds n true).getD st true = false → S w') ∧ wpAnyE P md ops Q S st fuel (listed.setIfInBounds n true) a' w') (fun a' w' h1 h2 => ⟨h1, h2⟩)
    split
    · rename_i hw
      rw [if_pos hw] at h1
      exact .inl h1
    · rename_i hw
      rw [if_neg hw] at h1
      exact h1
  have hm' : m = i ∨ m = j := by simpa using hm
  rcases hm' with rfl | rfl
  · exact key hoi hi
  · exact key hoj hj
end


theorem own_none8 (w : World) (base : Nat) (e : TypeId) (hb : base ≤ w.heap.size) : (w.alloc (.cells #[] e)).ownsRow base e 8 (.slice (some ⟨w.heap.size, 0, none⟩) 0 0) 0 [] :=
  ⟨rfl, .inr ⟨w.heap.size, 0, #[], rfl, hb, Blk.new w #[] e, Nat.le_refl _, Nat.zero_le _, rfl, rfl⟩⟩
/-- What is appended: cells that lie somewhere, or nothing. -/
def Srcs8 (w : World) (x : Value) (m : Nat) (news : List Value) : Prop :=
  (∃ ad c, x = .slice (some ad) m c ∧ news.length = m * 8 ∧ ∀ j u, news[j]? = some u → w.cell? (ad.add j) = some u) ∨ (x = .slice none 0 0 ∧ m = 0 ∧ news = [])
theorem Srcs8.below {w w' : World} {x : Value} {m : Nat} {news : List Value} (h : Srcs8 w x m news) (hb : Below w.heap.size w w') : Srcs8 w' x m news := by
  rcases h with ⟨ad, c, h1, h2, h3⟩ | h
  · exact .inl ⟨ad, c, h1, h2, fun j u hj => by
      have h4 := h3 j u hj
      exact (hb.cell (cell_lt h4)).trans h4⟩
  · exact .inr h
theorem step_append_src8 {P : Program} (w : World) {ops : Array Oper} {o : Oper} {a : Act} {K : Act → World → Prop} {Q : Exit → Act → World → Prop} {E : Prop} (hgd : o.guard = none) (s x : Operand) (t : TypeId)
    (ho : o.op = .call { callee := .builtin .append, args := #[s, x], argTypes := #[t, t] })
    (base : Nat) (e : TypeId) (i : TypeInfo) (z : Value) (bytes : Nat) (ht : P.underlying t = some (.slice e)) (hi : P.info? e = some i) (hz : i.zero = some z)
    (hsize : i.size = 8) (hby : i.bytes = bytes) (hzs : z.cells.size = 8)
    (v : Value) (n : Nat) (xs : List Value) (hs : a.eval s = v) (hown : w.ownsRow base e 8 v n xs)
    (xv : Value) (m : Nat) (news : List Value) (hx : a.eval x = xv) (hsrc : Srcs8 w xv m news) (h1 : ∀ u ∈ news, u.oneCell' = true)
    (h63 : n + m ≤ maxLen) (hbytes : (n + m) * bytes ≤ 140737488355328) (hbase : base ≤ w.heap.size) (N : Nat) (hN : n + m = N)
    (h : ∀ v' w', w'.ownsRow base e 8 v' N (xs ++ news) → w.grownBy w' v.ownBlock → (v'.ownBlock = v.ownBlock ∨ v'.ownBlock = some w.heap.size) → K (a.put o.dst v') w') :
    if Region.wanted o (yielded ops a.tmps) = true then Oper.wp P o a w K Q else E := by
  rcases hsrc with ⟨ad, c, rfl, hl, hc⟩ | ⟨rfl, rfl, rfl⟩
  · exact step_append_more w hgd s x t ho base e i z 8 bytes ht hi hz hsize hby hzs (by omega) v n xs hs hown ad m c news hx hl hc h1 h63 hbytes hbase N hN h
  · have hw : Region.wanted o (yielded ops a.tmps) = true := by simp [Region.wanted, hgd]
    rw [if_pos hw]
    have hrun := run_append_owned_none (P := P) (w := w) base t o.type e i 8 ht hi v n xs hown
    unfold Oper.wp execOp
    simp only [ho, resolve, invoke, builtin, Sem.run_bind, Sem.run_pure, Result.andThen_ok, List.map_toArray, List.map_cons, List.map_nil, hs, hx, hrun]
    refine h v w ?_ ⟨rfl, rfl, rfl, Nat.le_refl _, fun _ _ _ => rfl⟩ (.inl rfl)
    rw [List.append_nil, ← hN]; exact hown
theorem own_ge8 {w : World} {base : Nat} {e : TypeId} {v : Value} {n : Nat} {xs : List Value} (h : w.ownsRow base e 8 v n xs) : ∀ b, v.ownBlock = some b → base ≤ b := fun _ hb => (own_blk h hb).1
theorem alloc_drew (w : World) (o : Obj) : Below w.heap.size w (w.alloc o).drew := by
  have h : Below w.heap.size w (w.alloc o) := Below.alloc (Below.refl _ _) (Nat.le_refl _) _
  exact ⟨h.os, h.tape, h.output, h.size, h.block⟩
theorem below_app {w0 W w1 : World} {v : Value} (hb : Below w0.heap.size w0 W) (hg : W.grownBy w1 v.ownBlock) (hv : ∀ b, v.ownBlock = some b → w0.heap.size ≤ b) : Below w0.heap.size w0 w1 :=
  ⟨hg.os.trans hb.os, hg.tape.trans hb.tape, hg.output.trans hb.output, Nat.le_trans hb.size hg.size, fun k hk => (hg.block k (Nat.lt_of_lt_of_le hk hb.size) (fun e => by have := hv k e.symm; omega)).trans (hb.block k hk)⟩
/-! Parts of a slice of items -/
/-- The address of 'l[i:]'. -/
def fromA (a : Option Addr) (c i : Nat) : Option Addr := if c = i then a else a.map (fun x => x.add (i * 8))
theorem Its.srcs {w : World} {a : Option Addr} {n c : Nat} {l : List It} (h : Its w (.slice a n c) l) (i m : Nat) (him : i + m ≤ l.length) : Srcs8 w (.slice (fromA a c i) m (c - i)) m (ics ((l.drop i).take m)) := by
  obtain ⟨a', c', hv, hc, hn, hx⟩ := h
  injection hv with h1 h2 h3
  subst h1 h2 h3
  by_cases hm : m = 0
  · subst hm
    rw [List.take_zero]
    cases a with
    | none => exact .inr ⟨by rw [hn rfl]; unfold fromA; rw [Nat.zero_sub]; split <;> rfl, rfl, rfl⟩
    | some ad =>
      obtain ⟨ad', had⟩ : ∃ ad', fromA (some ad) c i = some ad' := by
        unfold fromA
        by_cases e : c = i
        · exact ⟨_, if_pos e⟩
        · exact ⟨_, if_neg e⟩
      rw [had]
      exact .inl ⟨ad', c - i, rfl, rfl, fun j u hj => by simp [ics] at hj⟩
  · left
    obtain ⟨x, hx0⟩ : ∃ x, l[i]? = some x := ⟨_, List.getElem?_eq_getElem (by omega)⟩
    obtain ⟨b, o, rfl, -⟩ := hx i x hx0
    have hic : c ≠ i := by omega
    refine ⟨⟨b, o + i * 8, none⟩, c - i, ?_, ?_, ?_⟩
    · unfold fromA
      rw [if_neg hic, Option.map_some, addr_plain]
    · rw [ics_len, List.length_take, List.length_drop]; omega
    · intro j u hj
      have hjl : j < ((l.drop i).take m).length * 8 := by rw [← ics_len]; exact (List.getElem?_eq_some_iff.1 hj).1
      have hk : j / 8 < ((l.drop i).take m).length := by omega
      obtain ⟨y, hy⟩ : ∃ y, ((l.drop i).take m)[j / 8]? = some y := ⟨_, List.getElem?_eq_getElem hk⟩
      have hm8 : j % 8 < y.cells.length := by rw [cells_len]; omega
      obtain ⟨v, hv⟩ : ∃ v, y.cells[j % 8]? = some v := ⟨_, List.getElem?_eq_getElem hm8⟩
      have h1 := ics_at hy hv
      rw [show j / 8 * 8 + j % 8 = j by omega, hj] at h1
      cases h1
      have hy2 : l[i + j / 8]? = some y := by
        rw [List.getElem?_take] at hy
        split at hy
        · rwa [List.getElem?_drop] at hy
        · cases hy
      obtain ⟨b', o', e, hz⟩ := hx (i + j / 8) y hy2
      cases e
      have := hz (j % 8) u hv
      rw [addr_plain]
      rw [show o + i * 8 + j = o + (i + j / 8) * 8 + j % 8 by omega]
      exact this
end Go.Proofs.YtpgljahomeebhaaDoor.Md

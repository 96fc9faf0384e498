/-
  The contracts of the document's own three queues' Remove and Evict. Conditions: they lie in memory; the ghost is not over long.
-/
import Derived.Test.YtkhmgigllcgpnaaThRefIns
import Derived.Deep.RegionHeld3
namespace Go.Proofs.Ytkhmgigllcgpnaa.Th
open Go Go.RowKit Go.Lib

theorem addr3 (b o j : Nat) : (⟨b, o, none⟩ : Addr).add j = ⟨b, o + j, none⟩ := by
  unfold Addr.add
  by_cases h : j = 0
  · subst h; simp
  · simp [h]
/-- The cells that an append takes. -/
def Srcs3 (w : World) (x : Value) (m : Nat) (news : List Value) : Prop :=
  (∃ ad c, x = .slice (some ad) m c ∧ news.length = m * 3 ∧ ∀ j u, news[j]? = some u → w.cell? (ad.add j) = some u) ∨ (x = .slice none 0 0 ∧ m = 0 ∧ news = [])
theorem Srcs3.below {w w' : World} {x : Value} {m : Nat} {news : List Value} (h : Srcs3 w x m news) (hb : Below w.heap.size w w') : Srcs3 w' x m news := by
  rcases h with ⟨ad, c, h1, h2, h3⟩ | h
  · exact .inl ⟨ad, c, h1, h2, fun j u hj => by
      have h4 := h3 j u hj
      exact (hb.cell (cell_lt h4)).trans h4⟩
  · exact .inr h
theorem step_append_src3 {P : Program} (w : World) {ops : Array Oper} {o : Oper} {a : Act} {K : Act → World → Prop} {Q : Exit → Act → World → Prop} {E : Prop} (hgd : o.guard = none) (s x : Operand) (t : TypeId)
    (ho : o.op = .call { callee := .builtin .append, args := #[s, x], argTypes := #[t, t] })
    (base : Nat) (e : TypeId) (i : TypeInfo) (z : Value) (bytes : Nat) (ht : P.underlying t = some (.slice e)) (hi : P.info? e = some i) (hz : i.zero = some z)
    (hsize : i.size = 3) (hby : i.bytes = bytes) (hzs : z.cells.size = 3)
    (v : Value) (n : Nat) (xs : List Value) (hs : a.eval s = v) (hown : w.ownsRow base e 3 v n xs)
    (xv : Value) (m : Nat) (news : List Value) (hx : a.eval x = xv) (hsrc : Srcs3 w xv m news) (h1 : ∀ u ∈ news, u.oneCell' = true)
    (h63 : n + m ≤ maxLen) (hbytes : (n + m) * bytes ≤ 140737488355328) (hbase : base ≤ w.heap.size) (N : Nat) (hN : n + m = N)
    (h : ∀ v' w', w'.ownsRow base e 3 v' N (xs ++ news) → w.grownBy w' v.ownBlock → (v'.ownBlock = v.ownBlock ∨ v'.ownBlock = some w.heap.size) → K (a.put o.dst v') w') :
    if Region.wanted o (yielded ops a.tmps) = true then Oper.wp P o a w K Q else E := by
  rcases hsrc with ⟨ad, c, rfl, hl, hc⟩ | ⟨rfl, rfl, rfl⟩
  · exact step_append_more w hgd s x t ho base e i z 3 bytes ht hi hz hsize hby hzs (by omega) v n xs hs hown ad m c news hx hl hc h1 h63 hbytes hbase N hN h
  · have hw : Region.wanted o (yielded ops a.tmps) = true := by simp [Region.wanted, hgd]
    rw [if_pos hw]
    have hrun := run_append_owned_none (P := P) (w := w) base t o.type e i 3 ht hi v n xs hown
    unfold Oper.wp execOp
    simp only [ho, resolve, invoke, builtin, Sem.run_bind, Sem.run_pure, Result.andThen_ok, List.map_toArray, List.map_cons, List.map_nil, hs, hx, hrun]
    refine h v w ?_ ⟨rfl, rfl, rfl, Nat.le_refl _, fun _ _ _ => rfl⟩ (.inl rfl)
    rw [List.append_nil, ← hN]; exact hown
theorem own_ge3 {w : World} {base : Nat} {e : TypeId} {v : Value} {n : Nat} {xs : List Value} (h : w.ownsRow base e 3 v n xs) : ∀ b, v.ownBlock = some b → base ≤ b := fun _ hb => (own2_le h hb).1
theorem nc_take (l : List Em) (i : Nat) : nc (l.take i) = (nc l).take (i * 3) := by
  induction l generalizing i with
  | nil => simp [nc]
  | cons e l ih =>
    cases i with
    | zero => simp [nc]
    | succ i =>
      rw [show (i + 1) * 3 = i * 3 + 1 + 1 + 1 by omega, List.take_succ_cons]
      show _ :: _ :: _ :: nc (l.take i) = _ :: _ :: _ :: (nc l).take (i * 3)
      rw [ih]
theorem nc_drop (l : List Em) (i : Nat) : nc (l.drop i) = (nc l).drop (i * 3) := by
  induction l generalizing i with
  | nil => simp [nc]
  | cons e l ih =>
    cases i with
    | zero => simp
    | succ i =>
      rw [show (i + 1) * 3 = i * 3 + 1 + 1 + 1 by omega, List.drop_succ_cons]
      show nc (l.drop i) = (nc l).drop (i * 3)
      exact ih i
/-- The row without its k-th. -/
def cutE (es : List Em) (k : Nat) : List Em := es.take k ++ es.drop (k + 1)
theorem cutE_len {es : List Em} {k : Nat} (h : k < es.length) : (cutE es k).length = k + (es.length - (k + 1)) := by unfold cutE; rw [List.length_append, List.length_take, List.length_drop]; omega
theorem cutE_nc (es : List Em) (k : Nat) : nc (cutE es k) = [] ++ (nc es).take (k * 3) ++ (nc es).drop ((k + 1) * 3) := by unfold cutE; rw [nc_app, nc_take, nc_drop]; rfl
theorem Says.cut {es : List Em} {L : List (List Int)} {num : Int → Int} {cnt : Int → Nat} (h : Says es L num cnt) {k : Nat} {z x : Int} {n : Nat} (hk : es[k]? = some ⟨z, x, n⟩) : Says (cutE es k) (takeL L z) (updN num z 0) (updN cnt z 0) := by
  have hl := (List.getElem?_eq_some_iff.1 hk).1
  have hes : es = es.take k ++ ⟨z, x, n⟩ :: es.drop (k + 1) := by
    have h1 := drop_cons hk
    rw [← h1, List.take_append_drop]
  have hp : es.Perm (⟨z, x, n⟩ :: cutE es k) := by
    unfold cutE
    conv => lhs; rw [hes]
    exact List.perm_middle
  have hpm : (es.map (·.z)).Perm (z :: (cutE es k).map (·.z)) := hp.map _
  have hnd := hpm.nodup_iff.1 h.nd
  rw [List.nodup_cons] at hnd
  have hne : ∀ e ∈ cutE es k, e.z ≠ z := fun e he e2 => hnd.1 (by rw [← e2]; exact List.mem_map_of_mem he)
  have hin : ∀ e ∈ cutE es k, e ∈ es := fun e he => hp.mem_iff.2 (List.mem_cons_of_mem _ he)
  refine ⟨hnd.2, fun y => ?_, fun e he => ?_, fun e he => ?_⟩
  · rw [mem_take, ← h.mem y, hpm.mem_iff, List.mem_cons]
    constructor
    · intro hy; exact ⟨.inr hy, fun e => hnd.1 (e ▸ hy)⟩
    · rintro ⟨h1 | h1, h2⟩
      · exact absurd h1 h2
      · exact h1
  · rw [updN_other (hne e he)]; exact h.num e (hin e he)
  · rw [updN_other (hne e he)]; exact h.cnt e (hin e he)

set_option maxRecDepth 100000 in
set_option maxHeartbeats 4000000 in
theorem qt_remove {P : Nat} {G : Nat → Prop} {s : Th} {w : World} (h : QT P G s w) (z : Int) :
    Calls Try.prog 31 #[.pointer (some ⟨P, 0, none⟩), .int .i64 z] w fun e w' => e = .returned (.bool (s.has z)) ∧ ∃ G', QT P G' (s.rem z) w' ∧ Stp G G' w w' := by
  have HQ := hid h
  obtain ⟨ok, Q, Q1, v, es, F, hq, hsay, hG⟩ := h
  have c3 := hq.head.cell (i := 3) rfl
  have hf := qt_find hq z
  rcases hsay.find z with ⟨hz, hx⟩ | ⟨k, hk, he, hx, hz⟩
  · rw [hx] at hf
    have hh : s.has z = false := by cases e : s.has z; · rfl
                                    · exact absurd (arow_some.1 e) hz
    have e1 : Hid (s.has z = false) := hid hh
    have e2 : Hid (s.rem z = s) := hid (by unfold Th.rem; rw [hh]; rfl)
    clear hq hsay hG ok hh hx hz
    go_enter Try.func31, Try.ntmps31
    go_wp2_with fail
    refine hf.mono ?_
    rintro e w1 ⟨rfl, rfl⟩
    go_wp2_with fail
    go_ret
    exact ⟨ret_bool e1.out.symm, G, by rw [e2.out]; exact HQ.out, Stp.refl _ _⟩
  · rw [hx] at hf
    have hh : s.has z = true := arow_some.2 hz
    have hrs : (rowOf s.L z).isSome = true := hh
    have e1 : Hid (s.has z = true) := hid hh
    have oks := ok.rem z
    have et : s.rem z = { s with L := takeL s.L z, num := updN s.num z 0, cnt := updN s.cnt z 0 } := by unfold Th.rem; rw [hh]; rfl
    have hfz := hq.head.frozen 3
    have l0 := hq.head.lt
    have hlb := hq.len
    obtain ⟨b, c, rfl, hcap, _, hbl⟩ := row2_pos hq.row (by omega)
    have hcm : c ≤ 9223372036854775807 := by
      rcases hq.row.2 with ⟨h1, _⟩ | ⟨g', cap, cur, h1, _, _, hn, hm, _⟩
      · cases h1
      · have : c = cap := by simpa using congrArg (fun v => match v with | .slice _ _ c => c | _ => 0) h1
        unfold maxLen at hm; omega
    have hok1 : ∀ u ∈ (nc es).take (k * 3), u.oneCell' = true := fun u hu => nc_ok _ u (List.mem_of_mem_take hu)
    have hok2 : ∀ u ∈ (nc es).drop ((k + 1) * 3), u.oneCell' = true := fun u hu => nc_ok _ u (List.mem_of_mem_drop hu)
    have hs1 : Srcs3 w (.slice (some ⟨b, 0, none⟩) k c) k ((nc es).take (k * 3)) := .inl ⟨_, c, rfl, by rw [List.length_take, nc_len]; omega, fun j u hj => by
      rw [List.getElem?_take] at hj
      split at hj
      · rename_i hjl
        rw [show (⟨b, 0, none⟩ : Addr).add j = ⟨b, j, none⟩ by rw [addr3, Nat.zero_add], World.ownsRow.cellAt hq.row j (by omega)]; exact hj
      · cases hj⟩
    obtain ⟨tl, htl⟩ : ∃ tl : Option Addr, tl = if c = k + 1 then some ⟨b, 0, none⟩ else some ⟨b, (k + 1) * 3, none⟩ := ⟨_, rfl⟩
    have hs2 : Srcs3 w (.slice tl (es.length - (k + 1)) (c - (k + 1))) (es.length - (k + 1)) ((nc es).drop ((k + 1) * 3)) := by
      by_cases e1 : c = k + 1
      · rw [if_pos e1] at htl
        have e2 : es.length - (k + 1) = 0 := by omega
        have e3 : (nc es).drop ((k + 1) * 3) = [] := List.drop_of_length_le (by rw [nc_len]; omega)
        rw [e2, e3, htl]
        exact .inl ⟨_, _, rfl, rfl, fun j u hj => by simp at hj⟩
      · rw [if_neg e1] at htl
        rw [htl]
        refine .inl ⟨_, _, rfl, by rw [List.length_drop, nc_len]; omega, fun j u hj => ?_⟩
        rw [List.getElem?_drop] at hj
        have hjl := (List.getElem?_eq_some_iff.1 hj).1
        rw [nc_len] at hjl
        rw [addr3, World.ownsRow.cellAt hq.row _ hjl]; exact hj
    have HST : Hid (∀ w1 v1, Below w.heap.size w w1 → w1.ownsRow w.heap.size 67 3 v1 (k + (es.length - (k + 1))) ([] ++ (nc es).take (k * 3) ++ (nc es).drop ((k + 1) * 3)) →
        (w1.setCell ⟨P, 3, none⟩ v1).cell? ⟨P, 0, none⟩ = some (.pointer (some ⟨Q, 0, none⟩)) ∧ Calls Try.prog 49 #[.pointer (some ⟨Q, 0, none⟩), .int .i64 z] (w1.setCell ⟨P, 3, none⟩ v1) fun e w' => e = .returned (.bool true) ∧ ∃ G', QT P G' (s.rem z) w' ∧ Stp G G' w w') := hid (fun w1 v1 bl o1 => by
      rw [← cutE_nc, ← cutE_len hk] at o1
      obtain ⟨X, k1, k2⟩ := hq.goH (es' := cutE es k) (Below.only bl) (own2_zero o1) (fun b hb => .inr (own2_le o1 hb).1) (by rw [cutE_len hk]; omega)
      refine ⟨k1.head.cell (i := 0) rfl, (qt_take k1 z).mono ?_⟩
      rintro e w' ⟨he2, F', k3, k4⟩
      rw [hrs] at he2
      rw [et] at oks ⊢
      exact ⟨he2, qt_go hG oks k3 (hsay.cut he) (k2.trans k4)⟩)
    generalize (nc es).take (k * 3) = x1 at *
    generalize (nc es).drop ((k + 1) * 3) = x2 at *
    generalize es.length = K at *
    obtain ⟨i0, hi0, hz0, hz1, hz2⟩ := info_parts infoNamed
    have hp0 : (0 : Int) ≤ (k : Int) := by omega
    have hp1 : (k : Int) + 1 ≤ (K : Int) := by omega
    have hwr : IntKind.i64.wrap ((k : Int) + 1) = (k : Int) + 1 := by rw [IntKind.wrap_i64]; omega
    have HT := hid htl
    clear hq hsay hG ok hh hrs hx hz he HQ oks et htl
    go_enter Try.func31, Try.ntmps31
    go_wp2_with fail
    refine hf.mono ?_
    rintro e w1 ⟨rfl, rfl⟩
    clear hf
    go_wp2_with fail
    have hS : (fun w' : World => w'.cell? ⟨P, 3, none⟩ = some (.slice (some ⟨b, 0, none⟩) K c)) w.drew := c3
    have hSb : ∀ w2, Below w.heap.size w w2 → (fun w' : World => w'.cell? ⟨P, 3, none⟩ = some (.slice (some ⟨b, 0, none⟩) K c)) w2 := fun w2 b2 => (b2.cell (cell_lt c3)).trans c3
    have HSb := hid hSb
    have HFZ : Hid (∀ w2, Below w.heap.size w w2 → w2.frozen? ⟨P, 3, none⟩ = false) := hid (fun w2 b2 => (b2.frozen (cell_lt c3)).trans hfz)
    have HC3 := hid c3
    clear hSb hfz
    have n1 : ¬ (c < k) := by omega
    have n2 : ¬ (K < k + 1) := by omega
    have n3 : ¬ (c < K) := by omega
    have htl' := HT.out.symm
    have n4 : ¬ ((k : Int) + 1 < 0) := by omega
    refine wp_region_E (fun w' : World => w'.cell? ⟨P, 3, none⟩ = some (.slice (some ⟨b, 0, none⟩) K c)) 19 (by kernel_rfl) ?_
    --TAKES wpAnyE_take | 1 | 0=.pointer (some ⟨P, 0, none⟩) ; 2=.pointer (some ⟨P, 0, none⟩) ; 3=.pointer (some ⟨P, 0, none⟩) ; 4=.pointer (some ⟨P, 3, none⟩) ; 5=.slice (some ⟨b, 0, none⟩) K c ; 6=.int .i64 k ; 7=.slice (some ⟨b, 0, none⟩) k c ; 9=.pointer (some ⟨P, 0, none⟩) ; 10=.pointer (some ⟨P, 0, none⟩) ; 11=.pointer (some ⟨P, 3, none⟩) ; 12=.slice (some ⟨b, 0, none⟩) K c ; 13=.int .i64 k ; 14=.int .i64 ((k : Int) + 1) ; 15=.slice tl (K - (k + 1)) (c - (k + 1))
    refine wpAnyE_take (i := 0) (v := .pointer (some ⟨P, 0, none⟩)) rfl (by kernel_rfl) (by kernel_rfl) (by kernel_rfl) (fun _ _ _ h => h) (by kernel_rfl) (by kernel_rfl) hS (Or.inl ⟨by rfl, ?_⟩) ?_
    · intro w' hw'
      have s0 := hw'
      go_simp
    refine wpAnyE_take (i := 2) (v := .pointer (some ⟨P, 0, none⟩)) rfl (by kernel_rfl) (by kernel_rfl) (by kernel_rfl) (fun _ _ _ h => h) (by kernel_rfl) (by kernel_rfl) hS (Or.inl ⟨by rfl, ?_⟩) ?_
    · intro w' hw'
      have s0 := hw'
      go_simp
    refine wpAnyE_take (i := 3) (v := .pointer (some ⟨P, 0, none⟩)) rfl (by kernel_rfl) (by kernel_rfl) (by kernel_rfl) (fun _ _ _ h => h) (by kernel_rfl) (by kernel_rfl) hS (Or.inl ⟨by rfl, ?_⟩) ?_
    · intro w' hw'
      have s0 := hw'
      go_simp
    refine wpAnyE_take (i := 4) (v := .pointer (some ⟨P, 3, none⟩)) rfl (by kernel_rfl) (by kernel_rfl) (by kernel_rfl) (fun _ _ _ h => h) (by kernel_rfl) (by kernel_rfl) hS (Or.inl ⟨by rfl, ?_⟩) ?_
    · intro w' hw'
      have s0 := hw'
      go_simp
    refine wpAnyE_take (i := 5) (v := .slice (some ⟨b, 0, none⟩) K c) rfl (by kernel_rfl) (by kernel_rfl) (by kernel_rfl) (fun _ _ _ h => h) (by kernel_rfl) (by kernel_rfl) hS (Or.inl ⟨by rfl, ?_⟩) ?_
    · intro w' hw'
      have s0 := hw'
      go_simp
    refine wpAnyE_take (i := 6) (v := .int .i64 k) rfl (by kernel_rfl) (by kernel_rfl) (by kernel_rfl) (fun _ _ _ h => h) (by kernel_rfl) (by kernel_rfl) hS (Or.inl ⟨by rfl, ?_⟩) ?_
    · intro w' hw'
      have s0 := hw'
      go_simp
    refine wpAnyE_take (i := 7) (v := .slice (some ⟨b, 0, none⟩) k c) rfl (by kernel_rfl) (by kernel_rfl) (by kernel_rfl) (fun _ _ _ h => h) (by kernel_rfl) (by kernel_rfl) hS (Or.inl ⟨by rfl, ?_⟩) ?_
    · intro w' hw'
      have s0 := hw'
      go_simp
    refine wpAnyE_take (i := 9) (v := .pointer (some ⟨P, 0, none⟩)) rfl (by kernel_rfl) (by kernel_rfl) (by kernel_rfl) (fun _ _ _ h => h) (by kernel_rfl) (by kernel_rfl) hS (Or.inl ⟨by rfl, ?_⟩) ?_
    · intro w' hw'
      have s0 := hw'
      go_simp
    refine wpAnyE_take (i := 10) (v := .pointer (some ⟨P, 0, none⟩)) rfl (by kernel_rfl) (by kernel_rfl) (by kernel_rfl) (fun _ _ _ h => h) (by kernel_rfl) (by kernel_rfl) hS (Or.inl ⟨by rfl, ?_⟩) ?_
    · intro w' hw'
      have s0 := hw'
      go_simp
    refine wpAnyE_take (i := 11) (v := .pointer (some ⟨P, 3, none⟩)) rfl (by kernel_rfl) (by kernel_rfl) (by kernel_rfl) (fun _ _ _ h => h) (by kernel_rfl) (by kernel_rfl) hS (Or.inl ⟨by rfl, ?_⟩) ?_
    · intro w' hw'
      have s0 := hw'
      go_simp
    refine wpAnyE_take (i := 12) (v := .slice (some ⟨b, 0, none⟩) K c) rfl (by kernel_rfl) (by kernel_rfl) (by kernel_rfl) (fun _ _ _ h => h) (by kernel_rfl) (by kernel_rfl) hS (Or.inl ⟨by rfl, ?_⟩) ?_
    · intro w' hw'
      have s0 := hw'
      go_simp
    refine wpAnyE_take (i := 13) (v := .int .i64 k) rfl (by kernel_rfl) (by kernel_rfl) (by kernel_rfl) (fun _ _ _ h => h) (by kernel_rfl) (by kernel_rfl) hS (Or.inl ⟨by rfl, ?_⟩) ?_
    · intro w' hw'
      have s0 := hw'
      go_simp
    refine wpAnyE_take (i := 14) (v := .int .i64 ((k : Int) + 1)) rfl (by kernel_rfl) (by kernel_rfl) (by kernel_rfl) (fun _ _ _ h => h) (by kernel_rfl) (by kernel_rfl) hS (Or.inl ⟨by rfl, ?_⟩) ?_
    · intro w' hw'
      have s0 := hw'
      go_simp
    refine wpAnyE_take (i := 15) (v := .slice tl (K - (k + 1)) (c - (k + 1))) rfl (by kernel_rfl) (by kernel_rfl) (by kernel_rfl) (fun _ _ _ h => h) (by kernel_rfl) (by kernel_rfl) hS (Or.inl ⟨by rfl, ?_⟩) ?_
    · intro w' hw'
      have s0 := hw'
      go_simp
    --END
    have bA : Below w.heap.size w (w.drew.alloc (.cells #[] 67)) := (Below.refl _ w).drew.alloc (Nat.le_refl _) _
    have hlit : (w.drew.alloc (.cells #[] 67)).ownsRow w.heap.size 67 3 (.slice (some ⟨w.heap.size, 0, none⟩) 0 0) 0 [] := World.ownsRow_lit w.drew #[] 0 (Nat.le_refl _) (by unfold maxLen; omega) rfl
    refine wpAnyE_one (i := 1) rfl (by kernel_rfl) (fun K0 hK => ?_)
    go_simp
    refine hK _ _ (fun _ => HSb.out _ bA) ?_
    clear hK K0
    refine wpAnyE_one (i := 8) rfl (by kernel_rfl) (fun K0 hK => ?_)
    refine step_append_src3 _ (by rfl) _ _ _ (by rfl) w.heap.size 67 i0 _ 24 Try.underlying39 hi0 hz0 hz1 hz2 rfl (.slice (some ⟨w.heap.size, 0, none⟩) 0 0) 0 _ (by rfl) hlit (.slice (some ⟨b, 0, none⟩) k c) k _ (by rfl) (hs1.below bA) hok1 (by unfold maxLen; omega) (by omega) bA.size k (Nat.zero_add k) ?_
    intro v3 w3 hown3 hg3 _
    have b3 := bA.grown hg3 bA.size (fun j ej => own_ge3 hlit j ej)
    refine hK _ _ (fun _ => HSb.out _ b3) ?_
    clear hK K0
    refine wpAnyE_one (i := 16) rfl (by kernel_rfl) (fun K0 hK => ?_)
    refine step_append_src3 _ (by rfl) _ _ _ (by rfl) w.heap.size 67 i0 _ 24 Try.underlying39 hi0 hz0 hz1 hz2 rfl v3 k _ (by rfl) hown3 (.slice tl (K - (k + 1)) (c - (k + 1))) (K - (k + 1)) _ (by rfl) (hs2.below b3) hok2 (by unfold maxLen; omega) (by omega) b3.size (k + (K - (k + 1))) rfl ?_
    intro v4 w4 hown4 hg4 _
    have b4 := b3.grown hg4 b3.size (fun j ej => own_ge3 hown3 j ej)
    obtain ⟨d0, hT⟩ := HST.out w4 v4 b4 hown4
    have hfz4 := HFZ.out w4 b4
    have hS4 := HSb.out w4 b4
    have hcl4 := (b4.cell (p := ⟨P, 3, none⟩) (cell_lt HC3.out)).trans HC3.out
    obtain ⟨a4, c4, rfl⟩ := row2_form hown4
    have HTT := hid hT
    have HD0 := hid d0
    clear hS hlit hs1 hs2 bA hg3 hg4 hown3 hown4 hT d0 c3 HST b3 b4
    refine hK _ _ (fun _ => hS4) ?_
    clear hK K0
    refine wpAnyE_one (i := 17) rfl (by kernel_rfl) (fun K0 hK => ?_)
    go_simp
    refine hK _ _ (fun _ => hS4) ?_
    clear hK K0
    refine wpAnyE_one (i := 18) rfl (by kernel_rfl) (fun K0 hK => ?_)
    go_simp
    refine hK _ _ (fun _ => hS4) ?_
    clear hK K0
    refine wpAnyE_one (i := 19) rfl (by kernel_rfl) (fun K0 hK => ?_)
    go_simp
    refine hK _ _ (fun h => (by cases (show true = false from h))) (wpAnyE_done (by kernel_rfl) ?_ _)
    clear hK K0 hS4
    generalize w4.setCell ⟨P, 3, none⟩ _ = w5 at *
    have d0 := HD0.out
    have hT := HTT.out
    go_wp2_with fail
    refine hT.mono ?_
    rintro e w6 ⟨rfl, hF⟩
    have HF := hid hF
    clear hF hT HTT
    go_wp2_with fail
    go_ret
    exact ⟨ret_bool e1.out.symm, HF.out⟩
theorem rv_some {L : List (List Int)} {z : Int} {i : Nat} (h : rowOf L z = some i) : rv (rowOf L z) = (i : Int) := by rw [h]; rfl

set_option maxRecDepth 100000 in
set_option maxHeartbeats 1000000 in
theorem qt_evict {P : Nat} {G : Nat → Prop} {s : Th} {w : World} (h : QT P G s w) (hgl : s.g.length < 4194304) (z : Int) :
    Calls Try.prog 32 #[.pointer (some ⟨P, 0, none⟩), .int .i64 z] w fun e w' => e = .returned (.bool (s.has z)) ∧ ∃ G', QT P G' (s.evict z) w' ∧ Stp G G' w w' := by
  have HQ := hid h
  obtain ⟨ok, Q, Q1, v, es, F, hq, hsay, hG⟩ := h
  have c0 := hq.head.cell (i := 0) rfl
  have c1 := hq.head.cell (i := 1) rfl
  have c3 := hq.head.cell (i := 3) rfl
  have hf := qt_find hq z
  have hr := rq_row hq.rows z
  have HV : Hid (∀ s1 G1 W, QT P G1 s1 W → s1.has z = s.has z → s1.rem z = s.evict z → Stp G G1 w W → Calls Try.prog 31 #[.pointer (some ⟨P, 0, none⟩), .int .i64 z] W fun e w' => e = .returned (.bool (s.has z)) ∧ ∃ G', QT P G' (s.evict z) w' ∧ Stp G G' w w') := hid (fun s1 G1 W k e1 e2 g => by
    refine (qt_remove k z).mono ?_
    rintro e w' ⟨he, G2, k2, g2⟩
    exact ⟨by rw [he, e1], G2, by rw [← e2]; exact k2, g.trans g2⟩)
  rcases hsay.find z with ⟨hz, hx⟩ | ⟨k, hk, he, hx, hz⟩
  · rw [hx] at hf
    have hrow : rowOf s.L z = none := rowOf_none'.2 hz
    have ho : s.out z = s := by unfold Th.out; rw [hrow]; rfl
    have hR := HV.out s G w HQ.out rfl (by unfold Th.evict; rw [ho]) (Stp.refl _ _)
    clear hq hsay hG ok HQ HV ho hrow hz hx hr
    go_enter Try.func32, Try.ntmps32
    go_wp2_with fail
    refine hf.mono ?_
    rintro e w1 ⟨rfl, rfl⟩
    go_wp2_with fail
    refine hR.mono ?_
    rintro e w1 ⟨rfl, hF⟩
    have HF := hid hF
    clear hF hR
    go_wp2_with fail
    go_ret
    exact ⟨rfl, HF.out⟩
  · rw [hx] at hf
    have i0 : (0 : Int) ≤ (k : Int) := by omega
    obtain ⟨i, hrow⟩ : ∃ i, rowOf s.L z = some i := by
      cases e : rowOf s.L z with
      | none => exact absurd hz (rowOf_none'.1 e)
      | some i => exact ⟨i, rfl⟩
    rw [rv_some hrow] at hr
    by_cases hi : i = 0
    · subst hi
      have ho : s.out z = { s with g := Gh.addL s.m s.g (s.num z) } := by unfold Th.out; rw [if_pos hrow]
      have oko := ok.out z
      rw [ho] at oko
      obtain ⟨b, c, rfl, hcap, _, hbl⟩ := row2_pos hq.row (by omega)
      have hc1 := World.ownsRow.cellAt hq.row (k * 3 + 1) (by omega)
      rw [(nc_at he).2.1] at hc1
      have hq2 := hq.below (Below.refl _ _).drew
      have hA := qt_add hq2 (s.num z) hgl
      have HKC : Hid (∀ F' W, Qt P Q Q1 (.slice (some ⟨b, 0, none⟩) es.length c) es F' s.L s.m s.m (Gh.addL s.m s.g (s.num z)) W → W.cell? ⟨P, 1, none⟩ = some (.pointer (some ⟨Q1, 0, none⟩)) ∧ W.cell? ⟨P, 3, none⟩ = some (.slice (some ⟨b, 0, none⟩) es.length c) ∧ W.cell? ⟨b, k * 3 + 1, none⟩ = some (.int .u64 (s.num z))) := hid (fun F' W k1 => by
        have hcz := World.ownsRow.cellAt k1.row (k * 3 + 1) (by omega)
        rw [(nc_at he).2.1] at hcz
        exact ⟨k1.head.cell (i := 1) rfl, k1.head.cell (i := 3) rfl, hcz⟩)
      have HR : Hid (∀ F' W, Qt P Q Q1 (.slice (some ⟨b, 0, none⟩) es.length c) es F' s.L s.m s.m (Gh.addL s.m s.g (s.num z)) W → Stp (allF F) (allF F') w.drew W → Calls Try.prog 31 #[.pointer (some ⟨P, 0, none⟩), .int .i64 z] W fun e w' => e = .returned (.bool (s.has z)) ∧ ∃ G', QT P G' (s.evict z) w' ∧ Stp G G' w w') := hid (fun F' W k1 g1 => by
        obtain ⟨G1, k2, g2⟩ := qt_go hG oko k1 hsay ((Stp.below (Below.refl _ _).drew).trans g1)
        exact HV.out _ G1 W k2 rfl (by unfold Th.evict; rw [ho]) g2)
      rw [show ((0 : Nat) : Int) = 0 from rfl] at hr
      have hlb := hq.len
      have i1 : (k : Int) < (es.length : Int) := by omega
      have i2 : (es.length : Int) ≤ (c : Int) := by omega
      generalize s.num z = x at *
      generalize es.length = K at *
      clear hsay hG ok HQ HV ho oko hrow hz hx he hq hq2 hbl
      go_enter Try.func32, Try.ntmps32
      go_wp2_with fail
      refine hf.mono ?_
      rintro e w1 ⟨rfl, rfl⟩
      go_wp2_with fail
      refine hr.mono ?_
      rintro e w1 ⟨rfl, rfl⟩
      go_upto_region 3 with fail
      have hx0 : w.drew.cell? ⟨P, 1, none⟩ = some (.pointer (some ⟨Q1, 0, none⟩)) ∧ w.drew.cell? ⟨P, 3, none⟩ = some (.slice (some ⟨b, 0, none⟩) K c) ∧ w.drew.cell? ⟨b, k * 3 + 1, none⟩ = some (.int .u64 x) := ⟨c1, c3, hc1⟩
      go_region_held3 (fun w' => w'.cell? ⟨P, 1, none⟩ = some (.pointer (some ⟨Q1, 0, none⟩)) ∧ w'.cell? ⟨P, 3, none⟩ = some (.slice (some ⟨b, 0, none⟩) K c) ∧ w'.cell? ⟨b, k * 3 + 1, none⟩ = some (.int .u64 x)) (first | exact hx1 | exact hx0) (first
        | (go_at_call 51; refine hA.mono ?_; rintro e w6 ⟨rfl, F', k1, g1⟩; have hx1 := HKC.out F' _ k1; have hRR := HR.out F' _ k1 g1))
      have HRR := hid hRR
      clear hx0 hx1 hA HKC HR k1 g1 hRR hf hr c0 c1 c3 hc1
      have hRR := HRR.out
      go_wp2_with fail
      refine hRR.mono ?_
      rintro e w1 ⟨rfl, hF⟩
      have HF := hid hF
      clear hF hRR HRR
      go_wp2_with fail
      go_ret
      exact ⟨rfl, HF.out⟩
    · have ho : s.out z = s := by unfold Th.out; rw [if_neg]; rw [hrow]; intro e; injection e with e; exact hi e
      have hR := HV.out s G w HQ.out rfl (by unfold Th.evict; rw [ho]) (Stp.refl _ _)
      have hne : ((i : Int) == 0) = false := beq_eq_false_iff_ne.2 (by omega)
      clear hq hsay hG ok HQ HV ho hrow hz hx he hi
      go_enter Try.func32, Try.ntmps32
      go_wp2_with fail
      refine hf.mono ?_
      rintro e w1 ⟨rfl, rfl⟩
      go_wp2_with fail
      refine hr.mono ?_
      rintro e w1 ⟨rfl, rfl⟩
      go_wp2_with fail
      refine hR.mono ?_
      rintro e w1 ⟨rfl, hF⟩
      have HF := hid hF
      clear hF hR
      go_wp2_with fail
      go_ret
      exact ⟨rfl, HF.out⟩
end Go.Proofs.Ytkhmgigllcgpnaa.Th

/-
  Plain mathematics of a store's model: what a command leaves of a state that is not over great; states of one key. No program in it. No conditions.
-/
import Derived.Test.YtkaaebjifkbclaaDoorModMath
namespace Go.Proofs.YtkaaebjifkbclaaDoor.Md
open Go

theorem zf : (0 : Nat) ≤ 4294967295 := by decide
theorem zc : (0 : Nat) ≤ 18446744073709551615 := by decide
theorem z0 : (-9223372036854775808 : Int) ≤ 0 := by decide
theorem z1 : (0 : Int) ≤ 9223372036854775807 := by decide
theorem zz : (0 : Int) ≤ 0 := by decide
/-- What each field of a command may hold, by its type. -/
structure Cm.Ok (c : Cm) : Prop where
  op : -9223372036854775808 ≤ c.op ∧ c.op ≤ 9223372036854775807
  mode : -9223372036854775808 ≤ c.mode ∧ c.mode ≤ 9223372036854775807
  flags : c.flags ≤ 4294967295
  exp : -9223372036854775808 ≤ c.exp ∧ c.exp ≤ 9223372036854775807
  cas : c.cas ≤ 18446744073709551615
  delta : c.delta ≤ 18446744073709551615
  init : c.init ≤ 18446744073709551615
  vive : -9223372036854775808 ≤ c.vive ∧ c.vive ≤ 9223372036854775807
  rcc : -9223372036854775808 ≤ c.rcc ∧ c.rcc ≤ 9223372036854775807
/-- An item that is not over great. -/
structure It.Fit (B : Nat) (x : It) : Prop where
  ok : x.Ok
  exp : 0 ≤ x.exp
  key : x.key.size ≤ 250
  val : x.val.size ≤ B
structure Fit (N B : Nat) (s : Ms) : Prop where
  sorted : Sorted s.its
  its : ∀ x ∈ s.its, It.Fit B x
  cas : s.cas ≤ 18446744073709551615
  fl0 : 0 ≤ s.fl
  fl1 : s.fl ≤ 9223372036854775807
  len : s.its.length ≤ N
theorem Fit.mono {N M B : Nat} {s : Ms} (h : Fit N B s) (hm : N ≤ M) : Fit M B s := ⟨h.sorted, h.its, h.cas, h.fl0, h.fl1, Nat.le_trans h.len hm⟩
theorem fit_no (N B : Nat) : Fit N B noMs := ⟨List.Pairwise.nil, fun x hx => (by cases hx), by decide, by decide, by decide, Nat.zero_le _⟩
theorem fine_parts {now : Int} {c : Cm} (h : fine now c = true) : 1 ≤ c.op ∧ c.op ≤ 7 ∧ (keyB c.key.data.toList = true ∨ c.op = 6) ∧ 0 ≤ c.mode ∧ c.mode ≤ 4 ∧ c.val.size ≤ 65536 ∧ (-1099511627776 ≤ c.exp ∧ c.exp ≤ 1099511627776) ∧ (-1099511627776 ≤ c.vive ∧ c.vive ≤ 1099511627776) ∧ (-1099511627776 ≤ c.rcc ∧ c.rcc ≤ 1099511627776) ∧ 1 ≤ now ∧ now ≤ 1099511627776 := by
  unfold fine may farM at h
  simp only [Bool.and_eq_true, Bool.or_eq_true, decide_eq_true_eq] at h
  obtain ⟨⟨a, b, c, d, e, f, g, i, j⟩, k, l⟩ := h
  exact ⟨a, b, c, d, e, f, g, i, j, k, l⟩
theorem moment_range {now e : Int} (h1 : 1 ≤ now) (h2 : now ≤ 1099511627776) (h4 : e ≤ 1099511627776) : 0 ≤ moment now e ∧ moment now e ≤ 1099514219776 := by
  unfold moment
  split
  · omega
  · split
    · omega
    · split <;> omega
theorem bump_le (n : Nat) : bump n ≤ 18446744073709551615 := by
  have : bump n < 18446744073709551616 := Nat.mod_lt _ (by decide)
  omega
theorem noIt_fit (B : Nat) : It.Fit B noIt := ⟨⟨by decide, by decide, by decide, by decide, by decide, by decide⟩, by decide, by decide, Nat.zero_le _⟩
/-- What a core makes of an item is not over great, and of the key. -/
structure OutOk (B : Nat) (k : ByteArray) (o : Out) : Prop where
  put : ∀ y, o.e = .put y → It.Fit B y ∧ y.key = k
  cas : o.cas ≤ 18446744073709551615
theorem OutOk.no {B cas : Nat} {k : ByteArray} {st : Int} (h : cas ≤ 18446744073709551615) : OutOk B k (Out.no cas st) := ⟨fun y e => (by cases e), h⟩
section
variable {B cas : Nat} {now : Int} {c : Cm} {most : Int} {o : Option It}
theorem keyfine (hf : fine now c = true) (h6 : c.op ≠ 6) : c.key.size ≤ 250 := by
  obtain ⟨_, _, hk, _⟩ := fine_parts hf
  have := keyB_parts (hk.resolve_right h6)
  rw [size_len]; exact this.2.1
theorem getO_ok (hf : fine now c = true) (h6 : c.op ≠ 6) (hc : cas ≤ 18446744073709551615) (ho : ∀ x, o = some x → It.Fit B x ∧ x.key = c.key) : OutOk B c.key (getO now c cas o) := by
  obtain ⟨p1, p2, p3, p4, p5, p6, p7, p8, p9, p10, p11⟩ := fine_parts hf
  have m1 := moment_range (e := c.vive) p10 p11 p8.2
  have m2 := moment_range (e := c.exp) p10 p11 p7.2
  cases o with
  | none =>
    unfold getO
    show OutOk B c.key (if _ then _ else _)
    split
    · refine ⟨fun y e => ?_, bump_le _⟩
      injection e with e
      subst e
      exact ⟨⟨⟨zf, by show _ ≤ moment now c.vive; omega, by show moment now c.vive ≤ _; omega, bump_le _, z0, z1⟩, m1.1, keyfine hf h6, Nat.zero_le _⟩, rfl⟩
    · exact OutOk.no hc
  | some x =>
    obtain ⟨q, hk⟩ := ho x rfl
    refine ⟨fun y e => ?_, hc⟩
    injection e with e
    subst e
    refine ⟨⟨⟨q.ok.flags, ?_, ?_, q.ok.cas, by show _ ≤ now; omega, by show now ≤ _; omega⟩, ?_, q.key, q.val⟩, hk⟩
    · show _ ≤ (if c.hasExp = true then moment now c.exp else x.exp)
      have := q.ok.exp0; split <;> omega
    · show (if c.hasExp = true then moment now c.exp else x.exp) ≤ _
      have := q.ok.exp1; split <;> omega
    · show 0 ≤ (if c.hasExp = true then moment now c.exp else x.exp)
      have := q.exp; split <;> omega
theorem stoE_ok {y : It} (hc : cas ≤ 18446744073709551615) (hm : most ≤ (B : Int)) (hy : It.Ok y ∧ 0 ≤ y.exp ∧ y.key.size ≤ 250 ∧ y.key = c.key) : OutOk B c.key (stoE most cas y) := by
  unfold stoE
  split
  · exact OutOk.no hc
  · refine ⟨fun z e => ?_, bump_le _⟩
    injection e with e
    subst e
    exact ⟨⟨⟨hy.1.flags, hy.1.exp0, hy.1.exp1, bump_le _, hy.1.last0, hy.1.last1⟩, hy.2.1, hy.2.2.1, by show y.val.size ≤ B; omega⟩, hy.2.2.2⟩
theorem stoY_ok (hf : fine now c = true) (h6 : c.op ≠ 6) (ck : c.Ok) (st : Bool) (ho : ∀ x, o = some x → It.Fit B x ∧ x.key = c.key) : It.Ok (stoY now c o st) ∧ 0 ≤ (stoY now c o st).exp ∧ (stoY now c o st).key.size ≤ 250 ∧ (stoY now c o st).key = c.key := by
  obtain ⟨p1, p2, p3, p4, p5, p6, p7, p8, p9, p10, p11⟩ := fine_parts hf
  have m2 := moment_range (e := c.exp) p10 p11 p7.2
  have hn : It.Ok ⟨c.key, c.flags, c.val, moment now c.exp, 0, 0, st, false⟩ ∧ 0 ≤ moment now c.exp ∧ c.key.size ≤ 250 ∧ c.key = c.key :=
    ⟨⟨ck.flags, by show _ ≤ moment now c.exp; omega, by show moment now c.exp ≤ _; omega, zc, z0, z1⟩, m2.1, keyfine hf h6, rfl⟩
  cases o with
  | none => exact hn
  | some x =>
    obtain ⟨q, hk⟩ := ho x rfl
    unfold stoY
    show It.Ok (if 3 ≤ c.mode then _ else _) ∧ 0 ≤ (if 3 ≤ c.mode then _ else _ : It).exp ∧ (if 3 ≤ c.mode then _ else _ : It).key.size ≤ 250 ∧ (if 3 ≤ c.mode then _ else _ : It).key = c.key
    split
    · exact ⟨⟨q.ok.flags, q.ok.exp0, q.ok.exp1, q.ok.cas, q.ok.last0, q.ok.last1⟩, q.exp, q.key, hk⟩
    · exact hn
theorem stoO_ok (hf : fine now c = true) (h6 : c.op ≠ 6) (ck : c.Ok) (hc : cas ≤ 18446744073709551615) (hm : most ≤ (B : Int)) (ho : ∀ x, o = some x → It.Fit B x ∧ x.key = c.key) : OutOk B c.key (stoO now c most cas o) := by
  unfold stoO
  split
  · exact OutOk.no hc
  · split
    · cases o with
      | none => exact OutOk.no hc
      | some x =>
        show OutOk B c.key (if _ then _ else _)
        split
        · exact OutOk.no hc
        · exact stoE_ok hc hm (stoY_ok hf h6 ck _ ho)
    · exact stoE_ok hc hm (stoY_ok hf h6 ck _ ho)
theorem matE_ok {y : It} {v : ByteArray} (hc : cas ≤ 18446744073709551615) (hm : most ≤ (B : Int)) (hy : It.Ok y ∧ 0 ≤ y.exp ∧ y.key.size ≤ 250 ∧ y.key = c.key) : OutOk B c.key (matE most cas y v) := by
  unfold matE
  split
  · exact OutOk.no hc
  · refine ⟨fun z e => ?_, bump_le _⟩
    injection e with e
    subst e
    exact ⟨⟨⟨hy.1.flags, hy.1.exp0, hy.1.exp1, bump_le _, hy.1.last0, hy.1.last1⟩, hy.2.1, hy.2.2.1, by show v.size ≤ B; omega⟩, hy.2.2.2⟩
theorem matO_ok (hf : fine now c = true) (h6 : c.op ≠ 6) (hc : cas ≤ 18446744073709551615) (hm : most ≤ (B : Int)) (ho : ∀ x, o = some x → It.Fit B x ∧ x.key = c.key) : OutOk B c.key (matO now c most cas o) := by
  obtain ⟨p1, p2, p3, p4, p5, p6, p7, p8, p9, p10, p11⟩ := fine_parts hf
  have m1 := moment_range (e := c.vive) p10 p11 p8.2
  have m2 := moment_range (e := c.exp) p10 p11 p7.2
  cases o with
  | none =>
    unfold matO
    show OutOk B c.key (if _ then _ else _)
    split
    · exact matE_ok hc hm ⟨⟨zf, by show _ ≤ moment now c.vive; omega, by show moment now c.vive ≤ _; omega, zc, z0, z1⟩, m1.1, keyfine hf h6, rfl⟩
    · exact OutOk.no hc
  | some x =>
    obtain ⟨q, hk⟩ := ho x rfl
    unfold matO
    show OutOk B c.key (if _ then _ else _)
    split
    · exact OutOk.no hc
    · split
      · exact OutOk.no hc
      · refine matE_ok hc hm ?_
        split
        · exact ⟨⟨q.ok.flags, by show _ ≤ moment now c.exp; omega, by show moment now c.exp ≤ _; omega, q.ok.cas, q.ok.last0, q.ok.last1⟩, m2.1, q.key, hk⟩
        · exact ⟨q.ok, q.exp, q.key, hk⟩
theorem touO_ok (hf : fine now c = true) (hc : cas ≤ 18446744073709551615) (ho : ∀ x, o = some x → It.Fit B x ∧ x.key = c.key) : OutOk B c.key (touO now c cas o) := by
  obtain ⟨p1, p2, p3, p4, p5, p6, p7, p8, p9, p10, p11⟩ := fine_parts hf
  have m2 := moment_range (e := c.exp) p10 p11 p7.2
  cases o with
  | none => exact OutOk.no hc
  | some x =>
    obtain ⟨q, hk⟩ := ho x rfl
    refine ⟨fun y e => ?_, hc⟩
    injection e with e
    subst e
    exact ⟨⟨⟨q.ok.flags, by show _ ≤ moment now c.exp; omega, by show moment now c.exp ≤ _; omega, q.ok.cas, q.ok.last0, q.ok.last1⟩, m2.1, q.key, q.val⟩, hk⟩
theorem delO_ok (hf : fine now c = true) (hc : cas ≤ 18446744073709551615) (ho : ∀ x, o = some x → It.Fit B x ∧ x.key = c.key) : OutOk B c.key (delO now c cas o) := by
  obtain ⟨p1, p2, p3, p4, p5, p6, p7, p8, p9, p10, p11⟩ := fine_parts hf
  have m2 := moment_range (e := c.exp) p10 p11 p7.2
  cases o with
  | none => exact OutOk.no hc
  | some x =>
    obtain ⟨q, hk⟩ := ho x rfl
    unfold delO
    show OutOk B c.key (if _ then _ else _)
    split
    · exact OutOk.no hc
    · split
      · exact ⟨fun y e => (by cases e), hc⟩
      · refine ⟨fun y e => ?_, bump_le _⟩
        injection e with e
        subst e
        refine ⟨⟨⟨q.ok.flags, ?_, ?_, bump_le _, q.ok.last0, q.ok.last1⟩, ?_, q.key, q.val⟩, hk⟩
        · show _ ≤ (if c.hasExp = true then moment now c.exp else x.exp)
          have := q.ok.exp0; split <;> omega
        · show (if c.hasExp = true then moment now c.exp else x.exp) ≤ _
          have := q.ok.exp1; split <;> omega
        · show 0 ≤ (if c.hasExp = true then moment now c.exp else x.exp)
          have := q.exp; split <;> omega
theorem looO_ok (hc : cas ≤ 18446744073709551615) : OutOk B c.key (looO cas o) := by
  cases o with
  | none => exact OutOk.no hc
  | some x => exact ⟨fun y e => (by cases e), hc⟩
theorem core_ok (hf : fine now c = true) (h6 : c.op ≠ 6) (ck : c.Ok) (hc : cas ≤ 18446744073709551615) (hm : most ≤ (B : Int)) (ho : ∀ x, o = some x → It.Fit B x ∧ x.key = c.key) : OutOk B c.key (core now c most cas o) := by
  unfold core
  split
  · exact getO_ok hf h6 hc ho
  · split
    · exact stoO_ok hf h6 ck hc hm ho
    · split
      · exact matO_ok hf h6 hc hm ho
      · split
        · exact touO_ok hf hc ho
        · split
          · exact delO_ok hf hc ho
          · exact looO_ok hc
end
theorem Fit.live {N B : Nat} {s : Ms} (h : Fit N B s) (now : Int) : Fit N B (live s now) := by
  unfold Md.live
  split
  · exact ⟨List.Pairwise.nil, fun x hx => (by cases hx), h.cas, zz, z1, Nat.zero_le _⟩
  · exact ⟨h.sorted.filter _, fun x hx => h.its x (List.mem_filter.1 hx).1, h.cas, h.fl0, h.fl1, Nat.le_trans (List.length_filter_le _ _) h.len⟩
theorem find_fit {N B : Nat} {s : Ms} (h : Fit N B s) (k : ByteArray) : ∀ x, find s.its k = some x → It.Fit B x ∧ x.key = k := fun x hx => ⟨h.its x (find_some hx).1, (find_some hx).2⟩
theorem Fit.apply {N B : Nat} {s : Ms} (h : Fit N B s) {now : Int} {c : Cm} (ck : c.Ok) {most : Int} (hm : most ≤ (B : Int)) : Fit (N + 1) B (apply s now c most).1 := by
  have hl := h.live now
  unfold Md.apply
  split
  · exact fit_no _ _
  · rename_i hf
    have hf : fine now c = true := by simpa using hf
    obtain ⟨p1, p2, p3, p4, p5, p6, p7, p8, p9, p10, p11⟩ := fine_parts hf
    have m2 := moment_range (e := c.exp) p10 p11 p7.2
    split
    · show Fit (N + 1) B (if now < moment now c.exp then _ else _)
      split
      · exact ⟨hl.sorted, hl.its, hl.cas, m2.1, by show moment now c.exp ≤ _; omega, Nat.le_succ_of_le hl.len⟩
      · exact ⟨List.Pairwise.nil, fun x hx => (by cases hx), hl.cas, zz, z1, Nat.zero_le _⟩
    · rename_i h6
      have hk := core_ok hf h6 ck (most := most) hl.cas hm (find_fit hl c.key)
      generalize core now c most (Md.live s now).cas (find (Md.live s now).its c.key) = o at *
      obtain ⟨e, cas, a⟩ := o
      show Fit (N + 1) B ⟨e.on (Md.live s now).its c.key, cas, (Md.live s now).fl⟩
      cases e with
      | keep => exact ⟨hl.sorted, hl.its, hk.cas, hl.fl0, hl.fl1, Nat.le_succ_of_le hl.len⟩
      | put y =>
        refine ⟨hl.sorted.put y, fun x hx => ?_, hk.cas, hl.fl0, hl.fl1, Nat.le_trans (put_len _ _) (Nat.succ_le_succ hl.len)⟩
        rcases mem_put hx with e | e
        · rw [e]; exact (hk.put y rfl).1
        · exact hl.its x e
      | drp => exact ⟨hl.sorted.drp _, fun x hx => hl.its x (mem_drp hx), hk.cas, hl.fl0, hl.fl1, Nat.le_succ_of_le (Nat.le_trans (List.length_filter_le _ _) hl.len)⟩

/-! States of one key -/
theorem toList_filter (o : Option It) (p : It → Bool) : o.toList.filter p = (o.filter p).toList := by
  cases o with
  | none => rfl
  | some x =>
    cases h : p x
    · simp [Option.filter, h]
    · simp [Option.filter, h]
theorem core_for {now : Int} {c : Cm} {most : Int} {cas : Nat} {o : Option It} (ho : ∀ x, o = some x → x.key = c.key) : ∀ y, (core now c most cas o).e = .put y → y.key = c.key := by
  have hE : ∀ y : It, y.key = c.key → ∀ z, (stoE most cas y).e = .put z → z.key = c.key := fun y hy z e => by
    unfold stoE at e
    split at e
    · cases e
    · injection e with e; rw [← e]; exact hy
  have hY : ∀ st, (stoY now c o st).key = c.key := fun st => by
    cases o with
    | none => rfl
    | some x =>
      unfold stoY
      show (if 3 ≤ c.mode then _ else _ : It).key = _
      split
      · exact ho x rfl
      · rfl
  have hM : ∀ (y : It) v, y.key = c.key → ∀ z, (matE most cas y v).e = .put z → z.key = c.key := fun y v hy z e => by
    unfold matE at e
    split at e
    · cases e
    · injection e with e; rw [← e]; exact hy
  intro y e
  unfold core at e
  split at e
  · cases o with
    | none =>
      unfold getO at e
      dsimp only at e
      split at e
      · injection e with e; rw [← e]
      · cases e
    | some x => injection e with e; rw [← e]; exact ho x rfl
  · split at e
    · unfold stoO at e
      split at e
      · cases e
      · split at e
        · cases o with
          | none => cases e
          | some x =>
            dsimp only at e
            split at e
            · cases e
            · exact hE _ (hY _) y e
        · exact hE _ (hY _) y e
    · split at e
      · cases o with
        | none =>
          unfold matO at e
          dsimp only at e
          split at e
          · exact hM _ _ rfl y e
          · cases e
        | some x =>
          unfold matO at e
          dsimp only at e
          split at e
          · cases e
          · split at e
            · cases e
            · refine hM _ _ ?_ y e
              split
              · exact ho x rfl
              · exact ho x rfl
      · split at e
        · cases o with
          | none => cases e
          | some x => injection e with e; rw [← e]; exact ho x rfl
        · split at e
          · cases o with
            | none => cases e
            | some x =>
              unfold delO at e
              dsimp only at e
              split at e
              · cases e
              · split at e
                · cases e
                · injection e with e; rw [← e]; exact ho x rfl
          · cases o with
            | none => cases e
            | some x => cases e
theorem one_step {o : Option It} {cas : Nat} {now : Int} {c : Cm} {most : Int} (hk : ∀ x, o = some x → x.key = c.key) (hf : fine now c = true) (h6 : c.op ≠ 6) :
    apply ⟨o.toList, cas, 0⟩ now c most = (⟨((core now c most cas (o.filter (fun x => !gone now x))).e.at (o.filter (fun x => !gone now x))).toList, (core now c most cas (o.filter (fun x => !gone now x))).cas, 0⟩, (core now c most cas (o.filter (fun x => !gone now x))).a) := by
  have hl : live ⟨o.toList, cas, 0⟩ now = ⟨(o.filter (fun x => !gone now x)).toList, cas, 0⟩ := by
    unfold live
    rw [if_neg (by simp), toList_filter]
  have hk' : ∀ x, o.filter (fun x => !gone now x) = some x → x.key = c.key := fun x hx => hk x (by
    cases o with
    | none => simp at hx
    | some y =>
      have := Option.filter_eq_some_iff.1 hx
      exact this.1)
  unfold apply
  rw [if_neg (by rw [hf]; decide), if_neg h6, hl]
  generalize o.filter (fun x => !gone now x) = q at *
  have hfd : find q.toList c.key = q := by
    cases q with
    | none => rfl
    | some x => show find [x] c.key = _; rw [find_cons, if_pos (hk' x rfl)]
  have hp := core_for (now := now) (most := most) (cas := cas) hk'
  dsimp only
  rw [hfd]
  generalize core now c most cas q = r at *
  obtain ⟨e, cas2, a⟩ := r
  dsimp only at hp ⊢
  have : e.on q.toList c.key = (e.at q).toList := by
    cases e with
    | keep => rfl
    | put y =>
      have hy := hp y rfl
      cases q with
      | none => rfl
      | some x =>
        show put [x] y = [y]
        unfold put
        have hx := hk' x rfl
        simp [hx, hy, klt_irrefl]
    | drp =>
      cases q with
      | none => rfl
      | some x =>
        show drp [x] c.key = []
        unfold drp
        simp [hk' x rfl]
  rw [this]
end Go.Proofs.YtkaaebjifkbclaaDoor.Md

/-
  What Alloc, Free and Put leave of what is used, and of its bytes: plain facts of a slab. No conditions.
-/
import Derived.Test.YtldfpacdlephcaaM6
namespace Go.Proofs.Ytldfpacdlephcaa
open Go Go.RowKit Go.Lib

theorem usedN_mark {s : Sl} {x : Nat} {k : Ct} (hk : s.cut (x / 4096) = some k) (hl : x % 4096 < k.used.length) (b : Bool) (y : Nat) : (s.mark x b).usedN y = if y = x then b else s.usedN y := by
  rw [Sl.mark_at b hk]
  by_cases e : y / 4096 = x / 4096
  · have hc : (s.setCut (x / 4096) (k.mark (x % 4096) b)).cut (y / 4096) = some (k.mark (x % 4096) b) := by rw [e]; exact upd_same _ _ _
    have hy : s.cut (y / 4096) = some k := by rw [e]; exact hk
    unfold Sl.usedN
    rw [hc, hy]
    show (k.used.set (x % 4096) b).getD (y % 4096) false = if y = x then b else k.used.getD (y % 4096) false
    rw [List.getD, List.getD, List.getElem?_set]
    by_cases e2 : x % 4096 = y % 4096
    · rw [if_pos e2, if_pos hl, if_pos (by omega)]; rfl
    · rw [if_neg e2, if_neg (fun e3 => e2 (by rw [e3]))]
  · have hc : (s.setCut (x / 4096) (k.mark (x % 4096) b)).cut (y / 4096) = s.cut (y / 4096) := upd_ne _ _ e
    rw [if_neg (fun e3 => e (by rw [e3]))]
    unfold Sl.usedN
    rw [hc]
theorem zAt_mark {s : Sl} {x : Nat} {k : Ct} (hk : s.cut (x / 4096) = some k) (b : Bool) (y : Nat) : (s.mark x b).zAt y = s.zAt y := by
  rw [Sl.mark_at b hk]
  by_cases e : y / 4096 = x / 4096
  · have hc : (s.setCut (x / 4096) (k.mark (x % 4096) b)).cut (y / 4096) = some (k.mark (x % 4096) b) := by rw [e]; exact upd_same _ _ _
    have hy : s.cut (y / 4096) = some k := by rw [e]; exact hk
    rw [Sl.zAt_is hc, Sl.zAt_is hy]; rfl
  · have hc : (s.setCut (x / 4096) (k.mark (x % 4096) b)).cut (y / 4096) = s.cut (y / 4096) := upd_ne _ _ e
    unfold Sl.zAt
    rw [hc]; rfl

/-- What a step leaves of the used chunks: x turns to b. -/
structure Trn (s : Sl) (x : Nat) (b : Bool) (s' : Sl) : Prop where
  us : ∀ y, s'.usedN y = if y = x then b else s.usedN y
  z : ∀ y, s.usedN y = true → s'.zAt y = s.zAt y
  pg : s'.a.pg = s.a.pg
  size : s'.a.size = s.a.size
  sz : s'.sz = s.sz
  len : s'.a.ow.length = s.a.ow.length
theorem take_trn {s : Sl} (h : s.Ok) {c x : Nat} {l : List Nat} (hc : c < s.sz.length) (hl : s.rows c = l ++ [x]) :
    s.usedN x = false ∧ Trn s x true ((s.setRow c l).mark x true) ∧ ((s.setRow c l).mark x true).zAt x = s.size c := by
  obtain ⟨k, hk, hkc, _, hu, _⟩ := h.rw c x hc (by rw [hl]; simp)
  have hlt : x % 4096 < k.used.length := (List.getElem?_eq_some_iff.1 hu).1
  have hk' : (s.setRow c l).cut (x / 4096) = some k := hk
  refine ⟨Sl.usedN_of hk hu, ⟨fun y => usedN_mark hk' hlt true y, fun y _ => zAt_mark hk' true y, ?_, ?_, ?_, ?_⟩, ?_⟩
  · rw [Sl.mark_at true hk']; rfl
  · rw [Sl.mark_at true hk']; rfl
  · rw [Sl.mark_at true hk']; rfl
  · rw [Sl.mark_at true hk']; rfl
  · rw [zAt_mark hk' true x]
    have : (s.setRow c l).zAt x = s.size k.cls := Sl.zAt_is hk
    rw [this, hkc]
theorem grown_used {s : Sl} (h : s.Ok) {p c : Nat} (hp : s.a.ow[p]? = some (-1)) (y : Nat) : (s.grown p c).usedN y = s.usedN y := by
  have hn := Sl.free_cut h hp
  by_cases e : y / 4096 = p
  · have hc : (s.grown p c).cut (y / 4096) = some (newCut s.U c) := by rw [e]; exact upd_same _ _ _
    have hy : s.cut (y / 4096) = none := by rw [e]; exact hn
    unfold Sl.usedN
    rw [hc, hy]
    show (List.replicate s.U false).getD (y % 4096) false = false
    rw [List.getD, List.getElem?_replicate]
    split <;> rfl
  · have hc : (s.grown p c).cut (y / 4096) = s.cut (y / 4096) := upd_ne _ _ e
    unfold Sl.usedN
    rw [hc]
theorem grown_z {s : Sl} (h : s.Ok) {p c : Nat} (hp : s.a.ow[p]? = some (-1)) {y : Nat} (hy : s.usedN y = true) : (s.grown p c).zAt y = s.zAt y := by
  have hn := Sl.free_cut h hp
  obtain ⟨k, hk, _⟩ := Sl.usedN_true hy
  have e : y / 4096 ≠ p := fun e => by rw [e, hn] at hk; cases hk
  have hc : (s.grown p c).cut (y / 4096) = s.cut (y / 4096) := upd_ne _ _ e
  unfold Sl.zAt
  rw [hc]; rfl
theorem Sl.Ok.alloc_said {s : Sl} (h : s.Ok) {c : Nat} (hc : c < s.sz.length) :
    s.alloc (c : Int) = (-1, 5, s) ∨ ∃ (x : Nat) (s' : Sl), s.alloc (c : Int) = ((x : Int), 0, s') ∧ s.usedN x = false ∧ Trn s x true s' ∧ s'.zAt x = s.size c := by
  have hb : s.classB (c : Int) = true := by
    unfold Sl.classB; rw [decide_eq_true_iff]; omega
  by_cases hr : s.rows c = []
  · rcases fi_cases s.a.ow with hf | ⟨p, hf, hp⟩
    · exact .inl (Sl.alloc_full hb hr hf)
    · obtain ⟨l, x, hl⟩ := row_split (Sl.grown_some h (p := p) hc)
      have hok := Sl.grown_ok h hc hp
      obtain ⟨a1, a2, a3⟩ := take_trn (s := s.grown p c) hok hc hl
      refine .inr ⟨x, _, Sl.alloc_grow hb hr hf hl, ?_, ⟨fun y => ?_, fun y hy => ?_, a2.pg, a2.size, a2.sz, ?_⟩, a3⟩
      · rw [← grown_used h hp x]; exact a1
      · rw [a2.us y, grown_used h hp y]
      · rw [a2.z y (by rw [grown_used h hp y]; exact hy), grown_z h hp hy]
      · rw [a2.len]
        show (s.a.ow.set p (c : Int)).length = _
        rw [List.length_set]
  · obtain ⟨l, x, hl⟩ := row_split hr
    obtain ⟨a1, a2, a3⟩ := take_trn h hc hl
    exact .inr ⟨x, _, Sl.alloc_row hb hl, a1, a2, a3⟩
theorem Sl.free_said {s : Sl} {x : Nat} (hx : s.usedN x = true) : (s.free (x : Int)).1 = 0 ∧ Trn s x false (s.free (x : Int)).2 := by
  obtain ⟨k, hk, hu⟩ := Sl.usedN_true hx
  have hlt : x % 4096 < k.used.length := (List.getElem?_eq_some_iff.1 hu).1
  have e := Sl.free_yes hx hk
  obtain ⟨m1, m2, _⟩ := s.mark_sz x false
  have hT : Trn s x false (s.mark x false) := ⟨fun y => usedN_mark hk hlt false y, fun y _ => zAt_mark hk false y, by rw [m2], by rw [m2], m1, by rw [m2]⟩
  rw [e]
  refine ⟨rfl, ?_⟩
  cases k.closed with
  | true => exact hT
  | false => exact ⟨hT.us, hT.z, hT.pg, hT.size, hT.sz, hT.len⟩

/-- A chunk's bytes. -/
def Sl.bys (s : Sl) (y : Nat) : List UInt8 := s.a.get (y / 4096) (y % 4096 * s.zAt y) (s.zAt y)
theorem Trn.bys {s s' : Sl} {x : Nat} {b : Bool} (h : Trn s x b s') {y : Nat} (hy : s.usedN y = true) : s'.bys y = s.bys y := by
  unfold Sl.bys St.get
  rw [h.z y hy, h.pg]
theorem splice_in {α : Type} {L cs : List α} {i : Nat} (h : i + cs.length ≤ L.length) : ((splice L i cs).drop i).take cs.length = cs := by
  apply List.ext_getElem?
  intro j
  rw [List.getElem?_take]
  by_cases hj : j < cs.length
  · rw [if_pos hj, List.getElem?_drop, splice_at h, if_neg (by omega), if_pos (by omega)]
    congr 1
    omega
  · rw [if_neg hj, List.getElem?_eq_none (by omega)]
theorem splice_out {α : Type} {L cs : List α} {i j m : Nat} (h : i + cs.length ≤ L.length) (hd : j + m ≤ i ∨ i + cs.length ≤ j) : ((splice L i cs).drop j).take m = (L.drop j).take m := by
  apply List.ext_getElem?
  intro t
  rw [List.getElem?_take, List.getElem?_take]
  by_cases ht : t < m
  · rw [if_pos ht, if_pos ht, List.getElem?_drop, List.getElem?_drop, splice_at h]
    rcases hd with hd | hd
    · rw [if_pos (by omega)]
    · rw [if_neg (by omega), if_neg (by omega)]
  · rw [if_neg ht, if_neg ht]
theorem put_in {s : Sl} (h : s.Ok) {x : Nat} (hx : s.usedN x = true) {l : List UInt8} (hl : l.length = s.zAt x) : (s.putA x l).bys x = l := by
  obtain ⟨h1, _, h3, _⟩ := h.within hx
  have hp := h.ao.pg _ h1
  show ((if x / 4096 = x / 4096 then splice (s.a.pg (x / 4096)) (x % 4096 * s.zAt x) l else s.a.pg (x / 4096)).drop (x % 4096 * s.zAt x)).take (s.zAt x) = l
  rw [if_pos rfl, ← hl]
  rw [← hl] at h3
  exact splice_in (by rw [hp]; exact h3)
theorem put_out {s : Sl} (h : s.Ok) {x y : Nat} (hx : s.usedN x = true) (hne : y ≠ x) {l : List UInt8} (hl : l.length ≤ s.zAt x) : (s.putA x l).bys y = s.bys y := by
  obtain ⟨h1, _, h3, _⟩ := h.within hx
  have hp := h.ao.pg _ h1
  show ((if y / 4096 = x / 4096 then splice (s.a.pg (x / 4096)) (x % 4096 * s.zAt x) l else s.a.pg (y / 4096)).drop (y % 4096 * s.zAt y)).take (s.zAt y) = ((s.a.pg (y / 4096)).drop (y % 4096 * s.zAt y)).take (s.zAt y)
  by_cases e : y / 4096 = x / 4096
  · have ez : s.zAt y = s.zAt x := by unfold Sl.zAt; rw [e]
    rw [if_pos e, e, ez]
    refine splice_out (by rw [hp]; omega) ?_
    rcases Nat.lt_or_gt_of_ne (show y % 4096 ≠ x % 4096 by omega) with hlt | hgt
    · have := Nat.mul_le_mul_right (s.zAt x) (show y % 4096 + 1 ≤ x % 4096 by omega)
      rw [Nat.succ_mul] at this
      exact .inl this
    · have := Nat.mul_le_mul_right (s.zAt x) (show x % 4096 + 1 ≤ y % 4096 by omega)
      rw [Nat.succ_mul] at this
      exact .inr (by omega)
  · rw [if_neg e]

/-- What is held, and what its bytes are. -/
structure Hm (held : List Nat) (marks : List UInt8) (s : Sl) : Prop where
  ok : s.Ok
  len : marks.length = held.length
  nd : held.Nodup
  us : ∀ x ∈ held, s.usedN x = true
  by' : ∀ (j x : Nat) m, held[j]? = some x → marks[j]? = some m → s.bys x = List.replicate (s.zAt x) m
theorem Hm.nil {s : Sl} (h : s.Ok) : Hm [] [] s := ⟨h, rfl, List.nodup_nil, fun _ h => (by cases h), fun j x m h => (by simp at h)⟩
/-- A chunk more is held, with bytes of its own. -/
theorem Hm.more {held : List Nat} {marks : List UInt8} {s s' : Sl} {x : Nat} {m : UInt8} (h : Hm held marks s) (hok : s'.Ok) (hx : s.usedN x = false) (ht : Trn s x true s') :
    x ∉ held ∧ s'.usedN x = true ∧ Hm (held ++ [x]) (marks ++ [m]) (s'.putA x (List.replicate (s'.zAt x) m)) := by
  have hxn : x ∉ held := fun hm => by rw [h.us x hm] at hx; cases hx
  have hxu : s'.usedN x = true := by rw [ht.us, if_pos rfl]
  have hyu : ∀ y ∈ held, s'.usedN y = true := fun y hy => by
    rw [ht.us, if_neg (fun e : y = x => hxn (by rw [← e]; exact hy))]; exact h.us y hy
  refine ⟨hxn, hxu, hok.putA hxu (by rw [List.length_replicate]; exact Nat.le_refl _), by rw [List.length_append, List.length_append, h.len]; rfl, ?_, fun y hy => ?_, fun j y m' hj hm' => ?_⟩
  · rw [List.nodup_append]
    exact ⟨h.nd, by simp, fun a ha b hb e => hxn (by rw [List.mem_singleton.1 hb] at e; rw [← e]; exact ha)⟩
  · show s'.usedN y = true
    rcases List.mem_append.1 hy with hy | hy
    · exact hyu y hy
    · rw [List.mem_singleton.1 hy]; exact hxu
  · show (s'.putA x _).bys y = List.replicate (s'.zAt y) m'
    by_cases hjl : j < held.length
    · rw [List.getElem?_append_left hjl] at hj
      rw [List.getElem?_append_left (by rw [h.len]; exact hjl)] at hm'
      have hym := List.mem_of_getElem? hj
      rw [put_out hok hxu (fun e : y = x => hxn (by rw [← e]; exact hym)) (by rw [List.length_replicate]; exact Nat.le_refl _), ht.bys (h.us y hym), ht.z y (h.us y hym)]
      exact h.by' j y m' hj hm'
    · rw [List.getElem?_append_right (by omega)] at hj
      rw [List.getElem?_append_right (by rw [h.len]; omega), h.len] at hm'
      have hj0 : j - held.length = 0 := by
        have := (List.getElem?_eq_some_iff.1 hj).1
        simp at this; omega
      rw [hj0] at hj hm'
      cases hj
      cases hm'
      exact put_in hok hxu (List.length_replicate)
/-- A row but for its k-th. -/
def cutAt {α : Type} (l : List α) (k : Nat) : List α := l.take k ++ l.drop (k + 1)
theorem cutAt_at {α : Type} {l : List α} {k : Nat} (hk : k < l.length) (j : Nat) : (cutAt l k)[j]? = if j < k then l[j]? else l[j + 1]? := by
  unfold cutAt
  by_cases h : j < k
  · rw [if_pos h, List.getElem?_append_left (by rw [List.length_take]; omega), List.getElem?_take, if_pos h]
  · rw [if_neg h, List.getElem?_append_right (by rw [List.length_take]; omega), List.getElem?_drop, List.length_take]
    congr 1
    omega
theorem cutAt_len {α : Type} {l : List α} {k : Nat} (hk : k < l.length) : (cutAt l k).length = l.length - 1 := by
  unfold cutAt
  rw [List.length_append, List.length_take, List.length_drop]
  omega
theorem Hm.less {held : List Nat} {marks : List UInt8} {s s' : Sl} {k x : Nat} (h : Hm held marks s) (hok : s'.Ok) (hk : held[k]? = some x) (ht : Trn s x false s') : Hm (cutAt held k) (cutAt marks k) s' := by
  obtain ⟨hkl, hkx⟩ := List.getElem?_eq_some_iff.1 hk
  have hkm : k < marks.length := by rw [h.len]; exact hkl
  have hsub : cutAt held k = held.eraseIdx k := by unfold cutAt; rw [List.eraseIdx_eq_take_drop_succ]
  have hmem : ∀ y ∈ cutAt held k, y ∈ held ∧ y ≠ x := fun y hy => by
    obtain ⟨j, hj⟩ := List.mem_iff_getElem?.1 hy
    rw [cutAt_at hkl] at hj
    by_cases hjk : j < k
    · rw [if_pos hjk] at hj
      refine ⟨List.mem_of_getElem? hj, fun e => ?_⟩
      subst e
      exact absurd ((List.getElem?_inj hkl h.nd).1 (hk.trans hj.symm)) (by omega)
    · rw [if_neg hjk] at hj
      refine ⟨List.mem_of_getElem? hj, fun e => ?_⟩
      subst e
      exact absurd ((List.getElem?_inj hkl h.nd).1 (hk.trans hj.symm)) (by omega)
  refine ⟨hok, by rw [cutAt_len hkl, cutAt_len hkm, h.len], by rw [hsub]; exact h.nd.sublist (List.eraseIdx_sublist _ _), fun y hy => ?_, fun j y m hj hm => ?_⟩
  · obtain ⟨a1, a2⟩ := hmem y hy
    rw [ht.us, if_neg a2]; exact h.us y a1
  · obtain ⟨a1, a2⟩ := hmem y (List.mem_of_getElem? hj)
    rw [ht.bys (h.us y a1), ht.z y (h.us y a1)]
    rw [cutAt_at hkl] at hj
    rw [cutAt_at hkm] at hm
    by_cases hjk : j < k
    · rw [if_pos hjk] at hj hm
      exact h.by' j y m hj hm
    · rw [if_neg hjk] at hj hm
      exact h.by' (j + 1) y m hj hm
end Go.Proofs.Ytldfpacdlephcaa

/-
  The bytes of an arena's pages at this program: whole, part, Write, bytes.Clone and Read, of any arena and any numbers that an int holds. No further conditions.
-/
import Derived.Test.YtldfpacdlephcaaArenaPages
namespace Go.Proofs.Ytldfpacdlephcaa
open Go Go.RowKit Go.Lib

/-- A slice of bytes that can be read. -/
def Byts (w : World) (v : Value) (l : List UInt8) : Prop :=
  ∃ a c, v = .slice a l.length c ∧ ∀ j b, l[j]? = some b → ∃ g o, a = some ⟨g, o, none⟩ ∧ g < w.heap.size ∧ w.cell? ⟨g, o + j, none⟩ = some (.int .u8 (b.toNat : Int))
theorem Byts.only {D : Nat → Prop} {w w' : World} {v : Value} {l : List UInt8} (h : Byts w v l) (ho : Only D w w') (hd : ∀ g o n c, v = .slice (some ⟨g, o, none⟩) n c → ¬ D g) : Byts w' v l := by
  obtain ⟨a, c, rfl, hx⟩ := h
  refine ⟨a, c, rfl, fun j b hj => ?_⟩
  obtain ⟨g, o, rfl, hlt, hc⟩ := hx j b hj
  exact ⟨g, o, rfl, Nat.lt_of_lt_of_le hlt ho.size, (ho.cell (p := ⟨g, o + j, none⟩) hlt (hd _ _ _ _ rfl)).trans hc⟩
theorem Byts.below {B : Nat} {w w' : World} {v : Value} {l : List UInt8} (h : Byts w v l) (hb : Below B w w') (hB : ∀ g o n c, v = .slice (some ⟨g, o, none⟩) n c → g < B) : Byts w' v l := by
  obtain ⟨a, c, rfl, hx⟩ := h
  refine ⟨a, c, rfl, fun j b hj => ?_⟩
  obtain ⟨g, o, rfl, hlt, hc⟩ := hx j b hj
  exact ⟨g, o, rfl, Nat.lt_of_lt_of_le hlt hb.size, (hb.cell (p := ⟨g, o + j, none⟩) (hB _ _ _ _ rfl)).trans hc⟩
theorem byts_row {w : World} {base : Nat} {v : Value} {l : List UInt8} (h : w.ownsRow base 5 1 v l.length (bc l)) : Byts w v l := by
  have hlt := h.lt
  have hcs := @World.ownsRow.cells _ _ _ _ _ _ _ h
  rcases h.2 with ⟨rfl, h0⟩ | ⟨g, cap, cur, rfl, hb, hg, hcap, _⟩
  · refine ⟨none, 0, by rw [h0], fun j x hj => ?_⟩
    rw [List.eq_nil_of_length_eq_zero h0] at hj; simp at hj
  · refine ⟨some ⟨g, 0, none⟩, cap, rfl, fun j x hj => ⟨g, 0, rfl, (hlt g rfl).2, ?_⟩⟩
    have := hcs rfl j _ (bc_at hj)
    rw [addr_plain] at this; exact this
theorem Byts.src {w : World} {a : Option Addr} {n c : Nat} {l : List UInt8} (h : Byts w (.slice a n c) l) (hl : 0 < l.length) : ∃ ad, a = some ad ∧ ∀ j v, (bc l)[j]? = some v → w.cell? (ad.add j) = some v := by
  obtain ⟨a', c', e, hx⟩ := h
  cases e
  obtain ⟨g, o, ha, _, _⟩ := hx 0 l[0] (List.getElem?_eq_getElem hl)
  refine ⟨⟨g, o, none⟩, ha, fun j v hj => ?_⟩
  have hjl : j < l.length := by
    have := (List.getElem?_eq_some_iff.1 hj).1
    rwa [bc_len] at this
  rw [bc_at (List.getElem?_eq_getElem hjl)] at hj
  obtain ⟨g', o', ha', _, hc⟩ := hx j l[j] (List.getElem?_eq_getElem hjl)
  rw [ha] at ha'
  cases ha'
  rw [addr_plain, hc]; exact hj

theorem row_fits {n size k i : Nat} (hk : k < n) (hi : i ≤ size) : k * size + i ≤ n * size := by
  calc k * size + i ≤ k * size + size := by omega
    _ = (k + 1) * size := by rw [Nat.add_mul, Nat.one_mul]
    _ ≤ n * size := Nat.mul_le_mul_right _ hk

/-- Bytes are put into a page. -/
def St.put (s : St) (k i : Nat) (l : List UInt8) : St := { s with pg := fun q => if q = k then splice (s.pg k) i l else s.pg q }
theorem St.put_ok {s : St} (h : s.Ok) {k i : Nat} {l : List UInt8} (hk : k < s.ow.length) (hi : i + l.length ≤ s.size) : (s.put k i l).Ok := by
  refine ⟨h.n1, h.n2, h.s1, h.s2, h.ow, fun p hp => ?_⟩
  show (if p = k then splice (s.pg k) i l else s.pg p).length = s.size
  split
  · rw [length_splice _ _ _ (by rw [h.pg k hk]; exact hi)]; exact h.pg k hk
  · exact h.pg p hp
theorem rows_put {s : St} (h : s.Ok) {cs : List Value} (hR : Rows s.ow.length s.size s.pg cs) {k i : Nat} {l : List UInt8} (hk : k < s.ow.length) (hi : i + l.length ≤ s.size) :
    Rows s.ow.length s.size (s.put k i l).pg (splice cs (k * s.size + i) (bc l)) := by
  obtain ⟨hl, hx⟩ := hR
  have hfit : k * s.size + i + (bc l).length ≤ cs.length := by
    rw [bc_len, hl, Nat.add_assoc]; exact row_fits hk hi
  refine ⟨(length_splice _ _ _ hfit).trans hl, fun p j b hp hb => ?_⟩
  have hb' : (if p = k then splice (s.pg k) i l else s.pg p)[j]? = some b := hb
  rw [splice_at hfit, bc_len]
  by_cases hpk : p = k
  · subst hpk
    rw [if_pos rfl, splice_at (by rw [h.pg p hk]; exact hi)] at hb'
    by_cases h1 : j < i
    · rw [if_pos h1] at hb'
      rw [if_pos (by omega)]; exact hx p j b hp hb'
    · rw [if_neg h1] at hb'
      rw [if_neg (by omega)]
      by_cases h2 : j < i + l.length
      · rw [if_pos h2] at hb'
        rw [if_pos (by omega), show p * s.size + j - (p * s.size + i) = j - i by omega]
        exact bc_at hb'
      · rw [if_neg h2] at hb'
        rw [if_neg (by omega)]; exact hx p j b hp hb'
  · rw [if_neg hpk] at hb'
    have hj : j < s.size := by
      have := (List.getElem?_eq_some_iff.1 hb').1
      rwa [h.pg p hp] at this
    have hout : p * s.size + j < k * s.size + i ∨ k * s.size + i + l.length ≤ p * s.size + j := by
      rcases Nat.lt_or_gt_of_ne hpk with hlt | hgt
      · have : (p + 1) * s.size ≤ k * s.size := Nat.mul_le_mul_right _ hlt
        rw [Nat.add_mul, Nat.one_mul] at this
        left; omega
      · have : (k + 1) * s.size ≤ p * s.size := Nat.mul_le_mul_right _ hgt
        rw [Nat.add_mul, Nat.one_mul] at this
        right; omega
    rcases hout with ho | ho
    · rw [if_pos ho]; exact hx p j b hp hb'
    · rw [if_neg (by omega), if_neg (by omega)]; exact hx p j b hp hb'
/-- What is read. -/
def St.get (s : St) (k i m : Nat) : List UInt8 := ((s.pg k).drop i).take m
theorem St.get_len {s : St} (h : s.Ok) {k i m : Nat} (hk : k < s.ow.length) (hi : i + m ≤ s.size) : (s.get k i m).length = m := by
  unfold St.get; rw [List.length_take, List.length_drop, h.pg k hk]; omega
theorem get_src {s : St} {w : World} {R : Nat} {cs : List Value} (hb : Blk w R 5 cs) (hR : Rows s.ow.length s.size s.pg cs) {k i m : Nat} (hk : k < s.ow.length) :
    ∀ j v, (bc (s.get k i m))[j]? = some v → w.cell? ((⟨R, k * s.size + i, none⟩ : Addr).add j) = some v := by
  intro j v hj
  unfold bc at hj
  rw [List.getElem?_map] at hj
  obtain ⟨b, hb', rfl⟩ := Option.map_eq_some_iff.1 hj
  unfold St.get at hb'
  rw [List.getElem?_take] at hb'
  split at hb'
  · rw [List.getElem?_drop] at hb'
    rw [addr_plain, Nat.add_assoc]
    exact hb.cell (hR.2 k (i + j) b hk hb')
  · cases hb'

set_option maxHeartbeats 1000000 in
set_option maxRecDepth 100000 in
theorem whole_any {P O R : Nat} {s : St} {w : World} (h : AIs P O R s w) (k : Nat) (hk : k < s.ow.length) :
    Calls Try.prog 84 #[.pointer (some ⟨P, 0, none⟩), .int .i64 k] w fun e w' => e = .returned (.slice (some ⟨R, k * s.size, none⟩) s.size s.size) ∧ w = w' := by
  have hP0 : w.cell? ⟨P, 0, none⟩ = some (.int .i64 (s.size : Int)) := h.head.cell rfl
  have hP2 : w.cell? ⟨P, 2, none⟩ = some (.slice (some ⟨R, 0, none⟩) (s.ow.length * s.size) (s.ow.length * s.size)) := h.head.cell rfl
  have hb1 := mul_bound h.ok.n2 h.ok.s2
  have hfit := row_fits (size := s.size) hk (Nat.le_refl _)
  have hs1 := h.ok.s1
  obtain ⟨M, hM⟩ : ∃ M, M = s.ow.length * s.size := ⟨_, rfl⟩
  obtain ⟨K, hK⟩ : ∃ K, K = k * s.size := ⟨_, rfl⟩
  have e1 : (k : Int) * (s.size : Int) = (K : Int) := by rw [hK, Int.natCast_mul]
  rw [← hM] at hb1 hfit hP2
  rw [← hK] at hfit ⊢
  generalize s.size = z at *
  clear hM hK h hk
  have q1 : (0 : Int) ≤ (K : Int) + (z : Int) := by omega
  have q2 : (K : Int) ≤ (K : Int) + (z : Int) := by omega
  have q3 : (K : Int) + (z : Int) ≤ (M : Int) := by omega
  have q4 : ¬ K + z = K := by omega
  go_enter Try.func84, Try.ntmps84
  go_wp2_with fail
  rw [Nat.add_sub_cancel_left]
  go_ret
  exact ⟨rfl, rfl⟩

/-- May so many bytes be asked for there? 0, or what is answered. -/
def St.code (s : St) (p at_ n : Int) : Int := if grB s.ow p = true then (if 0 ≤ at_ ∧ 0 ≤ n ∧ n ≤ s.size - at_ then 0 else 1) else 7
theorem code_cases (s : St) (p at_ n : Int) : (s.code p at_ n = 7 ∧ grB s.ow p = false) ∨
    (s.code p at_ n = 1 ∧ grB s.ow p = true ∧ (at_ < 0 ∨ (0 ≤ at_ ∧ n < 0) ∨ (0 ≤ at_ ∧ 0 ≤ n ∧ s.size - at_ < n))) ∨
    (s.code p at_ n = 0 ∧ grB s.ow p = true ∧ ∃ k i m : Nat, p = k ∧ at_ = i ∧ n = m ∧ k < s.ow.length ∧ i + m ≤ s.size) := by
  unfold St.code
  cases hg : grB s.ow p with
  | false => exact .inl ⟨by simp, rfl⟩
  | true =>
    obtain ⟨k, z, hp, hk, _, _⟩ := grB_at hg
    rw [if_pos rfl]
    by_cases h1 : 0 ≤ at_ ∧ 0 ≤ n ∧ n ≤ s.size - at_
    · rw [if_pos h1]
      exact .inr (.inr ⟨rfl, rfl, k, at_.toNat, n.toNat, hp, by omega, by omega, hk, by omega⟩)
    · rw [if_neg h1]
      exact .inr (.inl ⟨rfl, rfl, by omega⟩)

set_option maxHeartbeats 1000000 in
set_option maxRecDepth 100000 in
theorem part_ok {P O R : Nat} {s : St} {w : World} (h : AIs P O R s w) (k i m : Nat) (hg : grB s.ow (k : Int) = true) (hk : k < s.ow.length) (hi : i + m ≤ s.size) :
    Calls Try.prog 72 #[.pointer (some ⟨P, 0, none⟩), .int .i64 k, .int .i64 i, .int .i64 m] w fun e w' => (∃ ad c, e = .returned (.tuple #[.slice (some ad) m c, .int .i64 0]) ∧ (0 < m → ad = ⟨R, k * s.size + i, none⟩)) ∧ w = w' := by
  have hP0 : w.cell? ⟨P, 0, none⟩ = some (.int .i64 (s.size : Int)) := h.head.cell rfl
  have hgr := granted_any h k
  rw [hg] at hgr
  have hwh := whole_any h k hk
  have hs2 := h.ok.s2
  have hs1 := h.ok.s1
  generalize k * s.size = K at *
  generalize s.size = z at *
  have q1 : (i : Int) ≤ (i : Int) + (m : Int) := by omega
  have q2 : (i : Int) + (m : Int) ≤ (z : Int) := by omega
  have q3 : (m : Int) ≤ (z : Int) - (i : Int) := by omega
  clear h hg
  by_cases hz : z = i
  · have hm0 : m = 0 := by omega
    subst hz
    subst hm0
    go_enter Try.func72, Try.ntmps72
    go_wp2_with fail
    refine hgr.mono ?_
    rintro e w' ⟨rfl, rfl⟩
    clear hgr
    go_wp2_with fail
    refine hwh.mono ?_
    rintro e w' ⟨rfl, rfl⟩
    clear hwh
    go_wp2_with fail
    go_ret2
    exact ⟨⟨_, _, rfl, fun h => (Nat.lt_irrefl _ h).elim⟩, rfl⟩
  · go_enter Try.func72, Try.ntmps72
    go_wp2_with fail
    refine hgr.mono ?_
    rintro e w' ⟨rfl, rfl⟩
    clear hgr
    go_wp2_with fail
    refine hwh.mono ?_
    rintro e w' ⟨rfl, rfl⟩
    clear hwh
    go_wp2_with fail
    rw [Nat.add_sub_cancel_left]
    go_ret2
    exact ⟨⟨_, _, rfl, fun _ => rfl⟩, rfl⟩

set_option maxHeartbeats 1000000 in
set_option maxRecDepth 100000 in
theorem part_bad {P O R : Nat} {s : St} {w : World} (h : AIs P O R s w) (p i m : Int) (hi : i ≤ 9223372036854775807) (c : Int) (hc : c = s.code p i m) (h0 : c ≠ 0) :
    Calls Try.prog 72 #[.pointer (some ⟨P, 0, none⟩), .int .i64 p, .int .i64 i, .int .i64 m] w fun e w' => e = .returned (.tuple #[.slice none 0 0, .int .i64 c]) ∧ w = w' := by
  have hP0 : w.cell? ⟨P, 0, none⟩ = some (.int .i64 (s.size : Int)) := h.head.cell rfl
  have hgr := granted_any h p
  have hs2 := h.ok.s2
  rcases code_cases s p i m with ⟨hd, hg⟩ | ⟨hd, hg, hx⟩ | ⟨hd, _⟩
  · rw [hd] at hc
    subst hc
    rw [hg] at hgr
    clear h hg hd h0
    go_enter Try.func72, Try.ntmps72
    go_wp2_with fail
    refine hgr.mono ?_
    rintro e w' ⟨rfl, rfl⟩
    clear hgr
    go_wp2_with fail
    go_ret2
    exact ⟨rfl, rfl⟩
  · rw [hd] at hc
    subst hc
    rw [hg] at hgr
    generalize s.size = z at *
    clear h hg hd h0
    rcases hx with h1 | ⟨h1, h2⟩ | ⟨h1, h2, h3⟩
    all_goals
      go_enter Try.func72, Try.ntmps72
      go_wp2_with fail
      refine hgr.mono ?_
      rintro e w' ⟨rfl, rfl⟩
      clear hgr
      go_wp2_with fail
      go_ret2
      exact ⟨rfl, rfl⟩
  · exact (h0 (hc.trans hd)).elim

/-- What a write leaves. -/
def St.write (s : St) (p i : Int) (l : List UInt8) : Int × St := (s.code p i l.length, if s.code p i l.length = 0 then s.put p.toNat i.toNat l else s)

set_option maxHeartbeats 1000000 in
set_option maxRecDepth 100000 in
theorem write_any {P O R : Nat} {s : St} {w : World} (h : AIs P O R s w) (p i : Int) (hi : i ≤ 9223372036854775807) (v : Value) (l : List UInt8) (hl : l.length ≤ 9223372036854775807) (hv : Byts w v l) :
    Calls Try.prog 51 #[.pointer (some ⟨P, 0, none⟩), .int .i64 p, .int .i64 i, v] w fun e w' => e = .returned (.int .i64 (s.write p i l).1) ∧ AIs P O R (s.write p i l).2 w' ∧ Only (fun b => b = R) w w' := by
  unfold St.write
  obtain ⟨a, c, rfl⟩ : ∃ a c, v = .slice a l.length c := by obtain ⟨a, c, e, _⟩ := hv; exact ⟨a, c, e⟩
  rcases code_cases s p i l.length with ⟨hd, _⟩ | ⟨hd, _⟩ | ⟨hd, hg, k, j, m, rfl, rfl, hm, hk, hj⟩
  · rw [hd]
    have hp := part_bad h p i l.length hi 7 hd.symm (by decide)
    have H := hid h
    clear h hd hv
    generalize l.length = n at *
    go_enter Try.func51, Try.ntmps51
    go_wp2_with fail
    refine hp.mono ?_
    rintro e w' ⟨rfl, rfl⟩
    clear hp
    go_wp2_with fail
    go_ret
    exact ⟨rfl, H.out, Only.refl _ _⟩
  · rw [hd]
    have hp := part_bad h p i l.length hi 1 hd.symm (by decide)
    have H := hid h
    clear h hd hv
    generalize l.length = n at *
    go_enter Try.func51, Try.ntmps51
    go_wp2_with fail
    refine hp.mono ?_
    rintro e w' ⟨rfl, rfl⟩
    clear hp
    go_wp2_with fail
    go_ret
    exact ⟨rfl, H.out, Only.refl _ _⟩
  · have hm' : l.length = m := by omega
    have hp := part_ok h k j l.length hg hk (by omega)
    rw [hd, if_pos rfl, Int.toNat_natCast, Int.toNat_natCast]
    obtain ⟨cs, hb, hR⟩ := h.row
    have hput := rows_put h.ok hR hk (l := l) (i := j) (by omega)
    have hok := St.put_ok h.ok hk (l := l) (i := j) (by omega)
    have hfit : k * s.size + j + (bc l).length ≤ cs.length := by rw [bc_len, hR.1, Nat.add_assoc]; exact row_fits hk (by omega)
    obtain ⟨cl, hcl⟩ : ∃ cl, cl = bc l := ⟨_, rfl⟩
    have hcn : cl.length = l.length := by rw [hcl, bc_len]
    have HV := hid hv
    have HS := hid (fun (h0 : 0 < cl.length) => Byts.src hv (by rw [hcn] at h0; exact h0))
    have HO := hid (bc_ok l)
    have HB := hid hb
    have HF := hid hfit
    have HE := hid (And.intro hput (And.intro hok h))
    rw [← hcl] at HS HO HF HE
    have HM : Hid (cl.length = Nat.min l.length l.length) := hid (by rw [hcn]; simp)
    clear hd hv hg hput hok hfit hb hR h hcl hm hm' hj hk
    generalize hKK : k * s.size + j = K at *
    have HKK := hid hKK
    clear hKK
    generalize hn : l.length = n at *
    clear hn
    go_enter Try.func51, Try.ntmps51
    go_wp2_with fail
    refine hp.mono ?_
    rintro e w' ⟨⟨ad, c', rfl, had⟩, rfl⟩
    have HA := hid had
    clear hp had
    go_wp2_with (refine wpList_copy_only rfl (.tmp 23) (.tmp 24) 39 39 rfl 5 Try.underlying39 sizeByte (some ad) a n c' n c rfl rfl R K cs 5 HB.out cl HM.out (fun h0 => ⟨congrArg some (HA.out (by omega)), HS.out h0⟩) HF.out HO.out ?_; intro w2 hg2 ho2)
    go_ret
    obtain ⟨r1, r2, r3⟩ := HE.out
    refine ⟨rfl, ⟨r2, r3.po, r3.pr, r3.or, r3.head.only ho2 r3.pr, r3.own.only ho2 r3.or, _, hg2.out, r1⟩, ho2⟩
end Go.Proofs.Ytldfpacdlephcaa

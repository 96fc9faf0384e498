/-
  The document's own answer for layer 6 (ambryref06) at this program, more: Write, Read. No conditions but that the numbers are an int's.
  The document's own answer for layer 6 (ambryref06) at this program, more: Read. No conditions but that the numbers are an int's.
-/
import Derived.Test.YtldfpacdlephcaaArenaRefB
namespace Go.Proofs.Ytldfpacdlephcaa
open Go Go.RowKit Go.Lib

theorem bc_splice (L : List UInt8) (i : Nat) (l : List UInt8) : splice (bc L) i (bc l) = bc (splice L i l) := by
  unfold splice bc
  simp [List.map_append, List.map_take, List.map_drop]

theorem Byts.onlyN {D : Nat → Prop} {w w' : World} {v : Value} {l : List UInt8} (h : Byts w v l) (ho : Only D w w') (hd : 0 < l.length → ∀ g o n c, v = .slice (some ⟨g, o, none⟩) n c → ¬ D g) : Byts w' v l := by
  obtain ⟨a, c, rfl, hx⟩ := h
  refine ⟨a, c, rfl, fun j b hj => ?_⟩
  have hl : j < l.length := (List.getElem?_eq_some_iff.1 hj).1
  obtain ⟨g, o, rfl, hlt, hc⟩ := hx j b hj
  exact ⟨g, o, rfl, Nat.lt_of_lt_of_le hlt ho.size, (ho.cell (p := ⟨g, o + j, none⟩) hlt (hd (by omega) _ _ _ _ rfl)).trans hc⟩

theorem RIs.put {P O B cO cB : Nat} {bl : Nat → Option Nat} {s : St} {w w' : World} (h : RIs P O B cO cB bl s w) {k i g : Nat} {l : List UInt8} (hk : k < s.ow.length) (hi : i + l.length ≤ s.size) (hg : bl k = some g)
    (hb : Blk w' g 5 (splice (bc (s.pg k)) i (bc l))) (ho : Only (fun b => b = g) w w') : RIs P O B cO cB bl (s.put k i l) w' := by
  obtain ⟨c1, hb1, hx1⟩ := h.own
  obtain ⟨c2, hb2, hx2⟩ := h.byt
  have hp := h.page k g hg
  refine ⟨St.put_ok h.ok hk hi, h.head.only ho (h.head.ne hp (by decide)), ⟨c1, hb1.only ho (hb1.ne hp (by decide)), hx1⟩, ⟨c2, hb2.only ho (hb2.ne hp (by decide)), hx2⟩, fun j hj hbj => ?_, fun j g' hg' => ?_, h.inj, h.out⟩
  · show (if j = k then splice (s.pg k) i l else s.pg j) = _
    rw [if_neg (fun e => by rw [e, hg] at hbj; cases hbj)]
    exact h.zero j hj hbj
  · show Blk w' g' _ (bc (if j = k then splice (s.pg k) i l else s.pg j))
    by_cases e : j = k
    · subst e
      rw [hg] at hg'
      cases hg'
      rw [if_pos rfl, ← bc_splice]; exact hb
    · rw [if_neg e]
      refine (h.page j g' hg').only ho (fun e' => e (h.inj j k g' hg' ?_))
      rw [hg]; exact congrArg some e'.symm

theorem copy_src {w : World} {a : Option Addr} {n c : Nat} {l : List UInt8} {cl : List Value} (h : Byts w (.slice a n c) l) (hc : cl = bc l) (h0 : 0 < cl.length) : ∃ ad, a = some ad ∧ ∀ j v, cl[j]? = some v → w.cell? (ad.add j) = some v := by
  subst hc
  exact Byts.src h (by rw [bc_len] at h0; exact h0)

/-- What turns when such an arena is written: its owners, its slices, its pages. -/
def RTurn (O B : Nat) (bl : Nat → Option Nat) (b : Nat) : Prop := b = O ∨ b = B ∨ ∃ i, bl i = some b

theorem write_turn {O B k g : Nat} {bl bl' : Nat → Option Nat} {w w2 w3 : World} (he : ∀ i b, bl' i = some b → bl i = some b ∨ w.heap.size ≤ b) (hb : bl' k = some g) (h2 : Only (fun b => b = B) w w2) (h3 : Only (fun b => b = g) w2 w3) : Only (RTurn O B bl) w w3 :=
  (h2.mono (E := RTurn O B bl) (fun x hx => .inr (.inl hx))).trans h3 (fun x hx => by
    subst hx
    rcases he k x hb with h | h
    · exact .inl (.inr (.inr ⟨k, h⟩))
    · exact .inr h)

set_option maxHeartbeats 2000000 in
set_option maxRecDepth 100000 in
theorem ref_write {P O B cO cB : Nat} {bl : Nat → Option Nat} {s : St} {w : World} (h : RIs P O B cO cB bl s w) (p i : Int) (hi : i ≤ 9223372036854775807) (v : Value) (l : List UInt8) (hl : l.length ≤ 9223372036854775807) (hv : Byts w v l) (hvb : 0 < l.length → ∀ g o n c, v = .slice (some ⟨g, o, none⟩) n c → g ≠ B) :
    Calls Try.prog 68 #[.pointer (some ⟨P, 0, none⟩), .int .i64 p, .int .i64 i, v] w fun e w' => e = .returned (.int .i64 (s.write p i l).1) ∧ ∃ bl', RIs P O B cO cB bl' (s.write p i l).2 w' ∧ (∀ i b, bl' i = some b → bl i = some b ∨ w.heap.size ≤ b) ∧ Only (RTurn O B bl) w w' := by
  have hc := ref_owner h p
  unfold St.write
  have hP0 : w.cell? ⟨P, 0, none⟩ = some (.int .i64 (s.size : Int)) := h.head.cell rfl
  have hs2 := h.ok.s2
  obtain ⟨a, c, rfl⟩ : ∃ a c, v = .slice a l.length c := by obtain ⟨a, c, e, _⟩ := hv; exact ⟨a, c, e⟩
  rcases code_cases s p i l.length with ⟨hd, hg⟩ | ⟨hd, hg, hx⟩ | ⟨hd, hg, k, j, m, rfl, rfl, hm, hk, hj⟩
  · rw [hd]
    have ho : ownerOf s.ow p = -1 := by
      rcases owner_sign h.ok p with ⟨_, e⟩ | ⟨e, _⟩
      · exact e
      · rw [hg] at e; cases e
    rw [ho] at hc
    have H := hid h
    clear h hd hv hg ho hvb
    generalize l.length = n at *
    go_enter Try.func68, Try.ntmps68
    go_wp2_with fail
    refine hc.mono ?_
    rintro e w' ⟨rfl, rfl⟩
    clear hc
    go_wp2_with fail
    go_ret
    exact ⟨rfl, bl, H.out, fun i b hb => .inl hb, Only.refl _ _⟩
  · rw [hd]
    have ho : 0 ≤ ownerOf s.ow p := by
      rcases owner_sign h.ok p with ⟨e, _⟩ | ⟨_, e⟩
      · rw [hg] at e; cases e
      · exact e
    have H := hid h
    clear h hd hv hg hvb
    generalize ownerOf s.ow p = y at *
    generalize l.length = n at *
    obtain ⟨z, hz⟩ : ∃ z, s.size = z := ⟨_, rfl⟩
    rw [hz] at hP0 hs2 hx
    clear hz
    have hcase : i < 0 ∨ (0 ≤ i ∧ (z : Int) < i) ∨ (0 ≤ i ∧ i ≤ (z : Int) ∧ (z : Int) - i < (n : Int)) := by omega
    clear hx
    rcases hcase with h1 | ⟨h1, h2⟩ | ⟨h1, h2, h3⟩
    all_goals
      go_enter Try.func68, Try.ntmps68
      go_wp2_with fail
      refine hc.mono ?_
      rintro e w' ⟨rfl, rfl⟩
      clear hc
      go_wp2_with fail
      go_ret
      exact ⟨rfl, bl, H.out, fun i b hb => .inl hb, Only.refl _ _⟩
  · have hm' : l.length = m := by omega
    have ho : 0 ≤ ownerOf s.ow (k : Int) := by
      rcases owner_sign h.ok (k : Int) with ⟨e, _⟩ | ⟨_, e⟩
      · rw [hg] at e; cases e
      · exact e
    have hp := ref_page h k hk
    rw [hd, if_pos rfl, Int.toNat_natCast, Int.toNat_natCast]
    have hpl := h.ok.pg k hk
    have HV := hid hv
    have HW := hid hvb
    have HO := hid (bc_ok l)
    obtain ⟨cl, hcl⟩ : ∃ cl, cl = bc l := ⟨_, rfl⟩
    have hcn : cl.length = l.length := by rw [hcl, bc_len]
    have HC := hid hcl
    rw [← hcl] at HO
    have HK := hid (And.intro hk (show j + l.length ≤ s.size by omega))
    have hfit : j + l.length ≤ s.size := by omega
    have HPL := hid hpl
    clear hd hv hg h hcl hm hm' hj hk hvb hpl
    generalize ownerOf s.ow (k : Int) = y at *
    obtain ⟨n, hn⟩ : ∃ n, l.length = n := ⟨_, rfl⟩
    have HN := hid hn
    rw [hn] at hcn hfit hl ⊢
    clear hn
    obtain ⟨z, hz⟩ : ∃ z, s.size = z := ⟨_, rfl⟩
    have HZ := hid hz
    rw [hz] at hP0 hs2 hfit hp
    clear hz
    have q2 : (j : Int) ≤ (z : Int) := by omega
    have q3 : (n : Int) ≤ (z : Int) - (j : Int) := by omega
    have HM : Hid (cl.length = Nat.min n (z - j)) := hid (hcn.trans (Nat.min_eq_left (by omega)).symm)
    have HF : Hid (j + cl.length ≤ (bc (s.pg k)).length) := hid (by rw [bc_len, HPL.out, HZ.out, hcn]; exact hfit)
    by_cases hzj : z = j
    · have hn0 : n = 0 := by omega
      subst hzj
      subst hn0
      go_enter Try.func68, Try.ntmps68
      go_wp2_with fail
      refine hc.mono ?_
      rintro e w' ⟨rfl, rfl⟩
      clear hc
      go_wp2_with fail
      refine hp.mono ?_
      rintro e w2 ⟨g, rfl, bl', hR, hbk, hnew, ho2⟩
      clear hp
      have H := hid hR
      have HB := hid hbk
      have HE := hid hnew
      have HPG := hid (hR.page k g hbk)
      clear hR hbk hnew
      go_wp2_with (refine wpList_copy_only rfl (.tmp 38) (.tmp 39) 39 39 rfl 5 Try.underlying39 sizeByte (some ⟨g, 0, none⟩) a 0 0 0 c rfl rfl g z (bc (s.pg k)) 5 HPG.out cl hcn (fun h0 => absurd h0 (by rw [hcn]; decide)) HF.out HO.out ?_; intro w3 hg3 ho3)
      go_wp2_with fail
      go_ret
      have hg3' : Blk w3 g 5 (splice (bc (s.pg k)) z (bc l)) := by rw [← HC.out]; exact hg3.out
      exact ⟨rfl, bl', H.out.put HK.out.1 HK.out.2 HB.out hg3' ho3, HE.out, write_turn HE.out HB.out ho2 ho3⟩
    · go_enter Try.func68, Try.ntmps68
      go_wp2_with fail
      refine hc.mono ?_
      rintro e w' ⟨rfl, rfl⟩
      clear hc
      go_wp2_with fail
      refine hp.mono ?_
      rintro e w2 ⟨g, rfl, bl', hR, hbk, hnew, ho2⟩
      clear hp
      have H := hid hR
      have HB := hid hbk
      have HE := hid hnew
      have HPG := hid (hR.page k g hbk)
      have HV2 : Hid (Byts w2 (.slice a n c) l) := hid (by
        have := HV.out.onlyN ho2 HW.out
        rw [HN.out] at this; exact this)
      clear hR hbk hnew
      go_wp2_with (refine wpList_copy_only rfl (.tmp 38) (.tmp 39) 39 39 rfl 5 Try.underlying39 sizeByte (some ⟨g, j, none⟩) a (z - j) (z - j) n c rfl rfl g j (bc (s.pg k)) 5 HPG.out cl HM.out (fun h0 => ⟨rfl, copy_src HV2.out HC.out h0⟩) HF.out HO.out ?_; intro w3 hg3 ho3)
      go_wp2_with fail
      go_ret
      have hg3' : Blk w3 g 5 (splice (bc (s.pg k)) j (bc l)) := by rw [← HC.out]; exact hg3.out
      exact ⟨rfl, bl', H.out.put HK.out.1 HK.out.2 HB.out hg3' ho3, HE.out, write_turn HE.out HB.out ho2 ho3⟩
end Go.Proofs.Ytldfpacdlephcaa
namespace Go.Proofs.Ytldfpacdlephcaa
open Go Go.RowKit Go.Lib

theorem own_empty {w : World} {b base : Nat} {t : TypeId} (h : Blk w b t []) (hb : base ≤ b) : w.ownsRow base t 1 (.slice (some ⟨b, 0, none⟩) 0 0) 0 [] :=
  ⟨by simp, .inr ⟨b, 0, #[], rfl, hb, h, Nat.le_refl _, Nat.zero_le _, rfl, rfl⟩⟩
theorem RIs.alloc {P O B cO cB : Nat} {bl : Nat → Option Nat} {s : St} {w : World} (h : RIs P O B cO cB bl s w) (o : Obj) : RIs P O B cO cB bl s (w.alloc o) :=
  h.only (D := fun _ => False) ((Only.refl _ w).alloc o) (fun _ _ => id)
theorem ref_src {w : World} {g k i m : Nat} {s : St} (hb : Blk w g 5 (bc (s.pg k))) : ∀ j v, (bc (s.get k i m))[j]? = some v → w.cell? ((⟨g, i, none⟩ : Addr).add j) = some v := by
  intro j v hj
  unfold bc at hj
  rw [List.getElem?_map] at hj
  obtain ⟨b, hb', rfl⟩ := Option.map_eq_some_iff.1 hj
  unfold St.get at hb'
  rw [List.getElem?_take] at hb'
  split at hb'
  · rw [List.getElem?_drop] at hb'
    rw [addr_plain]
    exact hb.cell (bc_at hb')
  · cases hb'

set_option maxHeartbeats 2000000 in
set_option maxRecDepth 100000 in
theorem ref_read_bad {P O B cO cB : Nat} {bl : Nat → Option Nat} {s : St} {w : World} (h : RIs P O B cO cB bl s w) (p i m : Int) (hi : i ≤ 9223372036854775807) (c : Int) (hc : c = s.code p i m) (h0 : c ≠ 0) :
    Calls Try.prog 69 #[.pointer (some ⟨P, 0, none⟩), .int .i64 p, .int .i64 i, .int .i64 m] w fun e w' => e = .returned (.tuple #[.slice none 0 0, .int .i64 c]) ∧ w = w' := by
  have hco := ref_owner h p
  have hP0 : w.cell? ⟨P, 0, none⟩ = some (.int .i64 (s.size : Int)) := h.head.cell rfl
  have hs2 := h.ok.s2
  rcases code_cases s p i m with ⟨hd, hg⟩ | ⟨hd, hg, hx⟩ | ⟨hd, _⟩
  · rw [hd] at hc
    subst hc
    have ho : ownerOf s.ow p = -1 := by
      rcases owner_sign h.ok p with ⟨_, e⟩ | ⟨e, _⟩
      · exact e
      · rw [hg] at e; cases e
    rw [ho] at hco
    clear h hg hd h0 ho
    go_enter Try.func69, Try.ntmps69
    go_wp2_with fail
    refine hco.mono ?_
    rintro e w' ⟨rfl, rfl⟩
    clear hco
    go_wp2_with fail
    go_ret2
    exact ⟨rfl, rfl⟩
  · rw [hd] at hc
    subst hc
    have ho : 0 ≤ ownerOf s.ow p := by
      rcases owner_sign h.ok p with ⟨e, _⟩ | ⟨_, e⟩
      · rw [hg] at e; cases e
      · exact e
    generalize ownerOf s.ow p = y at *
    generalize s.size = z at *
    clear h hg hd h0
    have hcase : i < 0 ∨ (0 ≤ i ∧ m < 0) ∨ (0 ≤ i ∧ 0 ≤ m ∧ (z : Int) < i) ∨ (0 ≤ i ∧ 0 ≤ m ∧ i ≤ (z : Int) ∧ (z : Int) - i < m) := by omega
    clear hx
    rcases hcase with h1 | ⟨h1, h2⟩ | ⟨h1, h2, h3⟩ | ⟨h1, h2, h3, h4⟩
    all_goals
      go_enter Try.func69, Try.ntmps69
      go_wp2_with fail
      refine hco.mono ?_
      rintro e w' ⟨rfl, rfl⟩
      clear hco
      go_wp2_with fail
      go_ret2
      exact ⟨rfl, rfl⟩
  · exact (h0 (hc.trans hd)).elim

theorem grown_only {w w' : World} {b : Nat} {n c : Nat} (h : w.grownBy w' (Value.slice (some ⟨b, 0, none⟩) n c).ownBlock) : Only (fun x => x = b) w w' :=
  ⟨h.os, h.tape, h.output, h.size, fun k hk hne => h.block k hk (fun e => hne (Option.some.inj e))⟩
theorem read_close {P O B cO cB : Nat} {bl bl' : Nat → Option Nat} {s : St} {w w2 w3 : World} (h : RIs P O B cO cB bl' s w2) (hf : ∀ b, RFoot P O B bl b → b < w.heap.size) (hn : ∀ i b, bl' i = some b → bl i = some b ∨ (w.alloc (.cells #[] 5)).heap.size ≤ b)
    (h2 : Only (fun b => b = B) w w2) (h3 : Only (fun b => b = w.heap.size) w2 w3) : RIs P O B cO cB bl' s w3 ∧ (∀ i b, bl' i = some b → bl i = some b ∨ w.heap.size ≤ b) ∧ Only (fun b => b = B) w w3 := by
  have hn' : ∀ i b, bl' i = some b → bl i = some b ∨ w.heap.size + 1 ≤ b := fun i b hb => by
    rcases hn i b hb with h | h
    · exact .inl h
    · refine .inr ?_
      simpa using h
  refine ⟨h.only h3 (fun b hb e => ?_), fun i b hb => ?_, h2.trans h3 (fun x hx => by subst hx; exact .inr (Nat.le_refl _))⟩
  · subst e
    rcases hb with e | e | e | ⟨i, hi⟩
    · have := hf P (.inl rfl); omega
    · have := hf O (.inr (.inl rfl)); omega
    · have := hf B (.inr (.inr (.inl rfl))); omega
    · rcases hn' i _ hi with e | e
      · have := hf _ (.inr (.inr (.inr ⟨i, e⟩))); omega
      · omega
  · rcases hn' i b hb with e | e
    · exact .inl e
    · exact .inr (by omega)

set_option maxHeartbeats 2000000 in
set_option maxRecDepth 100000 in
theorem ref_read_ok {P O B cO cB : Nat} {bl : Nat → Option Nat} {s : St} {w : World} (h : RIs P O B cO cB bl s w) (k i m : Nat) (hg : grB s.ow (k : Int) = true) (hk : k < s.ow.length) (hi : i + m ≤ s.size) :
    Calls Try.prog 69 #[.pointer (some ⟨P, 0, none⟩), .int .i64 k, .int .i64 i, .int .i64 m] w fun e w' => ∃ v, e = .returned (.tuple #[v, .int .i64 0]) ∧ w'.ownsRow w.heap.size 5 1 v m (bc (s.get k i m)) ∧ ∃ bl', RIs P O B cO cB bl' s w' ∧ (∀ i b, bl' i = some b → bl i = some b ∨ w.heap.size ≤ b) ∧ Only (fun b => b = B) w w' := by
  have hco := ref_owner h k
  have hP0 : w.cell? ⟨P, 0, none⟩ = some (.int .i64 (s.size : Int)) := h.head.cell rfl
  have hs2 := h.ok.s2
  have hlB := h.lt B (.inr (.inr (.inl rfl)))
  have ho : 0 ≤ ownerOf s.ow (k : Int) := by
    rcases owner_sign h.ok (k : Int) with ⟨e, _⟩ | ⟨_, e⟩
    · rw [hg] at e; cases e
    · exact e
  have hp := ref_page (h.alloc (.cells #[] 5)) k hk
  have hE := Blk.new w #[] 5
  have hlen := St.get_len h.ok hk hi
  obtain ⟨i0, hii, hz0, hz1, hz2⟩ := info_parts infoByte
  obtain ⟨cl, hcl⟩ : ∃ cl, cl = bc (s.get k i m) := ⟨_, rfl⟩
  have hcn : cl.length = m := by rw [hcl, bc_len, hlen]
  have HO := hid (bc_ok (s.get k i m))
  rw [← hcl] at HO ⊢
  have HC := hid hcl
  have HE := hid hE
  have HF := hid h.lt
  clear h hg hk hcl hlen hE
  generalize ownerOf s.ow (k : Int) = y at *
  obtain ⟨z, hz⟩ : ∃ z, s.size = z := ⟨_, rfl⟩
  rw [hz] at hP0 hs2 hi hp
  clear hz
  have q1 : (i : Int) ≤ (i : Int) + (m : Int) := by omega
  have q2 : (i : Int) + (m : Int) ≤ (z : Int) := by omega
  have q3 : (m : Int) ≤ (z : Int) - (i : Int) := by omega
  have q4 : (i : Int) ≤ (z : Int) := by omega
  have q5 : i + m - i = m := by omega
  have hcase : (z = i ∧ m = 0) ∨ ¬ z = i := by omega
  rcases hcase with ⟨rfl, rfl⟩ | hzi
  · go_enter Try.func69, Try.ntmps69
    go_wp2_with fail
    refine hco.mono ?_
    rintro e w' ⟨rfl, rfl⟩
    clear hco
    go_wp2_with fail
    refine hp.mono ?_
    rintro e w2 ⟨g, rfl, bl', hR, hbk, hnew, ho2⟩
    have H := hid hR
    have HN := hid hnew
    have HB2 := hid (own_empty (base := w.heap.size) (HE.out.only ho2 (by omega)) (Nat.le_refl _))
    have HS := hid (fun (j : Nat) (v : Value) (hj : cl[j]? = some v) => (absurd hj (by rw [List.eq_nil_of_length_eq_zero hcn]; simp) : w2.cell? ((⟨g, 0, none⟩ : Addr).add j) = some v))
    have hb2 : Only (fun b => b = B) w w2 := ((Only.refl _ w).alloc (.cells #[] 5)).trans ho2 (fun x hx => .inl hx)
    have hsz2 := hb2.size
    clear hp hR hbk hnew ho2
    go_wp2_with (at_builtin; refine wpList_append_own _ rfl _ _ 39 rfl w.heap.size 5 i0 (.int .u8 0) 1 1 Try.underlying39 hii hz0 hz1 hz2 rfl (by decide) (.slice (some ⟨w.heap.size, 0, none⟩) 0 0) 0 [] rfl HB2.out ⟨g, 0, none⟩ 0 0 cl rfl (by rw [hcn]) HS.out HO.out (by unfold maxLen; omega) (by omega) hsz2 ?_; intro v' w3 hown hgrow _)
    rw [Nat.zero_add, List.nil_append] at hown
    obtain ⟨r1, r2, r3⟩ := read_close H.out HF.out HN.out hb2 (grown_only hgrow)
    clear hgrow H HN HF HB2 HS hb2
    obtain ⟨a', c', rfl⟩ := row_form hown
    go_wp2_with fail
    go_ret2
    exact ⟨_, rfl, hown, bl', r1, r2, r3⟩
  · go_enter Try.func69, Try.ntmps69
    go_wp2_with fail
    refine hco.mono ?_
    rintro e w' ⟨rfl, rfl⟩
    clear hco
    go_wp2_with fail
    refine hp.mono ?_
    rintro e w2 ⟨g, rfl, bl', hR, hbk, hnew, ho2⟩
    have H := hid hR
    have HN := hid hnew
    have HB2 := hid (own_empty (base := w.heap.size) (HE.out.only ho2 (by omega)) (Nat.le_refl _))
    have HS := hid (ref_src (i := i) (m := m) (hR.page k g hbk))
    rw [← HC.out] at HS
    have hb2 : Only (fun b => b = B) w w2 := ((Only.refl _ w).alloc (.cells #[] 5)).trans ho2 (fun x hx => .inl hx)
    have hsz2 := hb2.size
    clear hp hR hbk hnew ho2
    go_wp2_with (at_builtin; refine wpList_append_own _ rfl _ _ 39 rfl w.heap.size 5 i0 (.int .u8 0) 1 1 Try.underlying39 hii hz0 hz1 hz2 rfl (by decide) (.slice (some ⟨w.heap.size, 0, none⟩) 0 0) 0 [] rfl HB2.out ⟨g, i, none⟩ (i + m - i) (z - i) cl rfl (by rw [hcn, Nat.mul_one, Nat.add_sub_cancel_left]) HS.out HO.out (by unfold maxLen; omega) (by omega) hsz2 ?_; intro v' w3 hown hgrow _)
    rw [Nat.zero_add, Nat.add_sub_cancel_left, List.nil_append] at hown
    obtain ⟨r1, r2, r3⟩ := read_close H.out HF.out HN.out hb2 (grown_only hgrow)
    clear hgrow H HN HF HB2 HS hb2
    obtain ⟨a', c', rfl⟩ := row_form hown
    go_wp2_with fail
    go_ret2
    exact ⟨_, rfl, hown, bl', r1, r2, r3⟩
end Go.Proofs.Ytldfpacdlephcaa

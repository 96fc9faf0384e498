/-
  The document's own answer for layer 6 (ambryref06) at this program, more: Write, Read. No conditions but that the numbers are an int's.
-/
import Derived.Test.YtldfpacdlephcaaArenaRefB
namespace Go.Proofs.Ytldfpacdlephcaa
open Go Go.RowKit Go.Lib

theorem bc_splice (L : List UInt8) (i : Nat) (l : List UInt8) : splice (bc L) i (bc l) = bc (splice L i l) := by
  unfold splice bc
  simp [List.map_append, List.map_take, List.map_drop]

theorem Byts.onlyN {D : Nat → Prop} {w w' : World} {v : Value} {l : List UInt8} (h : Byts w v l) (ho : Only D w w') (hd : 0 < l.length → ∀ g o n c, v = .slice (some ⟨g, o, none⟩) n c → ¬ D g) : Byts w' v l := by
  obtain ⟨a, c, rfl, hx⟩ := h
  refine ⟨a, c, rfl, fun j b hj => ?_⟩
  have hl : j < l.length := (List.getElem?_eq_some_iff.1 hj).1
  obtain ⟨g, o, rfl, hlt, hc⟩ := hx j b hj
  exact ⟨g, o, rfl, Nat.lt_of_lt_of_le hlt ho.size, (ho.cell (p := ⟨g, o + j, none⟩) hlt (hd (by omega) _ _ _ _ rfl)).trans hc⟩

theorem RIs.put {P O B cO cB : Nat} {bl : Nat → Option Nat} {s : St} {w w' : World} (h : RIs P O B cO cB bl s w) {k i g : Nat} {l : List UInt8} (hk : k < s.ow.length) (hi : i + l.length ≤ s.size) (hg : bl k = some g)
    (hb : Blk w' g 5 (splice (bc (s.pg k)) i (bc l))) (ho : Only (fun b => b = g) w w') : RIs P O B cO cB bl (s.put k i l) w' := by
  obtain ⟨c1, hb1, hx1⟩ := h.own
  obtain ⟨c2, hb2, hx2⟩ := h.byt
  have hp := h.page k g hg
  refine ⟨St.put_ok h.ok hk hi, h.head.only ho (h.head.ne hp (by decide)), ⟨c1, hb1.only ho (hb1.ne hp (by decide)), hx1⟩, ⟨c2, hb2.only ho (hb2.ne hp (by decide)), hx2⟩, fun j hj hbj => ?_, fun j g' hg' => ?_, h.inj, h.out⟩
  · show (if j = k then splice (s.pg k) i l else s.pg j) = _
    rw [if_neg (fun e => by rw [e, hg] at hbj; cases hbj)]
    exact h.zero j hj hbj
  · show Blk w' g' _ (bc (if j = k then splice (s.pg k) i l else s.pg j))
    by_cases e : j = k
    · subst e
      rw [hg] at hg'
      cases hg'
      rw [if_pos rfl, ← bc_splice]; exact hb
    · rw [if_neg e]
      refine (h.page j g' hg').only ho (fun e' => e (h.inj j k g' hg' ?_))
      rw [hg]; exact congrArg some e'.symm

theorem copy_src {w : World} {a : Option Addr} {n c : Nat} {l : List UInt8} {cl : List Value} (h : Byts w (.slice a n c) l) (hc : cl = bc l) (h0 : 0 < cl.length) : ∃ ad, a = some ad ∧ ∀ j v, cl[j]? = some v → w.cell? (ad.add j) = some v := by
  subst hc
  exact Byts.src h (by rw [bc_len] at h0; exact h0)

/-- What turns when such an arena is written: its owners, its slices, its pages. -/
def RTurn (O B : Nat) (bl : Nat → Option Nat) (b : Nat) : Prop := b = O ∨ b = B ∨ ∃ i, bl i = some b

theorem write_turn {O B k g : Nat} {bl bl' : Nat → Option Nat} {w w2 w3 : World} (he : ∀ i b, bl' i = some b → bl i = some b ∨ w.heap.size ≤ b) (hb : bl' k = some g) (h2 : Only (fun b => b = B) w w2) (h3 : Only (fun b => b = g) w2 w3) : Only (RTurn O B bl) w w3 :=
  (h2.mono (E := RTurn O B bl) (fun x hx => .inr (.inl hx))).trans h3 (fun x hx => by
    subst hx
    rcases he k x hb with h | h
    · exact .inl (.inr (.inr ⟨k, h⟩))
    · exact .inr h)

set_option maxHeartbeats 2000000 in
set_option maxRecDepth 100000 in
theorem ref_write {P O B cO cB : Nat} {bl : Nat → Option Nat} {s : St} {w : World} (h : RIs P O B cO cB bl s w) (p i : Int) (hi : i ≤ 9223372036854775807) (v : Value) (l : List UInt8) (hl : l.length ≤ 9223372036854775807) (hv : Byts w v l) (hvb : 0 < l.length → ∀ g o n c, v = .slice (some ⟨g, o, none⟩) n c → g ≠ B) :
    Calls Try.prog 68 #[.pointer (some ⟨P, 0, none⟩), .int .i64 p, .int .i64 i, v] w fun e w' => e = .returned (.int .i64 (s.write p i l).1) ∧ ∃ bl', RIs P O B cO cB bl' (s.write p i l).2 w' ∧ (∀ i b, bl' i = some b → bl i = some b ∨ w.heap.size ≤ b) ∧ Only (RTurn O B bl) w w' := by
  have hc := ref_owner h p
  unfold St.write
  have hP0 : w.cell? ⟨P, 0, none⟩ = some (.int .i64 (s.size : Int)) := h.head.cell rfl
  have hs2 := h.ok.s2
  obtain ⟨a, c, rfl⟩ : ∃ a c, v = .slice a l.length c := by obtain ⟨a, c, e, _⟩ := hv; exact ⟨a, c, e⟩
  rcases code_cases s p i l.length with ⟨hd, hg⟩ | ⟨hd, hg, hx⟩ | ⟨hd, hg, k, j, m, rfl, rfl, hm, hk, hj⟩
  · rw [hd]
    have ho : ownerOf s.ow p = -1 := by
      rcases owner_sign h.ok p with ⟨_, e⟩ | ⟨e, _⟩
      · exact e
      · rw [hg] at e; cases e
    rw [ho] at hc
    have H := hid h
    clear h hd hv hg ho hvb
    generalize l.length = n at *
    go_enter Try.func68, Try.ntmps68
    go_wp2_with fail
    refine hc.mono ?_
    rintro e w' ⟨rfl, rfl⟩
    clear hc
    go_wp2_with fail
    go_ret
    exact ⟨rfl, bl, H.out, fun i b hb => .inl hb, Only.refl _ _⟩
  · rw [hd]
    have ho : 0 ≤ ownerOf s.ow p := by
      rcases owner_sign h.ok p with ⟨e, _⟩ | ⟨_, e⟩
      · rw [hg] at e; cases e
      · exact e
    have H := hid h
    clear h hd hv hg hvb
    generalize ownerOf s.ow p = y at *
    generalize l.length = n at *
    obtain ⟨z, hz⟩ : ∃ z, s.size = z := ⟨_, rfl⟩
    rw [hz] at hP0 hs2 hx
    clear hz
    have hcase : i < 0 ∨ (0 ≤ i ∧ (z : Int) < i) ∨ (0 ≤ i ∧ i ≤ (z : Int) ∧ (z : Int) - i < (n : Int)) := by omega
    clear hx
    rcases hcase with h1 | ⟨h1, h2⟩ | ⟨h1, h2, h3⟩
    all_goals
      go_enter Try.func68, Try.ntmps68
      go_wp2_with fail
      refine hc.mono ?_
      rintro e w' ⟨rfl, rfl⟩
      clear hc
      go_wp2_with fail
      go_ret
      exact ⟨rfl, bl, H.out, fun i b hb => .inl hb, Only.refl _ _⟩
  · have hm' : l.length = m := by omega
    have ho : 0 ≤ ownerOf s.ow (k : Int) := by
      rcases owner_sign h.ok (k : Int) with ⟨e, _⟩ | ⟨_, e⟩
      · rw [hg] at e; cases e
      · exact e
    have hp := ref_page h k hk
    rw [hd, if_pos rfl, Int.toNat_natCast, Int.toNat_natCast]
    have hpl := h.ok.pg k hk
    have HV := hid hv
    have HW := hid hvb
    have HO := hid (bc_ok l)
    obtain ⟨cl, hcl⟩ : ∃ cl, cl = bc l := ⟨_, rfl⟩
    have hcn : cl.length = l.length := by rw [hcl, bc_len]
    have HC := hid hcl
    rw [← hcl] at HO
    have HK := hid (And.intro hk (show j + l.length ≤ s.size by omega))
    have hfit : j + l.length ≤ s.size := by omega
    have HPL := hid hpl
    clear hd hv hg h hcl hm hm' hj hk hvb hpl
    generalize ownerOf s.ow (k : Int) = y at *
    obtain ⟨n, hn⟩ : ∃ n, l.length = n := ⟨_, rfl⟩
    have HN := hid hn
    rw [hn] at hcn hfit hl ⊢
    clear hn
    obtain ⟨z, hz⟩ : ∃ z, s.size = z := ⟨_, rfl⟩
    have HZ := hid hz
    rw [hz] at hP0 hs2 hfit hp
    clear hz
    have q2 : (j : Int) ≤ (z : Int) := by omega
    have q3 : (n : Int) ≤ (z : Int) - (j : Int) := by omega
    have HM : Hid (cl.length = Nat.min n (z - j)) := hid (hcn.trans (Nat.min_eq_left (by omega)).symm)
    have HF : Hid (j + cl.length ≤ (bc (s.pg k)).length) := hid (by rw [bc_len, HPL.out, HZ.out, hcn]; exact hfit)
    by_cases hzj : z = j
    · have hn0 : n = 0 := by omega
      subst hzj
      subst hn0
      go_enter Try.func68, Try.ntmps68
      go_wp2_with fail
      refine hc.mono ?_
      rintro e w' ⟨rfl, rfl⟩
      clear hc
      go_wp2_with fail
      refine hp.mono ?_
      rintro e w2 ⟨g, rfl, bl', hR, hbk, hnew, ho2⟩
      clear hp
      have H := hid hR
      have HB := hid hbk
      have HE := hid hnew
      have HPG := hid (hR.page k g hbk)
      clear hR hbk hnew
      go_wp2_with (refine wpList_copy_only rfl (.tmp 38) (.tmp 39) 39 39 rfl 5 Try.underlying39 sizeByte (some ⟨g, 0, none⟩) a 0 0 0 c rfl rfl g z (bc (s.pg k)) 5 HPG.out cl hcn (fun h0 => absurd h0 (by rw [hcn]; decide)) HF.out HO.out ?_; intro w3 hg3 ho3)
      go_wp2_with fail
      go_ret
      have hg3' : Blk w3 g 5 (splice (bc (s.pg k)) z (bc l)) := by rw [← HC.out]; exact hg3.out
      exact ⟨rfl, bl', H.out.put HK.out.1 HK.out.2 HB.out hg3' ho3, HE.out, write_turn HE.out HB.out ho2 ho3⟩
    · go_enter Try.func68, Try.ntmps68
      go_wp2_with fail
      refine hc.mono ?_
      rintro e w' ⟨rfl, rfl⟩
      clear hc
      go_wp2_with fail
      refine hp.mono ?_
      rintro e w2 ⟨g, rfl, bl', hR, hbk, hnew, ho2⟩
      clear hp
      have H := hid hR
      have HB := hid hbk
      have HE := hid hnew
      have HPG := hid (hR.page k g hbk)
      have HV2 : Hid (Byts w2 (.slice a n c) l) := hid (by
        have := HV.out.onlyN ho2 HW.out
        rw [HN.out] at this; exact this)
      clear hR hbk hnew
      go_wp2_with (refine wpList_copy_only rfl (.tmp 38) (.tmp 39) 39 39 rfl 5 Try.underlying39 sizeByte (some ⟨g, j, none⟩) a (z - j) (z - j) n c rfl rfl g j (bc (s.pg k)) 5 HPG.out cl HM.out (fun h0 => ⟨rfl, copy_src HV2.out HC.out h0⟩) HF.out HO.out ?_; intro w3 hg3 ho3)
      go_wp2_with fail
      go_ret
      have hg3' : Blk w3 g 5 (splice (bc (s.pg k)) j (bc l)) := by rw [← HC.out]; exact hg3.out
      exact ⟨rfl, bl', H.out.put HK.out.1 HK.out.2 HB.out hg3' ho3, HE.out, write_turn HE.out HB.out ho2 ho3⟩
end Go.Proofs.Ytldfpacdlephcaa

/-
  Apply of any state; boxes of a law's own, all in one row. Conditions: the state is not over great; numbers are in their types' ranges.
  Boxes of a law's own beside rows of items. No conditions.
  Plain mathematics: the commands that each law of stage 16 begins with. No conditions.
  Plain mathematics: what is stored is told, till its moment. No conditions.
  Plain mathematics: what is touched. No conditions.
-/
import Derived.Test.YtpgljahomeebhaaDoorMpApplyB
import Derived.Test.YtpgljahomeebhaaDoorBaseA
namespace Go.Proofs.YtpgljahomeebhaaDoor.Md
open Go Go.RowKit Go.Lib

theorem apply_any {s : Ms} {a : Option Addr} {n ca N B : Nat} {w : World} {now : Int} {c : Cm} {most : Int} (hI : Its w (.slice a n ca) s.its) (hF : Fit N B s) (hN : N ≤ 4194304) (hB : B ≤ 1048576) (ck : c.Ok) (hv : Nu.Vars w) :
    Calls Tryd.prog 17 #[.agg #[.slice a n ca, .int .u64 s.cas, .int .i64 s.fl], .int .i64 now, c.v, .int .i64 most] w fun e w' => ∃ a' n' c', e = .returned (.tuple #[.agg #[.slice a' n' c', .int .u64 (apply s now c most).1.cas, .int .i64 (apply s now c most).1.fl], (apply s now c most).2.v]) ∧ Rw (fun b => w.heap.size ≤ b ∧ b < w'.heap.size) w' (.slice a' n' c') (apply s now c most).1.its ∧ Below w.heap.size w w' := by
  obtain ⟨l, cas, fl⟩ := s
  have hn : n = l.length := by
    obtain ⟨a1, c1, e, _⟩ := hI
    injection e
  subst hn
  cases hf : fine now c
  · refine (apply_no (a := a) (ca := ca) cas fl now c most hf (w := w) (l := l)).mono ?_
    rintro e w' ⟨rfl, hb⟩
    refine ⟨none, 0, 0, ?_, ?_, hb⟩
    · unfold apply; rw [hf]; rfl
    · have : (apply ⟨l, cas, fl⟩ now c most).1.its = [] := by unfold apply; rw [hf]; rfl
      rw [this]; exact rw_nil _ _
  · have hp := fine_parts hf
    refine (apply_yes (cas := cas) (fl := fl) (most := most) hf hI hF.sorted (Nat.le_trans hF.len hN) (fun x hx => ⟨(hF.its x hx).exp, (hF.its x hx).ok.exp1, by have := (hF.its x hx).key; omega, by have := (hF.its x hx).val; omega⟩) (fun h6 => by have := keyfine hf h6; omega) (by have := ck.init; omega) hv).mono ?_
    rintro e w' ⟨v', rfl, hr, hb⟩
    obtain ⟨a', c', rfl⟩ := hr.form
    exact ⟨a', _, c', rfl, hr, hb⟩
/-- The boxes of a law. -/
def Bxs (w0 : World) (bs : List (Nat × TypeId × List Value)) (w : World) : Prop := Below w0.heap.size w0 w ∧ (∀ b ∈ bs, Blk w b.1 b.2.1 b.2.2 ∧ w0.heap.size ≤ b.1) ∧ bs.Pairwise (fun x y => x.1 ≠ y.1)
section
variable {w0 w w' : World} {bs : List (Nat × TypeId × List Value)}
theorem Bxs.begin (w : World) : Bxs w [] w := ⟨Below.refl _ _, fun _ h => (by cases h), List.Pairwise.nil⟩
theorem Bxs.step (h : Bxs w0 bs w) (hb : Below w.heap.size w w') : Bxs w0 bs w' := ⟨Below.then h.1 hb, fun b hm => ⟨(h.2.1 b hm).1.below hb, (h.2.1 b hm).2⟩, h.2.2⟩
theorem Bxs.new (h : Bxs w0 bs w) (cs : Array Value) (t : TypeId) : Bxs w0 ((w.heap.size, t, cs.toList) :: bs) (w.alloc (.cells cs t)) := by
  refine ⟨Below.then h.1 (abelow _ _), fun b hm => ?_, List.pairwise_cons.2 ⟨fun b hm e => ?_, h.2.2⟩⟩
  · rcases List.mem_cons.1 hm with rfl | hm
    · exact ⟨Blk.new w cs t, h.1.size⟩
    · exact (h.step (abelow _ _)).2.1 b hm
  · have e : w.heap.size = b.1 := e
    have := (h.2.1 b hm).1.lt
    omega
theorem Bxs.get (h : Bxs w0 bs w) (i : Nat) {b : Nat} {t : TypeId} {cs : List Value} (hi : bs[i]? = some (b, t, cs)) : Blk w b t cs := (h.2.1 _ (List.mem_of_getElem? hi)).1
theorem Bxs.ge (h : Bxs w0 bs w) (i : Nat) {b : Nat} {t : TypeId} {cs : List Value} (hi : bs[i]? = some (b, t, cs)) : w0.heap.size ≤ b := (h.2.1 _ (List.mem_of_getElem? hi)).2
theorem pw_set {α : Type} {f : α → Nat} : ∀ {l : List α} {i : Nat} {x y : α}, l.Pairwise (fun a b => f a ≠ f b) → l[i]? = some x → f y = f x → (l.set i y).Pairwise (fun a b => f a ≠ f b)
  | [], _, _, _, _, hi, _ => (by simp at hi)
  | a :: l, 0, x, y, h, hi, e => by
    have h1 := List.pairwise_cons.1 h
    have : a = x := by simpa using hi
    subst this
    exact List.pairwise_cons.2 ⟨fun b hb => by rw [e]; exact h1.1 b hb, h1.2⟩
  | a :: l, i + 1, x, y, h, hi, e => by
    have h1 := List.pairwise_cons.1 h
    have hi : l[i]? = some x := by simpa using hi
    refine List.pairwise_cons.2 ⟨fun b hb => ?_, pw_set h1.2 hi e⟩
    rcases List.mem_or_eq_of_mem_set hb with hb | rfl
    · exact h1.1 b hb
    · rw [e]; exact h1.1 x (List.mem_of_getElem? hi)
theorem pw_ne {α : Type} {f : α → Nat} : ∀ {l : List α} {i j : Nat} {x y : α}, l.Pairwise (fun a b => f a ≠ f b) → l[i]? = some x → l[j]? = some y → i ≠ j → f x ≠ f y
  | [], _, _, _, _, _, hi, _, _ => (by simp at hi)
  | a :: l, 0, 0, x, y, _, _, _, hn => (hn rfl).elim
  | a :: l, 0, j + 1, x, y, h, hi, hj, _ => by
    have : a = x := by simpa using hi
    subst this
    exact (List.pairwise_cons.1 h).1 y (List.mem_of_getElem? (by simpa using hj))
  | a :: l, i + 1, 0, x, y, h, hi, hj, _ => by
    have : a = y := by simpa using hj
    subst this
    exact fun e => (List.pairwise_cons.1 h).1 x (List.mem_of_getElem? (by simpa using hi)) e.symm
  | a :: l, i + 1, j + 1, x, y, h, hi, hj, hn => pw_ne (List.pairwise_cons.1 h).2 (i := i) (j := j) (by simpa using hi) (by simpa using hj) (fun e => hn (by rw [e]))
theorem Bxs.set (h : Bxs w0 bs w) (i : Nat) {b : Nat} {t : TypeId} {cs : List Value} (hi : bs[i]? = some (b, t, cs)) {vs : List Value} (hl : vs.length = cs.length) : Bxs w0 (bs.set i (b, t, vs)) (stc w b vs 0) := by
  refine ⟨stc_below (h.ge i hi) vs 0 w h.1, fun x hm => ?_, pw_set (f := fun x : Nat × TypeId × List Value => x.1) h.2.2 hi rfl⟩
  obtain ⟨j, hj⟩ := List.getElem?_of_mem hm
  rw [List.getElem?_set] at hj
  split at hj
  · split at hj
    · cases hj
      exact ⟨stc_all (h.get i hi) hl, h.ge i hi⟩
    · cases hj
  · rename_i hn
    have hne := pw_ne (f := fun x : Nat × TypeId × List Value => x.1) h.2.2 hi hj hn
    exact ⟨stc_other (fun e => hne e.symm) vs 0 w (h.2.1 x (List.mem_of_getElem? hj)).1, (h.2.1 x (List.mem_of_getElem? hj)).2⟩
end
end Go.Proofs.YtpgljahomeebhaaDoor.Md
namespace Go.Proofs.YtpgljahomeebhaaDoor.Md
open Go Go.RowKit Go.Lib

/-- Boxes and rows. -/
def Bxr (w0 : World) (bs : List (Nat × TypeId × List Value)) (rs : List (Value × List It)) (w : World) : Prop :=
  Bxs w0 bs w ∧ ∀ r ∈ rs, ∃ G, Rw G w r.1 r.2 ∧ ∀ b, G b → (∀ x ∈ bs, x.1 ≠ b) ∧ b < w.heap.size
section
variable {w0 w w' : World} {bs : List (Nat × TypeId × List Value)} {rs : List (Value × List It)}
theorem Bxr.begin (w : World) : Bxr w [] [] w := ⟨Bxs.begin w, fun _ h => (by cases h)⟩
theorem Bxr.step (h : Bxr w0 bs rs w) (hb : Below w.heap.size w w') : Bxr w0 bs rs w' := ⟨h.1.step hb, fun r hm => by
  obtain ⟨G, h1, h2⟩ := h.2 r hm
  exact ⟨G, h1.below hb, fun b hg => ⟨(h2 b hg).1, Nat.lt_of_lt_of_le (h2 b hg).2 hb.size⟩⟩⟩
theorem Bxr.new (h : Bxr w0 bs rs w) (cs : Array Value) (t : TypeId) : Bxr w0 ((w.heap.size, t, cs.toList) :: bs) rs (w.alloc (.cells cs t)) := ⟨h.1.new cs t, fun r hm => by
  obtain ⟨G, h1, h2⟩ := (h.step (abelow w (.cells cs t))).2 r hm
  obtain ⟨G', h3, h4⟩ := h.2 r hm
  refine ⟨G', h3.below (abelow _ _), fun b hg => ⟨fun x hx => ?_, Nat.lt_of_lt_of_le (h4 b hg).2 (abelow w (.cells cs t)).size⟩⟩
  rcases List.mem_cons.1 hx with rfl | hx
  · exact fun e => by have e : w.heap.size = b := e; have := (h4 b hg).2; omega
  · exact (h4 b hg).1 x hx⟩
theorem Bxr.set (h : Bxr w0 bs rs w) (i : Nat) {b : Nat} {t : TypeId} {cs : List Value} (hi : bs[i]? = some (b, t, cs)) {vs : List Value} (hl : vs.length = cs.length) : Bxr w0 (bs.set i (b, t, vs)) rs (stc w b vs 0) := ⟨h.1.set i hi hl, fun r hm => by
  obtain ⟨G, h1, h2⟩ := h.2 r hm
  have ho := stc_only (b := b) vs 0 w
  refine ⟨G, h1.only ho (fun x hx e => (h2 x hx).1 _ (List.mem_of_getElem? hi) e.symm), fun x hx => ⟨fun y hy => ?_, Nat.lt_of_lt_of_le (h2 x hx).2 ho.size⟩⟩
  rcases List.mem_or_eq_of_mem_set hy with hy | rfl
  · exact (h2 x hx).1 y hy
  · show b ≠ x
    exact (h2 x hx).1 (b, t, cs) (List.mem_of_getElem? hi)⟩
theorem Bxr.call (h : Bxr w0 bs rs w) {v : Value} {l : List It} (hr : Rw (fun b => w.heap.size ≤ b ∧ b < w'.heap.size) w' v l) (hb : Below w.heap.size w w') : Bxr w0 bs ((v, l) :: rs) w' := ⟨h.1.step hb, fun r hm => by
  rcases List.mem_cons.1 hm with rfl | hm
  · refine ⟨_, hr, fun b hg => ⟨fun x hx e => ?_, hg.2⟩⟩
    have := (h.1.2.1 x hx).1.lt
    have := hg.1
    omega
  · exact (h.step hb).2 r hm⟩
theorem Bxr.only (h : Bxr w0 bs rs w) {qs : List (Value × List It)} (hq : ∀ r ∈ qs, r ∈ rs) : Bxr w0 bs qs w := ⟨h.1, fun r hm => h.2 r (hq r hm)⟩
theorem Bxr.its (h : Bxr w0 bs rs w) (i : Nat) {v : Value} {l : List It} (hi : rs[i]? = some (v, l)) : Its w v l := by
  obtain ⟨G, h1, _⟩ := h.2 _ (List.mem_of_getElem? hi)
  exact h1.its
theorem its_none (w : World) : Its w (.slice none 0 0) [] := (rw_nil (fun _ => False) w).its
end
/-- Apply beside boxes and rows. -/
theorem apply_bx {w0 w : World} {bs : List (Nat × TypeId × List Value)} {rs : List (Value × List It)} {s s' : Ms} {a : Option Addr} {n ca N B : Nat} {now : Int} {c : Cm} {most : Int} {A : An} (hB : Bxr w0 bs rs w) (hI : Its w (.slice a n ca) s.its) (hF : Fit N B s) (hN : N ≤ 4194304) (hBd : B ≤ 1048576) (ck : c.Ok) (hv : Nu.Vars w0) (hr : apply s now c most = (s', A)) {cs : Array Value} (hA : A.v = .agg cs) :
    Calls Tryd.prog 17 #[.agg #[.slice a n ca, .int .u64 s.cas, .int .i64 s.fl], .int .i64 now, c.v, .int .i64 most] w fun e w' => ∃ a' n' c', e = .returned (.tuple #[.agg #[.slice a' n' c', .int .u64 s'.cas, .int .i64 s'.fl], .agg cs]) ∧ Bxr w0 bs ((.slice a' n' c', s'.its) :: rs) w' := by
  refine (apply_any (most := most) (now := now) hI hF hN hBd ck (hv.below hB.1.1)).mono ?_
  rw [hr, hA]
  rintro e w' ⟨a', n', c', rfl, h1, h2⟩
  exact ⟨a', n', c', rfl, hB.call h1 h2⟩
end Go.Proofs.YtpgljahomeebhaaDoor.Md
namespace Go.Proofs.YtpgljahomeebhaaDoor.Md
open Go

def kK : ByteArray := ⟨#[107]⟩
def k5 : ByteArray := ⟨#[53]⟩
def k8 : ByteArray := ⟨#[56]⟩
def cSto (k v : ByteArray) (fl : Nat) (e rc : Int) : Cm := ⟨2, 0, k, v, fl, e, false, 0, false, 0, 0, false, false, 0, rc, false⟩
def cMat (k : ByteArray) (d : Nat) (dn : Bool) : Cm := ⟨3, 0, k, emp, 0, 0, false, 0, false, d, 0, dn, false, 0, -1, false⟩
def cGet (k : ByteArray) : Cm := ⟨1, 0, k, emp, 0, 0, false, 0, false, 0, 0, false, false, 0, -1, false⟩
def sh1 : It := ⟨kK, 0, k5, 110, 1, 0, false, false⟩
def sh2 : It := ⟨kK, 0, k8, 110, 2, 0, false, false⟩
def sh3 : It := ⟨kK, 0, k8, 110, 2, 109, false, false⟩
theorem kK_fine : keyB kK.data.toList = true := by decide
theorem sh_one : apply ⟨[], 0, 0⟩ 100 (cSto kK k5 0 10 0) 900 = (⟨[sh1], 1, 0⟩, An.is 2 sh1) :=
  (one_step (o := none) (cas := 0) (now := 100) (c := cSto kK k5 0 10 0) (most := 900) (fun x h => by cases h) (by decide) (by decide)).trans rfl
theorem add58 : addU k5.data.toList 3 = some [56] := by
  have h : Nu.parseU k5.data.toList = some 5 := by decide
  unfold addU
  rw [h]
  show some (Lib.decDigits 8) = _
  rw [Lib.decDigits_one (by decide)]; rfl
theorem mat_some (now : Int) (c : Cm) (most : Int) (cas : Nat) (x : It) : matO now c most cas (some x) = (if c.hasCas = true ∧ x.cas ≠ c.cas then Out.no cas 4 else match (if c.down then subU x.val.data.toList c.delta else addU x.val.data.toList c.delta) with | none => Out.no cas 7 | some v => matE most cas (if c.hasExp then { x with exp := moment now c.exp } else x) (S v)) := rfl
theorem mat_up {now : Int} {c : Cm} {most : Int} {cas : Nat} {x : It} {v : List UInt8} (h1 : c.hasCas = false) (h2 : c.hasExp = false) (hd : (if c.down then subU x.val.data.toList c.delta else addU x.val.data.toList c.delta) = some v) : matO now c most cas (some x) = matE most cas x (S v) := by
  rw [mat_some, if_neg (by rw [h1]; rintro ⟨e, _⟩; cases e), hd, h2]; rfl
theorem mat_bad {now : Int} {c : Cm} {most : Int} {cas : Nat} {x : It} (h1 : c.hasCas = false) (hd : (if c.down then subU x.val.data.toList c.delta else addU x.val.data.toList c.delta) = none) : matO now c most cas (some x) = Out.no cas 7 := by
  rw [mat_some, if_neg (by rw [h1]; rintro ⟨e, _⟩; cases e), hd]
set_option maxRecDepth 10000 in
theorem sh_two : apply ⟨[sh1], 1, 0⟩ 105 (cMat kK 3 false) 900 = (⟨[sh2], 2, 0⟩, ⟨6, sh2, 8, false, false, false⟩) := by
  rw [show (⟨[sh1], 1, 0⟩ : Ms) = ⟨(some sh1).toList, 1, 0⟩ from rfl]
  refine (one_step (o := some sh1) (cas := 1) (now := 105) (c := cMat kK 3 false) (most := 900) (fun x h => by cases h; rfl) (by decide) (by decide)).trans ?_
  have h1 : core 105 (cMat kK 3 false) 900 1 ((some sh1).filter fun x => !gone 105 x) = ⟨.put sh2, 2, ⟨6, sh2, 8, false, false, false⟩⟩ := by
    rw [show (some sh1).filter (fun x => !gone 105 x) = some sh1 from rfl]
    show matO 105 (cMat kK 3 false) 900 1 (some sh1) = _
    rw [mat_up (c := cMat kK 3 false) (x := sh1) (v := [56]) rfl rfl add58]
    have h8 : Nu.parseU (S [56]).data.toList = some 8 := by decide
    unfold matE
    rw [h8]
    rfl
  rw [h1]; rfl
theorem sh_three : apply ⟨[sh2], 2, 0⟩ 109 (cGet kK) 900 = (⟨[sh3], 2, 0⟩, An.is 1 sh3) :=
  (one_step (o := some sh2) (cas := 2) (now := 109) (c := cGet kK) (most := 900) (fun x h => by cases h; rfl) (by decide) (by decide)).trans rfl
theorem sh_four : apply ⟨[sh2], 2, 0⟩ 110 (cGet kK) 900 = (⟨[], 2, 0⟩, An.of 5) :=
  (one_step (o := some sh2) (cas := 2) (now := 110) (c := cGet kK) (most := 900) (fun x h => by cases h; rfl) (by decide) (by decide)).trans rfl
end Go.Proofs.YtpgljahomeebhaaDoor.Md
namespace Go.Proofs.YtpgljahomeebhaaDoor.Md
open Go

/-- What is stored by a plain store, where nothing is. -/
def stoX (k v : ByteArray) (fl : Nat) (e now : Int) : It := ⟨k, fl, v, moment now e, 1, 0, false, false⟩
theorem sto_new {k v : ByteArray} {fl : Nat} {e rc now most : Int} (hf : fine now (cSto k v fl e rc) = true) (hm : ((k.size + v.size : Nat) : Int) ≤ most) :
    apply ⟨[], 0, 0⟩ now (cSto k v fl e rc) most = (⟨[stoX k v fl e now], 1, 0⟩, An.is 2 (stoX k v fl e now)) := by
  refine (one_step (o := none) (cas := 0) (now := now) (c := cSto k v fl e rc) (most := most) (fun x h => by cases h) hf (by show ¬ (2 : Int) = 6; decide)).trans ?_
  have h1 : core now (cSto k v fl e rc) most 0 ((none : Option It).filter fun x => !gone now x) = ⟨.put (stoX k v fl e now), 1, An.is 2 (stoX k v fl e now)⟩ := by
    show (if most < ((k.size + v.size : Nat) : Int) then Out.no 0 11 else _) = _
    rw [if_neg (by omega)]; rfl
  rw [h1]; rfl
theorem sto_large {k v : ByteArray} {fl : Nat} {e rc now most : Int} (hf : fine now (cSto k v fl e rc) = true) (hm : ¬ ((k.size + v.size : Nat) : Int) ≤ most) :
    apply ⟨[], 0, 0⟩ now (cSto k v fl e rc) most = (⟨[], 0, 0⟩, An.of 11) := by
  refine (one_step (o := none) (cas := 0) (now := now) (c := cSto k v fl e rc) (most := most) (fun x h => by cases h) hf (by show ¬ (2 : Int) = 6; decide)).trans ?_
  have h1 : core now (cSto k v fl e rc) most 0 ((none : Option It).filter fun x => !gone now x) = Out.no 0 11 := by
    show (if most < ((k.size + v.size : Nat) : Int) then Out.no 0 11 else _) = _
    rw [if_pos (by omega)]
  rw [h1]; rfl
theorem app_no {s : Ms} {now : Int} {c : Cm} {most : Int} (hf : fine now c = false) : apply s now c most = (⟨[], 0, 0⟩, An.of 0) := by
  unfold apply
  rw [if_pos hf]; rfl
theorem get_fine {k : ByteArray} {now : Int} (hk : keyB k.data.toList = true) (h1 : 1 ≤ now) (h2 : now ≤ 1099511627776) : fine now (cGet k) = true := by
  unfold fine may farM cGet
  simp [hk, h1, h2, emp]
  exact decide_eq_true (show (0 : Nat) ≤ 65536 by omega)
/-- What a get finds that lives and isn't won. -/
def gotX (x : It) (now : Int) : It := { x with last := now }
theorem get_live {x : It} {k : ByteArray} {cas : Nat} {now most : Int} (hf : fine now (cGet k) = true) (hk : x.key = k) (hg : gone now x = false) (hw : x.won = false) (hs : x.stale = false) :
    apply ⟨[x], cas, 0⟩ now (cGet k) most = (⟨[gotX x now], cas, 0⟩, An.is 1 (gotX x now)) := by
  refine (one_step (o := some x) (cas := cas) (now := now) (c := cGet k) (most := most) (fun y h => by cases h; exact hk) hf (by show ¬ (1 : Int) = 6; decide)).trans ?_
  have h1 : (some x).filter (fun x => !gone now x) = some x := by simp [Option.filter, hg]
  obtain ⟨xk, xf, xv, xe, xc, xl, xs, xw⟩ := x
  change xw = false at hw
  change xs = false at hs
  subst hw; subst hs
  rw [h1]
  rfl
theorem get_gone {x : It} {k : ByteArray} {cas : Nat} {now most : Int} (hf : fine now (cGet k) = true) (hk : x.key = k) (hg : gone now x = true) :
    apply ⟨[x], cas, 0⟩ now (cGet k) most = (⟨[], cas, 0⟩, An.of 5) := by
  refine (one_step (o := some x) (cas := cas) (now := now) (c := cGet k) (most := most) (fun y h => by cases h; exact hk) hf (by show ¬ (1 : Int) = 6; decide)).trans ?_
  have h1 : (some x).filter (fun x => !gone now x) = none := by simp [Option.filter, hg]
  rw [h1]
  rfl
theorem sto_key {k v : ByteArray} {fl : Nat} {e rc now : Int} (hf : fine now (cSto k v fl e rc) = true) : keyB k.data.toList = true := by
  obtain ⟨_, _, h, _⟩ := fine_parts hf
  rcases h with h | h
  · exact h
  · have h : (2 : Int) = 6 := h
    omega
end Go.Proofs.YtpgljahomeebhaaDoor.Md
namespace Go.Proofs.YtpgljahomeebhaaDoor.Md
open Go

def cTou (k : ByteArray) (e : Int) : Cm := ⟨4, 0, k, emp, 0, e, false, 0, false, 0, 0, false, false, 0, -1, false⟩
def touX (x : It) (now e : Int) : It := { x with exp := moment now e }
theorem tou_live {x : It} {k : ByteArray} {cas : Nat} {now e most : Int} (hf : fine now (cTou k e) = true) (hk : x.key = k) (hg : gone now x = false) :
    apply ⟨[x], cas, 0⟩ now (cTou k e) most = (⟨[touX x now e], cas, 0⟩, An.is 8 (touX x now e)) := by
  refine (one_step (o := some x) (cas := cas) (now := now) (c := cTou k e) (most := most) (fun y h => by cases h; exact hk) hf (by show ¬ (4 : Int) = 6; decide)).trans ?_
  have h1 : (some x).filter (fun x => !gone now x) = some x := by simp [Option.filter, hg]
  rw [h1]
  rfl
end Go.Proofs.YtpgljahomeebhaaDoor.Md

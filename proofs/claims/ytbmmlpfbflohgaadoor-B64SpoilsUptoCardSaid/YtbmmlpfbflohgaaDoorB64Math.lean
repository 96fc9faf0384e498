/-
  Plain mathematics of base 64, no program in it: the letters of bytes (three by three, and bit by bit), the bytes of letters, and that they undo each other. No conditions.
-/
import Derived.Lib.TrimByte
import Derived.Lib.Bytealg
import Derived.Lib.Strings
namespace Go.Proofs.YtbmmlpfbflohgaaDoor
open Go

/-- A row of bytes as a string. -/
def S (l : List UInt8) : ByteArray := ⟨l.toArray⟩
theorem size_len (s : ByteArray) : s.size = s.data.toList.length := Lib.size_eq s
theorem S_list (l : List UInt8) : (S l).data.toList = l := by simp [S]
theorem S_size (l : List UInt8) : (S l).size = l.length := by rw [size_len, S_list]
theorem S_of (s : ByteArray) : S s.data.toList = s := Lib.mk_data s
theorem S_inj {a b : List UInt8} : S a = S b ↔ a = b := ⟨fun h => by rw [← S_list a, h, S_list], fun h => by rw [h]⟩

/-- The letter of a number's lowest six bits. -/
def ln (n : Nat) : Nat :=
  let m := n % 64
  if m < 26 then 65 + m else if m < 52 then 71 + m else if m < 62 then m - 4 else if m = 62 then 43 else 47
def L (n : Nat) : UInt8 := UInt8.ofNat (ln n)
theorem ln_lt (n : Nat) : ln n < 128 := by
  unfold ln; simp only []
  repeat' split
  all_goals omega
theorem L_nat (n : Nat) : (L n).toNat = ln n := by
  have := ln_lt n
  unfold L; rw [UInt8.toNat_ofNat']; exact Nat.mod_eq_of_lt (by omega)
theorem ln_mod (n : Nat) : ln (n % 64) = ln n := by unfold ln; rw [Nat.mod_mod]
theorem L_congr {a b : Nat} (h : a % 64 = b % 64) : L a = L b := by unfold L; rw [← ln_mod a, h, ln_mod]
/-- Which bytes are letters, and what number a letter has. -/
def isN (x : Nat) : Bool := (65 ≤ x && x ≤ 90) || (97 ≤ x && x ≤ 122) || (48 ≤ x && x ≤ 57) || x == 43 || x == 47
def num (x : Nat) : Nat := if 65 ≤ x ∧ x ≤ 90 then x - 65 else if 97 ≤ x ∧ x ≤ 122 then x - 71 else if 48 ≤ x ∧ x ≤ 57 then x + 4 else if x = 43 then 62 else if x = 47 then 63 else 0
theorem num_lt (x : Nat) : num x < 64 := by
  unfold num
  repeat' split
  all_goals omega
theorem isN_ln (n : Nat) : isN (ln n) = true := by
  have hm : n % 64 < 64 := Nat.mod_lt _ (by decide)
  rw [← ln_mod]
  have : ∀ m : Fin 64, isN (ln m.1) = true := by decide +kernel
  exact this ⟨n % 64, hm⟩
theorem num_ln (n : Nat) : num (ln n) = n % 64 := by
  have hm : n % 64 < 64 := Nat.mod_lt _ (by decide)
  rw [← ln_mod]
  have : ∀ m : Fin 64, num (ln m.1) = m.1 := by decide +kernel
  exact this ⟨n % 64, hm⟩
theorem isN_L (n : Nat) : isN (L n).toNat = true := by rw [L_nat, isN_ln]
theorem num_L (n : Nat) : num (L n).toNat = n % 64 := by rw [L_nat, num_ln]
theorem L_ne {n : Nat} {c : UInt8} (h : isN c.toNat = false) : L n ≠ c := by
  intro e; have := isN_L n; rw [e, h] at this; cases this
theorem L_sign (n : Nat) : L n ≠ 61 := L_ne (by decide)

/-- The letters without signs, the bits that are left being p (of c). -/
def encL : Nat → Nat → List UInt8 → List UInt8
  | 0, _, a :: r => L (a.toNat / 4) :: encL 2 a.toNat r
  | 2, p, b :: r => L (p * 16 + b.toNat / 16) :: encL 4 b.toNat r
  | 4, p, c :: r => L (p * 4 + c.toNat / 64) :: L c.toNat :: encL 0 0 r
  | 2, p, [] => [L (p * 16)]
  | 4, p, [] => [L (p * 4)]
  | _, _, _ => []
/-- The signs behind so many bytes. -/
def signs (n : Nat) : List UInt8 := List.replicate ((3 - n % 3) % 3) 61
/-- The text of bytes. -/
def enc (l : List UInt8) : List UInt8 := encL 0 0 l ++ signs l.length

/-- Three by three. -/
theorem three {P : List UInt8 → Prop} (h0 : P []) (h1 : ∀ a, P [a]) (h2 : ∀ a b, P [a, b]) (h3 : ∀ a b c r, P r → P (a :: b :: c :: r)) : ∀ l, P l
  | [] => h0
  | [a] => h1 a
  | [a, b] => h2 a b
  | a :: b :: c :: r => h3 a b c r (three h0 h1 h2 h3 r)
theorem encL_three (a b c : UInt8) (r : List UInt8) :
    encL 0 0 (a :: b :: c :: r) = L (a.toNat / 4) :: L (a.toNat * 16 + b.toNat / 16) :: L (b.toNat * 4 + c.toNat / 64) :: L c.toNat :: encL 0 0 r := rfl
theorem signs_three (n : Nat) : signs (n + 1 + 1 + 1) = signs n := by unfold signs; rw [show (n + 1 + 1 + 1) % 3 = n % 3 by omega]
theorem enc_nil : enc [] = [] := rfl
theorem enc_one (a : UInt8) : enc [a] = [L (a.toNat / 4), L (a.toNat * 16), 61, 61] := rfl
theorem enc_two (a b : UInt8) : enc [a, b] = [L (a.toNat / 4), L (a.toNat * 16 + b.toNat / 16), L (b.toNat * 4), 61] := rfl
theorem enc_three (a b c : UInt8) (r : List UInt8) :
    enc (a :: b :: c :: r) = L (a.toNat / 4) :: L (a.toNat * 16 + b.toNat / 16) :: L (b.toNat * 4 + c.toNat / 64) :: L c.toNat :: enc r := by
  unfold enc; rw [encL_three]
  simp only [List.length_cons, signs_three, List.cons_append]

theorem encL_len (l : List UInt8) : (encL 0 0 l).length = (4 * l.length + 2) / 3 := by
  induction l using three with
  | h0 => rfl
  | h1 a => simp [encL]
  | h2 a b => simp [encL]
  | h3 a b c r ih => rw [encL_three]; simp only [List.length_cons]; rw [ih]; omega
theorem enc_len (l : List UInt8) : (enc l).length = (l.length + 2) / 3 * 4 := by
  induction l using three with
  | h0 => rfl
  | h1 a => rw [enc_one]; simp
  | h2 a b => rw [enc_two]; simp
  | h3 a b c r ih => rw [enc_three]; simp only [List.length_cons]; rw [ih]; omega
theorem encL_letters (l : List UInt8) : ∀ c ∈ encL 0 0 l, isN c.toNat = true := by
  induction l using three with
  | h0 => intro c h; simp [encL] at h
  | h1 a => intro c h; simp [encL] at h; rcases h with rfl | rfl <;> exact isN_L _
  | h2 a b => intro c h; simp [encL] at h; rcases h with rfl | rfl | rfl <;> exact isN_L _
  | h3 a b c r ih =>
    intro d h
    rw [encL_three] at h
    simp only [List.mem_cons] at h
    rcases h with rfl | rfl | rfl | rfl | h
    · exact isN_L _
    · exact isN_L _
    · exact isN_L _
    · exact isN_L _
    · exact ih d h
theorem enc_bytes (l : List UInt8) : ∀ c ∈ enc l, isN c.toNat = true ∨ c = 61 := by
  intro c h
  rcases List.mem_append.1 h with h | h
  · exact .inl (encL_letters l c h)
  · exact .inr (List.eq_of_mem_replicate h)
/-- Letters of whole threes are joined as the bytes are. -/
theorem enc_append (l r : List UInt8) : l.length % 3 = 0 → enc (l ++ r) = enc l ++ enc r := by
  induction l using three with
  | h0 => intro _; rfl
  | h1 a => intro h; simp at h
  | h2 a b => intro h; simp at h
  | h3 a b c t ih =>
    intro h
    simp only [List.length_cons] at h
    rw [List.cons_append, List.cons_append, List.cons_append, enc_three, ih (by omega), enc_three]; simp

/-- A number's lowest byte. -/
def b8 (n : Nat) : UInt8 := UInt8.ofNat n
theorem b8_nat (n : Nat) : (b8 n).toNat = n % 256 := by unfold b8; rw [UInt8.toNat_ofNat']
/-- The bytes of letters, the bits that are left being p (of c); none: a byte is no letter. -/
def dec : Nat → Nat → List UInt8 → Option (List UInt8)
  | _, _, [] => some []
  | c, p, x :: r => if isN x.toNat = false then none else
    if c = 0 then dec 6 (num x.toNat) r
    else if c = 6 then (dec 4 (num x.toNat) r).map (b8 (p * 4 + num x.toNat / 16) :: ·)
    else if c = 4 then (dec 2 (num x.toNat) r).map (b8 (p * 16 + num x.toNat / 4) :: ·)
    else (dec 0 0 r).map (b8 (p * 64 + num x.toNat) :: ·)
theorem byte_of (a : UInt8) (n : Nat) (h : n % 256 = a.toNat) : b8 n = a := by
  unfold b8
  apply UInt8.toNat_inj.1; rw [UInt8.toNat_ofNat', ← h]
theorem dec_enc (l : List UInt8) : dec 0 0 (encL 0 0 l) = some l := by
  induction l using three with
  | h0 => rfl
  | h1 a =>
    have ha := a.toNat_lt
    simp only [encL, dec, isN_L, num_L]
    simp
    exact byte_of _ _ (by omega)
  | h2 a b =>
    have ha := a.toNat_lt
    have hb := b.toNat_lt
    simp only [encL, dec, isN_L, num_L]
    simp
    exact ⟨byte_of _ _ (by omega), byte_of _ _ (by omega)⟩
  | h3 a b c r ih =>
    have ha := a.toNat_lt
    have hb := b.toNat_lt
    have hc := c.toNat_lt
    rw [encL_three]
    simp only [dec, isN_L, num_L]
    simp [ih]
    exact ⟨byte_of _ _ (by omega), byte_of _ _ (by omega), byte_of _ _ (by omega)⟩
theorem dec_bad (l : List UInt8) (x : UInt8) (hx : isN x.toNat = false) : ∀ c p, x ∈ l → dec c p l = none := by
  induction l with
  | nil => intro c p h; simp at h
  | cons y r ih =>
    intro c p h
    rw [dec]
    by_cases hy : isN y.toNat = false
    · rw [if_pos hy]
    · rw [if_neg hy]
      have hr : x ∈ r := by
        rcases List.mem_cons.1 h with e | e
        · subst e; exact absurd hx hy
        · exact e
      repeat' split
      all_goals first
        | exact ih _ _ hr
        | (rw [ih _ _ hr]; rfl)

theorem trim_append (l : List UInt8) (n : Nat) (h : ∀ c ∈ l, c ≠ 61) : Lib.trimRightB (l ++ List.replicate n 61) 61 = l := by
  have e : l = (l ++ List.replicate n 61).take l.length := by simp
  rw [Lib.trimRightB_take (l ++ List.replicate n 61) 61 l.length (by simp)]
  · exact e.symm
  · intro j b hj hb
    rw [List.getElem?_append_right hj] at hb
    exact List.eq_of_mem_replicate (List.mem_of_getElem? hb)
  · intro b h0 hb
    rw [List.getElem?_append_left (by omega)] at hb
    exact h b (List.mem_of_getElem? hb)
theorem trim_enc (l : List UInt8) : Lib.trimRightB (enc l) 61 = encL 0 0 l :=
  trim_append _ _ (fun c h e => by have := encL_letters l c h; rw [e] at this; revert this; decide)
theorem trim_le (l : List UInt8) : (Lib.trimRightB l 61).length ≤ l.length := by
  unfold Lib.trimRightB
  rw [List.length_reverse]
  have := (List.dropWhile_sublist (· == 61) (l := l.reverse)).length_le
  simpa using this
theorem dec_len (l : List UInt8) : ∀ c p b, (c = 0 ∨ c = 2 ∨ c = 4 ∨ c = 6) → dec c p l = some b → 8 * b.length ≤ 6 * l.length + c := by
  induction l with
  | nil => intro c p b _ h; rw [dec] at h; cases h; simp
  | cons x r ih =>
    intro c p b hc h
    rw [dec] at h
    repeat' split at h
    · cases h
    · have := ih _ _ _ (by omega) h; subst c; simp only [List.length_cons]; omega
    · obtain ⟨t, ht, rfl⟩ := Option.map_eq_some_iff.1 h
      have := ih _ _ _ (by omega) ht; subst c; simp only [List.length_cons]; omega
    · obtain ⟨t, ht, rfl⟩ := Option.map_eq_some_iff.1 h
      have := ih _ _ _ (by omega) ht; subst c; simp only [List.length_cons]; omega
    · obtain ⟨t, ht, rfl⟩ := Option.map_eq_some_iff.1 h
      have := ih _ _ _ (by omega) ht; simp only [List.length_cons]; omega

/-- The bytes whose text it is. -/
def decS (s : List UInt8) : Option (List UInt8) := (dec 0 0 (Lib.trimRightB s 61)).bind fun b => if enc b = s then some b else none
theorem decS_iff {s b : List UInt8} : decS s = some b ↔ enc b = s := by
  constructor
  · intro h
    unfold decS at h
    obtain ⟨t, _, ht⟩ := Option.bind_eq_some_iff.1 h
    by_cases e : enc t = s
    · rw [if_pos e] at ht; cases ht; exact e
    · rw [if_neg e] at ht; cases ht
  · rintro rfl
    unfold decS
    rw [trim_enc, dec_enc]; simp
theorem decS_none {s : List UInt8} (h : ∀ b, enc b ≠ s) : decS s = none := by
  cases e : decS s with
  | none => rfl
  | some b => exact absurd (decS_iff.1 e) (h b)

/-- By fours, as the document's own answer reads: a block's number, and how many signs it has. -/
def blk (last : Bool) : Nat → Nat → Nat → List UInt8 → Option (Nat × Nat)
  | _, n, p, [] => some (n, p)
  | k, n, p, x :: r =>
    if x.toNat = 61 ∧ last = true ∧ 2 ≤ k then blk last (k + 1) (n * 64 + num x.toNat) (p + 1) r
    else if isN x.toNat = false ∨ 0 < p then none
    else blk last (k + 1) (n * 64 + num x.toNat) p r
/-- The bytes of a block. -/
def out3 (n p : Nat) : List UInt8 := [b8 (n / 65536), b8 (n / 256), b8 n].take (3 - p)
def fours : List UInt8 → Option (List UInt8)
  | a :: b :: c :: d :: r => (blk r.isEmpty 0 0 0 [a, b, c, d]).bind fun x => (fours r).map (out3 x.1 x.2 ++ ·)
  | _ => some []
theorem isN_ne {x : Nat} (h : isN x = true) : x ≠ 61 := by intro e; subst e; revert h; decide
theorem blk_letters (last : Bool) (i j k l : Nat) : blk last 0 0 0 [L i, L j, L k, L l] = some ((((i % 64) * 64 + j % 64) * 64 + k % 64) * 64 + l % 64, 0) := by
  have h : ∀ n, ¬ ((L n).toNat = 61) := fun n => isN_ne (isN_L n)
  simp [blk, h, isN_L, num_L]
theorem out3_three (a b c : UInt8) : out3 (((((a.toNat / 4) % 64) * 64 + (a.toNat * 16 + b.toNat / 16) % 64) * 64 + (b.toNat * 4 + c.toNat / 64) % 64) * 64 + c.toNat % 64) 0 = [a, b, c] := by
  have ha := a.toNat_lt
  have hb := b.toNat_lt
  have hc := c.toNat_lt
  unfold out3
  rw [byte_of a _ (by omega), byte_of b _ (by omega), byte_of c _ (by omega)]; rfl
theorem fours_enc (l : List UInt8) : fours (enc l) = some l := by
  have h : ∀ n, ¬ ((L n).toNat = 61) := fun n => isN_ne (isN_L n)
  induction l using three with
  | h0 => rfl
  | h1 a =>
    have ha := a.toNat_lt
    rw [enc_one]
    simp [fours, blk, h, isN_L, num_L, out3]
    exact byte_of _ _ (by simp [num]; omega)
  | h2 a b =>
    have ha := a.toNat_lt
    have hb := b.toNat_lt
    rw [enc_two]
    simp [fours, blk, h, isN_L, num_L, out3]
    exact ⟨byte_of _ _ (by simp [num]; omega), byte_of _ _ (by simp [num]; omega)⟩
  | h3 a b c r ih =>
    rw [enc_three, fours, blk_letters, ih]
    simp [out3_three]
theorem fours_filter (s : List UInt8) : ((fours s).bind fun b => if enc b = s then some b else none) = decS s := by
  cases h : decS s with
  | some b =>
    have e := decS_iff.1 h
    subst e
    rw [fours_enc]; simp
  | none =>
    cases e : fours s with
    | none => rfl
    | some t =>
      have : enc t ≠ s := fun q => by rw [decS_iff.2 q] at h; cases h
      simp [this]
end Go.Proofs.YtbmmlpfbflohgaaDoor

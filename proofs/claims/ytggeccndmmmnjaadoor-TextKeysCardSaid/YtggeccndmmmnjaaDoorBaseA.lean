/-
  Plain mathematics of items, no program in it: numbers as bytes, the lowest first; what an item's bytes are; which item stands at the beginning of bytes. No conditions.
  Plain mathematics of decimal texts, no program in it: what number a row of digits says (up to 2^64 - 1), what a signed text says, and that a number's numeral says the number. No conditions.
  Plain mathematics of a store's model: states, commands, answers; what a command makes of a state. No program in it. No conditions.
  Plain mathematics of a store's model: what a command leaves of a state that is not over great; states of one key. No program in it. No conditions.
-/
import Derived.Lib.Strings
import Derived.Lib.ParseIntBCases
import Derived.Lib.ItoaNum
import Derived.Lib.ItoaLen
import Derived.Sort.Walk0
namespace Go.Proofs.YtggeccndmmmnjaaDoor
open Go

/-- A row of bytes as a string. -/
def S (l : List UInt8) : ByteArray := ⟨l.toArray⟩
theorem size_len (s : ByteArray) : s.size = s.data.toList.length := Lib.size_eq s
theorem S_list (l : List UInt8) : (S l).data.toList = l := by simp [S]
theorem S_size (l : List UInt8) : (S l).size = l.length := by rw [size_len, S_list]
theorem S_of (s : ByteArray) : S s.data.toList = s := Lib.mk_data s
theorem S_inj {a b : List UInt8} : S a = S b ↔ a = b := ⟨fun h => by rw [← S_list a, h, S_list], fun h => by rw [h]⟩

def keyByte (c : UInt8) : Bool := decide (33 ≤ c.toNat) && decide (c.toNat ≠ 127)
def keyB (l : List UInt8) : Bool := decide (1 ≤ l.length) && decide (l.length ≤ 250) && l.all keyByte
theorem keyB_parts {l : List UInt8} (h : keyB l = true) : 1 ≤ l.length ∧ l.length ≤ 250 ∧ ∀ c ∈ l, 33 ≤ c.toNat ∧ c.toNat ≠ 127 := by
  simpa [keyB, keyByte, and_assoc] using h
theorem keyB_bad {l : List UInt8} {c : UInt8} (hm : c ∈ l) (h : c.toNat < 33 ∨ c.toNat = 127) : keyB l = false := by
  rw [Bool.eq_false_iff]
  intro e
  have := (keyB_parts e).2.2 c hm
  omega

/-- A number's lowest k bytes, the lowest first. -/
def le : Nat → Nat → List UInt8
  | 0, _ => []
  | k + 1, n => UInt8.ofNat (n % 256) :: le k (n / 256)
/-- The number that bytes are. -/
def num : List UInt8 → Nat
  | [] => 0
  | c :: r => c.toNat + 256 * num r
theorem le_len : ∀ k n, (le k n).length = k
  | 0, _ => rfl
  | k + 1, n => by rw [le, List.length_cons, le_len k]
theorem num_le : ∀ k n, num (le k n) = n % 256 ^ k
  | 0, n => by rw [Nat.pow_zero, Nat.mod_one]; rfl
  | k + 1, n => by
    have h8 : (n % 256) % 2 ^ 8 = n % 256 := Nat.mod_mod_of_dvd _ (by decide)
    rw [le, num, num_le k, UInt8.toNat_ofNat', h8, Nat.pow_succ, Nat.mul_comm (256 ^ k) 256, Nat.mod_mul]
theorem num_lt : ∀ l : List UInt8, num l < 256 ^ l.length
  | [] => by simp [num]
  | c :: r => by
    have h := num_lt r
    have hc := c.toNat_lt
    rw [num, List.length_cons, Nat.pow_succ]
    omega
theorem le_num : ∀ l : List UInt8, le l.length (num l) = l
  | [] => rfl
  | c :: r => by
    have hc := c.toNat_lt
    rw [num, List.length_cons, le, Nat.add_mul_mod_self_left, Nat.mod_eq_of_lt (by omega), UInt8.ofNat_toNat]
    rw [show (c.toNat + 256 * num r) / 256 = num r by omega, le_num r]
theorem num_append : ∀ a b : List UInt8, num (a ++ b) = num a + 256 ^ a.length * num b
  | [], b => by simp [num]
  | c :: r, b => by
    rw [List.cons_append, num, num, num_append r b, List.length_cons, Nat.pow_succ, Nat.mul_add, Nat.add_assoc]
    congr 2
    rw [Nat.mul_comm (256 ^ r.length) 256, Nat.mul_assoc]
theorem le_add : ∀ a b n, le (a + b) n = le a n ++ le b (n / 256 ^ a)
  | 0, b, n => by simp [le]
  | a + 1, b, n => by
    rw [show a + 1 + b = (a + b) + 1 by omega, le, le_add a b, le, List.cons_append, Nat.pow_succ, Nat.mul_comm (256 ^ a) 256, Nat.div_div_eq_div_mul]
theorem le_zero : ∀ k, le k 0 = List.replicate k 0
  | 0 => rfl
  | k + 1 => by rw [le, Nat.zero_mod, Nat.zero_div, le_zero k, List.replicate_succ]; rfl
theorem le_at : ∀ (k n i : Nat), i < k → (le k n)[i]? = some (UInt8.ofNat (n / 256 ^ i % 256))
  | 0, _, _, h => absurd h (by omega)
  | k + 1, n, 0, _ => by simp [le]
  | k + 1, n, i + 1, h => by
    rw [le, List.getElem?_cons_succ, le_at k (n / 256) i (by omega), Nat.div_div_eq_div_mul, Nat.pow_succ, Nat.mul_comm 256]
theorem le_inj {k m n : Nat} (h : le k m = le k n) (hm : m < 256 ^ k) (hn : n < 256 ^ k) : m = n := by
  have := congrArg num h
  rwa [num_le, num_le, Nat.mod_eq_of_lt hm, Nat.mod_eq_of_lt hn] at this
theorem num_one (c : UInt8) : num [c] = c.toNat := by simp [num]
theorem num_take_succ {l : List UInt8} {i : Nat} (h : i < l.length) : num (l.take (i + 1)) = num (l.take i) + 256 ^ i * (l[i]).toNat := by
  rw [List.take_succ_eq_append_getElem h, num_append, num_one, List.length_take, Nat.min_eq_left (by omega)]
theorem num_drop {l : List UInt8} {i : Nat} (h : i < l.length) : num (l.drop i) = l[i].toNat + 256 * num (l.drop (i + 1)) := by
  rw [List.drop_eq_getElem_cons h, num]
theorem num_eq_zero : ∀ {l : List UInt8}, num l = 0 → ∀ c ∈ l, c.toNat = 0
  | [], _, c, hc => by cases hc
  | d :: r, h, c, hc => by
    rw [num] at h
    rcases List.mem_cons.1 hc with rfl | hc
    · omega
    · exact num_eq_zero (by omega) c hc

/-- Bytes a to b. -/
def fld (l : List UInt8) (a b : Nat) : List UInt8 := (l.drop a).take (b - a)
theorem fld_len {l : List UInt8} {a b : Nat} (h1 : a ≤ b) (h2 : b ≤ l.length) : (fld l a b).length = b - a := by
  unfold fld; rw [List.length_take, List.length_drop]; omega
theorem fld_at {l p q r : List UInt8} {a b : Nat} (h : l = p ++ (q ++ r)) (ha : p.length = a) (hb : a + q.length = b) : fld l a b = q := by
  subst h
  unfold fld
  rw [← ha, List.drop_left, show b - p.length = q.length by omega, List.take_left]
theorem fld_getElem? {l : List UInt8} {a b i : Nat} (h : i < b - a) : (fld l a b)[i]? = l[a + i]? := by
  unfold fld; rw [List.getElem?_take, if_pos h, List.getElem?_drop]
theorem fld_one {l : List UInt8} {a : Nat} (h : a < l.length) : fld l a (a + 1) = [l[a]] := by
  unfold fld; rw [Nat.add_sub_cancel_left, List.drop_eq_getElem_cons h, List.take_succ_cons, List.take_zero]
theorem fld_join {l : List UInt8} {a b c : Nat} (h1 : a ≤ b) (h2 : b ≤ c) : fld l a c = fld l a b ++ fld l b c := by
  unfold fld
  rw [show c - a = (b - a) + (c - b) by omega, List.take_add, List.drop_drop, show a + (b - a) = b by omega]
theorem fld_take {l : List UInt8} {a b k : Nat} (h : b ≤ k) : fld (l.take k) a b = fld l a b := by
  unfold fld
  rw [List.drop_take, List.take_take, Nat.min_eq_left (by omega)]
theorem fld_set {l : List UInt8} {a b k : Nat} {c : UInt8} (h : k < a ∨ b ≤ k) : fld (l.set k c) a b = fld l a b := by
  apply List.ext_getElem?
  intro i
  by_cases hi : i < b - a
  · rw [fld_getElem? hi, fld_getElem? hi, List.getElem?_set_ne (by omega)]
  · unfold fld; rw [List.getElem?_take, List.getElem?_take, if_neg hi, if_neg hi]

structure It where
  key : ByteArray
  flags : Nat
  val : ByteArray
  exp : Int
  cas : Nat
  last : Int
  stale : Bool
  won : Bool
theorem It.eq_of {x y : It} (h1 : x.key = y.key) (h2 : x.flags = y.flags) (h3 : x.val = y.val) (h4 : x.exp = y.exp) (h5 : x.cas = y.cas) (h6 : x.last = y.last) (h7 : x.stale = y.stale) (h8 : x.won = y.won) : x = y := by
  cases x; cases y; simp_all

/-- What each field may hold, by its type. -/
structure It.Ok (x : It) : Prop where
  flags : x.flags ≤ 4294967295
  exp0 : -9223372036854775808 ≤ x.exp
  exp1 : x.exp ≤ 9223372036854775807
  cas : x.cas ≤ 18446744073709551615
  last0 : -9223372036854775808 ≤ x.last
  last1 : x.last ≤ 9223372036854775807

def It.right (x : It) : Bool := keyB x.key.data.toList && (decide (x.val.size ≤ 65536) && (decide (0 ≤ x.exp) && decide (0 ≤ x.last)))
theorem It.right_parts {x : It} (h : x.right = true) : 1 ≤ x.key.size ∧ x.key.size ≤ 250 ∧ keyB x.key.data.toList = true ∧ x.val.size ≤ 65536 ∧ 0 ≤ x.exp ∧ 0 ≤ x.last := by
  unfold It.right at h
  simp only [Bool.and_eq_true, decide_eq_true_eq] at h
  obtain ⟨h1, h2, h3, h4⟩ := h
  have := keyB_parts h1
  rw [← size_len] at this
  exact ⟨this.1, this.2.1, h1, h2, h3, h4⟩

def It.marks (x : It) : Nat := (if x.stale = true then 1 else 0) + (if x.won = true then 2 else 0)
theorem It.marks_le (x : It) : x.marks ≤ 3 := by unfold It.marks; split <;> split <;> omega
theorem It.marks_stale (x : It) : decide (x.marks % 2 = 1) = x.stale := by
  unfold It.marks; cases x.stale <;> cases x.won <;> rfl
theorem It.marks_won (x : It) : decide (x.marks / 2 = 1) = x.won := by
  unfold It.marks; cases x.stale <;> cases x.won <;> rfl

/-- The 40 bytes ahead of key and value; all bytes. -/
def It.head (x : It) : List UInt8 :=
  le 1 x.key.size ++ (le 3 x.marks ++ (le 4 x.flags ++ (le 8 x.val.size ++ (le 8 x.exp.toNat ++ (le 8 x.cas ++ le 8 x.last.toNat)))))
def It.enc (x : It) : List UInt8 := x.head ++ (x.key.data.toList ++ x.val.data.toList)
theorem It.head_len (x : It) : x.head.length = 40 := by unfold It.head; simp [le_len]
theorem It.enc_len (x : It) : x.enc.length = 40 + x.key.size + x.val.size := by
  unfold It.enc; rw [List.length_append, List.length_append, It.head_len, ← size_len, ← size_len]; omega

def toI (n : Nat) : Int := if n < 9223372036854775808 then (n : Int) else (n : Int) - 18446744073709551616
def dK (l : List UInt8) : Nat := num (fld l 0 1)
def dM (l : List UInt8) : Nat := num (fld l 1 2)
def dV (l : List UInt8) : Nat := num (fld l 8 12)
def theIt (l : List UInt8) : It :=
  ⟨S (fld l 40 (40 + dK l)), num (fld l 4 8), S (fld l (40 + dK l) (40 + dK l + dV l)), toI (num (fld l 16 24)), num (fld l 24 32), toI (num (fld l 32 40)), decide (dM l % 2 = 1), decide (dM l / 2 = 1)⟩
/-- Are the noughts and the marks such as they may be? -/
def headB (l : List UInt8) : Bool := decide (num (fld l 2 4) = 0) && decide (num (fld l 12 16) = 0) && decide (dM l ≤ 3)
def fitsB (l : List UInt8) : Bool := decide (40 ≤ l.length) && (headB l && decide (dV l ≤ 65536 ∧ 40 + dK l + dV l ≤ l.length))
def zero : It := ⟨⟨#[]⟩, 0, ⟨#[]⟩, 0, 0, 0, false, false⟩
def dec (l : List UInt8) : Option It := if fitsB l = true then (if (theIt l).right = true then some (theIt l) else none) else none

theorem fld_num_lt {l : List UInt8} {a b m : Nat} (h : b - a ≤ m) : num (fld l a b) < 256 ^ m := by
  refine Nat.lt_of_lt_of_le (num_lt _) (Nat.pow_le_pow_right (by decide) ?_)
  unfold fld; rw [List.length_take]; omega
theorem dK_lt (l : List UInt8) : dK l < 256 := fld_num_lt (m := 1) (Nat.le_refl _)
theorem dM_lt (l : List UInt8) : dM l < 256 := fld_num_lt (m := 1) (by decide)
theorem dV_lt (l : List UInt8) : dV l < 4294967296 := fld_num_lt (m := 4) (by decide)
theorem toI_range {n : Nat} (h : n < 18446744073709551616) : -9223372036854775808 ≤ toI n ∧ toI n ≤ 9223372036854775807 := by
  unfold toI; split <;> omega
theorem toI_nat {z : Int} (h0 : 0 ≤ z) (h1 : z ≤ 9223372036854775807) : toI z.toNat = z := by
  unfold toI; rw [if_pos (by omega)]; omega
theorem theIt_ok (l : List UInt8) : (theIt l).Ok := by
  have h1 : num (fld l 4 8) < 256 ^ 4 := fld_num_lt (by decide)
  have h2 : num (fld l 16 24) < 256 ^ 8 := fld_num_lt (by decide)
  have h3 : num (fld l 24 32) < 256 ^ 8 := fld_num_lt (by decide)
  have h4 : num (fld l 32 40) < 256 ^ 8 := fld_num_lt (by decide)
  have e : (256 : Nat) ^ 8 = 18446744073709551616 := by decide
  rw [e] at h2 h3 h4
  have r2 := toI_range h2
  have r4 := toI_range h4
  exact ⟨by show num _ ≤ _; omega, r2.1, r2.2, by show num _ ≤ _; omega, r4.1, r4.2⟩

/-- The fields of what an item's bytes begin. -/
structure Parts (l : List UInt8) (x : It) : Prop where
  k : dK l = x.key.size
  m : num (fld l 1 4) = x.marks
  f : num (fld l 4 8) = x.flags
  v : num (fld l 8 16) = x.val.size
  e : num (fld l 16 24) = x.exp.toNat
  c : num (fld l 24 32) = x.cas
  t : num (fld l 32 40) = x.last.toNat
theorem parts_head {x : It} (hx : x.Ok) (hr : x.right = true) (r : List UInt8) : Parts (x.head ++ r) x := by
  obtain ⟨r1, r2, _, r3, r4, r5⟩ := It.right_parts hr
  have hm := x.marks_le
  obtain ⟨o1, _, o3, o4, _, o6⟩ := hx
  have w {k n a b p q} (hl : x.head ++ r = p ++ (le k n ++ q)) (ha : p.length = a) (hb : a + k = b) (hn : n < 256 ^ k) : num (fld (x.head ++ r) a b) = n := by
    rw [fld_at hl ha (by rw [le_len]; exact hb), num_le, Nat.mod_eq_of_lt hn]
  have e1 : (256 : Nat) ^ 1 = 256 := by decide
  have e3 : (256 : Nat) ^ 3 = 16777216 := by decide
  have e4 : (256 : Nat) ^ 4 = 4294967296 := by decide
  have e8 : (256 : Nat) ^ 8 = 18446744073709551616 := by decide
  have el : x.head ++ r = le 1 x.key.size ++ (le 3 x.marks ++ (le 4 x.flags ++ (le 8 x.val.size ++ (le 8 x.exp.toNat ++ (le 8 x.cas ++ (le 8 x.last.toNat ++ r)))))) := by unfold It.head; simp only [List.append_assoc]
  refine ⟨?_, ?_, ?_, ?_, ?_, ?_, ?_⟩
  · exact w (k := 1) (p := []) (q := le 3 x.marks ++ (le 4 x.flags ++ (le 8 x.val.size ++ (le 8 x.exp.toNat ++ (le 8 x.cas ++ (le 8 x.last.toNat ++ (r))))))) el rfl rfl (by rw [e1]; omega)
  · exact w (k := 3) (p := le 1 x.key.size) (q := le 4 x.flags ++ (le 8 x.val.size ++ (le 8 x.exp.toNat ++ (le 8 x.cas ++ (le 8 x.last.toNat ++ (r)))))) el (by simp [le_len]) rfl (by rw [e3]; omega)
  · exact w (k := 4) (p := le 1 x.key.size ++ le 3 x.marks) (q := le 8 x.val.size ++ (le 8 x.exp.toNat ++ (le 8 x.cas ++ (le 8 x.last.toNat ++ (r))))) (by rw [el]; simp only [List.append_assoc]) (by simp [le_len]) rfl (by rw [e4]; omega)
  · exact w (k := 8) (p := le 1 x.key.size ++ le 3 x.marks ++ le 4 x.flags) (q := le 8 x.exp.toNat ++ (le 8 x.cas ++ (le 8 x.last.toNat ++ (r)))) (by rw [el]; simp only [List.append_assoc]) (by simp [le_len]) rfl (by rw [e8]; omega)
  · exact w (k := 8) (p := le 1 x.key.size ++ le 3 x.marks ++ le 4 x.flags ++ le 8 x.val.size) (q := le 8 x.cas ++ (le 8 x.last.toNat ++ (r))) (by rw [el]; simp only [List.append_assoc]) (by simp [le_len]) rfl (by rw [e8]; omega)
  · exact w (k := 8) (p := le 1 x.key.size ++ le 3 x.marks ++ le 4 x.flags ++ le 8 x.val.size ++ le 8 x.exp.toNat) (q := le 8 x.last.toNat ++ (r)) (by rw [el]; simp only [List.append_assoc]) (by simp [le_len]) rfl (by rw [e8]; omega)
  · exact w (k := 8) (p := le 1 x.key.size ++ le 3 x.marks ++ le 4 x.flags ++ le 8 x.val.size ++ le 8 x.exp.toNat ++ le 8 x.cas) (q := r) (by rw [el]; simp only [List.append_assoc]) (by simp [le_len]) rfl (by rw [e8]; omega)

/-- Bytes 1 to 4, and 8 to 16, as one number and as two. -/
theorem marks_split (l : List UInt8) (h : 40 ≤ l.length) : num (fld l 1 4) = dM l + 256 * num (fld l 2 4) := by
  rw [fld_join (b := 2) (by decide) (by decide), num_append, fld_len (by decide) (by omega)]; rfl
theorem val_split (l : List UInt8) (h : 40 ≤ l.length) : num (fld l 8 16) = dV l + 4294967296 * num (fld l 12 16) := by
  rw [fld_join (b := 12) (by decide) (by decide), num_append, fld_len (by decide) (by omega)]; rfl
theorem headB_iff {l : List UInt8} (h : 40 ≤ l.length) : headB l = true ↔ num (fld l 1 4) ≤ 3 ∧ num (fld l 12 16) = 0 := by
  have h1 := marks_split l h
  unfold headB
  simp only [Bool.and_eq_true, decide_eq_true_eq]
  omega
theorem fitsB_iff (l : List UInt8) : fitsB l = true ↔ 40 ≤ l.length ∧ num (fld l 1 4) ≤ 3 ∧ num (fld l 8 16) ≤ 65536 ∧ 40 + dK l + num (fld l 8 16) ≤ l.length := by
  by_cases h : 40 ≤ l.length
  · have h1 := marks_split l h
    have h2 := val_split l h
    unfold fitsB headB
    simp only [Bool.and_eq_true, decide_eq_true_eq]
    omega
  · unfold fitsB; simp [h]
theorem fits_parts {l : List UInt8} (h : fitsB l = true) : 40 ≤ l.length ∧ dM l ≤ 3 ∧ num (fld l 1 4) = dM l ∧ num (fld l 8 16) = dV l ∧ dV l ≤ 65536 ∧ 40 + dK l + dV l ≤ l.length := by
  obtain ⟨h0, h1, h2, h3⟩ := (fitsB_iff l).1 h
  have e1 := marks_split l h0
  have e2 := val_split l h0
  omega

theorem dec_enc {x : It} (hx : x.Ok) (hr : x.right = true) (r : List UInt8) : dec (x.enc ++ r) = some x := by
  have hp := parts_head hx hr (x.key.data.toList ++ x.val.data.toList ++ r)
  have el : x.enc ++ r = x.head ++ (x.key.data.toList ++ x.val.data.toList ++ r) := by unfold It.enc; simp only [List.append_assoc]
  rw [← el] at hp
  obtain ⟨r1, r2, rk, r3, r4, r5⟩ := It.right_parts hr
  have hlen : (x.enc ++ r).length = 40 + x.key.size + x.val.size + r.length := by rw [List.length_append, It.enc_len]
  have hm := x.marks_le
  have hf : fitsB (x.enc ++ r) = true := (fitsB_iff _).2 ⟨by omega, by rw [hp.m]; exact hm, by rw [hp.v]; exact r3, by rw [hp.k, hp.v]; omega⟩
  obtain ⟨f1, f2, f3, f4, f5, f6⟩ := fits_parts hf
  have hM : dM (x.enc ++ r) = x.marks := by rw [← f3, hp.m]
  have hV : dV (x.enc ++ r) = x.val.size := by rw [← f4, hp.v]
  have ht : theIt (x.enc ++ r) = x := by
    unfold theIt
    rw [hp.k, hM, hV, hp.f, hp.e, hp.c, hp.t]
    refine It.eq_of ?_ rfl ?_ (toI_nat r4 hx.exp1) rfl (toI_nat r5 hx.last1) (It.marks_stale x) (It.marks_won x)
    · show S _ = _
      rw [fld_at (p := x.head) (q := x.key.data.toList) (r := x.val.data.toList ++ r) (by rw [el, List.append_assoc]) x.head_len (by rw [← size_len]), S_of]
    · show S _ = _
      rw [fld_at (p := x.head ++ x.key.data.toList) (q := x.val.data.toList) (r := r) (by rw [el]; simp only [List.append_assoc]) (by rw [List.length_append, x.head_len, ← size_len]) (by rw [← size_len]), S_of]
  unfold dec
  rw [if_pos hf, ht, if_pos hr]
theorem dec_enc_self {x : It} (hx : x.Ok) (hr : x.right = true) : dec x.enc = some x := by
  have := dec_enc hx hr []
  rwa [List.append_nil] at this
theorem enc_inj {x y : It} (hx : x.Ok) (hy : y.Ok) (rx : x.right = true) (ry : y.right = true) : x.enc = y.enc ↔ x = y :=
  ⟨fun h => by
    have h1 := dec_enc_self hx rx
    rw [h, dec_enc_self hy ry] at h1
    exact (Option.some.inj h1).symm, fun h => by rw [h]⟩
/-- A beginning has none. -/
theorem dec_take {x : It} (hx : x.Ok) (hr : x.right = true) {k : Nat} (hk : k < x.enc.length) : dec (x.enc.take k) = none := by
  unfold dec
  rw [if_neg]
  intro hf
  obtain ⟨f0, f1, f2, f3⟩ := (fitsB_iff _).1 hf
  rw [List.length_take, Nat.min_eq_left (by omega)] at f0 f3
  have hp := parts_head hx hr (x.key.data.toList ++ x.val.data.toList)
  have el : x.enc = x.head ++ (x.key.data.toList ++ x.val.data.toList) := rfl
  rw [← el] at hp
  have e1 : dK (x.enc.take k) = x.key.size := by rw [← hp.k]; unfold dK; rw [fld_take (by omega)]
  rw [e1, fld_take (by omega), hp.v] at f3
  rw [It.enc_len] at hk
  omega

/-- Other marks. -/
def It.marked (x : It) (s w : Bool) : It := { x with stale := s, won := w }
theorem enc_set_marks {x : It} {s w : Bool} {c : UInt8} (hc : c.toNat = (x.marked s w).marks) : x.enc.set 1 c = (x.marked s w).enc := by
  have hm := x.marks_le
  have hm2 := (x.marked s w).marks_le
  unfold It.enc It.head
  show _ = _ ++ (le 3 (x.marked s w).marks ++ _) ++ _
  rw [← hc]
  have e1 : ∀ n, le 1 n = [UInt8.ofNat (n % 256)] := fun n => rfl
  have e3 : ∀ n, n ≤ 3 → le 3 n = [UInt8.ofNat n, 0, 0] := fun n hn => by
    rcases n with _ | _ | _ | _ | n
    · rfl
    · rfl
    · rfl
    · rfl
    · omega
  rw [e1, e3 _ hm, e3 _ (by rw [hc]; exact hm2), UInt8.ofNat_toNat]
  rfl
theorem dec_set_marks {x : It} (hx : x.Ok) (hr : x.right = true) {s w : Bool} {c : UInt8} (hc : c.toNat = (x.marked s w).marks) : dec (x.enc.set 1 c) = some (x.marked s w) := by
  rw [enc_set_marks hc]
  exact dec_enc_self ⟨hx.1, hx.2, hx.3, hx.4, hx.5, hx.6⟩ hr
theorem get_of_zero {x : It} (hx : x.Ok) (hr : x.right = true) {k : Nat} (hk : k = 2 ∨ k = 3 ∨ k = 12 ∨ k = 13 ∨ k = 14 ∨ k = 15) : x.enc[k]? = some 0 := by
  have hp := parts_head hx hr (x.key.data.toList ++ x.val.data.toList)
  have el : x.enc = x.head ++ (x.key.data.toList ++ x.val.data.toList) := rfl
  rw [← el] at hp
  have hl := x.enc_len
  have hm := x.marks_le
  obtain ⟨_, _, _, r3, _, _⟩ := It.right_parts hr
  have e1 := marks_split x.enc (by omega)
  have e2 := val_split x.enc (by omega)
  have z1 : num (fld x.enc 2 4) = 0 := by have := hp.m; omega
  have z2 : num (fld x.enc 12 16) = 0 := by have := hp.v; omega
  have at_ {a b : Nat} (hz : num (fld x.enc a b) = 0) (h1 : a ≤ k) (h2 : k < b) (h3 : b ≤ 40) : x.enc[k]? = some 0 := by
    have hi : k - a < (fld x.enc a b).length := by rw [fld_len (by omega) (by omega)]; omega
    have hz' := num_eq_zero hz _ (List.getElem_mem hi)
    have hg : (fld x.enc a b)[k - a]? = x.enc[a + (k - a)]? := fld_getElem? (by omega)
    rw [List.getElem?_eq_getElem hi, show a + (k - a) = k by omega] at hg
    rw [← hg]
    exact congrArg some (UInt8.toNat_inj.1 hz')
  by_cases h : k < 4
  · exact at_ z1 (by omega) (by omega) (by decide)
  · exact at_ z2 (by omega) (by omega) (by decide)
theorem dec_set_zero {x : It} {k : Nat} (hk : k = 2 ∨ k = 3 ∨ k = 12 ∨ k = 13 ∨ k = 14 ∨ k = 15) {c : UInt8} (hc : c.toNat ≠ 0) : dec (x.enc.set k c) = none := by
  unfold dec
  rw [if_neg]
  intro hf
  have hl : (x.enc.set k c).length = 40 + x.key.size + x.val.size := by rw [List.length_set, x.enc_len]
  unfold fitsB headB at hf
  simp only [Bool.and_eq_true, decide_eq_true_eq] at hf
  obtain ⟨_, ⟨⟨z1, z2⟩, _⟩, _⟩ := hf
  have bad {a b : Nat} (hz : num (fld (x.enc.set k c) a b) = 0) (h1 : a ≤ k) (h2 : k < b) (h3 : b ≤ 40) : False := by
    have hi : k - a < (fld (x.enc.set k c) a b).length := by rw [fld_len (by omega) (by omega)]; omega
    have hg : (fld (x.enc.set k c) a b)[k - a]? = (x.enc.set k c)[a + (k - a)]? := fld_getElem? (by omega)
    rw [show a + (k - a) = k by omega, List.getElem?_set_self (by rw [x.enc_len]; omega)] at hg
    exact hc (num_eq_zero hz c (List.mem_of_getElem? hg))
  by_cases h : k < 4
  · exact bad z1 (by omega) (by omega) (by decide)
  · exact bad z2 (by omega) (by omega) (by decide)
theorem dec_set_high {x : It} {c : UInt8} (hc : 3 < c.toNat) : dec (x.enc.set 1 c) = none := by
  unfold dec
  rw [if_neg]
  intro hf
  obtain ⟨f0, f1, _⟩ := (fits_parts hf)
  have hl : (x.enc.set 1 c).length = 40 + x.key.size + x.val.size := by rw [List.length_set, x.enc_len]
  have h1 : 1 < (x.enc.set 1 c).length := by omega
  have : dM (x.enc.set 1 c) = c.toNat := by
    unfold dM
    rw [fld_one h1, num_one, List.getElem_set_self]
  omega
theorem enc_one {x : It} : x.enc[1]? = some (UInt8.ofNat x.marks) := by
  have hm := x.marks_le
  unfold It.enc It.head
  have e1 : ∀ n, le 1 n = [UInt8.ofNat (n % 256)] := fun n => rfl
  have e3 : le 3 x.marks = UInt8.ofNat (x.marks % 256) :: le 2 (x.marks / 256) := rfl
  rw [e1, e3, Nat.mod_eq_of_lt (by omega : x.marks < 256)]
  rfl
end Go.Proofs.YtggeccndmmmnjaaDoor
namespace Go.Proofs.YtggeccndmmmnjaaDoor.Nu
open Go

/-- The number that the digits say, going on from what those ahead of them said; none at a byte that is no digit, and from 2^64 on. -/
def numFrom (acc : Nat) : List UInt8 → Option Nat
  | [] => some acc
  | c :: r => if 48 ≤ c.toNat ∧ c.toNat ≤ 57 ∧ acc * 10 + (c.toNat - 48) < 18446744073709551616 then numFrom (acc * 10 + (c.toNat - 48)) r else none

/-- 1 to 20 digits, at most 2^64 - 1. -/
def parseU (l : List UInt8) : Option Nat := if l = [] ∨ 20 < l.length then none else numFrom 0 l

def okOf : Lib.NumEnd Nat → Option Nat
  | .ok u => some u
  | _ => none

theorem okOf_M : ∀ (l : List UInt8) (acc : Nat), okOf (Lib.parseUintM 18446744073709551615 acc l) = numFrom acc l
  | [], acc => rfl
  | c :: r, acc => by
    unfold Lib.parseUintM numFrom
    by_cases hd : 48 ≤ c.toNat ∧ c.toNat ≤ 57
    · rw [if_pos hd]
      by_cases h1 : 1844674407370955162 ≤ acc
      · rw [if_pos h1, if_neg (by omega)]; rfl
      · rw [if_neg h1]
        by_cases h2 : 18446744073709551615 < acc * 10 + (c.toNat - 48)
        · rw [if_pos h2, if_neg (by omega)]; rfl
        · rw [if_neg h2, if_pos (by omega)]; exact okOf_M r _
    · rw [if_neg hd, if_neg (by omega)]; rfl

theorem okOf_B (l : List UInt8) : okOf (Lib.parseUintB 64 l) = if l = [] then none else numFrom 0 l := by
  unfold Lib.parseUintB
  by_cases h : l = []
  · rw [if_pos h, if_pos h]; rfl
  · rw [if_neg h, if_neg h]; exact okOf_M l 0

theorem parseU_long {l : List UInt8} (h : 20 < l.length) : parseU l = none := by rw [parseU, if_pos (Or.inr h)]
theorem parseU_short {l : List UInt8} (h : ¬ 20 < l.length) : parseU l = okOf (Lib.parseUintB 64 l) := by
  rw [okOf_B, parseU]
  by_cases h0 : l = []
  · rw [if_pos (Or.inl h0), if_pos h0]
  · rw [if_neg (by rintro (h1 | h1) <;> contradiction), if_neg h0]

theorem numFrom_append : ∀ (l m : List UInt8) (acc : Nat), numFrom acc (l ++ m) = (numFrom acc l).bind fun a => numFrom a m
  | [], m, acc => rfl
  | c :: r, m, acc => by
    rw [List.cons_append, numFrom, numFrom]
    split
    · exact numFrom_append r m _
    · rfl

theorem numFrom_lt : ∀ (l : List UInt8) (acc n : Nat), acc < 18446744073709551616 → numFrom acc l = some n → n < 18446744073709551616
  | [], acc, n, h, e => by rw [numFrom] at e; cases e; exact h
  | c :: r, acc, n, h, e => by
    rw [numFrom] at e
    split at e
    · rename_i hc; exact numFrom_lt r _ n hc.2.2 e
    · cases e

theorem parseU_lt {l : List UInt8} {n : Nat} (h : parseU l = some n) : n < 18446744073709551616 := by
  rw [parseU] at h
  split at h
  · cases h
  · exact numFrom_lt l 0 n (by omega) h

theorem parseU_len {l : List UInt8} {n : Nat} (h : parseU l = some n) : 1 ≤ l.length ∧ l.length ≤ 20 := by
  rw [parseU] at h
  split at h
  · cases h
  · rename_i hc
    refine ⟨?_, by omega⟩
    rcases l with _ | ⟨c, r⟩
    · exact absurd (Or.inl rfl) hc
    · simp

/-- A byte that is no digit, anywhere. -/
theorem numFrom_bad : ∀ (l : List UInt8) (acc : Nat) (c : UInt8), c ∈ l → ¬ (48 ≤ c.toNat ∧ c.toNat ≤ 57) → numFrom acc l = none
  | [], _, c, h, _ => by cases h
  | d :: r, acc, c, h, hc => by
    rw [numFrom]
    split
    · rename_i hd
      rcases List.mem_cons.1 h with rfl | h
      · exact absurd ⟨hd.1, hd.2.1⟩ hc
      · exact numFrom_bad r _ c h hc
    · rfl

theorem parseU_bad {l : List UInt8} {c : UInt8} (h : c ∈ l) (hc : ¬ (48 ≤ c.toNat ∧ c.toNat ≤ 57)) : parseU l = none := by
  rw [parseU]; split
  · rfl
  · exact numFrom_bad l 0 c h hc

/-! ### Numerals -/

theorem dd_small {n : Nat} (h : n < 10) : Lib.decDigits n = [UInt8.ofNat (48 + n)] := Lib.decDigits_one h
theorem dd_big {n : Nat} (h : ¬ n < 10) : Lib.decDigits n = Lib.decDigits (n / 10) ++ Lib.decDigits (n % 10) := by
  rw [Lib.decDigits, dif_neg h, dd_small (Nat.mod_lt n (by omega))]

theorem digit_toNat {d : Nat} (h : d < 10) : (UInt8.ofNat (48 + d)).toNat = 48 + d := by
  rw [UInt8.toNat_ofNat']; omega

theorem dd_len (n : Nat) : (Lib.decDigits n).length = Lib.nDigits n := Lib.decDigits_length n
theorem dd_len_pos (n : Nat) : 1 ≤ (Lib.decDigits n).length := by rw [dd_len]; exact Lib.nDigits_pos n
theorem dd_len_le {n : Nat} (h : n < 18446744073709551616) : (Lib.decDigits n).length ≤ 20 := by rw [dd_len]; exact Lib.nDigits_le20 n h
theorem dd_ne (n : Nat) : Lib.decDigits n ≠ [] := fun h => by have := dd_len_pos n; rw [h] at this; simp at this

theorem dd_digits (n : Nat) : ∀ c ∈ Lib.decDigits n, 48 ≤ c.toNat ∧ c.toNat ≤ 57 := by
  induction n using Nat.strongRecOn with
  | _ n ih =>
    intro c hc
    by_cases h : n < 10
    · rw [dd_small h] at hc
      rw [List.mem_singleton.1 hc, digit_toNat h]; omega
    · rw [dd_big h, List.mem_append] at hc
      rcases hc with hc | hc
      · exact ih _ (by omega) c hc
      · exact ih _ (by omega) c hc

theorem numFrom_dd (n : Nat) : n < 18446744073709551616 → numFrom 0 (Lib.decDigits n) = some n := by
  induction n using Nat.strongRecOn with
  | _ n ih =>
    intro hn
    by_cases h : n < 10
    · rw [dd_small h, numFrom, digit_toNat h, if_pos (by omega), numFrom]; congr 1; omega
    · rw [dd_big h, numFrom_append, ih (n / 10) (by omega) (by omega), dd_small (Nat.mod_lt n (by omega))]
      show numFrom (n / 10) _ = _
      rw [numFrom, digit_toNat (Nat.mod_lt n (by omega)), if_pos (by omega), numFrom]; congr 1; omega

theorem numFrom_zeros (k : Nat) (l : List UInt8) : numFrom 0 (List.replicate k 48 ++ l) = numFrom 0 l := by
  induction k with
  | zero => rfl
  | succ k ih =>
    rw [List.replicate_succ, List.cons_append, numFrom]
    have e : (48 : UInt8).toNat = 48 := rfl
    rw [e, if_pos (by omega)]
    exact ih

theorem parseU_dd {n : Nat} (h : n < 18446744073709551616) : parseU (Lib.decDigits n) = some n := by
  rw [parseU, if_neg, numFrom_dd n h]
  rintro (h1 | h1)
  · exact dd_ne n h1
  · have := dd_len_le h; omega

theorem parseU_zeros {n : Nat} (k : Nat) (h : n < 18446744073709551616) (hk : k + (Lib.decDigits n).length ≤ 20) : parseU (List.replicate k 48 ++ Lib.decDigits n) = some n := by
  rw [parseU, if_neg, numFrom_zeros, numFrom_dd n h]
  rintro (h1 | h1)
  · exact dd_ne n (List.append_eq_nil_iff.1 h1).2
  · rw [List.length_append, List.length_replicate] at h1; omega

theorem parseU_zeros_long {n : Nat} (k : Nat) (hk : 20 < k + (Lib.decDigits n).length) : parseU (List.replicate k 48 ++ Lib.decDigits n) = none :=
  parseU_long (by rw [List.length_append, List.length_replicate]; exact hk)

theorem dd_inj {a b : Nat} (ha : a < 18446744073709551616) (hb : b < 18446744073709551616) (h : Lib.decDigits a = Lib.decDigits b) : a = b := by
  have h1 := numFrom_dd a ha
  rw [h, numFrom_dd b hb] at h1
  exact (Option.some.inj h1).symm

/-! ### Signs -/

def isNeg (l : List UInt8) : Bool := l.head? == some 45
def unsign (l : List UInt8) : List UInt8 := if isNeg l then l.tail else l

/-- Perhaps '-', and 1 to 19 digits: the number, if it is from -2^63 to 2^63 - 1. -/
def signedU (l : List UInt8) : Option Int :=
  if 19 < (unsign l).length then none else
    match parseU (unsign l) with
    | none => none
    | some n => if isNeg l then (if 9223372036854775808 < n then none else some (-(n : Int))) else if 9223372036854775808 ≤ n then none else some (n : Int)

theorem signedU_bounds {l : List UInt8} {v : Int} (h : signedU l = some v) : -9223372036854775808 ≤ v ∧ v ≤ 9223372036854775807 := by
  unfold signedU at h
  split at h
  · cases h
  · split at h
    · cases h
    · rename_i n _
      split at h
      · split at h
        · cases h
        · cases h; omega
      · split at h
        · cases h
        · cases h; omega

theorem isNeg_dd (n : Nat) : isNeg (Lib.decDigits n) = false := by
  unfold isNeg
  cases hd : Lib.decDigits n with
  | nil => rfl
  | cons c r =>
    have hc := dd_digits n c (by rw [hd]; exact List.mem_cons_self)
    simp only [List.head?_cons, beq_eq_false_iff_ne, ne_eq, Option.some.injEq]
    rintro rfl
    have e : (45 : UInt8).toNat = 45 := rfl
    rw [e] at hc; omega

theorem unsign_dd (n : Nat) : unsign (Lib.decDigits n) = Lib.decDigits n := by rw [unsign, isNeg_dd]; rfl
theorem isNeg_dash (l : List UInt8) : isNeg (45 :: l) = true := rfl
theorem unsign_dash (l : List UInt8) : unsign (45 :: l) = l := rfl

theorem nDigits19 {n : Nat} (h : n < 9223372036854775808 ∨ n = 9223372036854775808) : Lib.nDigits n ≤ 19 := by
  by_cases h1 : Lib.nDigits n ≤ 19
  · exact h1
  · exfalso
    have hlow : ∀ (k m : Nat), k < Lib.nDigits m → 1 ≤ k → 10 ^ k ≤ m := by
      intro k
      induction k with
      | zero => intro m _ h; omega
      | succ k ih =>
        intro m hm _
        by_cases hs : m < 10
        · rw [Lib.nDigits_small hs] at hm; omega
        · rw [Lib.nDigits_big hs] at hm
          rw [Nat.pow_succ]
          rcases Nat.eq_zero_or_pos k with rfl | hk
          · simp; omega
          · have := ih (m / 10) (by omega) hk; omega
    have := hlow 19 n (by omega) (by omega)
    have e : (10 : Nat) ^ 19 = 10000000000000000000 := by decide
    rw [e] at this; omega

theorem signedU_dd_small {n : Nat} (h : n < 9223372036854775808) : signedU (Lib.decDigits n) = some (n : Int) := by
  have h19 : (Lib.decDigits n).length ≤ 19 := by rw [dd_len]; exact nDigits19 (Or.inl h)
  unfold signedU
  rw [unsign_dd, isNeg_dd, if_neg (by omega), parseU_dd (by omega)]
  simp only [Bool.false_eq_true, if_false]
  rw [if_neg (by omega)]

theorem signedU_dd_big {n : Nat} (hn : n < 18446744073709551616) (h : 9223372036854775808 ≤ n) : signedU (Lib.decDigits n) = none := by
  unfold signedU
  rw [unsign_dd, isNeg_dd]
  split
  · rfl
  · rw [parseU_dd hn]
    simp only [Bool.false_eq_true, if_false]
    rw [if_pos h]

theorem signedU_dash_small {n : Nat} (h : n ≤ 9223372036854775808) : signedU (45 :: Lib.decDigits n) = some (-(n : Int)) := by
  have h19 : (Lib.decDigits n).length ≤ 19 := by rw [dd_len]; exact nDigits19 (by omega)
  unfold signedU
  rw [unsign_dash, isNeg_dash, if_neg (by omega), parseU_dd (by omega)]
  simp only [if_true]
  rw [if_neg (by omega)]

theorem signedU_dash_big {n : Nat} (hn : n < 18446744073709551616) (h : 9223372036854775808 < n) : signedU (45 :: Lib.decDigits n) = none := by
  unfold signedU
  rw [unsign_dash, isNeg_dash]
  split
  · rfl
  · rw [parseU_dd hn]
    simp only [if_true]
    rw [if_pos h]

/-- A byte that is no digit anywhere, but for a dash ahead. -/
theorem signedU_bad {l : List UInt8} {c : UInt8} (h : c ∈ unsign l) (hc : ¬ (48 ≤ c.toNat ∧ c.toNat ≤ 57)) : signedU l = none := by
  unfold signedU
  split
  · rfl
  · rw [parseU_bad h hc]

theorem signedU_cases (l : List UInt8) :
    (19 < (unsign l).length ∧ signedU l = none) ∨ (¬ 19 < (unsign l).length ∧ parseU (unsign l) = none ∧ signedU l = none) ∨
    ∃ n, ¬ 19 < (unsign l).length ∧ parseU (unsign l) = some n ∧
      ((isNeg l = true ∧ 9223372036854775808 < n ∧ signedU l = none) ∨ (isNeg l = true ∧ n ≤ 9223372036854775808 ∧ signedU l = some (-(n : Int))) ∨
       (isNeg l = false ∧ 9223372036854775808 ≤ n ∧ signedU l = none) ∨ (isNeg l = false ∧ n < 9223372036854775808 ∧ signedU l = some (n : Int))) := by
  by_cases h19 : 19 < (unsign l).length
  · exact Or.inl ⟨h19, by rw [signedU, if_pos h19]⟩
  · refine Or.inr ?_
    cases hp : parseU (unsign l) with
    | none => exact Or.inl ⟨h19, rfl, by rw [signedU, if_neg h19, hp]⟩
    | some n =>
      refine Or.inr ⟨n, h19, rfl, ?_⟩
      cases hn : isNeg l
      · by_cases hb : 9223372036854775808 ≤ n
        · exact Or.inr (Or.inr (Or.inl ⟨rfl, hb, by rw [signedU, if_neg h19, hp, hn]; simp only [Bool.false_eq_true, if_false]; rw [if_pos hb]⟩))
        · exact Or.inr (Or.inr (Or.inr ⟨rfl, by omega, by rw [signedU, if_neg h19, hp, hn]; simp only [Bool.false_eq_true, if_false]; rw [if_neg hb]⟩))
      · by_cases hb : 9223372036854775808 < n
        · exact Or.inl ⟨rfl, hb, by rw [signedU, if_neg h19, hp, hn]; simp only [if_true]; rw [if_pos hb]⟩
        · exact Or.inr (Or.inl ⟨rfl, by omega, by rw [signedU, if_neg h19, hp, hn]; simp only [if_true]; rw [if_neg hb]⟩)

theorem hasPrefix_dash (l : List UInt8) : Lib.hasPrefix l [45] = isNeg l := by
  cases l with
  | nil => rfl
  | cons c r =>
    unfold Lib.hasPrefix isNeg
    simp only [List.isPrefixOf, Bool.and_true, List.head?_cons]
    by_cases h : c = 45
    · subst h; rfl
    · have h1 : (45 == c) = false := by rw [beq_eq_false_iff_ne]; exact fun e => h e.symm
      have h2 : (some c == some (45 : UInt8)) = false := by rw [beq_eq_false_iff_ne]; exact fun e => h (Option.some.inj e)
      rw [h1, h2]
theorem trimPrefix_dash (l : List UInt8) : Lib.trimPrefix l [45] = unsign l := by
  unfold Lib.trimPrefix unsign
  rw [hasPrefix_dash]
  cases l <;> rfl

end Go.Proofs.YtggeccndmmmnjaaDoor.Nu
namespace Go.Proofs.YtggeccndmmmnjaaDoor.Md
open Go

/-! Keys in their order -/
def klt (a b : ByteArray) : Bool := Op.bytesLess a.toList b.toList
theorem klt_lt (a b : ByteArray) : klt a b = true ↔ a.data.toList < b.data.toList := by
  unfold klt
  rw [Go.Proofs.bytesLess_eq, decide_eq_true_iff, Lib.toList_data, Lib.toList_data]
theorem klt_irrefl (a : ByteArray) : klt a a = false := by
  rw [Bool.eq_false_iff]; intro h
  exact List.lt_irrefl _ ((klt_lt a a).1 h)
theorem klt_trans {a b c : ByteArray} (h : klt a b = true) (k : klt b c = true) : klt a c = true := (klt_lt a c).2 (List.lt_trans ((klt_lt a b).1 h) ((klt_lt b c).1 k))
theorem klt_asymm {a b : ByteArray} (h : klt a b = true) : klt b a = false := by
  rw [Bool.eq_false_iff]; intro k
  have := klt_trans h k
  rw [klt_irrefl] at this; cases this
theorem key_eq {a b : ByteArray} (h : a.data.toList = b.data.toList) : a = b := by
  cases a; cases b; congr; exact Array.toList_inj.1 h
theorem klt_total {a b : ByteArray} (h : klt a b = false) (k : klt b a = false) : a = b := by
  have h1 : ¬ a.data.toList < b.data.toList := fun e => by rw [(klt_lt a b).2 e] at h; cases h
  have h2 : ¬ b.data.toList < a.data.toList := fun e => by rw [(klt_lt b a).2 e] at k; cases k
  exact key_eq (List.le_antisymm (List.not_lt.1 h2) (List.not_lt.1 h1))
theorem klt_ne {a b : ByteArray} (h : klt a b = true) : a ≠ b := fun e => by rw [e, klt_irrefl] at h; cases h

/-! Items by their keys -/
def find (l : List It) (k : ByteArray) : Option It := l.find? (fun x => decide (x.key = k))
def put (l : List It) (x : It) : List It := l.filter (fun y => klt y.key x.key) ++ x :: l.filter (fun y => klt x.key y.key)
def drp (l : List It) (k : ByteArray) : List It := l.filter (fun y => decide (y.key ≠ k))
def Sorted (l : List It) : Prop := l.Pairwise (fun a b => klt a.key b.key = true)
theorem find_nil (k : ByteArray) : find [] k = none := rfl
theorem find_cons (x : It) (l : List It) (k : ByteArray) : find (x :: l) k = if x.key = k then some x else find l k := by
  unfold find
  rw [List.find?_cons]
  by_cases h : x.key = k
  · rw [if_pos h, decide_eq_true h]
  · rw [if_neg h, decide_eq_false h]
theorem find_some {l : List It} {k : ByteArray} {x : It} (h : find l k = some x) : x ∈ l ∧ x.key = k := by
  unfold find at h
  exact ⟨List.mem_of_find?_eq_some h, of_decide_eq_true (p := x.key = k) (List.find?_some (p := fun x : It => decide (x.key = k)) h)⟩
theorem find_none {l : List It} {k : ByteArray} : find l k = none ↔ ∀ x ∈ l, x.key ≠ k := by
  unfold find
  rw [List.find?_eq_none]
  simp
theorem find_app (a b : List It) (k : ByteArray) : find (a ++ b) k = (find a k).or (find b k) := by unfold find; exact List.find?_append
theorem find_filter {l : List It} {p : It → Bool} {k : ByteArray} (h : ∀ x ∈ l, x.key = k → p x = true) : find (l.filter p) k = find l k := by
  induction l with
  | nil => rfl
  | cons x l ih =>
    have ih := ih (fun y hy => h y (List.mem_cons_of_mem _ hy))
    by_cases e : x.key = k
    · rw [List.filter_cons, if_pos (h x List.mem_cons_self e), find_cons, find_cons, if_pos e, if_pos e]
    · rw [find_cons, if_neg e, ← ih, List.filter_cons]
      split
      · rw [find_cons, if_neg e]
      · rfl
theorem find_filter_no {l : List It} {p : It → Bool} {k : ByteArray} (h : ∀ x ∈ l, x.key = k → p x = false) : find (l.filter p) k = none := by
  rw [find_none]
  intro x hx e
  have := List.mem_filter.1 hx
  rw [h x this.1 e] at this
  exact absurd this.2 (by decide)
theorem find_put (l : List It) (x : It) (k : ByteArray) : find (put l x) k = if k = x.key then some x else find l k := by
  unfold put
  rw [find_app, find_cons]
  by_cases e : k = x.key
  · subst e
    rw [if_pos rfl, if_pos rfl, find_filter_no (fun y _ hy => by rw [hy]; exact klt_irrefl _)]; rfl
  · rw [if_neg (fun h => e h.symm), if_neg e]
    cases h1 : klt k x.key
    · cases h2 : klt x.key k
      · exact absurd (klt_total h1 h2) e
      · rw [find_filter_no (fun y _ hy => by rw [hy]; exact h1), find_filter (fun y _ hy => by rw [hy]; exact h2)]; rfl
    · rw [find_filter (fun y _ hy => by rw [hy]; exact h1), find_filter_no (p := fun y => klt x.key y.key) (fun y _ hy => by rw [hy]; exact klt_asymm h1)]
      cases find l k <;> rfl
theorem find_drp (l : List It) (k0 k : ByteArray) : find (drp l k0) k = if k = k0 then none else find l k := by
  unfold drp
  by_cases e : k = k0
  · rw [if_pos e, find_filter_no (fun y _ hy => by rw [hy, e]; simp)]
  · rw [if_neg e, find_filter (fun y _ hy => by rw [hy]; simpa using e)]
theorem Sorted.filter {l : List It} (h : Sorted l) (p : It → Bool) : Sorted (l.filter p) := List.Pairwise.filter _ h
theorem find_mem {l : List It} (h : Sorted l) {x : It} (hx : x ∈ l) : find l x.key = some x := by
  induction l with
  | nil => cases hx
  | cons y l ih =>
    have h' := List.pairwise_cons.1 h
    rw [find_cons]
    rcases List.mem_cons.1 hx with e | hx
    · rw [if_pos (by rw [e]), e]
    · rw [if_neg (klt_ne (h'.1 x hx)), ih h'.2 hx]
theorem find_filt {l : List It} (h : Sorted l) (p : It → Bool) (k : ByteArray) : find (l.filter p) k = (find l k).filter p := by
  cases e : find l k with
  | none => exact find_filter_no (fun x hx hk => absurd hk (find_none.1 e x hx))
  | some x =>
    obtain ⟨hx, hk⟩ := find_some e
    cases hp : p x
    · rw [show (some x).filter p = none by simp [Option.filter, hp]]
      refine find_filter_no (fun y hy hy2 => ?_)
      have h1 := find_mem h hy
      rw [hy2, e] at h1
      rw [← Option.some.inj h1]; exact hp
    · rw [show (some x).filter p = some x by simp [Option.filter, hp], ← e]
      refine find_filter (fun y hy hy2 => ?_)
      have h1 := find_mem h hy
      rw [hy2, e] at h1
      rw [← Option.some.inj h1]; exact hp
theorem Sorted.put {l : List It} (h : Sorted l) (x : It) : Sorted (put l x) := by
  unfold Md.put Sorted
  rw [List.pairwise_append]
  refine ⟨h.filter _, List.pairwise_cons.2 ⟨fun y hy => (List.mem_filter.1 hy).2, h.filter _⟩, fun a ha b hb => ?_⟩
  have ha := (List.mem_filter.1 ha).2
  rcases List.mem_cons.1 hb with e | hb
  · rw [e]; exact ha
  · exact klt_trans ha (List.mem_filter.1 hb).2
theorem Sorted.drp {l : List It} (h : Sorted l) (k : ByteArray) : Sorted (drp l k) := h.filter _
theorem mem_put {l : List It} {x y : It} (h : y ∈ put l x) : y = x ∨ y ∈ l := by
  unfold put at h
  rcases List.mem_append.1 h with h | h
  · exact .inr (List.mem_filter.1 h).1
  · rcases List.mem_cons.1 h with h | h
    · exact .inl h
    · exact .inr (List.mem_filter.1 h).1
theorem mem_drp {l : List It} {k : ByteArray} {y : It} (h : y ∈ drp l k) : y ∈ l := (List.mem_filter.1 h).1
theorem put_len (l : List It) (x : It) : (put l x).length ≤ l.length + 1 := by
  unfold put
  rw [List.length_append, List.length_cons]
  have : ∀ l : List It, (l.filter (fun y => klt y.key x.key)).length + (l.filter (fun y => klt x.key y.key)).length ≤ l.length := fun l => by
    induction l with
    | nil => simp
    | cons y l ih =>
      rw [List.filter_cons, List.filter_cons, List.length_cons]
      cases h1 : klt y.key x.key
      · split
        · contradiction
        · split
          · rw [List.length_cons]; omega
          · omega
      · rw [klt_asymm h1, if_pos rfl, if_neg (by decide), List.length_cons]; omega
  have := this l
  omega

/-! States, commands, answers -/
structure Ms where
  its : List It
  cas : Nat
  fl : Int
structure Cm where
  op : Int
  mode : Int
  key : ByteArray
  val : ByteArray
  flags : Nat
  exp : Int
  hasExp : Bool
  cas : Nat
  hasCas : Bool
  delta : Nat
  init : Nat
  down : Bool
  viv : Bool
  vive : Int
  rcc : Int
  inv : Bool
structure An where
  st : Int
  it : It
  n : Nat
  w : Bool
  x : Bool
  z : Bool
def emp : ByteArray := ⟨#[]⟩
def noIt : It := ⟨emp, 0, emp, 0, 0, 0, false, false⟩
def An.of (st : Int) : An := ⟨st, noIt, 0, false, false, false⟩
def An.is (st : Int) (x : It) : An := ⟨st, x, 0, false, false, false⟩
def noMs : Ms := ⟨[], 0, 0⟩
def farM (e : Int) : Bool := decide (-1099511627776 ≤ e) && decide (e ≤ 1099511627776)
def may (c : Cm) : Bool := decide (1 ≤ c.op) && (decide (c.op ≤ 7) && ((keyB c.key.data.toList || decide (c.op = 6)) && (decide (0 ≤ c.mode) && (decide (c.mode ≤ 4) && (decide (c.val.size ≤ 65536) && (farM c.exp && (farM c.vive && farM c.rcc)))))))
def moment (now e : Int) : Int := if e = 0 then 0 else if e < 0 then now else if e ≤ 2592000 then now + e else e
def gone (now : Int) (x : It) : Bool := decide (x.exp ≠ 0) && decide (x.exp ≤ now)
def live (s : Ms) (now : Int) : Ms := if s.fl ≠ 0 ∧ s.fl ≤ now then ⟨[], s.cas, 0⟩ else ⟨s.its.filter (fun x => !gone now x), s.cas, s.fl⟩
def bump (cas : Nat) : Nat := (cas + 1) % 18446744073709551616
/-- What a command does to the item of its key. -/
inductive Eff where
  | keep
  | put (y : It)
  | drp
def Eff.on (e : Eff) (l : List It) (k : ByteArray) : List It :=
  match e with
  | .keep => l
  | .put y => Md.put l y
  | .drp => Md.drp l k
def Eff.at (e : Eff) (o : Option It) : Option It :=
  match e with
  | .keep => o
  | .put y => some y
  | .drp => none
def Eff.For (e : Eff) (k : ByteArray) : Prop := ∀ y, e = .put y → y.key = k
theorem on_find {e : Eff} {k : ByteArray} (h : e.For k) (l : List It) (k' : ByteArray) : find (e.on l k) k' = if k' = k then e.at (find l k) else find l k' := by
  cases e with
  | keep => show find l k' = _; split <;> simp_all [Eff.at]
  | put y => show find (put l y) k' = _; rw [find_put, h y rfl]; rfl
  | drp => show find (drp l k) k' = _; rw [find_drp]; rfl
structure Out where
  e : Eff
  cas : Nat
  a : An
def Out.no (cas : Nat) (st : Int) : Out := ⟨.keep, cas, An.of st⟩
def getO (now : Int) (c : Cm) (cas : Nat) : Option It → Out
  | none => if c.viv then ⟨.put ⟨c.key, 0, emp, moment now c.vive, bump cas, 0, false, true⟩, bump cas, ⟨1, ⟨c.key, 0, emp, moment now c.vive, bump cas, 0, false, true⟩, 0, true, false, false⟩⟩ else Out.no cas 5
  | some x =>
    let wn := !x.won && (x.stale || (decide (0 ≤ c.rcc) && (decide (x.exp ≠ 0) && decide (x.exp - now < c.rcc))))
    let y : It := { x with won := x.won || wn, exp := if c.hasExp then moment now c.exp else x.exp, last := now }
    ⟨.put y, cas, ⟨1, y, 0, wn, x.stale, x.won⟩⟩
/-- What is stored, but for its token. -/
def stoY (now : Int) (c : Cm) (o : Option It) (stale : Bool) : It :=
  match o with
  | some x => if 3 ≤ c.mode then { x with val := if c.mode = 3 then x.val ++ c.val else c.val ++ x.val, stale := stale, won := false } else ⟨c.key, c.flags, c.val, moment now c.exp, 0, 0, stale, false⟩
  | none => ⟨c.key, c.flags, c.val, moment now c.exp, 0, 0, stale, false⟩
def stoE (most : Int) (cas : Nat) (y : It) : Out :=
  if most < ((y.key.size + y.val.size : Nat) : Int) then Out.no cas 11 else ⟨.put { y with cas := bump cas }, bump cas, An.is 2 { y with cas := bump cas }⟩
def stoO (now : Int) (c : Cm) (most : Int) (cas : Nat) (o : Option It) : Out :=
  if (c.mode = 1 ∧ o.isSome = true) ∨ (2 ≤ c.mode ∧ o.isSome = false) then Out.no cas 3
  else if c.hasCas = true then
    match o with
    | none => Out.no cas 5
    | some x => if x.cas ≠ c.cas ∧ ¬ (c.inv = true ∧ c.cas < x.cas) then Out.no cas 4 else stoE most cas (stoY now c o (decide (x.cas ≠ c.cas)))
  else stoE most cas (stoY now c o false)
def matE (most : Int) (cas : Nat) (y : It) (v : ByteArray) : Out :=
  if most < ((y.key.size + v.size : Nat) : Int) then Out.no cas 11
  else ⟨.put { y with cas := bump cas, val := v }, bump cas, ⟨6, { y with cas := bump cas, val := v }, (Nu.parseU v.data.toList).getD 0, false, false, false⟩⟩
def addU (l : List UInt8) (d : Nat) : Option (List UInt8) := (Nu.parseU l).map fun n => Lib.decDigits ((n + d) % 18446744073709551616)
def subU (l : List UInt8) (d : Nat) : Option (List UInt8) := (Nu.parseU l).map fun n => Lib.decDigits (n - d)
def matO (now : Int) (c : Cm) (most : Int) (cas : Nat) : Option It → Out
  | none => if c.viv then matE most cas ⟨c.key, 0, emp, moment now c.vive, 0, 0, false, false⟩ (S (Lib.decDigits c.init)) else Out.no cas 5
  | some x =>
    if c.hasCas = true ∧ x.cas ≠ c.cas then Out.no cas 4
    else
      match (if c.down then subU x.val.data.toList c.delta else addU x.val.data.toList c.delta) with
      | none => Out.no cas 7
      | some v => matE most cas (if c.hasExp then { x with exp := moment now c.exp } else x) (S v)
def touO (now : Int) (c : Cm) (cas : Nat) : Option It → Out
  | none => Out.no cas 5
  | some x => ⟨.put { x with exp := moment now c.exp }, cas, An.is 8 { x with exp := moment now c.exp }⟩
def delY (now : Int) (c : Cm) (cas : Nat) (x : It) : It := { x with cas := bump cas, stale := true, won := false, exp := if c.hasExp then moment now c.exp else x.exp }
def delO (now : Int) (c : Cm) (cas : Nat) : Option It → Out
  | none => Out.no cas 5
  | some x =>
    if c.hasCas = true ∧ x.cas ≠ c.cas then Out.no cas 4
    else if c.inv = false then ⟨.drp, cas, An.of 9⟩
    else ⟨.put (delY now c cas x), bump cas, An.is 9 (delY now c cas x)⟩
def looO (cas : Nat) : Option It → Out
  | none => Out.no cas 5
  | some x => ⟨.keep, cas, An.is 1 x⟩
def core (now : Int) (c : Cm) (most : Int) (cas : Nat) (o : Option It) : Out :=
  if c.op = 1 then getO now c cas o
  else if c.op = 2 then stoO now c most cas o
  else if c.op = 3 then matO now c most cas o
  else if c.op = 4 then touO now c cas o
  else if c.op = 5 then delO now c cas o
  else looO cas o
def fine (now : Int) (c : Cm) : Bool := may c && (decide (1 ≤ now) && decide (now ≤ 1099511627776))
def apply (s : Ms) (now : Int) (c : Cm) (most : Int) : Ms × An :=
  if fine now c = false then (noMs, An.of 0)
  else if c.op = 6 then
    (if now < moment now c.exp then ⟨(live s now).its, (live s now).cas, moment now c.exp⟩ else ⟨[], (live s now).cas, 0⟩, An.of 10)
  else
    let o := core now c most (live s now).cas (find (live s now).its c.key)
    (⟨o.e.on (live s now).its c.key, o.cas, (live s now).fl⟩, o.a)
end Go.Proofs.YtggeccndmmmnjaaDoor.Md
namespace Go.Proofs.YtggeccndmmmnjaaDoor.Md
open Go

theorem zf : (0 : Nat) ≤ 4294967295 := by decide
theorem zc : (0 : Nat) ≤ 18446744073709551615 := by decide
theorem z0 : (-9223372036854775808 : Int) ≤ 0 := by decide
theorem z1 : (0 : Int) ≤ 9223372036854775807 := by decide
theorem zz : (0 : Int) ≤ 0 := by decide
/-- What each field of a command may hold, by its type. -/
structure Cm.Ok (c : Cm) : Prop where
  op : -9223372036854775808 ≤ c.op ∧ c.op ≤ 9223372036854775807
  mode : -9223372036854775808 ≤ c.mode ∧ c.mode ≤ 9223372036854775807
  flags : c.flags ≤ 4294967295
  exp : -9223372036854775808 ≤ c.exp ∧ c.exp ≤ 9223372036854775807
  cas : c.cas ≤ 18446744073709551615
  delta : c.delta ≤ 18446744073709551615
  init : c.init ≤ 18446744073709551615
  vive : -9223372036854775808 ≤ c.vive ∧ c.vive ≤ 9223372036854775807
  rcc : -9223372036854775808 ≤ c.rcc ∧ c.rcc ≤ 9223372036854775807
/-- An item that is not over great. -/
structure It.Fit (B : Nat) (x : It) : Prop where
  ok : x.Ok
  exp : 0 ≤ x.exp
  key : x.key.size ≤ 250
  val : x.val.size ≤ B
structure Fit (N B : Nat) (s : Ms) : Prop where
  sorted : Sorted s.its
  its : ∀ x ∈ s.its, It.Fit B x
  cas : s.cas ≤ 18446744073709551615
  fl0 : 0 ≤ s.fl
  fl1 : s.fl ≤ 9223372036854775807
  len : s.its.length ≤ N
theorem Fit.mono {N M B : Nat} {s : Ms} (h : Fit N B s) (hm : N ≤ M) : Fit M B s := ⟨h.sorted, h.its, h.cas, h.fl0, h.fl1, Nat.le_trans h.len hm⟩
theorem fit_no (N B : Nat) : Fit N B noMs := ⟨List.Pairwise.nil, fun x hx => (by cases hx), by decide, by decide, by decide, Nat.zero_le _⟩
theorem fine_parts {now : Int} {c : Cm} (h : fine now c = true) : 1 ≤ c.op ∧ c.op ≤ 7 ∧ (keyB c.key.data.toList = true ∨ c.op = 6) ∧ 0 ≤ c.mode ∧ c.mode ≤ 4 ∧ c.val.size ≤ 65536 ∧ (-1099511627776 ≤ c.exp ∧ c.exp ≤ 1099511627776) ∧ (-1099511627776 ≤ c.vive ∧ c.vive ≤ 1099511627776) ∧ (-1099511627776 ≤ c.rcc ∧ c.rcc ≤ 1099511627776) ∧ 1 ≤ now ∧ now ≤ 1099511627776 := by
  unfold fine may farM at h
  simp only [Bool.and_eq_true, Bool.or_eq_true, decide_eq_true_eq] at h
  obtain ⟨⟨a, b, c, d, e, f, g, i, j⟩, k, l⟩ := h
  exact ⟨a, b, c, d, e, f, g, i, j, k, l⟩
theorem moment_range {now e : Int} (h1 : 1 ≤ now) (h2 : now ≤ 1099511627776) (h4 : e ≤ 1099511627776) : 0 ≤ moment now e ∧ moment now e ≤ 1099514219776 := by
  unfold moment
  split
  · omega
  · split
    · omega
    · split <;> omega
theorem bump_le (n : Nat) : bump n ≤ 18446744073709551615 := by
  have : bump n < 18446744073709551616 := Nat.mod_lt _ (by decide)
  omega
theorem noIt_fit (B : Nat) : It.Fit B noIt := ⟨⟨by decide, by decide, by decide, by decide, by decide, by decide⟩, by decide, by decide, Nat.zero_le _⟩
/-- What a core makes of an item is not over great, and of the key. -/
structure OutOk (B : Nat) (k : ByteArray) (o : Out) : Prop where
  put : ∀ y, o.e = .put y → It.Fit B y ∧ y.key = k
  cas : o.cas ≤ 18446744073709551615
theorem OutOk.no {B cas : Nat} {k : ByteArray} {st : Int} (h : cas ≤ 18446744073709551615) : OutOk B k (Out.no cas st) := ⟨fun y e => (by cases e), h⟩
section
variable {B cas : Nat} {now : Int} {c : Cm} {most : Int} {o : Option It}
theorem keyfine (hf : fine now c = true) (h6 : c.op ≠ 6) : c.key.size ≤ 250 := by
  obtain ⟨_, _, hk, _⟩ := fine_parts hf
  have := keyB_parts (hk.resolve_right h6)
  rw [size_len]; exact this.2.1
theorem getO_ok (hf : fine now c = true) (h6 : c.op ≠ 6) (hc : cas ≤ 18446744073709551615) (ho : ∀ x, o = some x → It.Fit B x ∧ x.key = c.key) : OutOk B c.key (getO now c cas o) := by
  obtain ⟨p1, p2, p3, p4, p5, p6, p7, p8, p9, p10, p11⟩ := fine_parts hf
  have m1 := moment_range (e := c.vive) p10 p11 p8.2
  have m2 := moment_range (e := c.exp) p10 p11 p7.2
  cases o with
  | none =>
    unfold getO
    show OutOk B c.key (if _ then _ else _)
    split
    · refine ⟨fun y e => ?_, bump_le _⟩
      injection e with e
      subst e
      exact ⟨⟨⟨zf, by show _ ≤ moment now c.vive; omega, by show moment now c.vive ≤ _; omega, bump_le _, z0, z1⟩, m1.1, keyfine hf h6, Nat.zero_le _⟩, rfl⟩
    · exact OutOk.no hc
  | some x =>
    obtain ⟨q, hk⟩ := ho x rfl
    refine ⟨fun y e => ?_, hc⟩
    injection e with e
    subst e
    refine ⟨⟨⟨q.ok.flags, ?_, ?_, q.ok.cas, by show _ ≤ now; omega, by show now ≤ _; omega⟩, ?_, q.key, q.val⟩, hk⟩
    · show _ ≤ (if c.hasExp = true then moment now c.exp else x.exp)
      have := q.ok.exp0; split <;> omega
    · show (if c.hasExp = true then moment now c.exp else x.exp) ≤ _
      have := q.ok.exp1; split <;> omega
    · show 0 ≤ (if c.hasExp = true then moment now c.exp else x.exp)
      have := q.exp; split <;> omega
theorem stoE_ok {y : It} (hc : cas ≤ 18446744073709551615) (hm : most ≤ (B : Int)) (hy : It.Ok y ∧ 0 ≤ y.exp ∧ y.key.size ≤ 250 ∧ y.key = c.key) : OutOk B c.key (stoE most cas y) := by
  unfold stoE
  split
  · exact OutOk.no hc
  · refine ⟨fun z e => ?_, bump_le _⟩
    injection e with e
    subst e
    exact ⟨⟨⟨hy.1.flags, hy.1.exp0, hy.1.exp1, bump_le _, hy.1.last0, hy.1.last1⟩, hy.2.1, hy.2.2.1, by show y.val.size ≤ B; omega⟩, hy.2.2.2⟩
theorem stoY_ok (hf : fine now c = true) (h6 : c.op ≠ 6) (ck : c.Ok) (st : Bool) (ho : ∀ x, o = some x → It.Fit B x ∧ x.key = c.key) : It.Ok (stoY now c o st) ∧ 0 ≤ (stoY now c o st).exp ∧ (stoY now c o st).key.size ≤ 250 ∧ (stoY now c o st).key = c.key := by
  obtain ⟨p1, p2, p3, p4, p5, p6, p7, p8, p9, p10, p11⟩ := fine_parts hf
  have m2 := moment_range (e := c.exp) p10 p11 p7.2
  have hn : It.Ok ⟨c.key, c.flags, c.val, moment now c.exp, 0, 0, st, false⟩ ∧ 0 ≤ moment now c.exp ∧ c.key.size ≤ 250 ∧ c.key = c.key :=
    ⟨⟨ck.flags, by show _ ≤ moment now c.exp; omega, by show moment now c.exp ≤ _; omega, zc, z0, z1⟩, m2.1, keyfine hf h6, rfl⟩
  cases o with
  | none => exact hn
  | some x =>
    obtain ⟨q, hk⟩ := ho x rfl
    unfold stoY
    show It.Ok (if 3 ≤ c.mode then _ else _) ∧ 0 ≤ (if 3 ≤ c.mode then _ else _ : It).exp ∧ (if 3 ≤ c.mode then _ else _ : It).key.size ≤ 250 ∧ (if 3 ≤ c.mode then _ else _ : It).key = c.key
    split
    · exact ⟨⟨q.ok.flags, q.ok.exp0, q.ok.exp1, q.ok.cas, q.ok.last0, q.ok.last1⟩, q.exp, q.key, hk⟩
    · exact hn
theorem stoO_ok (hf : fine now c = true) (h6 : c.op ≠ 6) (ck : c.Ok) (hc : cas ≤ 18446744073709551615) (hm : most ≤ (B : Int)) (ho : ∀ x, o = some x → It.Fit B x ∧ x.key = c.key) : OutOk B c.key (stoO now c most cas o) := by
  unfold stoO
  split
  · exact OutOk.no hc
  · split
    · cases o with
      | none => exact OutOk.no hc
      | some x =>
        show OutOk B c.key (if _ then _ else _)
        split
        · exact OutOk.no hc
        · exact stoE_ok hc hm (stoY_ok hf h6 ck _ ho)
    · exact stoE_ok hc hm (stoY_ok hf h6 ck _ ho)
theorem matE_ok {y : It} {v : ByteArray} (hc : cas ≤ 18446744073709551615) (hm : most ≤ (B : Int)) (hy : It.Ok y ∧ 0 ≤ y.exp ∧ y.key.size ≤ 250 ∧ y.key = c.key) : OutOk B c.key (matE most cas y v) := by
  unfold matE
  split
  · exact OutOk.no hc
  · refine ⟨fun z e => ?_, bump_le _⟩
    injection e with e
    subst e
    exact ⟨⟨⟨hy.1.flags, hy.1.exp0, hy.1.exp1, bump_le _, hy.1.last0, hy.1.last1⟩, hy.2.1, hy.2.2.1, by show v.size ≤ B; omega⟩, hy.2.2.2⟩
theorem matO_ok (hf : fine now c = true) (h6 : c.op ≠ 6) (hc : cas ≤ 18446744073709551615) (hm : most ≤ (B : Int)) (ho : ∀ x, o = some x → It.Fit B x ∧ x.key = c.key) : OutOk B c.key (matO now c most cas o) := by
  obtain ⟨p1, p2, p3, p4, p5, p6, p7, p8, p9, p10, p11⟩ := fine_parts hf
  have m1 := moment_range (e := c.vive) p10 p11 p8.2
  have m2 := moment_range (e := c.exp) p10 p11 p7.2
  cases o with
  | none =>
    unfold matO
    show OutOk B c.key (if _ then _ else _)
    split
    · exact matE_ok hc hm ⟨⟨zf, by show _ ≤ moment now c.vive; omega, by show moment now c.vive ≤ _; omega, zc, z0, z1⟩, m1.1, keyfine hf h6, rfl⟩
    · exact OutOk.no hc
  | some x =>
    obtain ⟨q, hk⟩ := ho x rfl
    unfold matO
    show OutOk B c.key (if _ then _ else _)
    split
    · exact OutOk.no hc
    · split
      · exact OutOk.no hc
      · refine matE_ok hc hm ?_
        split
        · exact ⟨⟨q.ok.flags, by show _ ≤ moment now c.exp; omega, by show moment now c.exp ≤ _; omega, q.ok.cas, q.ok.last0, q.ok.last1⟩, m2.1, q.key, hk⟩
        · exact ⟨q.ok, q.exp, q.key, hk⟩
theorem touO_ok (hf : fine now c = true) (hc : cas ≤ 18446744073709551615) (ho : ∀ x, o = some x → It.Fit B x ∧ x.key = c.key) : OutOk B c.key (touO now c cas o) := by
  obtain ⟨p1, p2, p3, p4, p5, p6, p7, p8, p9, p10, p11⟩ := fine_parts hf
  have m2 := moment_range (e := c.exp) p10 p11 p7.2
  cases o with
  | none => exact OutOk.no hc
  | some x =>
    obtain ⟨q, hk⟩ := ho x rfl
    refine ⟨fun y e => ?_, hc⟩
    injection e with e
    subst e
    exact ⟨⟨⟨q.ok.flags, by show _ ≤ moment now c.exp; omega, by show moment now c.exp ≤ _; omega, q.ok.cas, q.ok.last0, q.ok.last1⟩, m2.1, q.key, q.val⟩, hk⟩
theorem delO_ok (hf : fine now c = true) (hc : cas ≤ 18446744073709551615) (ho : ∀ x, o = some x → It.Fit B x ∧ x.key = c.key) : OutOk B c.key (delO now c cas o) := by
  obtain ⟨p1, p2, p3, p4, p5, p6, p7, p8, p9, p10, p11⟩ := fine_parts hf
  have m2 := moment_range (e := c.exp) p10 p11 p7.2
  cases o with
  | none => exact OutOk.no hc
  | some x =>
    obtain ⟨q, hk⟩ := ho x rfl
    unfold delO
    show OutOk B c.key (if _ then _ else _)
    split
    · exact OutOk.no hc
    · split
      · exact ⟨fun y e => (by cases e), hc⟩
      · refine ⟨fun y e => ?_, bump_le _⟩
        injection e with e
        subst e
        refine ⟨⟨⟨q.ok.flags, ?_, ?_, bump_le _, q.ok.last0, q.ok.last1⟩, ?_, q.key, q.val⟩, hk⟩
        · show _ ≤ (if c.hasExp = true then moment now c.exp else x.exp)
          have := q.ok.exp0; split <;> omega
        · show (if c.hasExp = true then moment now c.exp else x.exp) ≤ _
          have := q.ok.exp1; split <;> omega
        · show 0 ≤ (if c.hasExp = true then moment now c.exp else x.exp)
          have := q.exp; split <;> omega
theorem looO_ok (hc : cas ≤ 18446744073709551615) : OutOk B c.key (looO cas o) := by
  cases o with
  | none => exact OutOk.no hc
  | some x => exact ⟨fun y e => (by cases e), hc⟩
theorem core_ok (hf : fine now c = true) (h6 : c.op ≠ 6) (ck : c.Ok) (hc : cas ≤ 18446744073709551615) (hm : most ≤ (B : Int)) (ho : ∀ x, o = some x → It.Fit B x ∧ x.key = c.key) : OutOk B c.key (core now c most cas o) := by
  unfold core
  split
  · exact getO_ok hf h6 hc ho
  · split
    · exact stoO_ok hf h6 ck hc hm ho
    · split
      · exact matO_ok hf h6 hc hm ho
      · split
        · exact touO_ok hf hc ho
        · split
          · exact delO_ok hf hc ho
          · exact looO_ok hc
end
theorem Fit.live {N B : Nat} {s : Ms} (h : Fit N B s) (now : Int) : Fit N B (live s now) := by
  unfold Md.live
  split
  · exact ⟨List.Pairwise.nil, fun x hx => (by cases hx), h.cas, zz, z1, Nat.zero_le _⟩
  · exact ⟨h.sorted.filter _, fun x hx => h.its x (List.mem_filter.1 hx).1, h.cas, h.fl0, h.fl1, Nat.le_trans (List.length_filter_le _ _) h.len⟩
theorem find_fit {N B : Nat} {s : Ms} (h : Fit N B s) (k : ByteArray) : ∀ x, find s.its k = some x → It.Fit B x ∧ x.key = k := fun x hx => ⟨h.its x (find_some hx).1, (find_some hx).2⟩
theorem Fit.apply {N B : Nat} {s : Ms} (h : Fit N B s) {now : Int} {c : Cm} (ck : c.Ok) {most : Int} (hm : most ≤ (B : Int)) : Fit (N + 1) B (apply s now c most).1 := by
  have hl := h.live now
  unfold Md.apply
  split
  · exact fit_no _ _
  · rename_i hf
    have hf : fine now c = true := by simpa using hf
    obtain ⟨p1, p2, p3, p4, p5, p6, p7, p8, p9, p10, p11⟩ := fine_parts hf
    have m2 := moment_range (e := c.exp) p10 p11 p7.2
    split
    · show Fit (N + 1) B (if now < moment now c.exp then _ else _)
      split
      · exact ⟨hl.sorted, hl.its, hl.cas, m2.1, by show moment now c.exp ≤ _; omega, Nat.le_succ_of_le hl.len⟩
      · exact ⟨List.Pairwise.nil, fun x hx => (by cases hx), hl.cas, zz, z1, Nat.zero_le _⟩
    · rename_i h6
      have hk := core_ok hf h6 ck (most := most) hl.cas hm (find_fit hl c.key)
      generalize core now c most (Md.live s now).cas (find (Md.live s now).its c.key) = o at *
      obtain ⟨e, cas, a⟩ := o
      show Fit (N + 1) B ⟨e.on (Md.live s now).its c.key, cas, (Md.live s now).fl⟩
      cases e with
      | keep => exact ⟨hl.sorted, hl.its, hk.cas, hl.fl0, hl.fl1, Nat.le_succ_of_le hl.len⟩
      | put y =>
        refine ⟨hl.sorted.put y, fun x hx => ?_, hk.cas, hl.fl0, hl.fl1, Nat.le_trans (put_len _ _) (Nat.succ_le_succ hl.len)⟩
        rcases mem_put hx with e | e
        · rw [e]; exact (hk.put y rfl).1
        · exact hl.its x e
      | drp => exact ⟨hl.sorted.drp _, fun x hx => hl.its x (mem_drp hx), hk.cas, hl.fl0, hl.fl1, Nat.le_succ_of_le (Nat.le_trans (List.length_filter_le _ _) hl.len)⟩

/-! States of one key -/
theorem toList_filter (o : Option It) (p : It → Bool) : o.toList.filter p = (o.filter p).toList := by
  cases o with
  | none => rfl
  | some x =>
    cases h : p x
    · simp [Option.filter, h]
    · simp [Option.filter, h]
theorem core_for {now : Int} {c : Cm} {most : Int} {cas : Nat} {o : Option It} (ho : ∀ x, o = some x → x.key = c.key) : ∀ y, (core now c most cas o).e = .put y → y.key = c.key := by
  have hE : ∀ y : It, y.key = c.key → ∀ z, (stoE most cas y).e = .put z → z.key = c.key := fun y hy z e => by
    unfold stoE at e
    split at e
    · cases e
    · injection e with e; rw [← e]; exact hy
  have hY : ∀ st, (stoY now c o st).key = c.key := fun st => by
    cases o with
    | none => rfl
    | some x =>
      unfold stoY
      show (if 3 ≤ c.mode then _ else _ : It).key = _
      split
      · exact ho x rfl
      · rfl
  have hM : ∀ (y : It) v, y.key = c.key → ∀ z, (matE most cas y v).e = .put z → z.key = c.key := fun y v hy z e => by
    unfold matE at e
    split at e
    · cases e
    · injection e with e; rw [← e]; exact hy
  intro y e
  unfold core at e
  split at e
  · cases o with
    | none =>
      unfold getO at e
      dsimp only at e
      split at e
      · injection e with e; rw [← e]
      · cases e
    | some x => injection e with e; rw [← e]; exact ho x rfl
  · split at e
    · unfold stoO at e
      split at e
      · cases e
      · split at e
        · cases o with
          | none => cases e
          | some x =>
            dsimp only at e
            split at e
            · cases e
            · exact hE _ (hY _) y e
        · exact hE _ (hY _) y e
    · split at e
      · cases o with
        | none =>
          unfold matO at e
          dsimp only at e
          split at e
          · exact hM _ _ rfl y e
          · cases e
        | some x =>
          unfold matO at e
          dsimp only at e
          split at e
          · cases e
          · split at e
            · cases e
            · refine hM _ _ ?_ y e
              split
              · exact ho x rfl
              · exact ho x rfl
      · split at e
        · cases o with
          | none => cases e
          | some x => injection e with e; rw [← e]; exact ho x rfl
        · split at e
          · cases o with
            | none => cases e
            | some x =>
              unfold delO at e
              dsimp only at e
              split at e
              · cases e
              · split at e
                · cases e
                · injection e with e; rw [← e]; exact ho x rfl
          · cases o with
            | none => cases e
            | some x => cases e
theorem one_step {o : Option It} {cas : Nat} {now : Int} {c : Cm} {most : Int} (hk : ∀ x, o = some x → x.key = c.key) (hf : fine now c = true) (h6 : c.op ≠ 6) :
    apply ⟨o.toList, cas, 0⟩ now c most = (⟨((core now c most cas (o.filter (fun x => !gone now x))).e.at (o.filter (fun x => !gone now x))).toList, (core now c most cas (o.filter (fun x => !gone now x))).cas, 0⟩, (core now c most cas (o.filter (fun x => !gone now x))).a) := by
  have hl : live ⟨o.toList, cas, 0⟩ now = ⟨(o.filter (fun x => !gone now x)).toList, cas, 0⟩ := by
    unfold live
    rw [if_neg (by simp), toList_filter]
  have hk' : ∀ x, o.filter (fun x => !gone now x) = some x → x.key = c.key := fun x hx => hk x (by
    cases o with
    | none => simp at hx
    | some y =>
      have := Option.filter_eq_some_iff.1 hx
      exact this.1)
  unfold apply
  rw [if_neg (by rw [hf]; decide), if_neg h6, hl]
  generalize o.filter (fun x => !gone now x) = q at *
  have hfd : find q.toList c.key = q := by
    cases q with
    | none => rfl
    | some x => show find [x] c.key = _; rw [find_cons, if_pos (hk' x rfl)]
  have hp := core_for (now := now) (most := most) (cas := cas) hk'
  dsimp only
  rw [hfd]
  generalize core now c most cas q = r at *
  obtain ⟨e, cas2, a⟩ := r
  dsimp only at hp ⊢
  have : e.on q.toList c.key = (e.at q).toList := by
    cases e with
    | keep => rfl
    | put y =>
      have hy := hp y rfl
      cases q with
      | none => rfl
      | some x =>
        show put [x] y = [y]
        unfold put
        have hx := hk' x rfl
        simp [hx, hy, klt_irrefl]
    | drp =>
      cases q with
      | none => rfl
      | some x =>
        show drp [x] c.key = []
        unfold drp
        simp [hk' x rfl]
  rw [this]
end Go.Proofs.YtggeccndmmmnjaaDoor.Md

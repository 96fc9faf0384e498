/-
  Plain mathematics of items, no program in it: numbers as bytes, the lowest first; what an item's bytes are; which item stands at the beginning of bytes. No conditions.
-/
import Derived.Lib.Strings
namespace Go.Proofs.YtkaaebjifkbclaaDoor
open Go

/-- A row of bytes as a string. -/
def S (l : List UInt8) : ByteArray := ⟨l.toArray⟩
theorem size_len (s : ByteArray) : s.size = s.data.toList.length := Lib.size_eq s
theorem S_list (l : List UInt8) : (S l).data.toList = l := by simp [S]
theorem S_size (l : List UInt8) : (S l).size = l.length := by rw [size_len, S_list]
theorem S_of (s : ByteArray) : S s.data.toList = s := Lib.mk_data s
theorem S_inj {a b : List UInt8} : S a = S b ↔ a = b := ⟨fun h => by rw [← S_list a, h, S_list], fun h => by rw [h]⟩

def keyByte (c : UInt8) : Bool := decide (33 ≤ c.toNat) && decide (c.toNat ≠ 127)
def keyB (l : List UInt8) : Bool := decide (1 ≤ l.length) && decide (l.length ≤ 250) && l.all keyByte
theorem keyB_parts {l : List UInt8} (h : keyB l = true) : 1 ≤ l.length ∧ l.length ≤ 250 ∧ ∀ c ∈ l, 33 ≤ c.toNat ∧ c.toNat ≠ 127 := by
  simpa [keyB, keyByte, and_assoc] using h
theorem keyB_bad {l : List UInt8} {c : UInt8} (hm : c ∈ l) (h : c.toNat < 33 ∨ c.toNat = 127) : keyB l = false := by
  rw [Bool.eq_false_iff]
  intro e
  have := (keyB_parts e).2.2 c hm
  omega

/-- A number's lowest k bytes, the lowest first. -/
def le : Nat → Nat → List UInt8
  | 0, _ => []
  | k + 1, n => UInt8.ofNat (n % 256) :: le k (n / 256)
/-- The number that bytes are. -/
def num : List UInt8 → Nat
  | [] => 0
  | c :: r => c.toNat + 256 * num r
theorem le_len : ∀ k n, (le k n).length = k
  | 0, _ => rfl
  | k + 1, n => by rw [le, List.length_cons, le_len k]
theorem num_le : ∀ k n, num (le k n) = n % 256 ^ k
  | 0, n => by rw [Nat.pow_zero, Nat.mod_one]; rfl
  | k + 1, n => by
    have h8 : (n % 256) % 2 ^ 8 = n % 256 := Nat.mod_mod_of_dvd _ (by decide)
    rw [le, num, num_le k, UInt8.toNat_ofNat', h8, Nat.pow_succ, Nat.mul_comm (256 ^ k) 256, Nat.mod_mul]
theorem num_lt : ∀ l : List UInt8, num l < 256 ^ l.length
  | [] => by simp [num]
  | c :: r => by
    have h := num_lt r
    have hc := c.toNat_lt
    rw [num, List.length_cons, Nat.pow_succ]
    omega
theorem le_num : ∀ l : List UInt8, le l.length (num l) = l
  | [] => rfl
  | c :: r => by
    have hc := c.toNat_lt
    rw [num, List.length_cons, le, Nat.add_mul_mod_self_left, Nat.mod_eq_of_lt (by omega), UInt8.ofNat_toNat]
    rw [show (c.toNat + 256 * num r) / 256 = num r by omega, le_num r]
theorem num_append : ∀ a b : List UInt8, num (a ++ b) = num a + 256 ^ a.length * num b
  | [], b => by simp [num]
  | c :: r, b => by
    rw [List.cons_append, num, num, num_append r b, List.length_cons, Nat.pow_succ, Nat.mul_add, Nat.add_assoc]
    congr 2
    rw [Nat.mul_comm (256 ^ r.length) 256, Nat.mul_assoc]
theorem le_add : ∀ a b n, le (a + b) n = le a n ++ le b (n / 256 ^ a)
  | 0, b, n => by simp [le]
  | a + 1, b, n => by
    rw [show a + 1 + b = (a + b) + 1 by omega, le, le_add a b, le, List.cons_append, Nat.pow_succ, Nat.mul_comm (256 ^ a) 256, Nat.div_div_eq_div_mul]
theorem le_zero : ∀ k, le k 0 = List.replicate k 0
  | 0 => rfl
  | k + 1 => by rw [le, Nat.zero_mod, Nat.zero_div, le_zero k, List.replicate_succ]; rfl
theorem le_at : ∀ (k n i : Nat), i < k → (le k n)[i]? = some (UInt8.ofNat (n / 256 ^ i % 256))
  | 0, _, _, h => absurd h (by omega)
  | k + 1, n, 0, _ => by simp [le]
  | k + 1, n, i + 1, h => by
    rw [le, List.getElem?_cons_succ, le_at k (n / 256) i (by omega), Nat.div_div_eq_div_mul, Nat.pow_succ, Nat.mul_comm 256]
theorem le_inj {k m n : Nat} (h : le k m = le k n) (hm : m < 256 ^ k) (hn : n < 256 ^ k) : m = n := by
  have := congrArg num h
  rwa [num_le, num_le, Nat.mod_eq_of_lt hm, Nat.mod_eq_of_lt hn] at this
theorem num_one (c : UInt8) : num [c] = c.toNat := by simp [num]
theorem num_take_succ {l : List UInt8} {i : Nat} (h : i < l.length) : num (l.take (i + 1)) = num (l.take i) + 256 ^ i * (l[i]).toNat := by
  rw [List.take_succ_eq_append_getElem h, num_append, num_one, List.length_take, Nat.min_eq_left (by omega)]
theorem num_drop {l : List UInt8} {i : Nat} (h : i < l.length) : num (l.drop i) = l[i].toNat + 256 * num (l.drop (i + 1)) := by
  rw [List.drop_eq_getElem_cons h, num]
theorem num_eq_zero : ∀ {l : List UInt8}, num l = 0 → ∀ c ∈ l, c.toNat = 0
  | [], _, c, hc => by cases hc
  | d :: r, h, c, hc => by
    rw [num] at h
    rcases List.mem_cons.1 hc with rfl | hc
    · omega
    · exact num_eq_zero (by omega) c hc

/-- Bytes a to b. -/
def fld (l : List UInt8) (a b : Nat) : List UInt8 := (l.drop a).take (b - a)
theorem fld_len {l : List UInt8} {a b : Nat} (h1 : a ≤ b) (h2 : b ≤ l.length) : (fld l a b).length = b - a := by
  unfold fld; rw [List.length_take, List.length_drop]; omega
theorem fld_at {l p q r : List UInt8} {a b : Nat} (h : l = p ++ (q ++ r)) (ha : p.length = a) (hb : a + q.length = b) : fld l a b = q := by
  subst h
  unfold fld
  rw [← ha, List.drop_left, show b - p.length = q.length by omega, List.take_left]
theorem fld_getElem? {l : List UInt8} {a b i : Nat} (h : i < b - a) : (fld l a b)[i]? = l[a + i]? := by
  unfold fld; rw [List.getElem?_take, if_pos h, List.getElem?_drop]
theorem fld_one {l : List UInt8} {a : Nat} (h : a < l.length) : fld l a (a + 1) = [l[a]] := by
  unfold fld; rw [Nat.add_sub_cancel_left, List.drop_eq_getElem_cons h, List.take_succ_cons, List.take_zero]
theorem fld_join {l : List UInt8} {a b c : Nat} (h1 : a ≤ b) (h2 : b ≤ c) : fld l a c = fld l a b ++ fld l b c := by
  unfold fld
  rw [show c - a = (b - a) + (c - b) by omega, List.take_add, List.drop_drop, show a + (b - a) = b by omega]
theorem fld_take {l : List UInt8} {a b k : Nat} (h : b ≤ k) : fld (l.take k) a b = fld l a b := by
  unfold fld
  rw [List.drop_take, List.take_take, Nat.min_eq_left (by omega)]
theorem fld_set {l : List UInt8} {a b k : Nat} {c : UInt8} (h : k < a ∨ b ≤ k) : fld (l.set k c) a b = fld l a b := by
  apply List.ext_getElem?
  intro i
  by_cases hi : i < b - a
  · rw [fld_getElem? hi, fld_getElem? hi, List.getElem?_set_ne (by omega)]
  · unfold fld; rw [List.getElem?_take, List.getElem?_take, if_neg hi, if_neg hi]

structure It where
  key : ByteArray
  flags : Nat
  val : ByteArray
  exp : Int
  cas : Nat
  last : Int
  stale : Bool
  won : Bool
theorem It.eq_of {x y : It} (h1 : x.key = y.key) (h2 : x.flags = y.flags) (h3 : x.val = y.val) (h4 : x.exp = y.exp) (h5 : x.cas = y.cas) (h6 : x.last = y.last) (h7 : x.stale = y.stale) (h8 : x.won = y.won) : x = y := by
  cases x; cases y; simp_all

/-- What each field may hold, by its type. -/
structure It.Ok (x : It) : Prop where
  flags : x.flags ≤ 4294967295
  exp0 : -9223372036854775808 ≤ x.exp
  exp1 : x.exp ≤ 9223372036854775807
  cas : x.cas ≤ 18446744073709551615
  last0 : -9223372036854775808 ≤ x.last
  last1 : x.last ≤ 9223372036854775807

def It.right (x : It) : Bool := keyB x.key.data.toList && (decide (x.val.size ≤ 65536) && (decide (0 ≤ x.exp) && decide (0 ≤ x.last)))
theorem It.right_parts {x : It} (h : x.right = true) : 1 ≤ x.key.size ∧ x.key.size ≤ 250 ∧ keyB x.key.data.toList = true ∧ x.val.size ≤ 65536 ∧ 0 ≤ x.exp ∧ 0 ≤ x.last := by
  unfold It.right at h
  simp only [Bool.and_eq_true, decide_eq_true_eq] at h
  obtain ⟨h1, h2, h3, h4⟩ := h
  have := keyB_parts h1
  rw [← size_len] at this
  exact ⟨this.1, this.2.1, h1, h2, h3, h4⟩

def It.marks (x : It) : Nat := (if x.stale = true then 1 else 0) + (if x.won = true then 2 else 0)
theorem It.marks_le (x : It) : x.marks ≤ 3 := by unfold It.marks; split <;> split <;> omega
theorem It.marks_stale (x : It) : decide (x.marks % 2 = 1) = x.stale := by
  unfold It.marks; cases x.stale <;> cases x.won <;> rfl
theorem It.marks_won (x : It) : decide (x.marks / 2 = 1) = x.won := by
  unfold It.marks; cases x.stale <;> cases x.won <;> rfl

/-- The 40 bytes ahead of key and value; all bytes. -/
def It.head (x : It) : List UInt8 :=
  le 1 x.key.size ++ (le 3 x.marks ++ (le 4 x.flags ++ (le 8 x.val.size ++ (le 8 x.exp.toNat ++ (le 8 x.cas ++ le 8 x.last.toNat)))))
def It.enc (x : It) : List UInt8 := x.head ++ (x.key.data.toList ++ x.val.data.toList)
theorem It.head_len (x : It) : x.head.length = 40 := by unfold It.head; simp [le_len]
theorem It.enc_len (x : It) : x.enc.length = 40 + x.key.size + x.val.size := by
  unfold It.enc; rw [List.length_append, List.length_append, It.head_len, ← size_len, ← size_len]; omega

def toI (n : Nat) : Int := if n < 9223372036854775808 then (n : Int) else (n : Int) - 18446744073709551616
def dK (l : List UInt8) : Nat := num (fld l 0 1)
def dM (l : List UInt8) : Nat := num (fld l 1 2)
def dV (l : List UInt8) : Nat := num (fld l 8 12)
def theIt (l : List UInt8) : It :=
  ⟨S (fld l 40 (40 + dK l)), num (fld l 4 8), S (fld l (40 + dK l) (40 + dK l + dV l)), toI (num (fld l 16 24)), num (fld l 24 32), toI (num (fld l 32 40)), decide (dM l % 2 = 1), decide (dM l / 2 = 1)⟩
/-- Are the noughts and the marks such as they may be? -/
def headB (l : List UInt8) : Bool := decide (num (fld l 2 4) = 0) && decide (num (fld l 12 16) = 0) && decide (dM l ≤ 3)
def fitsB (l : List UInt8) : Bool := decide (40 ≤ l.length) && (headB l && decide (dV l ≤ 65536 ∧ 40 + dK l + dV l ≤ l.length))
def zero : It := ⟨⟨#[]⟩, 0, ⟨#[]⟩, 0, 0, 0, false, false⟩
def dec (l : List UInt8) : Option It := if fitsB l = true then (if (theIt l).right = true then some (theIt l) else none) else none

theorem fld_num_lt {l : List UInt8} {a b m : Nat} (h : b - a ≤ m) : num (fld l a b) < 256 ^ m := by
  refine Nat.lt_of_lt_of_le (num_lt _) (Nat.pow_le_pow_right (by decide) ?_)
  unfold fld; rw [List.length_take]; omega
theorem dK_lt (l : List UInt8) : dK l < 256 := fld_num_lt (m := 1) (Nat.le_refl _)
theorem dM_lt (l : List UInt8) : dM l < 256 := fld_num_lt (m := 1) (by decide)
theorem dV_lt (l : List UInt8) : dV l < 4294967296 := fld_num_lt (m := 4) (by decide)
theorem toI_range {n : Nat} (h : n < 18446744073709551616) : -9223372036854775808 ≤ toI n ∧ toI n ≤ 9223372036854775807 := by
  unfold toI; split <;> omega
theorem toI_nat {z : Int} (h0 : 0 ≤ z) (h1 : z ≤ 9223372036854775807) : toI z.toNat = z := by
  unfold toI; rw [if_pos (by omega)]; omega
theorem theIt_ok (l : List UInt8) : (theIt l).Ok := by
  have h1 : num (fld l 4 8) < 256 ^ 4 := fld_num_lt (by decide)
  have h2 : num (fld l 16 24) < 256 ^ 8 := fld_num_lt (by decide)
  have h3 : num (fld l 24 32) < 256 ^ 8 := fld_num_lt (by decide)
  have h4 : num (fld l 32 40) < 256 ^ 8 := fld_num_lt (by decide)
  have e : (256 : Nat) ^ 8 = 18446744073709551616 := by decide
  rw [e] at h2 h3 h4
  have r2 := toI_range h2
  have r4 := toI_range h4
  exact ⟨by show num _ ≤ _; omega, r2.1, r2.2, by show num _ ≤ _; omega, r4.1, r4.2⟩

/-- The fields of what an item's bytes begin. -/
structure Parts (l : List UInt8) (x : It) : Prop where
  k : dK l = x.key.size
  m : num (fld l 1 4) = x.marks
  f : num (fld l 4 8) = x.flags
  v : num (fld l 8 16) = x.val.size
  e : num (fld l 16 24) = x.exp.toNat
  c : num (fld l 24 32) = x.cas
  t : num (fld l 32 40) = x.last.toNat
theorem parts_head {x : It} (hx : x.Ok) (hr : x.right = true) (r : List UInt8) : Parts (x.head ++ r) x := by
  obtain ⟨r1, r2, _, r3, r4, r5⟩ := It.right_parts hr
  have hm := x.marks_le
  obtain ⟨o1, _, o3, o4, _, o6⟩ := hx
  have w {k n a b p q} (hl : x.head ++ r = p ++ (le k n ++ q)) (ha : p.length = a) (hb : a + k = b) (hn : n < 256 ^ k) : num (fld (x.head ++ r) a b) = n := by
    rw [fld_at hl ha (by rw [le_len]; exact hb), num_le, Nat.mod_eq_of_lt hn]
  have e1 : (256 : Nat) ^ 1 = 256 := by decide
  have e3 : (256 : Nat) ^ 3 = 16777216 := by decide
  have e4 : (256 : Nat) ^ 4 = 4294967296 := by decide
  have e8 : (256 : Nat) ^ 8 = 18446744073709551616 := by decide
  have el : x.head ++ r = le 1 x.key.size ++ (le 3 x.marks ++ (le 4 x.flags ++ (le 8 x.val.size ++ (le 8 x.exp.toNat ++ (le 8 x.cas ++ (le 8 x.last.toNat ++ r)))))) := by unfold It.head; simp only [List.append_assoc]
  refine ⟨?_, ?_, ?_, ?_, ?_, ?_, ?_⟩
  · exact w (k := 1) (p := []) (q := le 3 x.marks ++ (le 4 x.flags ++ (le 8 x.val.size ++ (le 8 x.exp.toNat ++ (le 8 x.cas ++ (le 8 x.last.toNat ++ (r))))))) el rfl rfl (by rw [e1]; omega)
  · exact w (k := 3) (p := le 1 x.key.size) (q := le 4 x.flags ++ (le 8 x.val.size ++ (le 8 x.exp.toNat ++ (le 8 x.cas ++ (le 8 x.last.toNat ++ (r)))))) el (by simp [le_len]) rfl (by rw [e3]; omega)
  · exact w (k := 4) (p := le 1 x.key.size ++ le 3 x.marks) (q := le 8 x.val.size ++ (le 8 x.exp.toNat ++ (le 8 x.cas ++ (le 8 x.last.toNat ++ (r))))) (by rw [el]; simp only [List.append_assoc]) (by simp [le_len]) rfl (by rw [e4]; omega)
  · exact w (k := 8) (p := le 1 x.key.size ++ le 3 x.marks ++ le 4 x.flags) (q := le 8 x.exp.toNat ++ (le 8 x.cas ++ (le 8 x.last.toNat ++ (r)))) (by rw [el]; simp only [List.append_assoc]) (by simp [le_len]) rfl (by rw [e8]; omega)
  · exact w (k := 8) (p := le 1 x.key.size ++ le 3 x.marks ++ le 4 x.flags ++ le 8 x.val.size) (q := le 8 x.cas ++ (le 8 x.last.toNat ++ (r))) (by rw [el]; simp only [List.append_assoc]) (by simp [le_len]) rfl (by rw [e8]; omega)
  · exact w (k := 8) (p := le 1 x.key.size ++ le 3 x.marks ++ le 4 x.flags ++ le 8 x.val.size ++ le 8 x.exp.toNat) (q := le 8 x.last.toNat ++ (r)) (by rw [el]; simp only [List.append_assoc]) (by simp [le_len]) rfl (by rw [e8]; omega)
  · exact w (k := 8) (p := le 1 x.key.size ++ le 3 x.marks ++ le 4 x.flags ++ le 8 x.val.size ++ le 8 x.exp.toNat ++ le 8 x.cas) (q := r) (by rw [el]; simp only [List.append_assoc]) (by simp [le_len]) rfl (by rw [e8]; omega)

/-- Bytes 1 to 4, and 8 to 16, as one number and as two. -/
theorem marks_split (l : List UInt8) (h : 40 ≤ l.length) : num (fld l 1 4) = dM l + 256 * num (fld l 2 4) := by
  rw [fld_join (b := 2) (by decide) (by decide), num_append, fld_len (by decide) (by omega)]; rfl
theorem val_split (l : List UInt8) (h : 40 ≤ l.length) : num (fld l 8 16) = dV l + 4294967296 * num (fld l 12 16) := by
  rw [fld_join (b := 12) (by decide) (by decide), num_append, fld_len (by decide) (by omega)]; rfl
theorem headB_iff {l : List UInt8} (h : 40 ≤ l.length) : headB l = true ↔ num (fld l 1 4) ≤ 3 ∧ num (fld l 12 16) = 0 := by
  have h1 := marks_split l h
  unfold headB
  simp only [Bool.and_eq_true, decide_eq_true_eq]
  omega
theorem fitsB_iff (l : List UInt8) : fitsB l = true ↔ 40 ≤ l.length ∧ num (fld l 1 4) ≤ 3 ∧ num (fld l 8 16) ≤ 65536 ∧ 40 + dK l + num (fld l 8 16) ≤ l.length := by
  by_cases h : 40 ≤ l.length
  · have h1 := marks_split l h
    have h2 := val_split l h
    unfold fitsB headB
    simp only [Bool.and_eq_true, decide_eq_true_eq]
    omega
  · unfold fitsB; simp [h]
theorem fits_parts {l : List UInt8} (h : fitsB l = true) : 40 ≤ l.length ∧ dM l ≤ 3 ∧ num (fld l 1 4) = dM l ∧ num (fld l 8 16) = dV l ∧ dV l ≤ 65536 ∧ 40 + dK l + dV l ≤ l.length := by
  obtain ⟨h0, h1, h2, h3⟩ := (fitsB_iff l).1 h
  have e1 := marks_split l h0
  have e2 := val_split l h0
  omega

theorem dec_enc {x : It} (hx : x.Ok) (hr : x.right = true) (r : List UInt8) : dec (x.enc ++ r) = some x := by
  have hp := parts_head hx hr (x.key.data.toList ++ x.val.data.toList ++ r)
  have el : x.enc ++ r = x.head ++ (x.key.data.toList ++ x.val.data.toList ++ r) := by unfold It.enc; simp only [List.append_assoc]
  rw [← el] at hp
  obtain ⟨r1, r2, rk, r3, r4, r5⟩ := It.right_parts hr
  have hlen : (x.enc ++ r).length = 40 + x.key.size + x.val.size + r.length := by rw [List.length_append, It.enc_len]
  have hm := x.marks_le
  have hf : fitsB (x.enc ++ r) = true := (fitsB_iff _).2 ⟨by omega, by rw [hp.m]; exact hm, by rw [hp.v]; exact r3, by rw [hp.k, hp.v]; omega⟩
  obtain ⟨f1, f2, f3, f4, f5, f6⟩ := fits_parts hf
  have hM : dM (x.enc ++ r) = x.marks := by rw [← f3, hp.m]
  have hV : dV (x.enc ++ r) = x.val.size := by rw [← f4, hp.v]
  have ht : theIt (x.enc ++ r) = x := by
    unfold theIt
    rw [hp.k, hM, hV, hp.f, hp.e, hp.c, hp.t]
    refine It.eq_of ?_ rfl ?_ (toI_nat r4 hx.exp1) rfl (toI_nat r5 hx.last1) (It.marks_stale x) (It.marks_won x)
    · show S _ = _
      rw [fld_at (p := x.head) (q := x.key.data.toList) (r := x.val.data.toList ++ r) (by rw [el, List.append_assoc]) x.head_len (by rw [← size_len]), S_of]
    · show S _ = _
      rw [fld_at (p := x.head ++ x.key.data.toList) (q := x.val.data.toList) (r := r) (by rw [el]; simp only [List.append_assoc]) (by rw [List.length_append, x.head_len, ← size_len]) (by rw [← size_len]), S_of]
  unfold dec
  rw [if_pos hf, ht, if_pos hr]
theorem dec_enc_self {x : It} (hx : x.Ok) (hr : x.right = true) : dec x.enc = some x := by
  have := dec_enc hx hr []
  rwa [List.append_nil] at this
theorem enc_inj {x y : It} (hx : x.Ok) (hy : y.Ok) (rx : x.right = true) (ry : y.right = true) : x.enc = y.enc ↔ x = y :=
  ⟨fun h => by
    have h1 := dec_enc_self hx rx
    rw [h, dec_enc_self hy ry] at h1
    exact (Option.some.inj h1).symm, fun h => by rw [h]⟩
/-- A beginning has none. -/
theorem dec_take {x : It} (hx : x.Ok) (hr : x.right = true) {k : Nat} (hk : k < x.enc.length) : dec (x.enc.take k) = none := by
  unfold dec
  rw [if_neg]
  intro hf
  obtain ⟨f0, f1, f2, f3⟩ := (fitsB_iff _).1 hf
  rw [List.length_take, Nat.min_eq_left (by omega)] at f0 f3
  have hp := parts_head hx hr (x.key.data.toList ++ x.val.data.toList)
  have el : x.enc = x.head ++ (x.key.data.toList ++ x.val.data.toList) := rfl
  rw [← el] at hp
  have e1 : dK (x.enc.take k) = x.key.size := by rw [← hp.k]; unfold dK; rw [fld_take (by omega)]
  rw [e1, fld_take (by omega), hp.v] at f3
  rw [It.enc_len] at hk
  omega

/-- Other marks. -/
def It.marked (x : It) (s w : Bool) : It := { x with stale := s, won := w }
theorem enc_set_marks {x : It} {s w : Bool} {c : UInt8} (hc : c.toNat = (x.marked s w).marks) : x.enc.set 1 c = (x.marked s w).enc := by
  have hm := x.marks_le
  have hm2 := (x.marked s w).marks_le
  unfold It.enc It.head
  show _ = _ ++ (le 3 (x.marked s w).marks ++ _) ++ _
  rw [← hc]
  have e1 : ∀ n, le 1 n = [UInt8.ofNat (n % 256)] := fun n => rfl
  have e3 : ∀ n, n ≤ 3 → le 3 n = [UInt8.ofNat n, 0, 0] := fun n hn => by
    rcases n with _ | _ | _ | _ | n
    · rfl
    · rfl
    · rfl
    · rfl
    · omega
  rw [e1, e3 _ hm, e3 _ (by rw [hc]; exact hm2), UInt8.ofNat_toNat]
  rfl
theorem dec_set_marks {x : It} (hx : x.Ok) (hr : x.right = true) {s w : Bool} {c : UInt8} (hc : c.toNat = (x.marked s w).marks) : dec (x.enc.set 1 c) = some (x.marked s w) := by
  rw [enc_set_marks hc]
  exact dec_enc_self ⟨hx.1, hx.2, hx.3, hx.4, hx.5, hx.6⟩ hr
theorem get_of_zero {x : It} (hx : x.Ok) (hr : x.right = true) {k : Nat} (hk : k = 2 ∨ k = 3 ∨ k = 12 ∨ k = 13 ∨ k = 14 ∨ k = 15) : x.enc[k]? = some 0 := by
  have hp := parts_head hx hr (x.key.data.toList ++ x.val.data.toList)
  have el : x.enc = x.head ++ (x.key.data.toList ++ x.val.data.toList) := rfl
  rw [← el] at hp
  have hl := x.enc_len
  have hm := x.marks_le
  obtain ⟨_, _, _, r3, _, _⟩ := It.right_parts hr
  have e1 := marks_split x.enc (by omega)
  have e2 := val_split x.enc (by omega)
  have z1 : num (fld x.enc 2 4) = 0 := by have := hp.m; omega
  have z2 : num (fld x.enc 12 16) = 0 := by have := hp.v; omega
  have at_ {a b : Nat} (hz : num (fld x.enc a b) = 0) (h1 : a ≤ k) (h2 : k < b) (h3 : b ≤ 40) : x.enc[k]? = some 0 := by
    have hi : k - a < (fld x.enc a b).length := by rw [fld_len (by omega) (by omega)]; omega
    have hz' := num_eq_zero hz _ (List.getElem_mem hi)
    have hg : (fld x.enc a b)[k - a]? = x.enc[a + (k - a)]? := fld_getElem? (by omega)
    rw [List.getElem?_eq_getElem hi, show a + (k - a) = k by omega] at hg
    rw [← hg]
    exact congrArg some (UInt8.toNat_inj.1 hz')
  by_cases h : k < 4
  · exact at_ z1 (by omega) (by omega) (by decide)
  · exact at_ z2 (by omega) (by omega) (by decide)
theorem dec_set_zero {x : It} {k : Nat} (hk : k = 2 ∨ k = 3 ∨ k = 12 ∨ k = 13 ∨ k = 14 ∨ k = 15) {c : UInt8} (hc : c.toNat ≠ 0) : dec (x.enc.set k c) = none := by
  unfold dec
  rw [if_neg]
  intro hf
  have hl : (x.enc.set k c).length = 40 + x.key.size + x.val.size := by rw [List.length_set, x.enc_len]
  unfold fitsB headB at hf
  simp only [Bool.and_eq_true, decide_eq_true_eq] at hf
  obtain ⟨_, ⟨⟨z1, z2⟩, _⟩, _⟩ := hf
  have bad {a b : Nat} (hz : num (fld (x.enc.set k c) a b) = 0) (h1 : a ≤ k) (h2 : k < b) (h3 : b ≤ 40) : False := by
    have hi : k - a < (fld (x.enc.set k c) a b).length := by rw [fld_len (by omega) (by omega)]; omega
    have hg : (fld (x.enc.set k c) a b)[k - a]? = (x.enc.set k c)[a + (k - a)]? := fld_getElem? (by omega)
    rw [show a + (k - a) = k by omega, List.getElem?_set_self (by rw [x.enc_len]; omega)] at hg
    exact hc (num_eq_zero hz c (List.mem_of_getElem? hg))
  by_cases h : k < 4
  · exact bad z1 (by omega) (by omega) (by decide)
  · exact bad z2 (by omega) (by omega) (by decide)
theorem dec_set_high {x : It} {c : UInt8} (hc : 3 < c.toNat) : dec (x.enc.set 1 c) = none := by
  unfold dec
  rw [if_neg]
  intro hf
  obtain ⟨f0, f1, _⟩ := (fits_parts hf)
  have hl : (x.enc.set 1 c).length = 40 + x.key.size + x.val.size := by rw [List.length_set, x.enc_len]
  have h1 : 1 < (x.enc.set 1 c).length := by omega
  have : dM (x.enc.set 1 c) = c.toNat := by
    unfold dM
    rw [fld_one h1, num_one, List.getElem_set_self]
  omega
theorem enc_one {x : It} : x.enc[1]? = some (UInt8.ofNat x.marks) := by
  have hm := x.marks_le
  unfold It.enc It.head
  have e1 : ∀ n, le 1 n = [UInt8.ofNat (n % 256)] := fun n => rfl
  have e3 : le 3 x.marks = UInt8.ofNat (x.marks % 256) :: le 2 (x.marks / 256) := rfl
  rw [e1, e3, Nat.mod_eq_of_lt (by omega : x.marks < 256)]
  rfl
end Go.Proofs.YtkaaebjifkbclaaDoor

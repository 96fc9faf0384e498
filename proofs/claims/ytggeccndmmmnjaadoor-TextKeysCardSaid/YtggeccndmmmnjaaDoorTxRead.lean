/-
  The reader's read at this program: the request of a line's words, a bad one, if it was given up. Conditions: the package variables hold what they were laid with.
-/
import Derived.Test.YtggeccndmmmnjaaDoorTxCatch
namespace Go.Proofs.YtggeccndmmmnjaaDoor.Tx
open Go Go.RowKit Go.Lib Md

def Rd.q : Rd → Rq
  | .done q _ => q
  | .up why skip _ => badQ why skip
def Rd.u : Rd → Nat
  | .done _ u => u
  | .up _ _ u => u
/-- What read comes to. -/
def ReadP (R : Nat) (w : World) (x : Rd) (e : Ending) (w' : World) : Prop :=
  Only (fun b => b = R) w w' ∧ ∃ v, e = .returned v ∧ IsRq w.heap.size x.q v w' ∧ ∃ c0 c1 c2 c3, Blk w' R 43 [c0, c1, c2, c3, .int .i64 (x.u : Int)]
/-- The boxes of read. -/
theorem read_start {R c : Nat} {s : RS} {a : Option Addr} {w : World} (h : Rdr R s a c w) (hv : VarsR R w) (W : World) (hW : W = (w.alloc (.cells #[.pointer (some ⟨R, 0, none⟩)] 59)).alloc (.cells #[.int .i64 0, .slice none 0 0, .bool false, .bool false, .string ⟨#[]⟩, .string ⟨#[]⟩, .int .i64 0, .bool false, .string ⟨#[]⟩, .slice none 0 0, .string ⟨#[]⟩] 27)) :
    Rdr R s a c W ∧ VarsR R W ∧ Blk W w.heap.size 59 [.pointer (some ⟨R, 0, none⟩)] ∧ Blk W (w.heap.size + 1) 27 (rqc noRq (.slice none 0 0)) ∧ Below w.heap.size w W ∧ W.heap.size = w.heap.size + 1 + 1 ∧ R < w.heap.size := by
  subst hW
  obtain ⟨h0, h1, z, b⟩ := alloc2 w #[.pointer (some ⟨R, 0, none⟩)] #[.int .i64 0, .slice none 0 0, .bool false, .bool false, .string ⟨#[]⟩, .string ⟨#[]⟩, .int .i64 0, .bool false, .string ⟨#[]⟩, .slice none 0 0, .string ⟨#[]⟩] 59 27
  exact ⟨h.below b, hv.below b, h0, h1, b, z, h.blk.lt⟩
set_option maxHeartbeats 1000000 in
set_option maxRecDepth 100000 in
theorem read_nil {R c : Nat} {bh : List UInt8} {a : Option Addr} {w : World} (h : Rdr R ⟨[], bh, false, 0, 0⟩ a c w) (hv : VarsR R w) :
    Calls Tryd.prog 12 #[.pointer (some ⟨R, 0, none⟩)] w (ReadP R w (readR [] bh)) := by
  have hmf : ∀ (fn : Fn) (first cap : Array Value) (w : World), (Instr.makeFunc fn first cap).run Tryd.prog w = .ok (.func fn first cap) w := fun _ _ _ _ => rfl
  have HS := hidc (read_start h hv _ rfl)
  clear h hv
  go_enter_defers Tryd.func12, Tryd.ntmps12
  go_upto_region 2 with fail
  generalize (w.alloc (.cells #[.pointer (some ⟨R, 0, none⟩)] 59)).alloc (.cells #[.int .i64 0, .slice none 0 0, .bool false, .bool false, .string ⟨#[]⟩, .string ⟨#[]⟩, .int .i64 0, .bool false, .string ⟨#[]⟩, .slice none 0 0, .string ⟨#[]⟩] 27) = W at *
  obtain ⟨hr, hv, hb, hq, hbe, hz, hlt⟩ := HS.out
  have c0 : W.cell? ⟨R, 0, none⟩ = some (.slice a 0 c) := hr.blk.cell (i := 0) rfl
  have cb := hb.cell (i := 0) rfl
  have HC := hidc (catch_up (why := mError) W cb hr.blk hq rfl)
  have HF : Hid (∀ D, Blk D (w.heap.size + 1) 27 (rqc (badQ mError 0) (.slice none 0 0)) → Only (fun b => b = w.heap.size + 1) W D → ReadP R w (readR [] bh) (.returned (.agg (rqc (badQ mError 0) (.slice none 0 0)).toArray)) D) := hidc fun D hD ho => by
    refine ⟨Only.trans (Below.only hbe) ho (fun x e => .inr (by omega)), _, rfl, ⟨_, rfl, cms_nil _ _⟩, _, _, _, _, hr.blk.only ho (by omega)⟩
  generalize ReadP R w (readR [] bh) = Q at *
  clear HS hr hv hb hq hbe hz
  go_wp2_with fail
  refine leaves_cons (f := 18) (args := #[.pointer (some ⟨w.heap.size, 0, none⟩), .pointer (some ⟨w.heap.size + 1, 0, none⟩)]) (by simp) (by simp [go_sem]) ?_
  refine HC.out.mono ?_
  rintro e u' D ⟨rfl, rfl, hD, ho⟩
  exact ⟨_, res_rqL rfl rfl hD rfl, HF.out D hD ho⟩
theorem texts_tail {w : World} {b o N c : Nat} {ws : List (List UInt8)} {x : List UInt8} {a' : Option Addr} (h : Texts w (.slice (some ⟨b, o, none⟩) (N + 1) c) (x :: ws)) (hN : ws.length = N) (hif : (if c = 1 then some ⟨b, o, none⟩ else some ⟨b, o + 1, none⟩ : Option Addr) = a') : Texts w (.slice a' ws.length (c - 1)) ws := by
  obtain ⟨a0, c0, hv, hc, hx⟩ := h
  injection hv with e1 e2 e3
  subst e1 e3
  have hc' : N + 1 ≤ c := by rw [List.length_cons, hN] at hc; exact hc
  refine ⟨_, _, rfl, by omega, fun j y hj => ?_⟩
  have hjl := (List.getElem?_eq_some_iff.1 hj).1
  obtain ⟨b', o', e, hl, hcell⟩ := hx (j + 1) y (by simpa using hj)
  cases e
  rw [if_neg (by omega)] at hif
  subst hif
  exact ⟨_, _, rfl, hl, by rw [show o + 1 + j = o + (j + 1) by omega]; exact hcell⟩
/-- The first word is taken off. -/
theorem rdr_tail {R b o N c : Nat} {bh : List UInt8} {ws : List (List UInt8)} {x : List UInt8} {a' : Option Addr} {w : World} (h : Rdr R ⟨x :: ws, bh, false, 0, 0⟩ (some ⟨b, o, none⟩) c w) (hN : ws.length = N) (hif : (if c = 1 then some ⟨b, o, none⟩ else some ⟨b, o + 1, none⟩ : Option Addr) = a') :
    Rdr R ⟨ws, bh, false, 0, 0⟩ a' (c - 1) (w.setCell ⟨R, 0, none⟩ (.slice a' N (c - 1))) ∧ Only (fun b => b = R) w (w.setCell ⟨R, 0, none⟩ (.slice a' N (c - 1))) := by
  have ho := oset (R := R) (Only.refl _ w) 0 (.slice a' N (c - 1))
  have hl := h.len
  have hb0 : ∀ b1 o1 p, a' = some ⟨b1, o1, p⟩ → b1 = b := fun b1 o1 p e => by
    subst hif
    split at e <;> (cases e; rfl)
  have ht : Texts w (.slice (some ⟨b, o, none⟩) (N + 1) c) (x :: ws) := by
    have := h.txt
    rw [← hN]; exact this
  have hb := h.blk.set 0 (.slice a' N (c - 1))
  refine ⟨Rdr.stays ho ?_ (texts_tail ht hN hif) (fun b1 o1 p e => ?_) (fun b1 o1 p e => ?_) ?_, ho⟩
  · rw [← hN] at hb; rw [← hN]; exact hb
  · rw [hb0 b1 o1 p e]; exact h.apart b o none rfl
  · rw [hb0 b1 o1 p e]; exact h.old b o none rfl
  · have h1 : (x :: ws).length ≤ 2048 := hl.1
    rw [List.length_cons] at h1
    exact ⟨by show ws.length ≤ 2048; omega, by omega⟩
set_option maxHeartbeats 2000000 in
set_option maxRecDepth 100000 in
theorem read_cons {R c : Nat} {name : List UInt8} {r : List (List UInt8)} {bh : List UInt8} {a : Option Addr} {w : World} (h : Rdr R ⟨name :: r, bh, false, 0, 0⟩ a c w) (hv : VarsR R w) (hj : (Lib.join r [32]).length ≤ 140737488355328) :
    Calls Tryd.prog 12 #[.pointer (some ⟨R, 0, none⟩)] w (ReadP R w (namedR name r bh)) := by
  have hmf : ∀ (fn : Fn) (first cap : Array Value) (w : World), (Instr.makeFunc fn first cap).run Tryd.prog w = .ok (.func fn first cap) w := fun _ _ _ _ => rfl
  have HS := hidc (read_start h hv _ rfl)
  clear h hv
  go_enter_defers Tryd.func12, Tryd.ntmps12
  go_upto_region 2 with fail
  generalize (w.alloc (.cells #[.pointer (some ⟨R, 0, none⟩)] 59)).alloc (.cells #[.int .i64 0, .slice none 0 0, .bool false, .bool false, .string ⟨#[]⟩, .string ⟨#[]⟩, .int .i64 0, .bool false, .string ⟨#[]⟩, .slice none 0 0, .string ⟨#[]⟩] 27) = W at *
  obtain ⟨hr, hv, hb, hq, hbe, hz, hlt⟩ := HS.out
  clear HS
  obtain ⟨N, hN⟩ : ∃ N, r.length = N := ⟨_, rfl⟩
  have hlen := hr.len
  obtain ⟨tb, tof, rfl, tl, tc⟩ := texts_cell hr.txt (j := 0) (x := name) rfl
  rw [Nat.add_zero] at tc
  have hca : N + 1 ≤ c := by have := (texts_cap hr.txt).2; rw [← hN]; exact this
  have c0 : W.cell? ⟨R, 0, none⟩ = some (.slice (some ⟨tb, tof, none⟩) (N + 1) c) := by rw [← hN]; exact hr.blk.cell (i := 0) rfl
  have cb := hb.cell (i := 0) rfl
  have hcm : c ≤ 9223372036854775807 := hlen.2
  have i0 : ¬ (N : Int) + 1 = 0 := by omega
  have i1 : (0 : Int) < (N : Int) + 1 := by omega
  have HR := hidc (And.intro hr (And.intro hv (And.intro hb (And.intro hq (And.intro hbe hz)))))
  clear hr hv hb hq hbe hz hlen
  go_upto_region 5 with fail
  clear tc tl
  obtain ⟨a', hif⟩ : ∃ a', (if c = 1 then some ⟨tb, tof, none⟩ else some ⟨tb, tof + 1, none⟩ : Option Addr) = a' := ⟨_, rfl⟩
  have i7 : (1 : Int) ≤ ((N + 1 : Nat) : Int) := by omega
  have i8 : ((N + 1 : Nat) : Int) ≤ (c : Int) := by omega
  have i10 : ((N : Int) + 1 - 1).toNat = N := by omega
  have i11 : ((c : Int) - 1).toNat = c - 1 := by omega
  obtain ⟨S, hSd⟩ : ∃ S : World → Prop, Hid (S = fun W' => W'.cell? ⟨R, 0, none⟩ = some (.slice (some ⟨tb, tof, none⟩) (N + 1) c) ∧ W'.cell? ⟨w.heap.size, 0, none⟩ = some (.pointer (some ⟨R, 0, none⟩)) ∧ W'.frozen? ⟨R, 0, none⟩ = false) := ⟨_, hidc rfl⟩
  have hS : S W.drew := by rw [hSd.out]; exact ⟨c0, cb, HR.out.1.blk.frozen 0⟩
  clear c0 cb
  refine Code.wp_mono NoPanic.imp ?_
  refine wp_region_E S 8 (by kernel_rfl) ?_
  refine wpAnyE_take (i := 0) (v := .pointer (some ⟨R, 0, none⟩)) rfl (by kernel_rfl) (by kernel_rfl) (by kernel_rfl) (fun _ _ _ h => h) (by kernel_rfl) (by kernel_rfl) hS (Or.inl ⟨by rfl, ?_⟩) ?_
  · intro w' hw'
    rw [hSd.out] at hw'
    have s0 := hw'.2.1
    clear hw'
    go_simp
  refine wpAnyE_take (i := 1) (v := .pointer (some ⟨R, 0, none⟩)) rfl (by kernel_rfl) (by kernel_rfl) (by kernel_rfl) (fun _ _ _ h => h) (by kernel_rfl) (by kernel_rfl) hS (Or.inl ⟨by rfl, ?_⟩) ?_
  · intro w' hw'
    rw [hSd.out] at hw'
    have s0 := hw'.2.1
    clear hw'
    go_simp
  refine wpAnyE_take (i := 2) (v := .pointer (some ⟨R, 0, none⟩)) rfl (by kernel_rfl) (by kernel_rfl) (by kernel_rfl) (fun _ _ _ h => h) (by kernel_rfl) (by kernel_rfl) hS (Or.inl ⟨by rfl, ?_⟩) ?_
  · intro w' hw'
    go_simp
  refine wpAnyE_take (i := 3) (v := .pointer (some ⟨R, 0, none⟩)) rfl (by kernel_rfl) (by kernel_rfl) (by kernel_rfl) (fun _ _ _ h => h) (by kernel_rfl) (by kernel_rfl) hS (Or.inl ⟨by rfl, ?_⟩) ?_
  · intro w' hw'
    go_simp
  refine wpAnyE_take (i := 4) (v := .slice (some ⟨tb, tof, none⟩) (N + 1) c) rfl (by kernel_rfl) (by kernel_rfl) (by kernel_rfl) (fun _ _ _ h => h) (by kernel_rfl) (by kernel_rfl) hS (Or.inl ⟨by rfl, ?_⟩) ?_
  · intro w' hw'
    rw [hSd.out] at hw'
    have s0 := hw'.1
    clear hw'
    go_simp
  refine wpAnyE_take (i := 5) (v := .slice a' N (c - 1)) rfl (by kernel_rfl) (by kernel_rfl) (by kernel_rfl) (fun _ _ _ h => h) (by kernel_rfl) (by kernel_rfl) hS (Or.inl ⟨by rfl, ?_⟩) ?_
  · intro w' hw'
    go_simp
    intro e
    exfalso
    omega
  have HS := hidc hS
  clear hS
  refine wpAnyE_one (i := 6) rfl (by kernel_rfl) (fun K hK => ?_)
  go_simp
  refine hK _ _ (fun _ => HS.out) ?_
  clear hK K
  refine wpAnyE_one (i := 7) rfl (by kernel_rfl) (fun K hK => ?_)
  go_simp
  refine hK _ _ (fun _ => HS.out) ?_
  clear hK K
  have hS := HS.out
  rw [hSd.out] at hS
  obtain ⟨s0, s1, s2⟩ := hS
  clear HS
  refine wpAnyE_one (i := 8) rfl (by kernel_rfl) (fun K hK => ?_)
  have HT := hidc (rdr_tail HR.out.1 hN hif)
  go_simp
  have HK := hidc hK
  clear hK s0 s1 s2 hSd
  refine HK.out _ _ (fun h => (by cases (show true = false from h))) (wpAnyE_done (by kernel_rfl) (NoPanic.normal ?_) _)
  clear HK K
  obtain ⟨hr, hv, hb, hq, hbe, hz⟩ := HR.out
  obtain ⟨hr1, ho1⟩ := HT.out
  clear HR HT
  have hq1 := hq.only ho1 (by omega)
  have hb1 := hb.only ho1 (by omega)
  have ho2 : Only (fun b => b = R) w (W.setCell ⟨R, 0, none⟩ (.slice a' N (c - 1))) := Only.trans (Below.only hbe) ho1 (fun _ e => .inl e)
  have hv1 := hv.only ho1
  have hz1 : w.heap.size + 1 + 1 ≤ (W.setCell ⟨R, 0, none⟩ (.slice a' N (c - 1))).heap.size := by rw [← hz]; exact ho1.size
  generalize W.setCell ⟨R, 0, none⟩ (.slice a' N (c - 1)) = W1 at *
  have bD : Below W1.heap.size W1 W1.drew := ⟨rfl, rfl, rfl, Nat.le_refl _, fun _ _ => rfl⟩
  have hN2 := named_any (name := name) (hr1.below bD) (hv1.below bD) hj
  have hq2 := hq1.below bD
  have hb2 := hb1.below bD
  have ho3 := Only.trans ho2 (Below.only bD (D := fun b => b = R)) (fun _ e => .inl e)
  have hz2 : w.heap.size + 1 + 1 ≤ W1.drew.heap.size := hz1
  have HG := hidc (And.intro hq2 (And.intro hb2 (And.intro ho3 hz2)))
  clear hq2 hb2 ho3 hz2 bD hr hv hb hq hbe hz hr1 ho1 hq1 hb1 ho2 hv1 hz1 hif i7 i8 i10 i11 i0 i1 hcm hca hN S
  generalize W1.drew = W2 at *
  have cb2 := HG.out.2.1.cell (i := 0) rfl
  go_wp2_with fail
  refine hN2.mono ?_
  rintro e w3 hP
  clear hN2
  obtain ⟨hq2, hb2, ho3, hz2⟩ := HG.out
  clear HG
  obtain ⟨hoP, hP⟩ := hP
  have hq3 := hq2.only hoP (by omega)
  have hb3 := (hb2.only hoP (by omega)).cell (i := 0) rfl
  have ho4 := Only.trans ho3 hoP (fun _ e => .inl e)
  generalize namedR name r bh = x at *
  rcases x with ⟨q, u⟩ | ⟨why, sk, u⟩
  · obtain ⟨v, rfl, hI, c0, c1, c2, c3, hB⟩ := hP
    obtain ⟨cs, rfl, hcl, hco⟩ := isrq_cells hI
    have HF : Hid (∀ D, Only (fun b => b = w.heap.size + 1) w3 D → ReadP R w (Rd.done q u) (.returned (.agg cs.toArray)) D) := hidc fun D ho => by
      exact ⟨Only.trans ho4 ho (fun x e => .inr (by omega)), _, rfl, (hI.only ho (fun b hb _ e => by omega)).mono (by omega), c0, c1, c2, c3, hB.only ho (by omega)⟩
    have HQ3 := hidc hq3
    have HL := hidc (And.intro hcl hco)
    generalize ReadP R w (Rd.done q u) = Q at *
    clear hI hB hoP hq2 hb2 ho3 hz2 hb3 ho4 hcl hco hq3 cb2
    go_wp2_with (refine stRq rfl rfl rfl rfl rfl HQ3.out rfl HL.out.1 HL.out.2 ?_; intro D hD oD; have HW := hidc (And.intro hD (HF.out D oD)); clear hD oD)
    refine leaves_cons (f := 18) (args := #[.pointer (some ⟨w.heap.size, 0, none⟩), .pointer (some ⟨w.heap.size + 1, 0, none⟩)]) (by simp) (by simp [go_sem]) ?_
    refine (catch_idle ⟨w.heap.size, 0, none⟩ ⟨w.heap.size + 1, 0, none⟩ _).mono ?_
    rintro e u' D' ⟨rfl, rfl, rfl⟩
    exact ⟨_, res_rqL HL.out.1 rfl HW.out.1 rfl, HW.out.2⟩
  · obtain ⟨rfl, c0, c1, c2, hB⟩ := hP
    have HC := hidc (catch_up (why := why) w3 hb3 hB hq3 rfl)
    have HF : Hid (∀ D, Only (fun b => b = w.heap.size + 1) w3 D → ReadP R w (Rd.up why sk u) (.returned (.agg (rqc (badQ why sk) (.slice none 0 0)).toArray)) D) := hidc fun D ho => by
      exact ⟨Only.trans ho4 ho (fun x e => .inr (by omega)), _, rfl, ⟨_, rfl, cms_nil _ _⟩, c0, c1, c2, _, hB.only ho (by omega)⟩
    generalize ReadP R w (Rd.up why sk u) = Q at *
    clear hB hoP hq2 hb2 ho3 hz2 hb3 ho4 hq3 cb2
    go_wp2_with fail
    refine leaves_cons (f := 18) (args := #[.pointer (some ⟨w.heap.size, 0, none⟩), .pointer (some ⟨w.heap.size + 1, 0, none⟩)]) (by simp) (by simp [go_sem]) ?_
    refine HC.out.mono ?_
    rintro e u' D ⟨rfl, rfl, hD, ho⟩
    exact ⟨_, res_rqL rfl rfl hD rfl, HF.out D ho⟩
theorem read_any {R c : Nat} {ws : List (List UInt8)} {bh : List UInt8} {a : Option Addr} {w : World} (h : Rdr R ⟨ws, bh, false, 0, 0⟩ a c w) (hv : VarsR R w) (hj : ∀ name r, ws = name :: r → (Lib.join r [32]).length ≤ 140737488355328) :
    Calls Tryd.prog 12 #[.pointer (some ⟨R, 0, none⟩)] w (ReadP R w (readR ws bh)) := by
  cases ws with
  | nil => exact read_nil h hv
  | cons name r => exact read_cons h hv (hj name r rfl)
end Go.Proofs.YtggeccndmmmnjaaDoor.Tx

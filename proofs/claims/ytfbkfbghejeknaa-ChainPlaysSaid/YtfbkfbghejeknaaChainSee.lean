/-
  The contracts of Keys and Bucket of a table at this program. Conditions: the table lies in memory, there are at most 2^30 entries.
-/
import Derived.Test.YtfbkfbghejeknaaChainSet
import Derived.Deep.RegionHeld3
namespace Go.Proofs.Ytfbkfbghejeknaa
open Go Go.Shelf Go.RowKit Go.Lib

theorem sl_form (O : Nat) (L : List (List En)) : ∃ a n c, sl O L = .slice a n c := by unfold sl; split <;> exact ⟨_, _, _, rfl⟩
theorem len_ks (l : List (Addr × En)) (m : List ByteArray) (h : ks l = m) : l.length = m.length := by rw [← h, ks_len]
theorem own_less {w : World} {b b' : Nat} {e : TypeId} {v : Value} {n : Nat} {xs : List Value} (h : w.ownsRow b e 1 v n xs) (hb : b' ≤ b) : w.ownsRow b' e 1 v n xs :=
  ⟨h.1, h.2.imp id (fun ⟨g, cap, cur, hv, h0, r⟩ => ⟨g, cap, cur, hv, Nat.le_trans hb h0, r⟩)⟩
set_option maxRecDepth 100000 in
theorem rows_call {w : World} {rs : List Rw} (h : ∀ r ∈ rs, RowOk w r) (hl : rs.length ≤ 1000000000) {xs : List ByteArray} (hk : ks (alls rs) = xs) (hN : xs.length ≤ 1073741824) (n : Nat) (hn : rs.length = n) :
    Calls Try.prog 32 #[.slice (some ⟨w.heap.size, 0, none⟩) n n] (w.alloc (.cells (rs.map Rw.v).toArray 56)) fun e w' => ∃ v, e = .returned v ∧ w'.ownsRow w.heap.size 9 1 v xs.length (kc xs) ∧ Below w.heap.size w w' := by
  subst hn
  have hlen := len_ks _ _ hk
  refine (keys_any (rows_at h hl _) (by rw [hlen]; exact hN)).mono ?_
  rintro e w' ⟨v, he, h1, h2⟩
  rw [hk, hlen] at h1
  have hb : Below w.heap.size w (w.alloc (.cells (rs.map Rw.v).toArray 56)) := (Below.refl _ _).alloc (Nat.le_refl _) _
  refine ⟨v, he, own_less h1 (by simp), Below.then hb h2⟩

set_option maxRecDepth 100000 in
set_option maxHeartbeats 1000000 in
theorem bucket_see {P : Nat} {s : Tb} {w : World} (h : TM P s w) (m : Mid s) (hN : s.ents.length ≤ 1073741824) (i : Int) (hi1 : -9223372036854775808 ≤ i) (hi2 : i ≤ 9223372036854775807) :
    Calls Try.prog 23 #[.pointer (some ⟨P, 0, none⟩), .int .i64 i] w fun e w' => ∃ v, e = .returned v ∧ w'.ownsRow w.heap.size 9 1 v ((if 0 ≤ i then s.new[i.toNat]?.getD [] else []).map En.k).length (kc ((if 0 ≤ i then s.new[i.toNat]?.getD [] else []).map En.k)) ∧ Below w.heap.size w w' := by
  have c2 := h.c2 m
  have l1 := m.len_le.1
  by_cases h0 : i < 0
  · rw [if_neg (by omega)]
    clear h m
    go_enter Try.func23, Try.ntmps23
    go_wp2_with fail
    go_ret
    exact ⟨.slice none 0 0, rfl, World.ownsRow_nil _ _ _ _, Below.refl _ _⟩
  · rw [if_pos (by omega)]
    obtain ⟨j, rfl⟩ : ∃ j : Nat, i = j := ⟨i.toNat, by omega⟩
    have h0' : (0 : Int) ≤ (j : Int) := by omega
    rw [show ((j : Int)).toNat = j from rfl]
    by_cases hj : j < s.new.length
    · obtain ⟨l, hl⟩ : ∃ l, s.new[j]? = some l := ⟨_, List.getElem?_eq_getElem hj⟩
      have hlen : (l.map En.k).length ≤ 1073741824 := by
        rw [List.length_map]
        refine Nat.le_trans ?_ hN
        exact (List.sublist_flatten_of_mem (show l ∈ s.rows by unfold Tb.rows; exact List.mem_append_right _ (List.mem_of_getElem? hl))).length_le
      have hc := rows_call (h.rwb_ok hl) (by simp [rwb]) (rwb_ks s j l) hlen 1 rfl
      rw [hl, Option.getD_some]
      have hv : (rwb s j l).map Rw.v = [.slice (some ⟨s.N, j, none⟩) 1 (s.new.length - j)] := rfl
      rw [hv] at hc
      have hj' : (j : Int) < (s.new.length : Int) := by omega
      generalize s.new.length = L at *
      generalize l.map En.k = xs at *
      have HC := hid hc
      clear h m hl hv hc hN
      go_enter Try.func23, Try.ntmps23
      go_wp2_with fail
      refine HC.out.mono ?_
      rintro e w1 ⟨v, rfl, o1, b1⟩
      go_wp2_with fail
      go_ret
      exact ⟨v, rfl, o1, b1⟩
    · have hj' : (s.new.length : Int) ≤ (j : Int) := by omega
      rw [List.getElem?_eq_none (by omega)]
      generalize s.new.length = L at *
      clear h m hN
      go_enter Try.func23, Try.ntmps23
      go_wp2_with fail
      go_ret
      exact ⟨.slice none 0 0, rfl, World.ownsRow_nil _ _ _ _, Below.refl _ _⟩

set_option maxRecDepth 100000 in
set_option maxHeartbeats 1000000 in
theorem keys_see {P : Nat} {s : Tb} {w : World} (h : TM P s w) (m : Mid s) (hN : s.ents.length ≤ 1073741824) :
    Calls Try.prog 17 #[.pointer (some ⟨P, 0, none⟩)] w fun e w' => ∃ v, e = .returned v ∧ w'.ownsRow w.heap.size 9 1 v (s.ents.map En.k).length (kc (s.ents.map En.k)) ∧ Below w.heap.size w w' := by
  have hlt := h.head.lt
  have c2 := h.head.cell (i := 2) (v := sl s.N s.new) rfl
  have c3 := h.head.cell (i := 3) (v := sl s.O s.old) rfl
  have hc := rows_call ((h.below (Below.refl _ w).drew).rws_ok m) (by simp [rws]) (rws_ks s) (by rw [List.length_map]; exact hN) 2 rfl
  rw [rws_v m] at hc
  obtain ⟨a1, n1, d1, hA⟩ := sl_form s.N s.new
  obtain ⟨a2, n2, d2, hB⟩ := sl_form s.O s.old
  rw [hA] at c2 hc
  rw [hB] at c3 hc
  clear hA hB
  generalize s.ents.map En.k = xs at *
  clear h m hN
  go_enter Try.func17, Try.ntmps17
  go_wp2_with fail
  go_region_held3 (fun w' => w'.cell? ⟨P, 3, none⟩ = some (.slice a2 n2 d2) ∧ w'.cell? ⟨P, 2, none⟩ = some (.slice a1 n1 d1)) (first | exact k3 | exact k2 | go_keep) (first | (refine hc.mono ?_; rintro e w1 ⟨v, rfl, o1, b1⟩; have k3 := (b1.cell (p := ⟨P, 3, none⟩) hlt).trans c3; have k2 := (b1.cell (p := ⟨P, 2, none⟩) hlt).trans c2))
  go_wp2_with fail
  go_ret
  exact ⟨v, rfl, o1, (Below.refl _ w).drew.trans b1⟩
end Go.Proofs.Ytfbkfbghejeknaa

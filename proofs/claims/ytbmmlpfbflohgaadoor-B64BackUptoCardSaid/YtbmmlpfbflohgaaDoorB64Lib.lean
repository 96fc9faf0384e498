/-
  Contracts of the library's functions that b64 calls, at this program: strings.Builder's Grow (once, at its beginning), WriteByte, WriteString, Len, String (of at most 2^47 bytes), strings.TrimRight of signs, strings.IndexByte among the letters. No other conditions.
-/
import Derived.Test.YtbmmlpfbflohgaaDoorShelf
import Derived.Test.YtbmmlpfbflohgaaDoorB64Letters
import Derived.Shelf.Strings.Builder2
import Derived.Shelf.Strings.Trim
import Derived.Shelf.Small.Strs
namespace Go.Proofs.YtbmmlpfbflohgaaDoor
open Go Go.Shelf Go.RowKit

def laysByte_ren : Go.Shelf.Ren := ⟨fun | 167 => 15 | 240 => 24 | 276 => 31 | n => n, fun | 0 => 0 | 3 => 3 | 4 => 4 | 5 => 5 | 9 => 9 | 20 => 20 | 37 => 29 | 70 => 31 | 72 => 33 | 75 => 37 | 80 => 43 | 164 => 58 | n => n, fun | n => n⟩
theorem laysByte : Go.Proofs.Lays.n167 Tryd.prog laysByte_ren := {
  mixed := by kernel_rfl
  f167 := Tryd.func15.trans (congrArg some (by kernel_rfl))
  f240 := Tryd.func24.trans (congrArg some (by kernel_rfl))
  f276 := Tryd.func31.trans (congrArg some (by kernel_rfl))
  t0 := Tryd.underlying0
  a0 := Tryd.isAgg0
  z0 := Tryd.sizeOf0
  v0 := Tryd.zeroValue0
  t4 := Tryd.underlying4
  a4 := Tryd.isAgg4
  z4 := Tryd.sizeOf4
  v4 := Tryd.zeroValue4
  t5 := Tryd.underlying5
  a5 := Tryd.isAgg5
  z5 := Tryd.sizeOf5
  v5 := Tryd.zeroValue5
  t9 := Tryd.underlying9
  a9 := Tryd.isAgg9
  z9 := Tryd.sizeOf9
  v9 := Tryd.zeroValue9
  t20 := Tryd.underlying20
  a20 := Tryd.isAgg20
  z20 := Tryd.sizeOf20
  v20 := Tryd.zeroValue20
  t37 := Tryd.underlying29
  a37 := Tryd.isAgg29
  z37 := Tryd.sizeOf29
  v37 := Tryd.zeroValue29
  t70 := Tryd.underlying31
  a70 := Tryd.isAgg31
  z70 := Tryd.sizeOf31
  v70 := Tryd.zeroValue31
  t72 := Tryd.underlying33
  a72 := Tryd.isAgg33
  z72 := Tryd.sizeOf33
  v72 := Tryd.zeroValue33
  t75 := Tryd.underlying37
  a75 := Tryd.isAgg37
  z75 := Tryd.sizeOf37
  v75 := Tryd.zeroValue37
  t164 := Tryd.underlying58
  a164 := Tryd.isAgg58
  z164 := Tryd.sizeOf58
  v164 := Tryd.zeroValue58 }
def laysStr_ren : Go.Shelf.Ren := ⟨fun | 166 => 18 | 240 => 24 | 276 => 31 | n => n, fun | 0 => 0 | 3 => 3 | 4 => 4 | 5 => 5 | 9 => 9 | 20 => 20 | 37 => 29 | 70 => 31 | 72 => 33 | 75 => 37 | 80 => 43 | 164 => 58 | n => n, fun | n => n⟩
theorem laysStr : Go.Proofs.Lays.n166 Tryd.prog laysStr_ren := {
  mixed := by kernel_rfl
  f166 := Tryd.func18.trans (congrArg some (by kernel_rfl))
  f240 := Tryd.func24.trans (congrArg some (by kernel_rfl))
  f276 := Tryd.func31.trans (congrArg some (by kernel_rfl))
  t0 := Tryd.underlying0
  a0 := Tryd.isAgg0
  z0 := Tryd.sizeOf0
  v0 := Tryd.zeroValue0
  t3 := Tryd.underlying3
  a3 := Tryd.isAgg3
  z3 := Tryd.sizeOf3
  v3 := Tryd.zeroValue3
  t4 := Tryd.underlying4
  a4 := Tryd.isAgg4
  z4 := Tryd.sizeOf4
  v4 := Tryd.zeroValue4
  t9 := Tryd.underlying9
  a9 := Tryd.isAgg9
  z9 := Tryd.sizeOf9
  v9 := Tryd.zeroValue9
  t20 := Tryd.underlying20
  a20 := Tryd.isAgg20
  z20 := Tryd.sizeOf20
  v20 := Tryd.zeroValue20
  t37 := Tryd.underlying29
  a37 := Tryd.isAgg29
  z37 := Tryd.sizeOf29
  v37 := Tryd.zeroValue29
  t70 := Tryd.underlying31
  a70 := Tryd.isAgg31
  z70 := Tryd.sizeOf31
  v70 := Tryd.zeroValue31
  t72 := Tryd.underlying33
  a72 := Tryd.isAgg33
  z72 := Tryd.sizeOf33
  v72 := Tryd.zeroValue33
  t75 := Tryd.underlying37
  a75 := Tryd.isAgg37
  z75 := Tryd.sizeOf37
  v75 := Tryd.zeroValue37
  t164 := Tryd.underlying58
  a164 := Tryd.isAgg58
  z164 := Tryd.sizeOf58
  v164 := Tryd.zeroValue58 }

theorem infoByte : (Tryd.prog.info? 5).map (fun i => (i.zero, i.size, i.bytes)) = some (some (.int .u8 0), 1, 1) := by kernel_rfl
theorem sizeBuilder : (Tryd.prog.info? 33).map (·.size) = some 2 := by kernel_rfl
theorem liesBuilder : liesAt Tryd.prog Tryd.prog.depth 33 (2 / Tryd.prog.cellsOf 33) 0 33 1 = true := by kernel_rfl
theorem cellsByte : Tryd.prog.cellsOf 5 = 1 := by kernel_rfl
theorem sizeByte : (Tryd.prog.info? 5).map (·.size) = some 1 := by kernel_rfl
theorem exGrow : Builder.Extra Tryd.prog Tryd.laysGrow_ren := { sizeBuilder := sizeBuilder, liesBuilder := liesBuilder, t5 := Tryd.underlying5, a5 := Tryd.isAgg5, z5 := Tryd.sizeOf5, v5 := Tryd.zeroValue5, infoByte := infoByte, cellsByte := cellsByte, sizeByte := sizeByte, neB5 := by decide }
theorem exString : Builder.Extra Tryd.prog Tryd.laysString_ren := { sizeBuilder := sizeBuilder, liesBuilder := liesBuilder, t5 := Tryd.underlying5, a5 := Tryd.isAgg5, z5 := Tryd.sizeOf5, v5 := Tryd.zeroValue5, infoByte := infoByte, cellsByte := cellsByte, sizeByte := sizeByte, neB5 := by decide }
theorem exByte : Builder.Extra Tryd.prog laysByte_ren := { sizeBuilder := sizeBuilder, liesBuilder := liesBuilder, t5 := Tryd.underlying5, a5 := Tryd.isAgg5, z5 := Tryd.sizeOf5, v5 := Tryd.zeroValue5, infoByte := infoByte, cellsByte := cellsByte, sizeByte := sizeByte, neB5 := by decide }
theorem exStr : Builder.Extra Tryd.prog laysStr_ren := { sizeBuilder := sizeBuilder, liesBuilder := liesBuilder, t5 := Tryd.underlying5, a5 := Tryd.isAgg5, z5 := Tryd.sizeOf5, v5 := Tryd.zeroValue5, infoByte := infoByte, cellsByte := cellsByte, sizeByte := sizeByte, neB5 := by decide }

/-- A builder of the call's own that holds these bytes. -/
def Bld (B b : Nat) (l : List UInt8) (w : World) : Prop := Lib.IsBuilder 33 5 B b (Lib.byteCells l) w
theorem Bld.lt {B b : Nat} {l : List UInt8} {w : World} (h : Bld B b l w) : b < w.heap.size := by
  rcases h with h | h
  · exact Lib.BuilderAt.lt h
  · exact Lib.BuilderAt.lt h
theorem cells_len (l : List UInt8) : (Lib.byteCells l).length = l.length := by simp [Lib.byteCells]
theorem cells_more (l r : List UInt8) : Lib.byteCells (l ++ r) = Lib.byteCells l ++ Lib.byteCells r := by simp [Lib.byteCells]

theorem bld_grow (B b n : Nat) (w : World) (hB : B ≤ b) (hbk : w.heap[b]? = some (.cells #[.pointer none, .slice none 0 0] 33 (0, 0))) (hBw : B ≤ w.heap.size) (hn : n ≤ 281474976710656) :
    Calls Tryd.prog 14 #[.pointer (some ⟨b, 0, none⟩), .int .i64 n] w fun e w' => e = .returned (.tuple #[]) ∧ Bld B b [] w' ∧ Below B w w' :=
  (Any.Builder_Grow_fresh Tryd.laysGrow exGrow B b n w hB hbk hBw hn).mono fun _ _ ⟨h1, h2, h3⟩ => ⟨h1, .inr h2, h3⟩
theorem bld_byte (B b : Nat) (l : List UInt8) (c : UInt8) (w : World) (h : Bld B b l w) (hl : l.length + 1 ≤ 140737488355328) (hBw : B ≤ w.heap.size) :
    Calls Tryd.prog 15 #[.pointer (some ⟨b, 0, none⟩), .int .u8 (c.toNat : Nat)] w fun e w' => e = .returned .nilIface ∧ Bld B b (l ++ [c]) w' ∧ Below B w w' :=
  (Any.Builder_WriteByte laysByte exByte B b (Lib.byteCells l) (c.toNat : Nat) w h (by rw [cells_len]; exact hl) hBw).mono fun _ _ ⟨h1, h2, h3⟩ => ⟨h1, .inr (by rw [cells_more]; exact h2), h3⟩
theorem bld_sign (B b : Nat) (l : List UInt8) (w : World) (h : Bld B b l w) (hl : l.length + 1 ≤ 140737488355328) (hBw : B ≤ w.heap.size) :
    Calls Tryd.prog 18 #[.pointer (some ⟨b, 0, none⟩), .string ⟨#[61]⟩] w fun e w' => e = .returned (.tuple #[.int .i64 1, .nilIface]) ∧ Bld B b (l ++ [61]) w' ∧ Below B w w' :=
  (Any.Builder_WriteString laysStr exStr B b (Lib.byteCells l) ⟨#[61]⟩ w h (by rw [cells_len]; exact hl) hBw).mono fun _ _ ⟨h1, h2, h3⟩ => ⟨h1, .inr (by rw [cells_more]; exact h2), h3⟩
theorem bld_len (B b : Nat) (l : List UInt8) (w : World) (h : Bld B b l w) :
    Calls Tryd.prog 17 #[.pointer (some ⟨b, 0, none⟩)] w fun e w' => e = .returned (.int .i64 l.length) ∧ w' = w := by
  have := Any.Builder_Len Tryd.laysLen B b (Lib.byteCells l) w h
  rw [cells_len] at this
  exact this
theorem bld_string (B b : Nat) (l : List UInt8) (w : World) (h : Bld B b l w) (hBw : B ≤ w.heap.size) :
    Calls Tryd.prog 19 #[.pointer (some ⟨b, 0, none⟩)] w fun e w' => e = .returned (.string (S l)) ∧ Below B w w' :=
  Any.Builder_String_any Tryd.laysString exString B b l w h hBw
theorem bld_fresh (w : World) : (w.alloc (.cells #[.pointer none, .slice none 0 0] 33)).heap[w.heap.size]? = some (.cells #[.pointer none, .slice none 0 0] 33 (0, 0)) := heap_alloc_new w _

theorem trim_signs (s : ByteArray) (w : World) (hs : s.size ≤ 9223372036854775807) :
    Calls Tryd.prog 22 #[.string s, .string ⟨#[61]⟩] w fun e w' => e = .returned (.string (S (Lib.trimRightB s.data.toList 61))) ∧ w' = w :=
  Any.strings_TrimRight_one Tryd.laysTrimRight s 61 (by decide) w hs

theorem index_letters (x : UInt8) : Lib.indexByte lettersB.data.toList x = if isN x.toNat then (num x.toNat : Int) else -1 := by
  have h : ∀ n : Fin 256, Lib.indexByte lettersB.data.toList (UInt8.ofNat n.1) = if isN n.1 then (num n.1 : Int) else -1 := by decide +kernel
  have := h ⟨x.toNat, x.toNat_lt⟩
  simpa using this
theorem index_letter (x : UInt8) (w : World) :
    Calls Tryd.prog 26 #[.string lettersB, .int .u8 (x.toNat : Nat)] w fun e w' => e = .returned (.int .i64 (if isN x.toNat then (num x.toNat : Int) else -1)) ∧ w' = w := by
  have h := Any.strings_IndexByte Tryd.laysIndexByte lettersB (x.toNat : Nat) w
  have e : ((x.toNat : Nat) : Int).toNat.toUInt8 = x := by simp
  rw [e, index_letters] at h
  exact h
end Go.Proofs.YtbmmlpfbflohgaaDoor

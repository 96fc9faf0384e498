/-
  Contracts of words.Line and words.Key, and of the document's own answers to them (ambryref02.Line, Key), at this program: they answer what the plain mathematics says, for every text of at most 2^63 - 2 bytes.
-/
import Derived.Test.YtfoggbgemdlhbaaDoorWordsLib
import Derived.WalkLawsBesides
import Derived.WalkSpells
import Derived.BigQuiet
import Derived.Deep.QuietTactic
import Derived.RegionTactic
namespace Go.Proofs.YtfoggbgemdlhbaaDoor
open Go Go.Shelf Go.RowKit

theorem hid {p : Prop} (h : p) : Hid p := h
end Go.Proofs.YtfoggbgemdlhbaaDoor

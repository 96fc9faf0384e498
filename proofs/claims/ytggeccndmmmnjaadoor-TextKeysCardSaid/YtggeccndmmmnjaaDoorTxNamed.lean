/-
  The reader's named at this program: what the plain mathematics says, whatever the name. Conditions: the package variables hold what they were laid with.
-/
import Derived.Test.YtggeccndmmmnjaaDoorTxNamedC
namespace Go.Proofs.YtggeccndmmmnjaaDoor.Tx
open Go Go.RowKit Go.Lib Md

theorem named_any {R c : Nat} {name : List UInt8} {ws : List (List UInt8)} {bh : List UInt8} {a : Option Addr} {w : World} (h : Rdr R ⟨ws, bh, false, 0, 0⟩ a c w) (hv : VarsR R w) (hj : (Lib.join ws [32]).length ≤ 140737488355328) :
    Calls Tryd.prog 19 #[.pointer (some ⟨R, 0, none⟩), .string (S name)] w (RdP R w (namedR name ws bh)) := by
  by_cases h0 : name = wGet
  · subst h0
    exact named_wGet h hv
  by_cases h1 : name = wGets
  · subst h1
    exact named_wGets h hv
  by_cases h2 : name = wGat
  · subst h2
    exact named_wGat h hv
  by_cases h3 : name = wGats
  · subst h3
    exact named_wGats h hv
  by_cases h4 : name = wSet
  · subst h4
    exact named_wSet h hv
  by_cases h5 : name = wCas
  · subst h5
    exact named_wCas h hv
  by_cases h6 : name = wAdd
  · subst h6
    exact named_wAdd h hv
  by_cases h7 : name = wReplace
  · subst h7
    exact named_wReplace h hv
  by_cases h8 : name = wAppend
  · subst h8
    exact named_wAppend h hv
  by_cases h9 : name = wPrepend
  · subst h9
    exact named_wPrepend h hv
  by_cases h10 : name = wIncr
  · subst h10
    exact named_wIncr h hv
  by_cases h11 : name = wDecr
  · subst h11
    exact named_wDecr h hv
  by_cases h12 : name = wTouch
  · subst h12
    exact named_wTouch h hv
  by_cases h13 : name = wDelete
  · subst h13
    exact named_wDelete h hv
  by_cases h14 : name = wFlush
  · subst h14
    exact named_wFlush h hv
  by_cases h15 : name = wVersion
  · subst h15
    exact named_wVersion h hv
  by_cases h16 : name = wVerbosity
  · subst h16
    exact named_wVerbosity h hv
  by_cases h17 : name = wStats
  · subst h17
    exact named_wStats h hv hj
  by_cases h18 : name = wQuit
  · subst h18
    exact named_wQuit h hv
  exact named_other h hv h0 h1 h2 h3 h4 h5 h6 h7 h8 h9 h10 h11 h12 h13 h14 h15 h16 h17 h18
end Go.Proofs.YtggeccndmmmnjaaDoor.Tx

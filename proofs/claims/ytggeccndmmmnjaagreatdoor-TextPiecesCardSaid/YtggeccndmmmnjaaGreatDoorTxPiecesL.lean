/-
  The law TextPieces for any bytes as a claim's arguments give them. Conditions: the package variables hold what they were laid with.
-/
import Derived.Test.YtggeccndmmmnjaaGreatDoorTxPieces
import Derived.Test.YtggeccndmmmnjaaGreatDoorTxClose
namespace Go.Proofs.YtggeccndmmmnjaaGreatDoor.Tx
open Go Go.RowKit Go.Lib Md
theorem S_self (s : ByteArray) : S s.data.toList = s := by cases s; simp [S]
theorem pieces_bytes (s : ByteArray) (hs : s.size ≤ 140737488351232) (cut : Int) (u0 : -9223372036854775808 ≤ cut) (u1 : cut ≤ 9223372036854775807) (w : World) (hv : Nu.Vars w) :
    Calls Tryz.prog 3 #[.string s, .int .i64 cut] w fun e w' => e = .returned (.bool true) ∧ Below w.heap.size w w' := by
  have h := pieces_law s.data.toList (by rw [← size_len]; omega) cut u0 u1 w hv
  rwa [S_self] at h
end Go.Proofs.YtggeccndmmmnjaaGreatDoor.Tx

/-
  The model's l1Number of one digit.
-/
import Derived.Test.YtofpjepndhpciaaZA
import Derived.Laws.BytesString
namespace Go.Proofs.Ytofpjepndhpciaa
open Go.RowKit Go.Shelf

/-- The text of one digit. -/
def digB (k : Nat) : ByteArray := ByteArray.empty.push (UInt8.ofNat (48 + k))

end Go.Proofs.Ytofpjepndhpciaa

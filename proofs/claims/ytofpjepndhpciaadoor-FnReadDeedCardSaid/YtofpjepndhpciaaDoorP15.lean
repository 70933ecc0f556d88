/-
  The program's chapter 11, the first part: deeds and journals.
-/
import Derived.Test.YtofpjepndhpciaaDoorP15d
namespace Go.Proofs.YtofpjepndhpciaaDoor
open Go.RowKit Go.Shelf Go.Deep
theorem dws_kept2 {w W : World} (h : DWs w) {n : Nat} (hb : Below n w W) (hn : w.heap.size ≤ n) : DWs W := h.kept (hb.mono hn)
end Go.Proofs.YtofpjepndhpciaaDoor

/-
  impl.CountOf, impl.BelowOk, impl.SameLevel.
-/
import Derived.Test.YtofpjepndhpciaaZM
import Derived.Test.YtofpjepndhpciaaM6b
namespace Go.Proofs.Ytofpjepndhpciaa
open Go.RowKit Go.Shelf Go.Deep

attribute [local go_sem] Oper.semAt_some

theorem few_maps {G H : List (List Int)} (h : fewI G H = true) : (mapsFrom G H G.length []).length ≤ 7000 := by rw [← mapsL_yes h]; exact mapsL_le G H

/-- ARE BOTH BELOW EACH OTHER? -/
def levelI (G H : List (List Int)) : Bool := belowI G H && belowI H G
end Go.Proofs.Ytofpjepndhpciaa

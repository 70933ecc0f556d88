/-
  The model's GraphText.
-/
import Derived.Test.YtofpjepndhpciaaS1
import Derived.Test.YtofpjepndhpciaaZE
namespace Go.Proofs.Ytofpjepndhpciaa
open Go.RowKit Go.Shelf

/-- What stands behind the text s once the arrows of node k to the nodes below m are told. -/
def rowB (G : List (List Int)) (k : Nat) (s : ByteArray) : Nat → ByteArray
  | 0 => s
  | m + 1 => if arw G k m = true then rowB G k s m ++ digB m else rowB G k s m
theorem rowB_yes {G : List (List Int)} {k m : Nat} {s : ByteArray} (h : arw G k m = true) : rowB G k s (m + 1) = rowB G k s m ++ digB m := by
  conv => lhs; unfold rowB
  exact if_pos h
theorem rowB_no {G : List (List Int)} {k m : Nat} {s : ByteArray} (h : arw G k m = false) : rowB G k s (m + 1) = rowB G k s m := by
  conv => lhs; unfold rowB
  exact if_neg (by rw [h]; decide)
/-- The text of the nodes below k. -/
def textB (G : List (List Int)) : Nat → ByteArray
  | 0 => ⟨#[]⟩
  | k + 1 => rowB G k (if 0 < k then textB G k ++ ⟨#[47]⟩ else textB G k) G.length
def gTextB (G : List (List Int)) : ByteArray := if gOk G = true then textB G G.length else ⟨#[]⟩

end Go.Proofs.Ytofpjepndhpciaa

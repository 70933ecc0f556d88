/-
  spec.PairedOf, walked.
-/
import Derived.Test.YtjcoilabmbmbkaaZT
import Derived.Test.YtjcoilabmbmbkaaT2
import Derived.Test.YtjcoilabmbmbkaaT5
import Derived.Test.YtjcoilabmbmbkaaZN
import Derived.Test.YtjcoilabmbmbkaaZI
namespace Go.Proofs.Ytjcoilabmbmbkaa
open Go.RowKit Go.Shelf Go.Deep

/-- THE MAP MADE OF TWO, into the product; nothing for others. -/
def paiI (K G H : List (List Int)) (f e : List Int) : List Int := if timOk G H = true ∧ mapOkI K G f = true ∧ mapOkI K H e = true then paiL H.length f e else []
theorem paiI_yes {K G H : List (List Int)} {f e : List Int} (h : timOk G H = true ∧ mapOkI K G f = true ∧ mapOkI K H e = true) : paiI K G H f e = paiL H.length f e := if_pos h
theorem paiI_no {K G H : List (List Int)} {f e : List Int} (h : ¬ (timOk G H = true ∧ mapOkI K G f = true ∧ mapOkI K H e = true)) : paiI K G H f e = [] := if_neg h
theorem pai_small {K G H : List (List Int)} {f e : List Int} (h : mapOkI K G f = true) (h' : mapOkI K H e = true) : 1 ≤ f.length ∧ e.length = f.length ∧ f.length = K.length ∧ K.length ≤ 9 := by
  obtain ⟨⟨hg1, _⟩, hm1⟩ := mapOk_iff.1 h
  obtain ⟨_, hm2⟩ := mapOk_iff.1 h'
  have h1 := hm1.1.1
  have h2 := hm2.1.1
  have h3 := (good_of hg1).1
  have h4 := (good_of hg1).2.1
  omega
theorem paiI_le {K G H : List (List Int)} {f e : List Int} : (paiI K G H f e).length ≤ 1048576 := by
  by_cases h : timOk G H = true ∧ mapOkI K G f = true ∧ mapOkI K H e = true
  · rw [paiI_yes h, paiL_length]; have := pai_small h.2.1 h.2.2; omega
  · rw [paiI_no h]; simp

end Go.Proofs.Ytjcoilabmbmbkaa

/-
  The walk of the law of P10 (TimesOf).
-/
import Derived.Test.YtiappomfohnhoaaZP
import Derived.Test.YtiappomfohnhoaaT2
import Derived.Test.YtiappomfohnhoaaM7
import Derived.Test.YtiappomfohnhoaaZE
import Derived.Test.YtiappomfohnhoaaG1
import Derived.Test.YtiappomfohnhoaaZM
namespace Go.Proofs.Ytiappomfohnhoaa
open Go.RowKit Go.Shelf

theorem Bytes.belowT {n₀ n₁ n : Nat} {A B : World} {a : Option Addr} (h : Bytes n₀ A a n) (hb : Below n₀ A B) (hn : n₀ ≤ n₁) : Bytes n₁ B a n := fun h0 => by
  obtain ⟨b, o, e, hlt, hc⟩ := h.keep (B := B) (fun p hp => hb.cell hp) h0
  exact ⟨b, o, e, Nat.lt_of_lt_of_le hlt hn, hc⟩
theorem countI_small {G H : List (List Int)} (h : fewI G H = true) : 0 ≤ countI G H ∧ countI G H ≤ 7000 := by
  rw [countI_yes h]; have := mapsL_le G H; omega
theorem arrowsI_few {G : List (List Int)} (h : Good G) : 0 ≤ arrowsI G ∧ arrowsI G ≤ 81 := by
  rw [arrowsI_yes (gOk_true h)]
  have h1 := AL_le G
  have h2 := sq_le h.2.1
  omega
theorem mul_bound {a b m : Int} (h0 : 0 ≤ a) (h1 : a ≤ m) (h2 : 0 ≤ b) (h3 : b ≤ m) : 0 ≤ a * b ∧ a * b ≤ m * m :=
  ⟨Int.mul_nonneg h0 h2, Int.mul_le_mul h1 h3 h2 (by omega)⟩

end Go.Proofs.Ytiappomfohnhoaa

/-
  The reader of a code (spec.l20Rd): one number is drawn. What the laws' own draws rest on.
-/
import Derived.Test.YtmohmecdhabapaaA3
import Derived.Deep.Draws
import Derived.Deep.AppendLies
import Derived.Maps.AppendAt
namespace Go.Proofs.Ytmohmecdhabapaa
open Go.RowKit Go.Shelf

theorem xor_i64_nat (a b : Nat) (ha : a < 4611686018427387904) (hb : b < 4611686018427387904) : bits .xor .i64 (a : Int) (b : Int) = ((a ^^^ b : Nat) : Int) := by
  show IntKind.i64.wrap ((BitVec.ofInt 64 (a : Int) ^^^ BitVec.ofInt 64 (b : Int)).toNat : Int) = _
  rw [BitVec.toNat_xor, ofInt_u64 a (by omega), ofInt_u64 b (by omega)]
  have h1 : a ^^^ b < 2 ^ 62 := Nat.xor_lt_two_pow (by omega) (by omega)
  simp [IntKind.wrap, IntKind.bits, IntKind.signed]
  omega

theorem xor_nn (X : Int) (h0 : 0 ≤ X) (h1 : X ≤ 4000000000000000000) : 0 ≤ bits .xor .i64 X (X / 64) := by
  obtain ⟨k, rfl⟩ := Int.eq_ofNat_of_zero_le h0
  have e : ((k : Int) / 64) = ((k / 64 : Nat) : Int) := by omega
  rw [e, xor_i64_nat k (k / 64) (by omega) (by omega)]
  omega

/-- THE BYTES that a code holds: n of them from a on, in a block below n₀. -/
def Bytes (n₀ : Nat) (W : World) (a : Option Addr) (n : Nat) : Prop :=
  0 < n → ∃ b o, a = some ⟨b, o, none⟩ ∧ b < n₀ ∧ ∀ j, j < n → ∃ v : Int, W.cell? ⟨b, o + j, none⟩ = some (.int .u8 v) ∧ 0 ≤ v ∧ v ≤ 255
theorem Bytes.keep {n₀ n : Nat} {A B : World} {a : Option Addr} (h : Bytes n₀ A a n) (hk : ∀ p : Addr, p.block < n₀ → B.cell? p = A.cell? p) : Bytes n₀ B a n := fun hn => by
  obtain ⟨b, o, e, hb, hc⟩ := h hn
  refine ⟨b, o, e, hb, fun j hj => ?_⟩
  obtain ⟨v, h1, h2⟩ := hc j hj
  exact ⟨v, (hk ⟨b, o + j, none⟩ hb).trans h1, h2⟩

end Go.Proofs.Ytmohmecdhabapaa

/-
  impl.GraphText, walked.
-/
import Derived.Test.YtofpjepndhpciaaDoorS3
import Derived.Test.YtofpjepndhpciaaDoorZE
import Derived.Test.YtofpjepndhpciaaDoorZM
namespace Go.Proofs.YtofpjepndhpciaaDoor
open Go.RowKit Go.Shelf Go.Deep

attribute [local go_sem] Oper.semAt_some

theorem infoStr : (Tryd.prog.info? 9).map (fun i => (i.zero, i.size, i.bytes)) = some (some (.string ⟨#[]⟩), 1, 16) := by kernel_rfl

theorem enc_digit (k : Nat) (hk : k < 10) : Utf8.encode (48 + (k : Int)) = digB k := by
  have h : k = 0 ∨ k = 1 ∨ k = 2 ∨ k = 3 ∨ k = 4 ∨ k = 5 ∨ k = 6 ∨ k = 7 ∨ k = 8 ∨ k = 9 := by omega
  rcases h with rfl | rfl | rfl | rfl | rfl | rfl | rfl | rfl | rfl | rfl <;> rfl

end Go.Proofs.YtofpjepndhpciaaDoor

/-
  The model's l1Number of one digit.
-/
import Derived.Test.YtofpjepndhpciaaDoorZA
import Derived.Laws.BytesString
namespace Go.Proofs.YtofpjepndhpciaaDoor
open Go.RowKit Go.Shelf

/-- The text of one digit. -/
def digB (k : Nat) : ByteArray := ByteArray.empty.push (UInt8.ofNat (48 + k))

set_option maxRecDepth 100000 in
set_option maxHeartbeats 1000000 in
theorem number_any (k : Nat) (hk : k < 10) (w : World) :
    Calls Tryd.prog 37 #[.int .i64 k] w fun e w' => e = .returned (.string (digB k)) ∧ Below w.heap.size w w' := by
  have hcv : (convert 22 9 (.slice (some ⟨w.heap.size, 0, none⟩) 1 1)).run Tryd.prog (w.alloc (.cells #[.int .u8 (48 + (k : Int))] 5)) = .ok (.string (digB k)) (w.alloc (.cells #[.int .u8 (48 + (k : Int))] 5)) := by
    rw [run_convert_bytes_string _ _ _ 5 _ _ _ Tryd.underlying22 Tryd.underlying5 Tryd.underlying9]
    rw [run_bytesToString _ _ _ _ [48 + (k : Int)]]
    · have e : (48 + (k : Int)).toNat = 48 + k := by omega
      simp only [List.foldl_cons, List.foldl_nil, e]
      rfl
    · have h := run_loadCells (P := Tryd.prog) (w := w.alloc (.cells #[.int .u8 (48 + (k : Int))] 5)) ⟨w.heap.size, 0, none⟩ 1 (fun _ => .int .u8 (48 + (k : Int))) (fun j hj => by
        obtain rfl : j = 0 := by omega
        exact cell_one_new _ _ _ 0 _ rfl)
      rw [h]
      rfl
  go_enter Tryd.func37, Tryd.ntmps37
  go_wp2_with fail
  go_ret
  exact ⟨rfl, (Below.refl _ w).alloc (Nat.le_refl _) _⟩

end Go.Proofs.YtofpjepndhpciaaDoor

/-
  Texts of graphs, in plain words: the arrows told one by one, the rows joined.
-/
import Derived.Test.YtofpjepndhpciaaS2
import Derived.Lib.Join
namespace Go.Proofs.Ytofpjepndhpciaa
open Go.RowKit Go.Shelf

/-- What the arrows of a list tell of node i, run on. -/
def rowT {m : Nat} (i : Nat) : List (Fin m × Fin m) → ByteArray → ByteArray
  | [], s => s
  | x :: r, s => rowT i r (if x.1.1 = i then s ++ digB x.2.1 else s)
theorem rowT_app {m : Nat} (i : Nat) : ∀ (p q : List (Fin m × Fin m)) (s : ByteArray), rowT i (p ++ q) s = rowT i q (rowT i p s)
  | [], _, _ => rfl
  | _ :: r, q, _ => rowT_app i r q _
theorem rowT_yes {m : Nat} {i j : Nat} (hi : i < m) (hj : j < m) (p : List (Fin m × Fin m)) (s : ByteArray) : rowT i (p ++ [(⟨i, hi⟩, ⟨j, hj⟩)]) s = rowT i p s ++ digB j := by
  rw [rowT_app]; simp [rowT]
theorem rowT_no {m : Nat} {i k j : Nat} (hk : k < m) (hj : j < m) (h : k ≠ i) (p : List (Fin m × Fin m)) (s : ByteArray) : rowT i (p ++ [(⟨k, hk⟩, ⟨j, hj⟩)]) s = rowT i p s := by
  rw [rowT_app]; simp [rowT, h]
theorem digB_size (k : Nat) : (digB k).size = 1 := rfl
theorem rowT_size {m : Nat} (i : Nat) : ∀ (p : List (Fin m × Fin m)) (s : ByteArray), (rowT i p s).size ≤ s.size + p.length
  | [], s => by simp [rowT]
  | x :: r, s => by
    have h := rowT_size i r (if x.1.1 = i then s ++ digB x.2.1 else s)
    unfold rowT
    rw [List.length_cons]
    split at h
    · rename_i h1
      rw [ByteArray.size_append, digB_size] at h
      rw [if_pos h1]; omega
    · rename_i h1
      rw [if_neg h1]; omega

def cutT (G : List (List Int)) (i k : Nat) : ByteArray := rowT i (((PL G.length).take k).filter fun x => arw G x.1.1 x.2.1) ⟨#[]⟩
theorem cutT_step {G : List (List Int)} {i r j : Nat} (hr : r < G.length) (hj : j < G.length) : cutT G i (r * G.length + (j + 1)) = if r = i ∧ arw G r j = true then cutT G i (r * G.length + j) ++ digB j else cutT G i (r * G.length + j) := by
  unfold cutT
  rw [← PL_take hr hj, List.filter_append]
  by_cases ha : arw G r j = true
  · have e : List.filter (fun x : Fin G.length × Fin G.length => arw G x.1.1 x.2.1) [(⟨r, hr⟩, ⟨j, hj⟩)] = [(⟨r, hr⟩, ⟨j, hj⟩)] := by simp [ha]
    rw [e]
    by_cases hi : r = i
    · subst hi; rw [if_pos ⟨rfl, ha⟩, rowT_yes]
    · rw [if_neg fun h => hi h.1, rowT_no hr hj hi]
  · have e : List.filter (fun x : Fin G.length × Fin G.length => arw G x.1.1 x.2.1) [(⟨r, hr⟩, ⟨j, hj⟩)] = [] := by simp [ha]
    rw [e, if_neg fun h => ha h.2, List.append_nil]
theorem cutT_row {G : List (List Int)} {i r : Nat} (hr : r < G.length) : ∀ j, j ≤ G.length → cutT G i (r * G.length + j) = if r = i then rowB G i (cutT G i (r * G.length)) j else cutT G i (r * G.length)
  | 0, _ => by rw [Nat.add_zero]; split <;> rfl
  | j + 1, hj => by
    have ih := cutT_row (i := i) hr j (by omega)
    rw [cutT_step hr (by omega), ih]
    by_cases hi : r = i
    · subst hi
      simp only [if_true, true_and]
      by_cases ha : arw G r j = true
      · rw [if_pos ha, rowB_yes ha]
      · rw [if_neg ha, rowB_no (by simpa using ha)]
    · simp [hi]
theorem cutT_low {G : List (List Int)} {i : Nat} : ∀ r, r ≤ i → r ≤ G.length → cutT G i (r * G.length) = ⟨#[]⟩
  | 0, _, _ => by simp [cutT, rowT]
  | r + 1, h, hl => by
    have ih := cutT_low (G := G) (i := i) r (by omega) (by omega)
    have e := cutT_row (G := G) (i := i) (r := r) (by omega) G.length (Nat.le_refl _)
    rw [if_neg (by omega), ih] at e
    rw [Nat.succ_mul]; exact e
theorem cutT_high {G : List (List Int)} {i : Nat} (hi : i < G.length) : ∀ d, i + 1 + d ≤ G.length → cutT G i ((i + 1 + d) * G.length) = rowB G i ⟨#[]⟩ G.length
  | 0, _ => by
    have e := cutT_row (G := G) (i := i) (r := i) hi G.length (Nat.le_refl _)
    rw [if_pos rfl, cutT_low i (Nat.le_refl _) (by omega)] at e
    rw [Nat.add_zero, Nat.succ_mul]; exact e
  | d + 1, h => by
    have ih := cutT_high hi d (by omega)
    have e := cutT_row (G := G) (i := i) (r := i + 1 + d) (by omega) G.length (Nat.le_refl _)
    rw [if_neg (by omega), ih] at e
    rw [show i + 1 + (d + 1) = (i + 1 + d) + 1 by omega, Nat.succ_mul]; exact e
/-- All arrows of node i, run on: its row. -/
theorem rowT_all {G : List (List Int)} {i : Nat} (hi : i < G.length) : rowT i (AL G) ⟨#[]⟩ = rowB G i ⟨#[]⟩ G.length := by
  have h := cutT_high hi (G.length - (i + 1)) (by omega)
  rw [show i + 1 + (G.length - (i + 1)) = G.length by omega] at h
  unfold cutT at h
  rw [List.take_of_length_le (by rw [PL_length]; exact Nat.le_refl _)] at h
  exact h
theorem rowB_run {G : List (List Int)} {k : Nat} (s : ByteArray) : ∀ m, rowB G k s m = s ++ rowB G k ⟨#[]⟩ m
  | 0 => (ByteArray.append_empty).symm
  | m + 1 => by
    by_cases ha : arw G k m = true
    · rw [rowB_yes ha, rowB_yes ha, rowB_run s m, ByteArray.append_assoc]
    · rw [rowB_no (by simpa using ha), rowB_no (by simpa using ha), rowB_run s m]
/-- THE TEXTS OF THE NODES. -/
def rowsT (G : List (List Int)) (k : Nat) : List ByteArray := (List.range k).map fun i => rowB G i ⟨#[]⟩ G.length
theorem rowsT_succ (G : List (List Int)) (k : Nat) : rowsT G (k + 1) = rowsT G k ++ [rowB G k ⟨#[]⟩ G.length] := by simp [rowsT, List.range_succ]
theorem rowsT_length (G : List (List Int)) (k : Nat) : (rowsT G k).length = k := by simp [rowsT]
theorem join_snoc (y sep : List UInt8) : ∀ xs : List (List UInt8), xs ≠ [] → Lib.join (xs ++ [y]) sep = Lib.join xs sep ++ (sep ++ y)
  | [], h => absurd rfl h
  | x :: r, _ => by rw [List.cons_append, Lib.join_cons, Lib.join_cons]; simp [Lib.joinTail]
theorem textB_join (G : List (List Int)) : ∀ k, (textB G k).data.toList = Lib.join ((rowsT G k).map (·.data.toList)) [47]
  | 0 => rfl
  | k + 1 => by
    have ih := textB_join G k
    rw [rowsT_succ, List.map_append]
    show (rowB G k (if 0 < k then textB G k ++ ⟨#[47]⟩ else textB G k) G.length).data.toList = _
    rw [rowB_run]
    by_cases hk : 0 < k
    · have hne : (rowsT G k).map (·.data.toList) ≠ [] := fun e => by
        have := congrArg List.length e
        rw [List.length_map, rowsT_length] at this
        simp at this
        omega
      rw [if_pos hk, List.map_singleton, join_snoc _ _ _ hne, ← ih]
      simp [ByteArray.data_append]
    · obtain rfl : k = 0 := by omega
      simp only [if_neg hk]
      simp [rowsT, Lib.join_one, textB, ByteArray.data_append]
theorem join_text (G : List (List Int)) : (⟨(Lib.join ((rowsT G G.length).map (·.data.toList)) [47]).toArray⟩ : ByteArray) = textB G G.length := by
  rw [← textB_join]
theorem rowB_size {G : List (List Int)} {k : Nat} : ∀ m, (rowB G k ⟨#[]⟩ m).size ≤ m
  | 0 => Nat.le_refl _
  | m + 1 => by
    have ih := rowB_size (G := G) (k := k) m
    by_cases ha : arw G k m = true
    · rw [rowB_yes ha, ByteArray.size_append, digB_size]; omega
    · rw [rowB_no (by simpa using ha)]; omega
theorem textB_size (G : List (List Int)) : ∀ k, (textB G k).size ≤ (G.length + 1) * k
  | 0 => Nat.le_refl _
  | k + 1 => by
    have ih := textB_size G k
    show (rowB G k (if 0 < k then textB G k ++ ⟨#[47]⟩ else textB G k) G.length).size ≤ _
    have h1 := rowB_size (G := G) (k := k) G.length
    have h2 : (ByteArray.mk #[47]).size = 1 := rfl
    rw [rowB_run, ByteArray.size_append, Nat.mul_succ]
    split
    · rw [ByteArray.size_append, h2]; omega
    · omega
theorem bytes_ne_self (zv : ByteArray) : (zv != zv) = false := by
  have h : (zv == zv) = true := by
    show (zv.data == zv.data) = true
    exact beq_self_eq_true _
  simp [bne, h]

end Go.Proofs.Ytofpjepndhpciaa

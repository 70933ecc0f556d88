/-
  impl.SideOf, walked.
-/
import Derived.Test.YtnehbpihljbjdaaZS
import Derived.Test.YtnehbpihljbjdaaT5
namespace Go.Proofs.Ytnehbpihljbjdaa
open Go.RowKit Go.Shelf Go.Deep

set_option maxRecDepth 100000 in
set_option maxHeartbeats 4000000 in
theorem implSide (a a' : Option Addr) (c c' : Nat) (G H : List (List Int)) (s : Int) (w : World) (hM : Mat w.heap.size w a G) (hM' : Mat w.heap.size w a' H) (hf : Fit G) (hf' : Fit H) :
    Calls Try.prog 24 #[.slice a G.length c, .slice a' H.length c', .int .i64 s] w (MadeI (sidI G H s) w) := by
  have hTO := timesOk_any a a' c c' G H w hM hM' hf hf'
  by_cases hok : timOk G H = true
  · rw [hok] at hTO
    obtain ⟨hG, hH, h9⟩ := timOk_of hok
    have HTO := Lib.hid hTO
    clear hTO hf hf' hM hM'
    by_cases hs : s = 0 ∨ s = 1
    · rw [sidI_yes hok hs]
      have HG1 := Lib.hid hG.1
      have HH1 := Lib.hid hH.1
      clear hG hH hok
      obtain ⟨n, hn⟩ : ∃ n, G.length = n := ⟨_, rfl⟩
      obtain ⟨m, hm⟩ : ∃ m, H.length = m := ⟨_, rfl⟩
      rw [hn] at HTO HG1 h9 ⊢
      rw [hm] at HTO HH1 h9 ⊢
      clear hn hm
      have hN0 : 0 < n * m := mul_pos1 HG1.out HH1.out
      rcases hs with rfl | rfl
      all_goals
        first | rw [show decide ((0 : Int) = 1) = false from rfl] | rw [show decide ((1 : Int) = 1) = true from rfl]
        go_enter Try.func24, Try.ntmps24
        go_wp2_with fail
        refine HTO.out.mono ?_
        rintro e w1 ⟨rfl, hB1⟩
        have hz1 := hB1.size
        go_wp2_with fail
        refine (pairsWith_any a a' n m c c' w1 HG1.out HH1.out h9).mono ?_
        rintro e w2 ⟨g, cap, rfl, hB2, hP⟩
        have hB02 := hB1.trans (hB2.mono hz1)
        have hz2 := hB02.size
        have hlg := World.ownsRow.lt hP g rfl
        have HP := Lib.hid hP
        have HB := Lib.hid hB02
        clear hB2 hB1 hP hB02
        obtain ⟨N, hN⟩ : ∃ N, n * m = N := ⟨_, rfl⟩
        have hmk := run_make_row' (P := Try.prog) 37 3 (.int .i64 0) 8 Try.underlying37 infoInt rfl .i64 .i64 (n * m) (by omega) (by omega)
        rw [hN] at h9 hN0 hmk ⊢
        have HN := Lib.hid hN
        clear hN
        go_wp2_with fail
        clear hmk
      · obtain ⟨zs, HZ⟩ : ∃ zs, Hid (sideL n m false = zs) := ⟨_, rfl⟩
        have HZL : Hid (zs.length = N) := Lib.hid (by rw [← HZ.out, sideL_length, HN.out])
        go_loopw [33] (fun i wr => ∃ k : Nat, k ≤ N ∧ i = .int .i64 k ∧ Below w2.heap.size w2 wr ∧ Hid (wr.rowIs w2.heap.size 3 zs.length (fun j => .int .i64 (if j < k then zs[j]?.getD 0 else 0))))
          (fun i _ => N - (intOf i).toNat)
        case atStart =>
          refine ⟨0, Nat.zero_le _, rfl, (Below.refl _ _).alloc (Nat.le_refl _) _, ?_⟩
          have h := copyS_start w2 zs
          rw [HZL.out] at h ⊢
          exact h
        case round =>
          obtain ⟨k, hk, rfl, hB, HR⟩ := hrel
          by_cases hlt : k < N
          · have hP' : Pairs w1.heap.size n m wr g cap := ownsRow_below HP.out hB
            obtain ⟨c1, c2⟩ := pairs_cells hP' (z := k) (by rw [HN.out]; exact hlt)
            have hgl := (World.ownsRow.lt hP' g rfl).2
            have hbl : w2.heap.size < wr.heap.size := World.rowIs.lt HR.out
            have HZk : Hid (zs[k]? = some ((k / m : Nat) : Int)) := Lib.hid (by rw [← HZ.out, sideL_get (by rw [HN.out]; exact hlt)]; rfl)
            have hkz : k < zs.length := by rw [HZL.out]; exact hlt
            have hc3 := HR.out.cell hkz
            have hf3 := HR.out.frozen k
            generalize k / m = q at c1 HZk ⊢
            generalize k % m = r at c2 ⊢
            clear hP'
            go_wp2_with fail
            go_roundw
            case rel => exact ⟨k + 1, by omega, by go_num, (hB.setCell (p := ⟨w2.heap.size, k, none⟩) (Nat.le_refl _) _).alloc (by simp; omega) _, Lib.hid ((copyS_step HR.out HZk.out).alloc _)⟩
            case measure => simp [intOf]; omega
          · obtain rfl : k = N := by omega
            have HR2 : Hid (RowI wr w2.heap.size zs) := Lib.hid (copyS_done (by have h := HR.out; rw [← HZL.out] at h; exact h))
            have hB0 := HB.out.trans (hB.mono hz2)
            go_wp2_with fail
            go_ret
            exact ⟨some ⟨w2.heap.size, 0, none⟩, k, ⟨by rw [HZ.out, HZL.out]; rfl, hB0⟩, .inr ⟨w2.heap.size, rfl, by rw [HZ.out, HZL.out], by rw [HZ.out]; exact HR2.out, hz2⟩⟩
      · obtain ⟨zs, HZ⟩ : ∃ zs, Hid (sideL n m true = zs) := ⟨_, rfl⟩
        have HZL : Hid (zs.length = N) := Lib.hid (by rw [← HZ.out, sideL_length, HN.out])
        go_loopw [33] (fun i wr => ∃ k : Nat, k ≤ N ∧ i = .int .i64 k ∧ Below w2.heap.size w2 wr ∧ Hid (wr.rowIs w2.heap.size 3 zs.length (fun j => .int .i64 (if j < k then zs[j]?.getD 0 else 0))))
          (fun i _ => N - (intOf i).toNat)
        case atStart =>
          refine ⟨0, Nat.zero_le _, rfl, (Below.refl _ _).alloc (Nat.le_refl _) _, ?_⟩
          have h := copyS_start w2 zs
          rw [HZL.out] at h ⊢
          exact h
        case round =>
          obtain ⟨k, hk, rfl, hB, HR⟩ := hrel
          by_cases hlt : k < N
          · have hP' : Pairs w1.heap.size n m wr g cap := ownsRow_below HP.out hB
            obtain ⟨c1, c2⟩ := pairs_cells hP' (z := k) (by rw [HN.out]; exact hlt)
            have hgl := (World.ownsRow.lt hP' g rfl).2
            have hbl : w2.heap.size < wr.heap.size := World.rowIs.lt HR.out
            have HZk : Hid (zs[k]? = some ((k % m : Nat) : Int)) := Lib.hid (by rw [← HZ.out, sideL_get (by rw [HN.out]; exact hlt)]; rfl)
            have hkz : k < zs.length := by rw [HZL.out]; exact hlt
            have hc3 := HR.out.cell hkz
            have hf3 := HR.out.frozen k
            generalize k / m = q at c1 ⊢
            generalize k % m = r at c2 HZk ⊢
            clear hP'
            go_wp2_with fail
            go_roundw
            case rel => exact ⟨k + 1, by omega, by go_num, (hB.setCell (p := ⟨w2.heap.size, k, none⟩) (Nat.le_refl _) _).alloc (by simp; omega) _, Lib.hid ((copyS_step HR.out HZk.out).alloc _)⟩
            case measure => simp [intOf]; omega
          · obtain rfl : k = N := by omega
            have HR2 : Hid (RowI wr w2.heap.size zs) := Lib.hid (copyS_done (by have h := HR.out; rw [← HZL.out] at h; exact h))
            have hB0 := HB.out.trans (hB.mono hz2)
            go_wp2_with fail
            go_ret
            exact ⟨some ⟨w2.heap.size, 0, none⟩, k, ⟨by rw [HZ.out, HZL.out]; rfl, hB0⟩, .inr ⟨w2.heap.size, rfl, by rw [HZ.out, HZL.out], by rw [HZ.out]; exact HR2.out, hz2⟩⟩
    · rw [sidI_no fun h => hs h.2]
      have h0 : (s == 0) = false := by simp; exact fun e => hs (.inl e)
      have h1 : (s == 1) = false := by simp; exact fun e => hs (.inr e)
      have h2 : (s != 0) = true := by simp; exact fun e => hs (.inl e)
      have h3 : (s != 1) = true := by simp; exact fun e => hs (.inr e)
      clear hs hok hG hH h9
      go_enter Try.func24, Try.ntmps24
      go_wp2_with fail
      refine HTO.out.mono ?_
      rintro e w1 ⟨rfl, hB1⟩
      go_wp2_with fail
      go_ret
      exact ⟨none, 0, ⟨rfl, hB1⟩, .inl ⟨rfl, rfl, rfl⟩⟩
  · have hn : timOk G H = false := by simpa using hok
    rw [hn] at hTO
    rw [sidI_no fun h => hok h.1]
    have HTO := Lib.hid hTO
    clear hTO hf hf' hM hM' hok hn
    go_enter Try.func24, Try.ntmps24
    go_wp2_with fail
    refine HTO.out.mono ?_
    rintro e w1 ⟨rfl, hB1⟩
    go_wp2_with fail
    go_ret
    exact ⟨none, 0, ⟨rfl, hB1⟩, .inl ⟨rfl, rfl, rfl⟩⟩

end Go.Proofs.Ytnehbpihljbjdaa

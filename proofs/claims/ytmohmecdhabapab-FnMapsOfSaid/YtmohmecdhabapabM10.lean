/-
  impl.BehindOf and its model.
-/
import Derived.Test.YtmohmecdhabapabL2
import Derived.Test.YtmohmecdhabapabM3c
namespace Go.Proofs.Ytmohmecdhabapab
open Go.RowKit Go.Shelf Go.Deep

/-- THE MAP BEHIND A MAP; nothing for others. -/
def behI (G H K : List (List Int)) (f e : List Int) : List Int := if mapOkI G H f = true ∧ mapOkI H K e = true then behL f e else []
theorem behI_yes {G H K : List (List Int)} {f e : List Int} (h : mapOkI G H f = true) (h' : mapOkI H K e = true) : behI G H K f e = behL f e := if_pos ⟨h, h'⟩
theorem behI_no {G H K : List (List Int)} {f e : List Int} (h : ¬ (mapOkI G H f = true ∧ mapOkI H K e = true)) : behI G H K f e = [] := if_neg h
theorem mapOk_iff {G H : List (List Int)} {f : List Int} : mapOkI G H f = true ↔ (gOk G = true ∧ gOk H = true) ∧ IsMap G H f := by
  unfold mapOkI IsMap
  simp only [Bool.and_eq_true, tells_iff]
  refine ⟨fun ⟨⟨h1, h2⟩, h3⟩ => ⟨h1, h2, fun i j hi hj ha => List.all_eq_true.1 h3 (⟨i, hi⟩, ⟨j, hj⟩) (by unfold AL; exact List.mem_filter.2 ⟨PL_all _, ha⟩)⟩, fun ⟨h1, h2, h3⟩ => ⟨⟨h1, h2⟩, List.all_eq_true.2 fun x hx => h3 x.1.1 x.2.1 x.1.2 x.2.2 (by unfold AL at hx; exact (List.mem_filter.1 hx).2)⟩⟩
theorem behL_length (f e : List Int) : (behL f e).length = f.length := by simp [behL]
/-- A NEW LIST IN A BLOCK OF ITS OWN (nil where there is none). -/
def OwnI (base : Nat) (W : World) (a : Option Addr) (c : Nat) (xs : List Int) : Prop :=
  (xs = [] ∧ a = none ∧ c = 0) ∨ ∃ b : Nat, a = some ⟨b, 0, none⟩ ∧ c = xs.length ∧ RowI W b xs ∧ base ≤ b
def MadeI (xs : List Int) (w : World) (e : Ending) (w' : World) : Prop := ∃ (a : Option Addr) (c : Nat), (e = .returned (.slice a xs.length c) ∧ Below w.heap.size w w') ∧ OwnI w.heap.size w' a c xs

set_option maxRecDepth 100000 in
set_option maxHeartbeats 2000000 in
theorem implBehind (a a' a'' a3 a4 : Option Addr) (c c' c'' c3 c4 : Nat) (G H K : List (List Int)) (f e : List Int) (w : World) (hM : Mat w.heap.size w a G) (hM' : Mat w.heap.size w a' H) (hM'' : Mat w.heap.size w a'' K) (hI : Ints w.heap.size w a3 f) (hI' : Ints w.heap.size w a4 e)
    (hf : Fit G) (hf' : Fit H) (hf'' : Fit K) (hl : f.length ≤ 1048576) (hl' : e.length ≤ 1048576) :
    Calls Try.prog 33 #[.slice a G.length c, .slice a' H.length c', .slice a'' K.length c'', .slice a3 f.length c3, .slice a4 e.length c4] w (MadeI (behI G H K f e) w) := by
  have HF := Lib.hid hf
  have HF' := Lib.hid hf'
  have HF'' := Lib.hid hf''
  clear hf hf' hf''
  obtain ⟨x, hx⟩ : ∃ x, mapOkI G H f = x := ⟨_, rfl⟩
  obtain ⟨y, hy⟩ : ∃ y, mapOkI H K e = y := ⟨_, rfl⟩
  have HX := Lib.hid hx
  have HY := Lib.hid hy
  obtain ⟨zs, HZ⟩ : ∃ zs, Hid (behI G H K f e = zs) := ⟨_, rfl⟩
  rw [HZ.out]
  clear hx hy
  go_enter Try.func33, Try.ntmps33
  go_wp2_with fail
  refine (implMapOk _ _ _ _ _ _ _ _ _ _ hM hM' hI HF.out HF'.out hl).mono ?_
  rw [HX.out]
  rintro ee w1 ⟨rfl, hB1⟩
  have hz1 := hB1.size
  have hM1' := (hM'.below hB1).more hz1
  have hM1'' := (hM''.below hB1).more hz1
  have hI1 := hI.below hB1
  have hI1' := (hI'.below hB1).more hz1
  clear hM hM' hM'' hI hI'
  cases x with
  | false =>
    have h0 : zs = [] := HZ.out.symm.trans (behI_no fun h => by have h1 := h.1; rw [HX.out] at h1; cases h1)
    subst h0
    go_wp2_with fail
    go_ret
    exact ⟨none, 0, ⟨rfl, hB1⟩, .inl ⟨rfl, rfl, rfl⟩⟩
  | true =>
    go_wp2_with fail
    refine (implMapOk _ _ _ _ _ _ _ _ _ _ hM1' hM1'' hI1' HF'.out HF''.out hl').mono ?_
    rw [HY.out]
    rintro ee w2 ⟨rfl, hB2⟩
    have hB02 := hB1.trans (hB2.mono hz1)
    have hI2 := hI1.below (hB2.mono hz1)
    have hI2' := hI1'.below hB2
    have hz2 := hB2.size
    clear hM1' hM1'' hI1 hI1'
    cases y with
    | false =>
      have h0 : zs = [] := HZ.out.symm.trans (behI_no fun h => by have h1 := h.2; rw [HY.out] at h1; cases h1)
      subst h0
      go_wp2_with fail
      go_ret
      exact ⟨none, 0, ⟨rfl, hB02⟩, .inl ⟨rfl, rfl, rfl⟩⟩
    | true =>
      obtain ⟨⟨hg1, hg2⟩, hm1⟩ := mapOk_iff.1 HX.out
      obtain ⟨⟨_, _⟩, hm2⟩ := mapOk_iff.1 HY.out
      have HM1 := Lib.hid hm1
      have HM2 := Lib.hid hm2
      have hfl : f.length = G.length := hm1.1.1
      have h9 := (good_of hg1).2.1
      have hf9 : f.length ≤ 9 := by omega
      have hel : e.length = H.length := hm2.1.1
      have hzs : zs = behL f e := HZ.out.symm.trans (behI_yes HX.out HY.out)
      have hzl : zs.length = f.length := by rw [hzs, behL_length]
      have HZS := Lib.hid hzs
      have HZL := Lib.hid hzl
      have HFL := Lib.hid hfl
      have HEL := Lib.hid hel
      clear hm1 hm2 hzs hg1 hg2 hfl hel hzl
      have hmk := run_make_row' (P := Try.prog) 29 3 (.int .i64 0) 8 Try.underlying29 infoInt rfl .i64 .i64 f.length (by omega) (by omega)
      go_wp2_with fail
      clear hmk
      go_loopw [31] (fun i wr => ∃ k : Nat, k ≤ f.length ∧ i = .int .i64 k ∧ Below w2.heap.size w2 wr ∧ Hid (wr.rowIs w2.heap.size 3 zs.length (fun j => .int .i64 (if j < k then zs[j]?.getD 0 else 0))))
        (fun i _ => f.length - (intOf i).toNat)
      case atStart =>
        refine ⟨0, Nat.zero_le _, rfl, (Below.refl _ _).alloc (Nat.le_refl _) _, ?_⟩
        have h := copyS_start w2 zs
        rw [HZL.out] at h ⊢
        exact h
      case round =>
        obtain ⟨k, hk, rfl, hB, HR⟩ := hrel
        by_cases hlt : k < f.length
        · obtain ⟨p, hp, enp, hpH⟩ := tells_at HM1.out.1 (j := k) (by have := HFL.out; omega)
          obtain ⟨q, hq, enq, hqK⟩ := tells_at HM2.out.1 hpH
          obtain ⟨b, o, v, rfl, hb, hc, HV⟩ := hI2.at_ hlt
          have ev : v = (p : Int) := by have := HV.out; rw [hp] at this; cases this; rfl
          subst ev
          have hpe : p < e.length := by have := HEL.out; omega
          obtain ⟨b2, o2, u, rfl, hb2, hc2, HU⟩ := hI2'.at_ hpe
          have eu : u = (q : Int) := by have := HU.out; rw [hq] at this; cases this; rfl
          subst eu
          have HZk : Hid (zs[k]? = some (q : Int)) := Lib.hid (by rw [HZS.out]; unfold behL; rw [List.getElem?_map, hp]; simp [hq])
          have hca : wr.cell? ⟨b, o + k, none⟩ = some (.int .i64 (p : Int)) := (hB.cell (p := ⟨b, o + k, none⟩) (by show b < _; omega)).trans hc
          have hcb : wr.cell? ⟨b2, o2 + p, none⟩ = some (.int .i64 (q : Int)) := (hB.cell (p := ⟨b2, o2 + p, none⟩) (by show b2 < _; omega)).trans hc2
          have hkz : k < zs.length := by rw [HZL.out]; exact hlt
          have hc3 := HR.out.cell hkz
          have hf3 := HR.out.frozen k
          clear hc hc2 hp enp hq enq HV HU
          go_wp2_with fail
          go_roundw
          case rel => exact ⟨k + 1, by omega, by go_num, hB.setCell (p := ⟨w2.heap.size, k, none⟩) (Nat.le_refl _) _, Lib.hid (copyS_step HR.out HZk.out)⟩
          case measure => simp [intOf]; omega
        · obtain rfl : k = f.length := by omega
          have HR2 : Hid (RowI wr w2.heap.size zs) := Lib.hid (copyS_done (by have h := HR.out; rw [← HZL.out] at h; exact h))
          have hB0 := hB02.trans (hB.mono (by have := hB02.size; omega))
          go_wp2_with fail
          go_ret
          exact ⟨some ⟨w2.heap.size, 0, none⟩, f.length, ⟨by rw [HZL.out]; rfl, hB0⟩, .inr ⟨w2.heap.size, rfl, HZL.out.symm, HR2.out, hB02.size⟩⟩

end Go.Proofs.Ytmohmecdhabapab

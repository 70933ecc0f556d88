/-
  Lists of graphs, and desks, whose rows lie apart; copies of them.
-/
import Derived.Test.YtofpjepndhpciaaLR
import Derived.Test.YtofpjepndhpciaaLM
namespace Go.Proofs.Ytofpjepndhpciaa
open Go.RowKit Go.Shelf Go.Deep

/-- A GRAPH IN BLOCKS OF ITS OWN, which lie between two bounds. -/
def OwnG (lo hi : Nat) (W : World) (a : Option Addr) (c : Nat) (G : List (List Int)) : Prop :=
  ∃ (b : Nat) (F : Nat → Nat), (a = some ⟨b, 0, none⟩ ∧ c = G.length) ∧ OwnM W b F G ∧ (lo ≤ b ∧ b < hi) ∧ (∀ i, i < G.length → lo ≤ F i ∧ F i < hi) ∧ ∀ i j, F i = F j → i = j
theorem OwnG.wide {lo hi lo' hi' : Nat} {W : World} {a : Option Addr} {c : Nat} {G : List (List Int)} (h : OwnG lo hi W a c G) (h1 : lo' ≤ lo) (h2 : hi ≤ hi') : OwnG lo' hi' W a c G := by
  obtain ⟨b, F, e, ho, hb, hF, hi⟩ := h
  exact ⟨b, F, e, ho, by omega, fun i h => by have := hF i h; omega, hi⟩
theorem OwnG.below {lo hi n : Nat} {W W' : World} {a : Option Addr} {c : Nat} {G : List (List Int)} (h : OwnG lo hi W a c G) (hb : Below n W W') (hn : hi ≤ n) : OwnG lo hi W' a c G := by
  obtain ⟨b, F, e, ho, hb', hF, hi⟩ := h
  exact ⟨b, F, e, ho.below hb (by omega) (fun i h => by have := hF i h; omega), hb', hF, hi⟩
theorem OwnG.touch {lo hi : Nat} {S : Nat → Prop} {W W' : World} {a : Option Addr} {c : Nat} {G : List (List Int)} (h : OwnG lo hi W a c G) (ht : Touch S W W') (hS : ∀ B, S B → B < lo ∨ hi ≤ B) : OwnG lo hi W' a c G := by
  obtain ⟨b, F, e, ho, hb', hF, hi⟩ := h
  exact ⟨b, F, e, ht.own ho (fun s => by have := hS _ s; omega) (fun i h s => by have := hS _ s; have := hF i h; omega), hb', hF, hi⟩
theorem OwnG.mat {lo hi : Nat} {W : World} {a : Option Addr} {c : Nat} {G : List (List Int)} (h : OwnG lo hi W a c G) : Mat W.heap.size W a G := by
  obtain ⟨b, F, ⟨rfl, _⟩, ho, _⟩ := h
  exact ho.size
theorem OwnG.copy {G : List (List Int)} {w w' : World} {e : Ending} (h : CopySS G w e w') : (e = .returned (.slice (some ⟨w.heap.size, 0, none⟩) G.length G.length) ∧ Below w.heap.size w w') ∧ OwnG w.heap.size w'.heap.size w' (some ⟨w.heap.size, 0, none⟩) G.length G := by
  obtain ⟨he, hb, hz, ho⟩ := h
  exact ⟨⟨he, hb⟩, _, _, ⟨rfl, rfl⟩, ho, ⟨Nat.le_refl _, by omega⟩, fun i hi => ⟨by show w.heap.size ≤ w.heap.size + 1 + i; omega, by show w.heap.size + 1 + i < _; omega⟩, fun i j h => by have h' : w.heap.size + 1 + i = w.heap.size + 1 + j := h; omega⟩

/-- THE FIRST k GRAPHS LIE IN BLOCKS OF THEIR OWN, one behind the other; so does the slice of all. -/
structure PartC (w wr : World) (b : Nat) (P : List (List (List Int))) (k : Nat) (A T : Nat → Nat) : Prop where
  below : Below w.heap.size w wr
  bw : w.heap.size ≤ b ∧ b < T 0
  mono : ∀ i, T i ≤ T (i + 1)
  top : T k ≤ wr.heap.size
  row : wr.rowIs b 23 P.length (fun i => if i < k then .slice (some ⟨A i, 0, none⟩) (P[i]?.getD []).length (P[i]?.getD []).length else .slice none 0 0)
  done : ∀ i G, i < k → P[i]? = some G → OwnG (T i) (T (i + 1)) wr (some ⟨A i, 0, none⟩) G.length G
theorem mono_le {T : Nat → Nat} (h : ∀ i, T i ≤ T (i + 1)) : ∀ {i j : Nat}, i ≤ j → T i ≤ T j
  | i, 0, hij => by obtain rfl : i = 0 := by omega
                    exact Nat.le_refl _
  | i, j + 1, hij => by
    by_cases e : i = j + 1
    · subst e; exact Nat.le_refl _
    · exact Nat.le_trans (mono_le h (i := i) (j := j) (by omega)) (h j)
theorem PartC.start {w W : World} (P : List (List (List Int))) (hb : Below w.heap.size w W) : PartC w (W.alloc (.cells (madeCells #[.slice none 0 0] P.length) 23)) W.heap.size P 0 (fun _ => 0) (fun _ => W.heap.size + 1) :=
  ⟨hb.alloc hb.size _, ⟨hb.size, by show W.heap.size < W.heap.size + 1; omega⟩, fun _ => Nat.le_refl _, by simp, (World.rowIs_made W _ _ _).congr fun j _ => by simp, fun i G h => absurd h (Nat.not_lt_zero _)⟩
theorem PartC.step {w wr w1 : World} {b : Nat} {P : List (List (List Int))} {k x : Nat} {A T : Nat → Nat} {G : List (List Int)} (h : PartC w wr b P k A T) (hG : P[k]? = some G) (hb : Below wr.heap.size wr w1) (hO : OwnG wr.heap.size w1.heap.size w1 (some ⟨x, 0, none⟩) G.length G) :
    PartC w (w1.setCell ⟨b, k, none⟩ (.slice (some ⟨x, 0, none⟩) G.length G.length)) b P (k + 1) (fun i => if i = k then x else A i) (fun i => if i ≤ k then T i else w1.heap.size) := by
  have hs := hb.size
  have htk := h.top
  have hbw := h.bw
  have hT0 : T 0 ≤ T k := mono_le h.mono (Nat.zero_le k)
  have hbr : b < wr.heap.size := by omega
  have hset : ∀ (lo hi a : Nat) (H : List (List Int)), b < lo → OwnG lo hi w1 (some ⟨a, 0, none⟩) H.length H → OwnG lo hi (w1.setCell ⟨b, k, none⟩ (.slice (some ⟨x, 0, none⟩) G.length G.length)) (some ⟨a, 0, none⟩) H.length H := fun lo hi a H hlo ho =>
    ho.touch (Touch.set (S := fun B => B = b) w1 rfl k _) (fun B e => by cases e; exact .inl hlo)
  refine ⟨(h.below.trans (hb.mono h.below.size)).setCell (p := ⟨b, k, none⟩) hbw.1 _, ⟨hbw.1, by simp only [Nat.zero_le, if_true]; exact hbw.2⟩, fun i => ?_, ?_, ?_, fun i H hi hH => ?_⟩
  · by_cases h1 : i + 1 ≤ k
    · rw [if_pos h1, if_pos (by omega)]; exact h.mono i
    · by_cases h2 : i ≤ k
      · rw [if_neg h1, if_pos h2]
        have := mono_le h.mono h2
        omega
      · rw [if_neg h1, if_neg h2]; exact Nat.le_refl _
  · rw [if_neg (by omega)]; simp
  · refine ((World.rowIs.of_block h.row (hb.block b hbr)).set k _).congr fun j _ => ?_
    by_cases e : j = k
    · subst e; simp [hG]
    · by_cases hj : j < k
      · simp [e, hj, show j < k + 1 by omega]
      · simp [e, hj, show ¬ j < k + 1 by omega]
  · by_cases e : i = k
    · subst e
      rw [hG] at hH; cases hH
      simp only [if_true, Nat.le_refl, if_neg (show ¬ i + 1 ≤ i by omega)]
      exact hset _ _ _ _ (by omega) (hO.wide htk (Nat.le_refl _))
    · have hik : i < k := by omega
      simp only [if_neg e, if_pos (show i ≤ k by omega), if_pos (show i + 1 ≤ k by omega)]
      have h0 := mono_le h.mono (show 0 ≤ i by omega)
      have h1 := mono_le h.mono (show i + 1 ≤ k by omega)
      exact hset _ _ _ _ (by omega) ((h.done i H hik hH).below hb (by omega))
/-- GRAPHS IN BLOCKS OF THEIR OWN. -/
def OwnC (lo hi : Nat) (W : World) (a : Option Addr) (c : Nat) (P : List (List (List Int))) : Prop :=
  ∃ (b : Nat) (A T : Nat → Nat), (a = some ⟨b, 0, none⟩ ∧ c = P.length) ∧ (lo ≤ b ∧ b < T 0) ∧ (∀ i, T i ≤ T (i + 1)) ∧ T P.length ≤ hi ∧
    W.rowIs b 23 P.length (fun i => .slice (some ⟨A i, 0, none⟩) (P[i]?.getD []).length (P[i]?.getD []).length) ∧ ∀ i G, P[i]? = some G → OwnG (T i) (T (i + 1)) W (some ⟨A i, 0, none⟩) G.length G
theorem PartC.own {w wr : World} {b : Nat} {P : List (List (List Int))} {A T : Nat → Nat} (h : PartC w wr b P P.length A T) : OwnC w.heap.size wr.heap.size wr (some ⟨b, 0, none⟩) P.length P :=
  ⟨b, A, T, ⟨rfl, rfl⟩, h.bw, h.mono, h.top, h.row.congr fun i hi => by rw [if_pos hi], fun i G hG => h.done i G (List.getElem?_eq_some_iff.1 hG).1 hG⟩
theorem OwnC.touch {lo hi : Nat} {S : Nat → Prop} {W W' : World} {a : Option Addr} {c : Nat} {P : List (List (List Int))} (h : OwnC lo hi W a c P) (ht : Touch S W W') (hS : ∀ B, S B → B < lo ∨ hi ≤ B) : OwnC lo hi W' a c P := by
  obtain ⟨b, A, T, e, hb, hm, htp, hr, hd⟩ := h
  have h0 := mono_le hm (Nat.zero_le P.length)
  refine ⟨b, A, T, e, hb, hm, htp, World.rowIs.of_block hr (ht.block b fun s => by have := hS _ s; omega), fun i G hG => (hd i G hG).touch ht fun B s => ?_⟩
  have hi' := (List.getElem?_eq_some_iff.1 hG).1
  have h1 := mono_le hm (show 0 ≤ i by omega)
  have h2 := mono_le hm (show i + 1 ≤ P.length by omega)
  have := hS B s
  omega
theorem OwnC.below {lo hi n : Nat} {W W' : World} {a : Option Addr} {c : Nat} {P : List (List (List Int))} (h : OwnC lo hi W a c P) (hb : Below n W W') (hn : hi ≤ n) : OwnC lo hi W' a c P := by
  obtain ⟨b, A, T, e, hb', hm, htp, hr, hd⟩ := h
  have h0 := mono_le hm (Nat.zero_le P.length)
  refine ⟨b, A, T, e, hb', hm, htp, World.rowIs.of_block hr (hb.block b (by omega)), fun i G hG => (hd i G hG).below hb ?_⟩
  have hi' := (List.getElem?_eq_some_iff.1 hG).1
  have h2 := mono_le hm (show i + 1 ≤ P.length by omega)
  omega
theorem OwnC.wide {lo hi lo' hi' : Nat} {W : World} {a : Option Addr} {c : Nat} {P : List (List (List Int))} (h : OwnC lo hi W a c P) (h1 : lo' ≤ lo) (h2 : hi ≤ hi') : OwnC lo' hi' W a c P := by
  obtain ⟨b, A, T, e, hb', hm, htp, hr, hd⟩ := h
  exact ⟨b, A, T, e, by omega, hm, by omega, hr, hd⟩
theorem OwnC.cube {lo hi : Nat} {W : World} {a : Option Addr} {c : Nat} {P : List (List (List Int))} (h : OwnC lo hi W a c P) : Cube W.heap.size W a P := fun _ => by
  obtain ⟨b, A, T, ⟨rfl, _⟩, hb', hm, htp, hr, hd⟩ := h
  refine ⟨b, 0, rfl, World.rowIs.lt hr, fun i G hG => ?_⟩
  have hi := (List.getElem?_eq_some_iff.1 hG).1
  have hc := World.rowIs.cell hr hi
  rw [hG] at hc
  exact ⟨_, _, by rw [Nat.zero_add]; exact hc, (hd i G hG).mat⟩
/-- A DESK WHOSE ROWS LIE APART. -/
def OwnDk (lo hi : Nat) (W : World) (v : Value) (d : Dk) : Prop :=
  ∃ (aN aP : Option Addr) (n1 n2 p1 p2 : Nat), v = .agg #[.slice aN d.now.length d.now.length, .slice aP d.past.length d.past.length] ∧ OwnG n1 n2 W aN d.now.length d.now ∧ OwnC p1 p2 W aP d.past.length d.past ∧
    (lo ≤ n1 ∧ n2 ≤ hi) ∧ (lo ≤ p1 ∧ p2 ≤ hi) ∧ (n2 ≤ p1 ∨ p2 ≤ n1)
theorem OwnDk.below {lo hi n : Nat} {W W' : World} {v : Value} {d : Dk} (h : OwnDk lo hi W v d) (hb : Below n W W') (hn : hi ≤ n) : OwnDk lo hi W' v d := by
  obtain ⟨aN, aP, n1, n2, p1, p2, e, hN, hP, h1, h2, h3⟩ := h
  exact ⟨aN, aP, n1, n2, p1, p2, e, hN.below hb (by omega), hP.below hb (by omega), h1, h2, h3⟩
theorem OwnDk.touch {lo hi : Nat} {S : Nat → Prop} {W W' : World} {v : Value} {d : Dk} (h : OwnDk lo hi W v d) (ht : Touch S W W') (hS : ∀ B, S B → B < lo ∨ hi ≤ B) : OwnDk lo hi W' v d := by
  obtain ⟨aN, aP, n1, n2, p1, p2, e, hN, hP, h1, h2, h3⟩ := h
  exact ⟨aN, aP, n1, n2, p1, p2, e, hN.touch ht (fun B s => by have := hS B s; omega), hP.touch ht (fun B s => by have := hS B s; omega), h1, h2, h3⟩
theorem OwnDk.wide {lo hi lo' hi' : Nat} {W : World} {v : Value} {d : Dk} (h : OwnDk lo hi W v d) (h1 : lo' ≤ lo) (h2 : hi ≤ hi') : OwnDk lo' hi' W v d := by
  obtain ⟨aN, aP, n1, n2, p1, p2, e, hN, hP, h3, h4, h5⟩ := h
  exact ⟨aN, aP, n1, n2, p1, p2, e, hN, hP, by omega, by omega, h5⟩
/-- A DESK THAT CAN BE READ. -/
def DeskR (n₀ : Nat) (W : World) (v : Value) (d : Dk) : Prop := ∃ (aN aP : Option Addr) (cN cP : Nat), v = .agg #[.slice aN d.now.length cN, .slice aP d.past.length cP] ∧ Mat n₀ W aN d.now ∧ Cube n₀ W aP d.past
theorem OwnDk.read {lo hi : Nat} {W : World} {v : Value} {d : Dk} (h : OwnDk lo hi W v d) : DeskR W.heap.size W v d := by
  obtain ⟨aN, aP, n1, n2, p1, p2, e, hN, hP, _⟩ := h
  exact ⟨aN, aP, _, _, e, hN.mat, hP.cube⟩
theorem DeskR.below {n : Nat} {W W' : World} {v : Value} {d : Dk} (h : DeskR n W v d) (hb : Below n W W') : DeskR n W' v d := by
  obtain ⟨aN, aP, cN, cP, e, h1, h2⟩ := h
  exact ⟨aN, aP, cN, cP, e, h1.below hb, h2.below hb⟩
theorem DeskR.more {n m : Nat} {W : World} {v : Value} {d : Dk} (h : DeskR n W v d) (hn : n ≤ m) : DeskR m W v d := by
  obtain ⟨aN, aP, cN, cP, e, h1, h2⟩ := h
  exact ⟨aN, aP, cN, cP, e, h1.more hn, h2.more hn⟩

theorem infoRowsL : (Try.prog.info? 23).map (fun i => (i.zero, i.size, i.bytes)) = some (some (.slice none 0 0), 1, 24) := by kernel_rfl
def CopyC (P : List (List (List Int))) (w : World) (e : Ending) (w' : World) : Prop := ∃ a, (e = .returned (.slice a P.length P.length) ∧ Below w.heap.size w w') ∧ OwnC w.heap.size w'.heap.size w' a P.length P

set_option maxHeartbeats 1000000 in
theorem toC_any (a : Option Addr) (c : Nat) (P : List (List (List Int))) (n₀ : Nat) (w : World) (hM : Cube n₀ w a P) (hF : FitC P) (hn₀ : n₀ ≤ w.heap.size) :
    Calls Try.prog 36 #[.slice a P.length c] w (CopyC P w) := by
  have HF := Lib.hid hF
  have hl := hF.1
  have hmk := run_make_row' (P := Try.prog) 24 23 (.slice none 0 0) 24 Try.underlying24 infoRowsL rfl .i64 .i64 P.length (by omega) (by omega)
  have HP0 : Hid (PartC w (w.alloc (.cells (madeCells #[.slice none 0 0] P.length) 23)) w.heap.size P 0 (fun _ => 0) (fun _ => w.heap.size + 1)) := Lib.hid (PartC.start P (Below.refl _ _))
  clear hF
  go_enter Try.func36, Try.ntmps36
  go_wp2_with fail
  clear hmk
  go_loopw [4] (fun i wr => ∃ (k : Nat) (A T : Nat → Nat), k ≤ P.length ∧ i = .int .i64 k ∧ Hid (PartC w wr w.heap.size P k A T)) (fun i _ => P.length - (intOf i).toNat)
  case atStart => exact ⟨0, _, _, Nat.zero_le _, rfl, HP0⟩
  case round =>
    obtain ⟨k, A, T, hk, rfl, HP⟩ := hrel
    clear HP0
    by_cases hlt : k < P.length
    · have hB := HP.out.below
      obtain ⟨b, o, G, aG, cG, rfl, hb, HG, hc, hMG⟩ := (hM.below (hB.mono hn₀)).at_ hlt
      have hbw := HP.out.bw
      have htp := HP.out.top
      have hT0 : T 0 ≤ T k := mono_le HP.out.mono (Nat.zero_le k)
      have hbz : w.heap.size < wr.heap.size := by omega
      have hFG := HF.out.2 G (List.mem_of_getElem? HG.out)
      have hc2 := HP.out.row.cell hlt
      simp only [Nat.lt_irrefl, if_false] at hc2
      have hf2 := HP.out.row.frozen k
      have hkl : (k : Int) < (P.length : Int) := by omega
      have HTO := Lib.hid (toSS_any aG cG G n₀ wr hMG hFG (by omega))
      clear hMG hFG
      go_wp2_with fail
      refine HTO.out.mono ?_
      intro e w1 hcp
      obtain ⟨⟨rfl, hb1⟩, hO⟩ := OwnG.copy hcp
      have HP1 := Lib.hid (HP.out.step HG.out hb1 hO)
      have hc3 := (hb1.cell (p := ⟨w.heap.size, k, none⟩) hbz).trans hc2
      have hf3 := (hb1.frozen (p := ⟨w.heap.size, k, none⟩) hbz).trans hf2
      clear hcp hO hb1 hc2 hf2 HTO
      go_wp2_with fail
      go_roundw
      case rel => exact ⟨k + 1, _, _, by omega, by go_num, HP1⟩
      case measure => simp [intOf]; omega
    · obtain rfl : k = P.length := by omega
      go_wp2_with fail
      go_ret
      exact ⟨_, ⟨rfl, HP.out.below⟩, HP.out.own⟩

end Go.Proofs.Ytofpjepndhpciaa

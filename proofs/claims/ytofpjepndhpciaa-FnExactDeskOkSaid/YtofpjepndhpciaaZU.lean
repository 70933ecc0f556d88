/-
  Several texts in one.
  Images of rows, rows that stay, repeated rows, counting: the pure facts of chapter 5.
  Parts to which a graph is led, parts that stay, cores: the pure facts of chapter 5.
  Cores of one level are the same; orders that leave a graph as it is, counted: the pure facts of chapter 5.
-/
import Derived.Test.YtofpjepndhpciaaZL
import Derived.Test.YtofpjepndhpciaaWV
import Derived.Test.YtofpjepndhpciaaZQ
import Derived.Test.YtofpjepndhpciaaWD
import Derived.Test.YtofpjepndhpciaaZX
import Derived.Test.YtofpjepndhpciaaM7
namespace Go.Proofs.Ytofpjepndhpciaa
open Go.RowKit Go.Shelf Go.Deep

/-- The numbers below m that a row tells, ascending. -/
def imgN (m : Nat) (f : List Int) : List Nat := (List.range m).filter fun k => f.contains (k : Int)
def imgL (m : Nat) (f : List Int) : List Int := (imgN m f).map fun k : Nat => (k : Int)
theorem imgN_mem {m : Nat} {f : List Int} {k : Nat} : k ∈ imgN m f ↔ k < m ∧ (k : Int) ∈ f := by simp [imgN]
theorem imgL_mem {m : Nat} {f : List Int} {y : Int} : y ∈ imgL m f ↔ (0 ≤ y ∧ y < m) ∧ y ∈ f := by
  unfold imgL
  rw [List.mem_map]
  constructor
  · rintro ⟨k, hk, rfl⟩
    obtain ⟨h1, h2⟩ := imgN_mem.1 hk
    exact ⟨⟨by omega, by omega⟩, h2⟩
  · rintro ⟨⟨h1, h2⟩, h3⟩
    have e : (y.toNat : Int) = y := Int.toNat_of_nonneg h1
    exact ⟨y.toNat, imgN_mem.2 ⟨by omega, by rw [e]; exact h3⟩, e⟩
theorem imgN_nodup (m : Nat) (f : List Int) : (imgN m f).Nodup := List.Nodup.sublist List.filter_sublist List.nodup_range
theorem map_nodup {α β : Type} {f : α → β} : ∀ {l : List α}, l.Nodup → (∀ x ∈ l, ∀ y ∈ l, f x = f y → x = y) → (l.map f).Nodup
  | [], _, _ => List.nodup_nil
  | x :: l, h, hg => by
    obtain ⟨h1, h2⟩ := List.nodup_cons.1 h
    refine List.nodup_cons.2 ⟨fun hm => ?_, map_nodup h2 fun a ha b hb => hg a (List.mem_cons_of_mem _ ha) b (List.mem_cons_of_mem _ hb)⟩
    obtain ⟨y, hy, e⟩ := List.mem_map.1 hm
    have := hg y (List.mem_cons_of_mem _ hy) x (by simp) e
    subst this
    exact h1 hy
theorem imgL_nodup (m : Nat) (f : List Int) : (imgL m f).Nodup := map_nodup (imgN_nodup m f) fun x _ y _ h => by omega
theorem imgL_length (m : Nat) (f : List Int) : (imgL m f).length = (imgN m f).length := by simp [imgL]
theorem imgL_le {m : Nat} (f : List Int) : (imgL m f).length ≤ m := by
  rw [imgL_length]
  have := List.length_filter_le (fun k : Nat => f.contains (k : Int)) (List.range m)
  rw [List.length_range] at this
  exact this
theorem nodup_nodes {m : Nat} {ys : List Int} (h : ∀ y ∈ ys, 0 ≤ y ∧ y < (m : Int)) (hn : ys.Nodup) : Nodes m ys := by
  refine ⟨fun j y hy => h y (List.mem_of_getElem? hy), fun i j y hij hi hj => ?_⟩
  obtain ⟨hi', e1⟩ := List.getElem?_eq_some_iff.1 hi
  obtain ⟨hj', e2⟩ := List.getElem?_eq_some_iff.1 hj
  have := (List.pairwise_iff_getElem.1 hn) i j hi' hj' hij
  exact this (e1.trans e2.symm)
theorem nodes_nodup {m : Nat} {ys : List Int} (h : Nodes m ys) : ys.Nodup := by
  refine List.pairwise_iff_getElem.2 fun i j hi hj hij e => ?_
  exact h.2 i j ys[i] hij (List.getElem?_eq_getElem hi) (by rw [List.getElem?_eq_getElem hj, e])
theorem imgL_nodes (m : Nat) (f : List Int) : Nodes m (imgL m f) := nodup_nodes (fun _ hy => (imgL_mem.1 hy).1) (imgL_nodup m f)
theorem tells_mem {n m : Nat} {f : List Int} (h : Tells n m f) {y : Int} (hy : y ∈ f) : 0 ≤ y ∧ y < m := by
  obtain ⟨j, hj⟩ := List.mem_iff_getElem?.1 hy
  exact h.2 j y hj
theorem imgL_sub {n m : Nat} {f : List Int} (h : Tells n m f) {y : Int} (hy : y ∈ f) : y ∈ imgL m f := imgL_mem.2 ⟨tells_mem h hy, hy⟩
theorem nd_mem {f : List Int} {i : Nat} (hi : i < f.length) (h0 : ∀ y ∈ f, 0 ≤ y) : ((nd f i : Nat) : Int) ∈ f := by
  have e := List.getElem?_eq_getElem hi
  rw [nd_eq e, Int.toNat_of_nonneg (h0 _ (List.getElem_mem hi))]
  exact List.getElem_mem hi
theorem mem_nd {f : List Int} {y : Int} (hy : y ∈ f) : ∃ i, i < f.length ∧ nd f i = y.toNat ∧ f[i]? = some y := by
  obtain ⟨i, hi⟩ := List.mem_iff_getElem?.1 hy
  exact ⟨i, (List.getElem?_eq_some_iff.1 hi).1, nd_eq hi, hi⟩
/-- Distinct elements of a list that are as many as it has are all of it. -/
theorem nodup_all {α : Type} [DecidableEq α] {l m : List α} (h : l.Nodup) (hs : ∀ x ∈ l, x ∈ m) (hl : m.length ≤ l.length) : ∀ y ∈ m, y ∈ l := fun y hy => by
  by_cases hc : y ∈ l
  · exact hc
  · have h1 := nodup_le (m := m.erase y) h fun x hx => (List.mem_erase_of_ne (fun e => by subst e; exact hc hx)).2 (hs x hx)
    rw [List.length_erase_of_mem hy] at h1
    have : 0 < m.length := List.length_pos_of_mem hy
    omega
theorem nodup_same {α : Type} [DecidableEq α] {l m : List α} (h : l.Nodup) (h' : m.Nodup) (hs : ∀ x, x ∈ l ↔ x ∈ m) : l.length = m.length :=
  Nat.le_antisymm (nodup_le h fun x hx => (hs x).1 hx) (nodup_le h' fun x hx => (hs x).2 hx)
/-- A list none of whose elements can be missed, as long as so many distinct ones, tells none twice. -/
theorem full_nodup {α : Type} [DecidableEq α] {l f : List α} (h : l.Nodup) (hs : ∀ x ∈ l, x ∈ f) (hl : f.length ≤ l.length) : f.Nodup := by
  refine List.pairwise_iff_getElem.2 fun i j hi hj hij e => ?_
  have h1 := nodup_le (m := f.eraseIdx j) h fun x hx => by
    obtain ⟨k, hk, ek⟩ := List.mem_iff_getElem.1 (hs x hx)
    by_cases hkj : k = j
    · subst hkj
      refine List.mem_eraseIdx_iff_getElem.2 ⟨i, hi, by omega, ?_⟩
      rw [e, ek]
    · exact List.mem_eraseIdx_iff_getElem.2 ⟨k, hk, hkj, ek⟩
  rw [List.length_eraseIdx_of_lt hj] at h1
  omega
/-- A row of a graph to itself reaches all nodes exactly if it leads no two to one. -/
theorem img_full {n : Nat} {e : List Int} (h : Tells n n e) : n ≤ (imgL n e).length ↔ Nodes n e := by
  constructor
  · intro hl
    exact nodup_nodes (fun y hy => tells_mem h hy) (full_nodup (imgL_nodup n e) (fun x hx => (imgL_mem.1 hx).2) (by rw [h.1]; exact hl))
  · intro hN
    have := nodup_le (nodes_nodup hN) (m := imgL n e) fun y hy => imgL_sub h hy
    rw [h.1] at this; exact this

/-- DOES A ROW STAY? -/
def stysI (G : List (List Int)) (f : List Int) : Bool := mapOkI G G f && (List.range f.length).all fun k => nd f (nd f k) == nd f k
theorem stys_iff {G : List (List Int)} {f : List Int} : stysI G f = true ↔ mapOkI G G f = true ∧ ∀ k, k < f.length → nd f (nd f k) = nd f k := by
  simp [stysI]
theorem behL_own {m n : Nat} {f : List Int} (h : Tells m n f) : behL f (ownL n) = f := by
  refine tells_ext (m' := n) (m'' := n) ⟨by rw [behL_length]; exact h.1, fun j y hy => ?_⟩ h fun j hj => ?_
  · have hj : j < f.length := by have := (List.getElem?_eq_some_iff.1 hy).1; rwa [behL_length] at this
    obtain ⟨p, hp, _, hpn⟩ := tells_at h (j := j) (by rw [← h.1]; exact hj)
    unfold behL at hy
    rw [List.getElem?_map, hp] at hy
    simp [ownL, hpn] at hy
    omega
  · rw [behL_nd (by rw [h.1]; exact hj), ownL_nd (nd_tells h hj)]
theorem behL_tells {m n k : Nat} {f e : List Int} (h : Tells m n f) (h' : Tells n k e) : Tells m k (behL f e) := by
  refine ⟨by rw [behL_length]; exact h.1, fun j y hy => ?_⟩
  have hj : j < f.length := by have := (List.getElem?_eq_some_iff.1 hy).1; rwa [behL_length] at this
  obtain ⟨p, hp, _, hpn⟩ := tells_at h (j := j) (by rw [← h.1]; exact hj)
  obtain ⟨q, hq, _, hqk⟩ := tells_at h' hpn
  unfold behL at hy
  rw [List.getElem?_map, hp] at hy
  simp [hq] at hy
  omega
theorem stys_beh {G : List (List Int)} {f : List Int} (h : mapOkI G G f = true) : stysI G f = decide (behL f f = f) := by
  have hT := (mapOk_iff.1 h).2.1
  rw [Bool.eq_iff_iff, stys_iff, decide_eq_true_eq]
  constructor
  · rintro ⟨_, h2⟩
    exact tells_ext (behL_tells hT hT) hT fun j hj => by rw [behL_nd (by rw [hT.1]; exact hj)]; exact h2 j (by rw [hT.1]; exact hj)
  · intro e
    exact ⟨h, fun k hk => by rw [← behL_nd hk, e]⟩

/-- A ROW REPEATED. -/
def powF (n : Nat) (h : List Int) : Nat → List Int
  | 0 => ownL n
  | k + 1 => behL (powF n h k) h
theorem powF_tells {n : Nat} {h : List Int} (hh : Tells n n h) : ∀ k, Tells n n (powF n h k)
  | 0 => ownL_tells n
  | k + 1 => behL_tells (powF_tells hh k) hh
theorem powF_map {G : List (List Int)} {h : List Int} (hh : IsMap G G h) : ∀ k, IsMap G G (powF G.length h k)
  | 0 => own_map G
  | k + 1 => beh_map (powF_map hh k) hh
theorem powF_nd {n : Nat} {h : List Int} (hh : Tells n n h) {i : Nat} (hi : i < n) (k : Nat) : nd (powF n h (k + 1)) i = nd h (nd (powF n h k) i) := behL_nd (by rw [(powF_tells hh k).1]; exact hi)
theorem powF_add {n : Nat} {h : List Int} (hh : Tells n n h) (a : Nat) : ∀ (b i : Nat), i < n → nd (powF n h (a + b)) i = nd (powF n h b) (nd (powF n h a) i)
  | 0, i, hi => by rw [Nat.add_zero]; exact (ownL_nd (nd_tells (powF_tells hh a) hi)).symm
  | b + 1, i, hi => by
    rw [← Nat.add_assoc, powF_nd hh hi, powF_add hh a b i hi, powF_nd hh (nd_tells (powF_tells hh a) hi)]
theorem range_nodup {g : Nat → Nat} : ∀ {k : Nat}, (∀ a b, a < b → b < k → g a ≠ g b) → ((List.range k).map g).Nodup := fun {k} h => by
  refine List.pairwise_iff_getElem.2 fun i j hi hj hij => ?_
  simp only [List.length_map, List.length_range] at hi hj
  simp only [List.getElem_map, List.getElem_range]
  exact h i j hij hj
theorem powF_meet {n : Nat} {h : List Int} (hh : Tells n n h) {i : Nat} (hi : i < n) : ∃ a b, a < b ∧ b ≤ n ∧ nd (powF n h a) i = nd (powF n h b) i := by
  by_cases hc : ∃ a b, a < b ∧ b ≤ n ∧ nd (powF n h a) i = nd (powF n h b) i
  · exact hc
  · have h1 := range_nodup (g := fun k => nd (powF n h k) i) (k := n + 1) fun a b hab hb e => hc ⟨a, b, hab, by omega, e⟩
    have h2 := nodup_le (m := List.range n) h1 fun x hx => by
      obtain ⟨k, _, rfl⟩ := List.mem_map.1 hx
      exact List.mem_range.2 (nd_tells (powF_tells hh k) hi)
    simp at h2
    omega
theorem powF_shift {n : Nat} {h : List Int} (hh : Tells n n h) {i a d : Nat} (hi : i < n) (he : nd (powF n h a) i = nd (powF n h (a + d)) i) : ∀ q m, nd (powF n h (a + m + q * d)) i = nd (powF n h (a + m)) i
  | 0, m => by rw [Nat.zero_mul, Nat.add_zero]
  | q + 1, m => by
    have e1 : nd (powF n h (a + m + d)) i = nd (powF n h (a + m)) i := by
      rw [show a + m + d = a + d + m by omega, powF_add hh (a + d) m i hi, ← he, ← powF_add hh a m i hi]
    rw [show a + m + (q + 1) * d = a + (m + d) + q * d by rw [Nat.succ_mul]; omega, powF_shift hh hi he q (m + d), ← Nat.add_assoc, e1]
/-- Repeated 60 times, a row of at most 5 nodes stays. -/
theorem powF_stays {n : Nat} {h : List Int} (hh : Tells n n h) (h5 : n ≤ 5) {i : Nat} (hi : i < n) : nd (powF n h 60) (nd (powF n h 60) i) = nd (powF n h 60) i := by
  rw [← powF_add hh 60 60 i hi]
  obtain ⟨a, b, hab, hb, he⟩ := powF_meet hh hi
  obtain ⟨d, rfl⟩ : ∃ d, b = a + d := ⟨b - a, by omega⟩
  have hd : d = 1 ∨ d = 2 ∨ d = 3 ∨ d = 4 ∨ d = 5 := by omega
  obtain ⟨q, hq⟩ : ∃ q, q * d = 60 := by
    rcases hd with rfl | rfl | rfl | rfl | rfl
    · exact ⟨60, rfl⟩
    · exact ⟨30, rfl⟩
    · exact ⟨20, rfl⟩
    · exact ⟨15, rfl⟩
    · exact ⟨12, rfl⟩
  have := powF_shift hh hi he q (60 - a)
  rw [hq, show a + (60 - a) = 60 by omega] at this
  exact this
theorem pow_stys {G : List (List Int)} {h : List Int} (hg : gOk G = true) (hh : IsMap G G h) (h5 : G.length ≤ 5) : stysI G (powF G.length h 60) = true :=
  stys_iff.2 ⟨mapOk_iff.2 ⟨⟨hg, hg⟩, powF_map hh 60⟩, fun k hk => powF_stays hh.1 h5 (by rw [← (powF_tells hh.1 60).1]; exact hk)⟩
theorem beh_mem {f e : List Int} {m n : Nat} (hf : Tells m n f) (he : n ≤ e.length) {y : Int} (hy : y ∈ behL f e) : ∃ p : Nat, (p : Int) ∈ f ∧ e[p]? = some y := by
  unfold behL at hy
  obtain ⟨x, hx, rfl⟩ := List.mem_map.1 hy
  have h1 := tells_mem hf hx
  refine ⟨x.toNat, by rw [Int.toNat_of_nonneg h1.1]; exact hx, ?_⟩
  rw [List.getElem?_eq_getElem (show x.toNat < e.length by omega)]
  rfl
/-- The image of a row behind another one is no larger than the one's. -/
theorem img_beh {m n k : Nat} {f e : List Int} (hf : Tells m n f) (he : Tells n k e) : (imgL k (behL f e)).length ≤ (imgL n f).length := by
  have := nodup_le (m := (imgL n f).map fun y => e[y.toNat]?.getD 0) (imgL_nodup k (behL f e)) fun y hy => by
    obtain ⟨p, hp, hpe⟩ := beh_mem hf (by rw [he.1]; exact Nat.le_refl _) (imgL_mem.1 hy).2
    exact List.mem_map.2 ⟨(p : Int), imgL_sub hf hp, by rw [Int.toNat_natCast, hpe]; rfl⟩
  rwa [List.length_map] at this
theorem img_beh2 {m n k : Nat} {f e : List Int} (hf : Tells m n f) (he : Tells n k e) : (imgL k (behL f e)).length ≤ (imgL k e).length := nodup_le (imgL_nodup k _) fun y hy => by
  obtain ⟨h1, h2⟩ := imgL_mem.1 hy
  obtain ⟨p, _, hpe⟩ := beh_mem hf (by rw [he.1]; exact Nat.le_refl _) h2
  exact imgL_mem.2 ⟨h1, List.mem_of_getElem? hpe⟩
theorem img_pow {n : Nat} {h : List Int} (hh : Tells n n h) (k : Nat) : (imgL n (powF n h (k + 1))).length ≤ (imgL n h).length := img_beh2 (powF_tells hh k) hh

end Go.Proofs.Ytofpjepndhpciaa

namespace Go.Proofs.Ytofpjepndhpciaa
open Go.RowKit Go.Shelf Go.Deep

/-- The numbers, within a list, of what a row tells. -/
def toPart (ys f : List Int) : List Int := f.map fun y => ((ys.idxOf y : Nat) : Int)
theorem toPart_length (ys f : List Int) : (toPart ys f).length = f.length := by simp [toPart]
theorem toPart_get {ys f : List Int} {j : Nat} {y : Int} (h : f[j]? = some y) (hy : y ∈ ys) : ∃ k : Nat, (toPart ys f)[j]? = some (k : Int) ∧ nd (toPart ys f) j = k ∧ ys[k]? = some y ∧ k < ys.length := by
  have e : (toPart ys f)[j]? = some ((ys.idxOf y : Nat) : Int) := by unfold toPart; rw [List.getElem?_map, h]; rfl
  have hl : ys.idxOf y < ys.length := List.idxOf_lt_length_of_mem hy
  refine ⟨ys.idxOf y, e, by rw [nd_eq e, Int.toNat_natCast], ?_, hl⟩
  rw [List.getElem?_eq_getElem hl, List.getElem_idxOf hl]
theorem part_length {H : List (List Int)} {ys : List Int} (h : gOk H = true) (h1 : 1 ≤ ys.length) (hN : Nodes H.length ys) : (partL H ys).length = ys.length := by rw [partL_yes h h1 hN, rowsP_length]
theorem part_arw {H : List (List Int)} {ys : List Int} (h : gOk H = true) (h1 : 1 ≤ ys.length) (hN : Nodes H.length ys) {i j : Nat} (hi : i < ys.length) (hj : j < ys.length) : arw (partL H ys) i j = arw H (nd ys i) (nd ys j) := by rw [partL_yes h h1 hN, arw_rowsP hi hj]
/-- A map whose image lies in a part is a map to the part. -/
theorem into_part {G H : List (List Int)} {f ys : List Int} (h : gOk H = true) (h1 : 1 ≤ ys.length) (hN : Nodes H.length ys) (hf : IsMap G H f) (hs : ∀ y ∈ f, y ∈ ys) : IsMap G (partL H ys) (toPart ys f) ∧ ∀ j, j < G.length → nd ys (nd (toPart ys f) j) = nd f j := by
  have get : ∀ j, j < G.length → ∃ k : Nat, (toPart ys f)[j]? = some (k : Int) ∧ nd (toPart ys f) j = k ∧ nd ys k = nd f j ∧ k < ys.length := fun j hj => by
    obtain ⟨p, hp, enp, _⟩ := tells_at hf.1 hj
    obtain ⟨k, e1, e2, e3, e4⟩ := toPart_get hp (hs _ (List.mem_of_getElem? hp))
    exact ⟨k, e1, e2, by rw [nd_eq e3, Int.toNat_natCast, enp], e4⟩
  refine ⟨⟨⟨by rw [toPart_length]; exact hf.1.1, fun j y hy => ?_⟩, fun i j hi hj ha => ?_⟩, fun j hj => ?_⟩
  · have hj : j < G.length := by have := (List.getElem?_eq_some_iff.1 hy).1; rw [toPart_length, hf.1.1] at this; exact this
    obtain ⟨k, e1, _, _, e4⟩ := get j hj
    rw [e1] at hy; cases hy
    rw [part_length h h1 hN]; omega
  · obtain ⟨k, _, e2, e3, e4⟩ := get i hi
    obtain ⟨l, _, f2, f3, f4⟩ := get j hj
    rw [e2, f2, part_arw h h1 hN e4 f4, e3, f3]
    exact hf.2 i j hi hj ha
  · obtain ⟨k, _, e2, e3, _⟩ := get j hj
    rw [e2, e3]
/-- A part is led to the graph, each node to itself. -/
theorem part_map {H : List (List Int)} {ys : List Int} (h : gOk H = true) (h1 : 1 ≤ ys.length) (hN : Nodes H.length ys) : IsMap (partL H ys) H ys :=
  ⟨⟨(part_length h h1 hN).symm, hN.1⟩, fun i j hi hj ha => by
    rw [part_length h h1 hN] at hi hj
    rw [part_arw h h1 hN hi hj] at ha; exact ha⟩
theorem few5 {G H : List (List Int)} (h : gOk G = true) (h' : gOk H = true) (h5 : G.length ≤ 5) (h5' : H.length ≤ 5) : fewI G H = true := by
  refine fewI_iff.2 ⟨h, h', Nat.le_trans (Nat.pow_le_pow_left h5' _) (Nat.le_trans (Nat.pow_le_pow_right (by decide) h5) (by decide))⟩

/-- GRAPHS OF AT MOST 5 NODES. -/
def g5 (G : List (List Int)) : Bool := gOk G && decide (G.length ≤ 5)
theorem g5_iff {G : List (List Int)} : g5 G = true ↔ gOk G = true ∧ G.length ≤ 5 := by simp [g5]
/-- The better of two rows that stay: the elder one, unless the younger has fewer nodes in its image. -/
def betF (G : List (List Int)) (best x : List Int) : List Int := if stysI G x = true ∧ (best.length = 0 ∨ (imgL G.length x).length < (imgL G.length best).length) then x else best
def staL (G : List (List Int)) : List Int := if g5 G = true then (mapsL G G).foldl (betF G) [] else []
theorem staL_yes {G : List (List Int)} (h : g5 G = true) : staL G = (mapsL G G).foldl (betF G) [] := if_pos h
theorem staL_no {G : List (List Int)} (h : g5 G = false) : staL G = [] := if_neg (by rw [h]; decide)
/-- What is best of the first rows. -/
def Best (G : List (List Int)) (l : List (List Int)) (b : List Int) : Prop := (b = [] ∧ ∀ x ∈ l, stysI G x = false) ∨ (b ∈ l ∧ stysI G b = true ∧ ∀ x ∈ l, stysI G x = true → (imgL G.length b).length ≤ (imgL G.length x).length)
theorem stys_ne {G : List (List Int)} {x : List Int} (h : stysI G x = true) : x.length ≠ 0 := by
  have h1 := (stys_iff.1 h).1
  have h2 := mapOk_iff.1 h1
  rw [h2.2.1.1]
  have := (good_of h2.1.1).1
  omega
theorem best_step {G : List (List Int)} {l : List (List Int)} {b x : List Int} (h : Best G l b) : Best G (l ++ [x]) (betF G b x) := by
  unfold betF
  by_cases hs : stysI G x = true
  · rcases h with ⟨rfl, h1⟩ | ⟨h1, h2, h3⟩
    · rw [if_pos ⟨hs, .inl rfl⟩]
      refine .inr ⟨by simp, hs, fun y hy hy2 => ?_⟩
      rcases List.mem_append.1 hy with hy | hy
      · rw [h1 y hy] at hy2; cases hy2
      · rw [List.mem_singleton.1 hy]; exact Nat.le_refl _
    · by_cases hlt : (imgL G.length x).length < (imgL G.length b).length
      · rw [if_pos ⟨hs, .inr hlt⟩]
        refine .inr ⟨by simp, hs, fun y hy hy2 => ?_⟩
        rcases List.mem_append.1 hy with hy | hy
        · have := h3 y hy hy2; omega
        · rw [List.mem_singleton.1 hy]; exact Nat.le_refl _
      · rw [if_neg fun hh => hh.2.elim (fun e => stys_ne h2 e) hlt]
        refine .inr ⟨List.mem_append.2 (.inl h1), h2, fun y hy hy2 => ?_⟩
        rcases List.mem_append.1 hy with hy | hy
        · exact h3 y hy hy2
        · rw [List.mem_singleton.1 hy]; omega
  · rw [if_neg fun hh => hs hh.1]
    rcases h with ⟨rfl, h1⟩ | ⟨h1, h2, h3⟩
    · refine .inl ⟨rfl, fun y hy => ?_⟩
      rcases List.mem_append.1 hy with hy | hy
      · exact h1 y hy
      · rw [List.mem_singleton.1 hy]; simpa using hs
    · refine .inr ⟨List.mem_append.2 (.inl h1), h2, fun y hy hy2 => ?_⟩
      rcases List.mem_append.1 hy with hy | hy
      · exact h3 y hy hy2
      · rw [List.mem_singleton.1 hy] at hy2; exact absurd hy2 hs
theorem best_fold (G : List (List Int)) : ∀ (l' l : List (List Int)) (b : List Int), Best G l b → Best G (l ++ l') (l'.foldl (betF G) b)
  | [], l, b, h => by simpa using h
  | x :: l', l, b, h => by
    have := best_fold G l' (l ++ [x]) _ (best_step (x := x) h)
    rw [List.append_assoc] at this
    exact this
theorem own_stys {G : List (List Int)} (h : gOk G = true) : stysI G (ownL G.length) = true :=
  stys_iff.2 ⟨mapOk_iff.2 ⟨⟨h, h⟩, own_map G⟩, fun k hk => by
    rw [(ownL_tells G.length).1] at hk
    rw [ownL_nd hk, ownL_nd hk]⟩
/-- WHAT STAYS WITH FEWEST NODES: a row that stays, and none has fewer. -/
theorem sta_best {G : List (List Int)} (h : g5 G = true) : staL G ∈ mapsL G G ∧ stysI G (staL G) = true ∧ ∀ x, stysI G x = true → (imgL G.length (staL G)).length ≤ (imgL G.length x).length := by
  obtain ⟨hg, h5⟩ := g5_iff.1 h
  have hf := few5 hg hg h5 h5
  have hb := best_fold G (mapsL G G) [] [] (.inl ⟨rfl, fun x hx => by cases hx⟩)
  rw [← staL_yes h, List.nil_append] at hb
  rcases hb with ⟨_, h2⟩ | ⟨h1, h2, h3⟩
  · have := h2 _ ((mapsL_mem hf _).2 (own_map G))
    rw [own_stys hg] at this; cases this
  · exact ⟨h1, h2, fun x hx => h3 x ((mapsL_mem hf x).2 (mapOk_iff.1 (stys_iff.1 hx).1).2) hx⟩
theorem sta_map {G : List (List Int)} (h : g5 G = true) : IsMap G G (staL G) := (mapOk_iff.1 (stys_iff.1 (sta_best h).2.1).1).2
theorem img_pos {n m : Nat} {f : List Int} (h : Tells n m f) (hn : 1 ≤ n) : 1 ≤ (imgL m f).length := by
  obtain ⟨p, hp, _, _⟩ := tells_at h (j := 0) (by omega)
  exact List.length_pos_of_mem (imgL_sub h (List.mem_of_getElem? hp))
theorem sta_img {G : List (List Int)} (h : g5 G = true) : 1 ≤ (imgL G.length (staL G)).length := img_pos (sta_map h).1 (good_of (g5_iff.1 h).1).1

/-- THE CORE; nothing where there is none. -/
noncomputable def corL (G : List (List Int)) : List (List Int) := if g5 G = true then partL G (imgL G.length (staL G)) else []
theorem corL_yes {G : List (List Int)} (h : g5 G = true) : corL G = partL G (imgL G.length (staL G)) := if_pos h
theorem corL_no {G : List (List Int)} (h : g5 G = false) : corL G = [] := if_neg (by rw [h]; decide)
/-- IS IT A CORE? -/
def corOkI (G : List (List Int)) : Bool := g5 G && (mapsL G G).all fun x => decide (G.length ≤ (imgL G.length x).length)
theorem corOk_iff {G : List (List Int)} : corOkI G = true ↔ g5 G = true ∧ ∀ x, IsMap G G x → Nodes G.length x := by
  unfold corOkI
  rw [Bool.and_eq_true, List.all_eq_true]
  constructor
  · rintro ⟨h, h2⟩
    obtain ⟨hg, h5⟩ := g5_iff.1 h
    exact ⟨h, fun x hx => (img_full hx.1).1 (by simpa using h2 x ((mapsL_mem (few5 hg hg h5 h5) x).2 hx))⟩
  · rintro ⟨h, h2⟩
    obtain ⟨hg, h5⟩ := g5_iff.1 h
    refine ⟨h, fun x hx => ?_⟩
    have hm := (mapsL_mem (few5 hg hg h5 h5) x).1 hx
    simpa using (img_full hm.1).2 (h2 x hm)
theorem cor_length {G : List (List Int)} (h : g5 G = true) : (corL G).length = (imgL G.length (staL G)).length := by
  rw [corL_yes h, part_length (g5_iff.1 h).1 (sta_img h) (imgL_nodes _ _)]
theorem cor_good {G : List (List Int)} (h : g5 G = true) : Good (corL G) := by
  rw [corL_yes h]; exact part_good (g5_iff.1 h).1 (sta_img h) (imgL_nodes _ _)
theorem cor_g5 {G : List (List Int)} (h : g5 G = true) : g5 (corL G) = true := g5_iff.2 ⟨gOk_true (cor_good h), by
  rw [cor_length h]
  exact Nat.le_trans (imgL_le _) (g5_iff.1 h).2⟩
theorem cor_fit {G : List (List Int)} : Fit (corL G) := by
  cases h : g5 G with
  | true => exact (cor_good h).fit
  | false => rw [corL_no h]; exact ⟨by simp, fun xs hx => by cases hx⟩
/-- The graph is led to its core, and the core to the graph. -/
theorem cor_to {G : List (List Int)} (h : g5 G = true) : IsMap G (corL G) (toPart (imgL G.length (staL G)) (staL G)) := by
  rw [corL_yes h]
  exact (into_part (g5_iff.1 h).1 (sta_img h) (imgL_nodes _ _) (sta_map h) fun y hy => imgL_sub (sta_map h).1 hy).1
theorem cor_from {G : List (List Int)} (h : g5 G = true) : IsMap (corL G) G (imgL G.length (staL G)) := by
  rw [corL_yes h]
  exact part_map (g5_iff.1 h).1 (sta_img h) (imgL_nodes _ _)
theorem cor_level {G : List (List Int)} (h : g5 G = true) : levelI (corL G) G = true := by
  obtain ⟨hg, h5⟩ := g5_iff.1 h
  obtain ⟨hg', h5'⟩ := g5_iff.1 (cor_g5 h)
  unfold levelI
  rw [(below_iff (few5 hg' hg h5' h5)).2 ⟨_, cor_from h⟩, (below_iff (few5 hg hg' h5 h5')).2 ⟨_, cor_to h⟩]
  rfl
/-- THE CORE IS A CORE. -/
theorem cor_core {G : List (List Int)} (h : g5 G = true) : corOkI (corL G) = true := by
  obtain ⟨hg, h5⟩ := g5_iff.1 h
  refine corOk_iff.2 ⟨cor_g5 h, fun e he => ?_⟩
  have h1 := cor_to h
  have h2 := cor_from h
  have hh := beh_map (beh_map h1 he) h2
  have hmin := (sta_best h).2.2 _ (pow_stys hg hh h5)
  have k1 := img_pow hh.1 59
  have k2 := img_beh (beh_map h1 he).1 h2.1
  have k3 := img_beh2 h1.1 he.1
  refine (img_full he.1).1 ?_
  rw [cor_length h] at k2 k3 ⊢
  have k1' : (imgL G.length (powF G.length (behL (behL (toPart (imgL G.length (staL G)) (staL G)) e) (imgL G.length (staL G))) 60)).length ≤ _ := k1
  omega
/-- A row that stays and leads no two nodes to one leads each to itself. -/
theorem stys_own {G : List (List Int)} {f : List Int} (h : stysI G f = true) (hN : Nodes G.length f) : f = ownL G.length := by
  obtain ⟨h1, h2⟩ := stys_iff.1 h
  have hT := (mapOk_iff.1 h1).2.1
  refine tells_ext hT (ownL_tells _) fun j hj => ?_
  rw [ownL_nd hj]
  have hk := nd_tells hT hj
  have e := h2 j (by rw [hT.1]; exact hj)
  rcases Nat.lt_trichotomy (nd f j) j with hl | hl | hl
  · exact absurd e (nodes_inj hN _ _ hl (by rw [hT.1]; exact hj))
  · exact hl
  · exact absurd e.symm (nodes_inj hN _ _ hl (by rw [hT.1]; exact hk))
theorem ownL_seq (n : Nat) : ownL n = seqL 0 n := by simp [ownL, seqL]
theorem img_own (n : Nat) : imgL n (ownL n) = ownL n := by
  unfold imgL imgN
  rw [List.filter_eq_self.2]
  · rfl
  · intro k hk
    have := List.mem_range.1 hk
    simp only [List.contains_iff_mem]
    exact List.mem_map.2 ⟨k, hk, rfl⟩
theorem core_sta {G : List (List Int)} (h : corOkI G = true) : staL G = ownL G.length := by
  obtain ⟨h5, h2⟩ := corOk_iff.1 h
  exact stys_own (sta_best h5).2.1 (h2 _ (sta_map h5))
/-- THE CORE OF A CORE IS IT. -/
theorem core_cor {G : List (List Int)} (h : corOkI G = true) : corL G = G := by
  have h5 := (corOk_iff.1 h).1
  rw [corL_yes h5, core_sta h, img_own, ownL_seq, part_own (g5_iff.1 h5).1]
/-- A graph is a core exactly if its core has as many nodes. -/
theorem core_iff {G : List (List Int)} (h : g5 G = true) : corOkI G = decide ((corL G).length = G.length) := by
  obtain ⟨hg, h5⟩ := g5_iff.1 h
  rw [Bool.eq_iff_iff, decide_eq_true_eq]
  constructor
  · intro hc; rw [core_cor hc]
  · intro hl
    rw [cor_length h] at hl
    have hs := sta_best h
    have hN := (img_full (sta_map h).1).1 (by rw [hl]; exact Nat.le_refl _)
    have e := stys_own hs.2.1 hN
    have hc := cor_core h
    rw [corL_yes h, e, img_own, ownL_seq, part_own hg] at hc
    exact hc

end Go.Proofs.Ytofpjepndhpciaa

namespace Go.Proofs.Ytofpjepndhpciaa
open Go.RowKit Go.Shelf Go.Deep

theorem nodes_inj2 {n : Nat} {f : List Int} (h : Nodes n f) {i j : Nat} (hi : i < f.length) (hj : j < f.length) (e : nd f i = nd f j) : i = j := by
  rcases Nat.lt_trichotomy i j with hl | hl | hl
  · exact absurd e (nodes_inj h i j hl hj)
  · exact hl
  · exact absurd e.symm (nodes_inj h j i hl hi)
theorem inj_nodes {n m : Nat} {f : List Int} (h : Tells n m f) (hi : ∀ i j, i < n → j < n → nd f i = nd f j → i = j) : Nodes m f := by
  refine ⟨h.2, fun i j y hij hy hy2 => ?_⟩
  have h1 := (List.getElem?_eq_some_iff.1 hy).1
  have h2 := (List.getElem?_eq_some_iff.1 hy2).1
  have := hi i j (by rw [← h.1]; exact h1) (by rw [← h.1]; exact h2) (by rw [nd_eq hy, nd_eq hy2])
  omega
theorem pow_inj {n : Nat} {u : List Int} (hT : Tells n n u) (hN : Nodes n u) : ∀ (k i j : Nat), i < n → j < n → nd (powF n u k) i = nd (powF n u k) j → i = j
  | 0, i, j, hi, hj, e => by
    rw [show powF n u 0 = ownL n from rfl, ownL_nd hi, ownL_nd hj] at e; exact e
  | k + 1, i, j, hi, hj, e => by
    rw [powF_nd hT hi, powF_nd hT hj] at e
    exact pow_inj hT hN k i j hi hj (nodes_inj2 hN (by rw [hT.1]; exact nd_tells (powF_tells hT k) hi) (by rw [hT.1]; exact nd_tells (powF_tells hT k) hj) e)
/-- A map of a small graph to itself that leads no two nodes to one leads arrows just from where arrows come. -/
theorem map_reflects {G : List (List Int)} {u : List Int} (h5 : G.length ≤ 5) (hu : IsMap G G u) (hN : Nodes G.length u) {i j : Nat} (hi : i < G.length) (hj : j < G.length) : arw G (nd u i) (nd u j) = arw G i j := by
  have hT := hu.1
  have back : ∀ i, i < G.length → nd (powF G.length u 59) (nd u i) = i := fun i hi => by
    have h1 : nd (powF G.length u 60) i = i := pow_inj hT hN 60 _ _ (nd_tells (powF_tells hT 60) hi) hi (powF_stays hT h5 hi)
    have h2 := powF_add hT 1 59 i hi
    have h3 : nd (powF G.length u 1) i = nd u (nd (powF G.length u 0) i) := powF_nd hT hi 0
    rw [show powF G.length u 0 = ownL G.length from rfl, ownL_nd hi] at h3
    rw [← h3, ← h2]; exact h1
  rw [Bool.eq_iff_iff]
  constructor
  · intro ha
    have := (powF_map hu 59).2 _ _ (nd_tells hT hi) (nd_tells hT hj) ha
    rw [back i hi, back j hj] at this
    exact this
  · exact hu.2 i j hi hj
/-- CORES OF ONE LEVEL ARE THE SAME. -/
theorem core_same {C D : List (List Int)} {a b : List Int} (hC : corOkI C = true) (hD : corOkI D = true) (ha : IsMap C D a) (hb : IsMap D C b) : (sameGI C D).isSome = true := by
  obtain ⟨gC, iC⟩ := corOk_iff.1 hC
  obtain ⟨gD, iD⟩ := corOk_iff.1 hD
  obtain ⟨okC, c5⟩ := g5_iff.1 gC
  obtain ⟨okD, d5⟩ := g5_iff.1 gD
  have hu := beh_map hb ha
  have hv := beh_map ha hb
  have nu := iD _ hu
  have nv := iC _ hv
  have nb : Nodes C.length b := inj_nodes hb.1 fun i j hi hj e => nodes_inj2 nu (by rw [hu.1.1]; exact hi) (by rw [hu.1.1]; exact hj) (by rw [behL_nd (by rw [hb.1.1]; exact hi), behL_nd (by rw [hb.1.1]; exact hj), e])
  have na : Nodes D.length a := inj_nodes ha.1 fun i j hi hj e => nodes_inj2 nv (by rw [hv.1.1]; exact hi) (by rw [hv.1.1]; exact hj) (by rw [behL_nd (by rw [ha.1.1]; exact hi), behL_nd (by rw [ha.1.1]; exact hj), e])
  have l1 := nodes_le nb
  have l2 := nodes_le na
  rw [hb.1.1] at l1
  rw [ha.1.1] at l2
  have hl : C.length = D.length := by omega
  refine same_some.2 ⟨⟨okC, okD, hl, c5⟩, b, hb.1.1, by rw [← hl]; exact nb, same_iff.2 fun i j hi hj => ?_⟩
  rw [Bool.eq_iff_iff]
  constructor
  · intro h
    have h2 := ha.2 _ _ (nd_tells hb.1 hi) (nd_tells hb.1 hj) h
    rw [← behL_nd (by rw [hb.1.1]; exact hi), ← behL_nd (by rw [hb.1.1]; exact hj), map_reflects d5 hu nu hi hj] at h2
    exact h2
  · exact hb.2 i j hi hj
theorem cor_same {G H : List (List Int)} (hG : g5 G = true) (hH : g5 H = true) (hl : levelI G H = true) : (sameGI (corL G) (corL H)).isSome = true := by
  obtain ⟨g1, g2⟩ := g5_iff.1 hG
  obtain ⟨h1, h2⟩ := g5_iff.1 hH
  unfold levelI at hl
  rw [Bool.and_eq_true] at hl
  obtain ⟨f, hf⟩ := (below_iff (few5 g1 h1 g2 h2)).1 hl.1
  obtain ⟨e, he⟩ := (below_iff (few5 h1 g1 h2 g2)).1 hl.2
  exact core_same (cor_core hG) (cor_core hH) (beh_map (beh_map (cor_from hG) hf) (cor_to hH)) (beh_map (beh_map (cor_from hH) he) (cor_to hG))

theorem len_split {α : Type} (p : α → Bool) : ∀ l : List α, l.length = (l.filter p).length + (l.filter fun x => !p x).length
  | [] => rfl
  | x :: l => by
    have := len_split p l
    cases h : p x <;> simp [h] <;> omega
theorem flat_nodup {α β : Type} {f : α → List β} : ∀ {l : List α}, l.Nodup → (∀ x ∈ l, (f x).Nodup) → (∀ x ∈ l, ∀ y ∈ l, ∀ z, z ∈ f x → z ∈ f y → x = y) → (l.flatMap f).Nodup
  | [], _, _, _ => List.nodup_nil
  | x :: l, h, h1, h2 => by
    obtain ⟨h3, h4⟩ := List.nodup_cons.1 h
    rw [List.flatMap_cons, List.nodup_append]
    refine ⟨h1 x (by simp), flat_nodup h4 (fun y hy => h1 y (List.mem_cons_of_mem _ hy)) fun a ha b hb => h2 a (List.mem_cons_of_mem _ ha) b (List.mem_cons_of_mem _ hb), fun a ha b hb e => ?_⟩
    subst e
    obtain ⟨y, hy, hy2⟩ := List.mem_flatMap.1 hb
    have := h2 x (by simp) y (List.mem_cons_of_mem _ hy) a ha hy2
    subst this
    exact h3 hy
theorem snoc_inj {p q : List Int} {x y : Int} (h : p ++ [x] = q ++ [y]) : p = q ∧ x = y := by
  have := List.append_inj' h rfl
  exact ⟨this.1, by simpa using this.2⟩
theorem oexts_nodup (n : Nat) (p : List Int) (k : Nat) : (oexts n p k).Nodup := by
  unfold oexts
  refine map_nodup (List.Nodup.sublist List.filter_sublist List.nodup_range) fun x _ y _ h => ?_
  have := (snoc_inj h).2
  omega
theorem olvl_nodup (n : Nat) : ∀ k, (olvl n k).Nodup
  | 0 => by simp [olvl]
  | k + 1 => by
    rw [olvl]
    refine flat_nodup (olvl_nodup n k) (fun p _ => oexts_nodup n p n) fun p _ q _ z hz hz2 => ?_
    unfold oexts at hz hz2
    obtain ⟨x, _, rfl⟩ := List.mem_map.1 hz
    obtain ⟨y, _, e⟩ := List.mem_map.1 hz2
    exact (snoc_inj e).1.symm
/-- n, times one less, k factors. -/
def descN (n : Nat) : Nat → Nat
  | 0 => 1
  | k + 1 => descN n k * (n - k)
theorem oexts_count {n : Nat} {p : List Int} (h : Nodes n p) : (oexts n p n).length = n - p.length := by
  unfold oexts
  rw [List.length_map]
  have h1 := len_split (fun x : Nat => p.contains (x : Int)) (List.range n)
  rw [List.length_range] at h1
  have h2 : ((List.range n).filter fun x : Nat => p.contains (x : Int)).length = p.length := by
    have := nodup_same (imgL_nodup n p) (nodes_nodup h) fun x => ⟨fun hx => (imgL_mem.1 hx).2, fun hx => imgL_mem.2 ⟨by
      obtain ⟨j, hj⟩ := List.mem_iff_getElem?.1 hx
      exact h.1 j x hj, hx⟩⟩
    rw [imgL_length] at this
    exact this
  omega
theorem olvl_count (n : Nat) : ∀ k, (olvl n k).length = descN n k
  | 0 => by simp [olvl, descN]
  | k + 1 => by
    rw [olvl, flatMap_const (c := n - k), olvl_count n k, descN]
    intro p hp
    rw [oexts_count (olvl_nodes hp), olvl_len hp]

/-- HOW MANY ORDERS leave a graph as it is. -/
def turA (G : List (List Int)) : List (List Int) := (olvl G.length G.length).filter (sameBy G G)
def turI (G : List (List Int)) : Int := if g5 G = true then ((turA G).length : Int) else -1
theorem turI_yes {G : List (List Int)} (h : g5 G = true) : turI G = ((turA G).length : Int) := if_pos h
theorem turI_no {G : List (List Int)} (h : g5 G = false) : turI G = -1 := if_neg (by rw [h]; decide)
theorem turA_mem {G : List (List Int)} {f : List Int} : f ∈ turA G ↔ (f.length = G.length ∧ Nodes G.length f) ∧ sameBy G G f = true := by
  unfold turA
  rw [List.mem_filter]
  exact ⟨fun h => ⟨⟨olvl_len h.1, olvl_nodes h.1⟩, h.2⟩, fun h => ⟨nodes_olvl _ f h.1.1 h.1.2, h.2⟩⟩
theorem turA_nodup (G : List (List Int)) : (turA G).Nodup := List.Nodup.sublist List.filter_sublist (olvl_nodup _ _)
theorem same_map {G : List (List Int)} {f : List Int} (hT : Tells G.length G.length f) (h : sameBy G G f = true) : IsMap G G f := ⟨hT, fun i j hi hj ha => by rw [same_iff.1 h i j hi hj]; exact ha⟩
theorem own_nodes (n : Nat) : Nodes n (ownL n) := inj_nodes (ownL_tells n) fun i j hi hj e => by rw [ownL_nd hi, ownL_nd hj] at e; exact e
theorem own_turn (G : List (List Int)) : ownL G.length ∈ turA G := turA_mem.2 ⟨⟨(ownL_tells _).1, own_nodes _⟩, same_iff.2 fun i j hi hj => by rw [ownL_nd hi, ownL_nd hj]⟩
theorem tur_le {G : List (List Int)} (h : g5 G = true) : 1 ≤ turI G ∧ turI G ≤ countI G G := by
  obtain ⟨hg, h5⟩ := g5_iff.1 h
  have hf := few5 hg hg h5 h5
  have h1 : 1 ≤ (turA G).length := List.length_pos_of_mem (own_turn G)
  have h2 := nodup_le (turA_nodup G) (m := mapsL G G) fun f hf' => by
    obtain ⟨⟨hl, hN⟩, hs⟩ := turA_mem.1 hf'
    exact (mapsL_mem hf f).2 (same_map (nodes_tells hl hN) hs)
  rw [turI_yes h, countI_yes hf]
  omega
/-- ALL MAPS OF A CORE TURN. -/
theorem core_turns {G : List (List Int)} (h : corOkI G = true) : countI G G = turI G := by
  obtain ⟨h5', hI⟩ := corOk_iff.1 h
  obtain ⟨hg, h5⟩ := g5_iff.1 h5'
  have hf := few5 hg hg h5 h5
  rw [turI_yes h5', countI_yes hf, nodup_same (mapsL_nodup G G) (turA_nodup G) fun f => ?_]
  rw [mapsL_mem hf, turA_mem]
  exact ⟨fun hm => ⟨⟨hm.1.1, hI f hm⟩, same_iff.2 fun i j hi hj => map_reflects h5 hm (hI f hm) hi hj⟩, fun hh => same_map (nodes_tells hh.1.1 hh.1.2) hh.2⟩
theorem turned_len {G : List (List Int)} (h : gOk G = true) : (turnedL G).length = G.length := by rw [turnedL_yes h, rowsP_length]
theorem g5_turned {G : List (List Int)} : g5 (turnedL G) = g5 G := by
  by_cases h : gOk G = true
  · unfold g5
    rw [turned_len h, h, turnedL_yes h, gOk_true (rowsP_good _ (good_of h).1 (good_of h).2.1)]
  · have hn : gOk G = false := by simpa using h
    unfold g5
    rw [turnedL_no hn, hn, show gOk [] = false from rfl]
    rfl
theorem tur_turned {G : List (List Int)} (h : g5 G = true) : turI (turnedL G) = turI G := by
  obtain ⟨hg, h5⟩ := g5_iff.1 h
  rw [turI_yes h, turI_yes (g5_turned.trans h)]
  unfold turA
  rw [turned_len hg, List.filter_congr fun f hf => same_turned hg hg (olvl_nodes hf) (olvl_len hf)]

/-- Where all that are alike are as many, their number divides that of all. -/
theorem fibers {α β : Type} [DecidableEq β] (φ : α → β) (c : Nat) : ∀ (N : Nat) (l : List α), l.length ≤ N → (∀ x ∈ l, (l.filter fun y => decide (φ y = φ x)).length = c) → c ∣ l.length
  | _, [], _, _ => Nat.dvd_zero c
  | 0, x :: l, h, _ => by simp at h
  | N + 1, x :: l, h, hc => by
    obtain ⟨L, hL⟩ : ∃ L, x :: l = L := ⟨_, rfl⟩
    have hx : x ∈ L := by rw [← hL]; simp
    rw [hL] at h hc ⊢
    have h1 := len_split (fun y => decide (φ y = φ x)) L
    have h2 := hc x hx
    have hpos : 0 < (L.filter fun y => decide (φ y = φ x)).length := List.length_pos_of_mem (List.mem_filter.2 ⟨hx, by simp⟩)
    have h3 := fibers φ c N (L.filter fun y => !decide (φ y = φ x)) (by omega) fun y hy => by
      obtain ⟨hy1, hy2⟩ := List.mem_filter.1 hy
      rw [← hc y hy1, List.filter_filter]
      refine congrArg List.length (List.filter_congr fun z _ => ?_)
      by_cases e : φ z = φ y
      · have hne : φ z ≠ φ x := by rw [e]; simpa using hy2
        simp [e] at hne ⊢
        exact hne
      · simp [e]
    rw [h1, h2]
    exact Nat.dvd_add (Nat.dvd_refl c) h3
theorem nodes_undo2 {n : Nat} {f : List Int} (hl : f.length = n) (h : Nodes n f) : ∃ g : List Int, g.length = n ∧ Nodes n g ∧ (∀ i, i < n → nd f (nd g i) = i) ∧ ∀ i, i < n → nd g (nd f i) = i := by
  obtain ⟨g, h1, h2, h3⟩ := nodes_undo hl h
  refine ⟨g, h1, h2, h3, fun i hi => ?_⟩
  have hfi := (nodes_nd h (i := i) (by omega)).2
  have hgi := (nodes_nd h2 (i := nd f i) (by omega)).2
  exact nodes_inj2 h (by omega) (by omega) (h3 _ hfi)
theorem beh_nodes {n : Nat} {f e : List Int} (hl : f.length = n) (hf : Nodes n f) (hl' : e.length = n) (he : Nodes n e) : (behL f e).length = n ∧ Nodes n (behL f e) := by
  have hT := behL_tells (nodes_tells hl hf) (nodes_tells hl' he)
  refine ⟨hT.1, inj_nodes hT fun i j hi hj e' => ?_⟩
  rw [behL_nd (by omega), behL_nd (by omega)] at e'
  have h1 := (nodes_nd hf (i := i) (by omega)).2
  have h2 := (nodes_nd hf (i := j) (by omega)).2
  exact nodes_inj2 hf (by omega) (by omega) (nodes_inj2 he (by omega) (by omega) e')
/-- THE NUMBER OF ORDERS THAT LEAVE A GRAPH AS IT IS divides that of all. -/
theorem tur_divides (G : List (List Int)) : (turA G).length ∣ descN G.length G.length := by
  rw [← olvl_count]
  obtain ⟨n, hn⟩ : ∃ n, G.length = n := ⟨_, rfl⟩
  rw [hn]
  refine fibers (fun p => rowsP n fun i j => arw G (nd p i) (nd p j)) _ _ _ (Nat.le_refl _) fun q hq => ?_
  have q1 := olvl_len hq
  have q2 := olvl_nodes hq
  obtain ⟨r, r1, r2, r3, r4⟩ := nodes_undo2 q1 q2
  have keyEq : ∀ p : List Int, (rowsP n (fun i j => arw G (nd p i) (nd p j)) = rowsP n fun i j => arw G (nd q i) (nd q j)) ↔ ∀ i j, i < n → j < n → arw G (nd p i) (nd p j) = arw G (nd q i) (nd q j) := fun p => by
    constructor
    · intro h i j hi hj
      have := congrArg (fun X => arw X i j) h
      simp only [arw_rowsP hi hj] at this
      exact this
    · exact fun h => rowsP_congr h
  have e1 : ((turA G).map (behL q)).length = (turA G).length := by simp
  rw [← e1]
  refine nodup_same (List.Nodup.sublist List.filter_sublist (olvl_nodup n n)) (map_nodup (turA_nodup G) fun s hs t ht e => ?_) fun p => ?_
  · obtain ⟨⟨s1, s2⟩, _⟩ := turA_mem.1 hs
    obtain ⟨⟨t1, t2⟩, _⟩ := turA_mem.1 ht
    rw [hn] at s1 s2 t1 t2
    refine tells_ext (nodes_tells s1 s2) (nodes_tells t1 t2) fun j hj => ?_
    have hr := (nodes_nd r2 (i := j) (by omega)).2
    have : nd (behL q s) (nd r j) = nd (behL q t) (nd r j) := by rw [e]
    rw [behL_nd (by omega), behL_nd (by omega), r3 j hj] at this
    exact this
  · rw [List.mem_filter, List.mem_map, decide_eq_true_eq, keyEq]
    constructor
    · rintro ⟨hp, hk⟩
      have p1 := olvl_len hp
      have p2 := olvl_nodes hp
      obtain ⟨b1, b2⟩ := beh_nodes r1 r2 p1 p2
      refine ⟨behL r p, turA_mem.2 ⟨⟨by rw [hn]; exact b1, by rw [hn]; exact b2⟩, same_iff.2 fun i j hi hj => ?_⟩, ?_⟩
      · rw [hn] at hi hj
        have h1 := (nodes_nd r2 (i := i) (by omega)).2
        have h2 := (nodes_nd r2 (i := j) (by omega)).2
        rw [behL_nd (by omega), behL_nd (by omega), hk _ _ h1 h2, r3 i hi, r3 j hj]
      · obtain ⟨c1, c2⟩ := beh_nodes q1 q2 b1 b2
        refine tells_ext (nodes_tells c1 c2) (nodes_tells p1 p2) fun j hj => ?_
        have h1 := (nodes_nd q2 (i := j) (by omega)).2
        rw [behL_nd (by omega), behL_nd (by omega), r4 j hj]
    · rintro ⟨s, hs, rfl⟩
      obtain ⟨⟨s1, s2⟩, s3⟩ := turA_mem.1 hs
      rw [hn] at s1 s2
      obtain ⟨c1, c2⟩ := beh_nodes q1 q2 s1 s2
      refine ⟨nodes_olvl n _ c1 c2, fun i j hi hj => ?_⟩
      have h1 := (nodes_nd q2 (i := i) (by omega)).2
      have h2 := (nodes_nd q2 (i := j) (by omega)).2
      rw [behL_nd (by omega), behL_nd (by omega)]
      exact same_iff.1 s3 _ _ (by omega) (by omega)

/-- RIGID: one map to itself. -/
def rigI (G : List (List Int)) : Bool := g5 G && decide (countI G G = 1)
theorem rig_iff {G : List (List Int)} : rigI G = true ↔ g5 G = true ∧ countI G G = 1 := by simp [rigI]
theorem rig_core {G : List (List Int)} (h : rigI G = true) : corOkI G = true ∧ turI G = 1 := by
  obtain ⟨h5', hc⟩ := rig_iff.1 h
  obtain ⟨hg, h5⟩ := g5_iff.1 h5'
  have hf := few5 hg hg h5 h5
  have hC : corOkI G = true := corOk_iff.2 ⟨h5', fun x hx => by
    rw [countI_yes hf] at hc
    obtain ⟨y, hy⟩ := List.length_eq_one_iff.1 (show (mapsL G G).length = 1 by omega)
    have h1 := (mapsL_mem hf x).2 hx
    have h2 := (mapsL_mem hf _).2 (own_map G)
    rw [hy, List.mem_singleton] at h1 h2
    rw [h1, ← h2]; exact own_nodes _⟩
  exact ⟨hC, by rw [← core_turns hC]; exact hc⟩
theorem rig_turned (G : List (List Int)) : rigI (turnedL G) = rigI G := by
  by_cases h : g5 G = true
  · obtain ⟨hg, h5⟩ := g5_iff.1 h
    have hf := few5 hg hg h5 h5
    obtain ⟨hg', h5'⟩ := g5_iff.1 (g5_turned.trans h)
    have hf' := few5 hg' hg' h5' h5'
    unfold rigI
    rw [g5_turned, countI_yes hf, countI_yes hf', nodup_same (mapsL_nodup (turnedL G) (turnedL G)) (mapsL_nodup G G) fun f => by
      rw [mapsL_mem hf', mapsL_mem hf]; exact map_turned_iff (good_of hg) (good_of hg)]
  · have hn : g5 G = false := by simpa using h
    unfold rigI
    rw [g5_turned, hn]; rfl

end Go.Proofs.Ytofpjepndhpciaa

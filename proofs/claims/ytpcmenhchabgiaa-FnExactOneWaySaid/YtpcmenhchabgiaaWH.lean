/-
  Several texts in one.
  Kinds of nodes: the pure facts of chapter 6.
  Arrows of the graph of kinds; first appearances; maps fall apart in two; maps counted by kinds: the pure facts of chapter 6.
  Chapter 6 step by step: what loops over kinds, over first appearances and over pairs of nodes keep.
  The graph of kinds, arrow by arrow: what its loops keep; one entry of rows set.
-/
import Derived.Test.YtpcmenhchabgiaaZU
namespace Go.Proofs.Ytpcmenhchabgiaa
open Go.RowKit Go.Shelf Go.Deep

theorem snoc_ind {α : Type} {P : List α → Prop} (h0 : P []) (h1 : ∀ p x, P p → P (p ++ [x])) (l : List α) : P l := by
  rw [← List.reverse_reverse l]
  induction l.reverse with
  | nil => exact h0
  | cons x l ih => rw [List.reverse_cons]; exact h1 _ _ ih
theorem snoc_cases {α : Type} (l : List α) : l = [] ∨ ∃ p x, l = p ++ [x] :=
  snoc_ind (P := fun l => l = [] ∨ ∃ p x, l = p ++ [x]) (.inl rfl) (fun p x _ => .inr ⟨p, x, rfl⟩) l

/-- One more than the greatest kind. -/
def topK (ks : List Int) : Nat := ks.foldl (fun m x => max m (x.toNat + 1)) 0
theorem topK_nil : topK [] = 0 := rfl
theorem topK_snoc (ks : List Int) (x : Int) : topK (ks ++ [x]) = max (topK ks) (x.toNat + 1) := by simp [topK, List.foldl_append]
theorem topK_lt {ks : List Int} : ∀ {j : Nat} {y : Int}, ks[j]? = some y → y.toNat < topK ks := by
  refine snoc_ind (P := fun ks => ∀ {j : Nat} {y : Int}, ks[j]? = some y → y.toNat < topK ks) (fun h => by simp at h) (fun p x ih => ?_) ks
  intro j y h
  rw [topK_snoc]
  rcases Nat.lt_trichotomy j p.length with hl | hl | hl
  · rw [List.getElem?_append_left hl] at h
    have := ih h; omega
  · subst hl; rw [List.getElem?_append_right (Nat.le_refl _)] at h; simp at h; subst h; omega
  · rw [List.getElem?_append_right (by omega), List.getElem?_eq_none (by simp; omega)] at h; cases h
/-- ARE THEY KINDS, each there before, or the next one? -/
def kindOk (ks : List Int) : Bool := (List.range ks.length).all fun i => decide (0 ≤ ks[i]?.getD 0) && decide ((ks[i]?.getD 0).toNat ≤ topK (ks.take i))
theorem kindOk_nil : kindOk [] = true := rfl
theorem kindOk_snoc (ks : List Int) (x : Int) : kindOk (ks ++ [x]) = (kindOk ks && (decide (0 ≤ x) && decide (x.toNat ≤ topK ks))) := by
  rw [Bool.eq_iff_iff]
  unfold kindOk
  simp only [List.all_eq_true, List.mem_range, Bool.and_eq_true, decide_eq_true_eq, List.length_append, List.length_singleton]
  constructor
  · intro h
    refine ⟨fun i hi => ?_, ?_⟩
    · have := h i (by omega)
      rw [List.getElem?_append_left hi, List.take_append_of_le_length (by omega)] at this; exact this
    · have := h ks.length (by omega)
      rw [List.getElem?_append_right (Nat.le_refl _), List.take_append_of_le_length (Nat.le_refl _), List.take_length] at this
      simpa using this
  · rintro ⟨h1, h2⟩ i hi
    by_cases hl : i < ks.length
    · rw [List.getElem?_append_left hl, List.take_append_of_le_length (by omega)]; exact h1 i hl
    · obtain rfl : i = ks.length := by omega
      rw [List.getElem?_append_right (Nat.le_refl _), List.take_append_of_le_length (Nat.le_refl _), List.take_length]
      simpa using h2
theorem kindOk_snoc_iff {ks : List Int} {x : Int} : kindOk (ks ++ [x]) = true ↔ kindOk ks = true ∧ 0 ≤ x ∧ x.toNat ≤ topK ks := by
  rw [kindOk_snoc]; simp
/-- No number below the top is left out. -/
theorem kind_all {ks : List Int} : kindOk ks = true → ∀ a, a < topK ks → ∃ j, j < ks.length ∧ nd ks j = a := by
  refine snoc_ind (P := fun ks => kindOk ks = true → ∀ a, a < topK ks → ∃ j, j < ks.length ∧ nd ks j = a) (fun _ a h => absurd h (Nat.not_lt_zero _)) (fun p x ih => ?_) ks
  intro h a ha
  obtain ⟨h1, h2, h3⟩ := kindOk_snoc_iff.1 h
  rw [topK_snoc] at ha
  by_cases hl : a < topK p
  · obtain ⟨j, hj, e⟩ := ih h1 a hl
    exact ⟨j, by rw [List.length_append]; omega, by rw [nd_snoc_lt hj]; exact e⟩
  · refine ⟨p.length, by simp, ?_⟩
    have e : x = ((x.toNat : Nat) : Int) := (Int.toNat_of_nonneg h2).symm
    rw [e, nd_snoc_last]; omega
theorem kind_tells {ks : List Int} : kindOk ks = true → Tells ks.length (topK ks) ks := fun h => ⟨rfl, fun j y hy => by
  have h1 := topK_lt hy
  have hj := (List.getElem?_eq_some_iff.1 hy).1
  have h2 := List.all_eq_true.1 h j (List.mem_range.2 hj)
  simp only [Bool.and_eq_true, decide_eq_true_eq, hy, Option.getD_some] at h2
  have h0 := h2.1
  have := Int.toNat_of_nonneg h0
  omega⟩
theorem kind_top {ks : List Int} : kindOk ks = true → topK ks ≤ ks.length := by
  refine snoc_ind (P := fun ks => kindOk ks = true → topK ks ≤ ks.length) (fun _ => Nat.le_refl _) (fun p x ih => ?_) ks
  intro h
  obtain ⟨h1, h2, h3⟩ := kindOk_snoc_iff.1 h
  have := ih h1
  rw [topK_snoc, List.length_append, List.length_singleton]; omega
theorem topK_pos {ks : List Int} (h : 1 ≤ ks.length) : 1 ≤ topK ks := by
  rcases snoc_cases ks with rfl | ⟨p, x, rfl⟩
  · simp at h
  · rw [topK_snoc]; omega
/-- One kind for each, and one for all. -/
theorem topK_own (n : Nat) : topK (ownL n) = n := by
  induction n with
  | zero => rfl
  | succ n ih =>
    have e : ownL (n + 1) = ownL n ++ [(n : Int)] := by simp [ownL, List.range_succ]
    rw [e, topK_snoc, ih, Int.toNat_natCast]; omega
theorem kind_own (n : Nat) : kindOk (ownL n) = true := by
  induction n with
  | zero => rfl
  | succ n ih =>
    have e : ownL (n + 1) = ownL n ++ [(n : Int)] := by simp [ownL, List.range_succ]
    rw [e]
    exact kindOk_snoc_iff.2 ⟨ih, by omega, by rw [topK_own, Int.toNat_natCast]; omega⟩
theorem kind_zero (n : Nat) : kindOk (List.replicate n 0) = true := by
  induction n with
  | zero => rfl
  | succ n ih =>
    rw [List.replicate_succ']
    exact kindOk_snoc_iff.2 ⟨ih, by omega, Nat.zero_le _⟩
/-- ARE THEY KINDS of a graph? -/
def kOkI (G : List (List Int)) (ks : List Int) : Bool := gOk G && decide (ks.length = G.length) && kindOk ks
theorem kOk_iff {G : List (List Int)} {ks : List Int} : kOkI G ks = true ↔ gOk G = true ∧ ks.length = G.length ∧ kindOk ks = true := by
  simp [kOkI, and_assoc]

/-- ALL ROWS OF KINDS. -/
def kLvl : Nat → List (List Int)
  | 0 => [[]]
  | k + 1 => (kLvl k).flatMap fun p => (List.range (topK p + 1)).map fun x : Nat => p ++ [(x : Int)]
theorem kLvl_mem : ∀ {n : Nat} {r : List Int}, r ∈ kLvl n ↔ r.length = n ∧ kindOk r = true
  | 0, r => by
    rw [kLvl, List.mem_singleton]
    constructor
    · rintro rfl; exact ⟨rfl, rfl⟩
    · rintro ⟨h, _⟩; exact List.eq_nil_of_length_eq_zero h
  | n + 1, r => by
    rw [kLvl, List.mem_flatMap]
    constructor
    · rintro ⟨p, hp, hr⟩
      obtain ⟨x, hx, rfl⟩ := List.mem_map.1 hr
      obtain ⟨h1, h2⟩ := kLvl_mem.1 hp
      have := List.mem_range.1 hx
      exact ⟨by simp [h1], kindOk_snoc_iff.2 ⟨h2, by omega, by rw [Int.toNat_natCast]; omega⟩⟩
    · rintro ⟨h1, h2⟩
      rcases snoc_cases r with rfl | ⟨p, x, rfl⟩
      · simp at h1
      · obtain ⟨h3, h4, h5⟩ := kindOk_snoc_iff.1 h2
        rw [List.length_append, List.length_singleton] at h1
        exact ⟨p, kLvl_mem.2 ⟨by omega, h3⟩, List.mem_map.2 ⟨x.toNat, List.mem_range.2 (by omega), by rw [Int.toNat_of_nonneg h4]⟩⟩
theorem kLvl_nodup : ∀ n, (kLvl n).Nodup
  | 0 => by simp [kLvl]
  | k + 1 => by
    rw [kLvl]
    refine flat_nodup (kLvl_nodup k) (fun p _ => map_nodup List.nodup_range fun x _ y _ h => ?_) fun p _ q _ z hz hz2 => ?_
    · have := (snoc_inj h).2; omega
    · obtain ⟨x, _, rfl⟩ := List.mem_map.1 hz
      obtain ⟨y, _, e⟩ := List.mem_map.1 hz2
      exact (snoc_inj e).1.symm
theorem bell : (kLvl 1).length = 1 ∧ (kLvl 2).length = 2 ∧ (kLvl 3).length = 5 ∧ (kLvl 4).length = 15 ∧ (kLvl 5).length = 52 := by decide +kernel
def allKL (G : List (List Int)) : List (List Int) := if g5 G = true then kLvl G.length else []
theorem allK_yes {G : List (List Int)} (h : g5 G = true) : allKL G = kLvl G.length := if_pos h
theorem allK_no {G : List (List Int)} (h : g5 G = false) : allKL G = [] := if_neg (by rw [h]; decide)
theorem allK_mem {G : List (List Int)} (h : g5 G = true) {ks : List Int} : ks ∈ allKL G ↔ kOkI G ks = true := by
  rw [allK_yes h, kLvl_mem, kOk_iff]
  exact ⟨fun h1 => ⟨(g5_iff.1 h).1, h1.1, h1.2⟩, fun h1 => ⟨h1.2.1, h1.2.2⟩⟩
theorem allK_nodup (G : List (List Int)) : (allKL G).Nodup := by
  unfold allKL
  split
  · exact kLvl_nodup _
  · exact List.nodup_nil

/-- THE GRAPH OF KINDS. -/
def kArw (G : List (List Int)) (ks : List Int) (a b : Nat) : Bool := (List.range G.length).any fun i => (List.range G.length).any fun j => arw G i j && (nd ks i == a && nd ks j == b)
theorem kArw_iff {G : List (List Int)} {ks : List Int} {a b : Nat} : kArw G ks a b = true ↔ ∃ i, i < G.length ∧ ∃ j, j < G.length ∧ arw G i j = true ∧ nd ks i = a ∧ nd ks j = b := by
  simp [kArw]
def grkL (G : List (List Int)) (ks : List Int) : List (List Int) := if kOkI G ks = true then rowsP (topK ks) (kArw G ks) else []
theorem grk_yes {G : List (List Int)} {ks : List Int} (h : kOkI G ks = true) : grkL G ks = rowsP (topK ks) (kArw G ks) := if_pos h
theorem grk_no {G : List (List Int)} {ks : List Int} (h : kOkI G ks = false) : grkL G ks = [] := if_neg (by rw [h]; decide)
theorem grk_length {G : List (List Int)} {ks : List Int} (h : kOkI G ks = true) : (grkL G ks).length = topK ks := by rw [grk_yes h, rowsP_length]
theorem grk_top {G : List (List Int)} {ks : List Int} (h : kOkI G ks = true) : 1 ≤ topK ks ∧ topK ks ≤ G.length := by
  obtain ⟨h1, h2, h3⟩ := kOk_iff.1 h
  have := (good_of h1).1
  have := topK_pos (ks := ks) (by omega)
  have := kind_top h3
  omega
theorem grk_good {G : List (List Int)} {ks : List Int} (h : kOkI G ks = true) : gOk (grkL G ks) = true := by
  obtain ⟨h1, h2⟩ := grk_top h
  have := (good_of (kOk_iff.1 h).1).2.1
  rw [grk_yes h]
  exact gOk_true (rowsP_good _ h1 (by omega))
theorem grk_arw {G : List (List Int)} {ks : List Int} (h : kOkI G ks = true) {a b : Nat} (ha : a < topK ks) (hb : b < topK ks) : arw (grkL G ks) a b = kArw G ks a b := by rw [grk_yes h, arw_rowsP ha hb]
theorem k_tells {G : List (List Int)} {ks : List Int} (h : kOkI G ks = true) : Tells G.length (topK ks) ks := by
  obtain ⟨_, h2, h3⟩ := kOk_iff.1 h
  have := kind_tells h3
  rwa [h2] at this
/-- THE ROW OF KINDS IS A MAP. -/
theorem grk_map {G : List (List Int)} {ks : List Int} (h : kOkI G ks = true) : IsMap G (grkL G ks) ks := by
  have hT := k_tells h
  refine ⟨by rw [grk_length h]; exact hT, fun i j hi hj ha => ?_⟩
  rw [grk_arw h (nd_tells hT hi) (nd_tells hT hj)]
  exact kArw_iff.2 ⟨i, hi, j, hj, ha, rfl, rfl⟩
theorem grk_own {G : List (List Int)} (h : gOk G = true) : kOkI G (ownL G.length) = true ∧ grkL G (ownL G.length) = G := by
  have hk : kOkI G (ownL G.length) = true := kOk_iff.2 ⟨h, (ownL_tells _).1, kind_own _⟩
  refine ⟨hk, ?_⟩
  rw [grk_yes hk, topK_own]
  refine (rowsP_congr fun i j hi hj => ?_).trans (good_rowsP (good_of h)).symm
  rw [Bool.eq_iff_iff, kArw_iff]
  constructor
  · rintro ⟨a, ha, b, hb, hab, e1, e2⟩
    rw [ownL_nd ha] at e1
    rw [ownL_nd hb] at e2
    subst e1 e2; exact hab
  · intro hij
    exact ⟨i, hi, j, hj, hij, ownL_nd hi, ownL_nd hj⟩

end Go.Proofs.Ytpcmenhchabgiaa

namespace Go.Proofs.Ytpcmenhchabgiaa
open Go.RowKit Go.Shelf Go.Deep

theorem bN_any (p : Nat → Bool) : ∀ n, bN ((List.range n).any p) ≤ sumN n fun i => bN (p i)
  | 0 => by simp [sumN, bN]
  | n + 1 => by
    have h := bN_any p n
    rw [List.range_succ, List.any_append]
    simp only [sumN, List.any_cons, List.any_nil, Bool.or_false]
    have e : ∀ a b : Bool, bN (a || b) ≤ bN a + bN b := fun a b => by cases a <;> cases b <;> simp [bN]
    have := e ((List.range n).any p) (p n)
    omega
theorem sum_pair {m : Nat} (c : Bool) {x y : Nat} (hx : x < m) (hy : y < m) : sumN m (fun a => sumN m fun b => bN (c && (x == a && y == b))) = bN c := by
  have e : (fun a => sumN m fun b => bN (c && (x == a && y == b))) = fun a => if x = a then bN c else 0 := by
    funext a
    by_cases h : x = a
    · rw [if_pos h]
      have e2 : (fun b => bN (c && (x == a && y == b))) = fun b => if y = b then bN c else 0 := by
        funext b
        by_cases h2 : y = b
        · rw [if_pos h2]; simp [h, h2]
        · rw [if_neg h2]; simp [h2, bN]
      rw [e2, sumN_single (fun _ => bN c) hy]
    · rw [if_neg h]
      have e2 : (fun b => bN (c && (x == a && y == b))) = fun _ => 0 := by funext b; simp [h, bN]
      rw [e2, sumN_zero]
  rw [e, sumN_single (fun _ => bN c) hx]
/-- EACH ARROW OF KINDS COMES FROM AN ARROW. -/
theorem grk_arrows {G : List (List Int)} {ks : List Int} (h : kOkI G ks = true) : arrowsI (grkL G ks) ≤ arrowsI G := by
  have hT := k_tells h
  rw [arrowsI_yes (grk_good h), arrowsI_yes (kOk_iff.1 h).1, grk_yes h, AL_rowsP, AL_cnt, cnt_sum, cnt_sum]
  have e : sumN (topK ks) (fun a => sumN (topK ks) fun b => bN (kArw G ks a b)) ≤ sumN G.length (fun i => sumN G.length fun j => bN (arw G i j)) := by
    have h1 : sumN (topK ks) (fun a => sumN (topK ks) fun b => bN (kArw G ks a b)) ≤ sumN (topK ks) (fun a => sumN (topK ks) fun b => sumN G.length fun i => sumN G.length fun j => bN (arw G i j && (nd ks i == a && nd ks j == b))) :=
      sumN_le fun a _ => sumN_le fun b _ => Nat.le_trans (bN_any _ _) (sumN_le fun i _ => bN_any _ _)
    refine Nat.le_trans h1 (Nat.le_of_eq ?_)
    have h2 : ∀ a, (sumN (topK ks) fun b => sumN G.length fun i => sumN G.length fun j => bN (arw G i j && (nd ks i == a && nd ks j == b))) = sumN G.length fun i => sumN G.length fun j => sumN (topK ks) fun b => bN (arw G i j && (nd ks i == a && nd ks j == b)) := fun a => by
      rw [sumN_swap]; exact sumN_congr fun i _ => sumN_swap _ _ _
    rw [sumN_congr fun a _ => h2 a, sumN_swap]
    refine sumN_congr fun i hi => ?_
    rw [sumN_swap]
    exact sumN_congr fun j hj => sum_pair _ (nd_tells hT hi) (nd_tells hT hj)
  omega

/-- THE FIRST APPEARANCES in a row. -/
def nubS (s : List Int) (y : Int) : List Int := if s.contains y then s else s ++ [y]
def nubL (f : List Int) : List Int := f.foldl nubS []
theorem nub_snoc (f : List Int) (y : Int) : nubL (f ++ [y]) = nubS (nubL f) y := by simp [nubL, List.foldl_append]
theorem nubS_yes {s : List Int} {y : Int} (h : y ∈ s) : nubS s y = s := if_pos (by simpa using h)
theorem nubS_no {s : List Int} {y : Int} (h : y ∉ s) : nubS s y = s ++ [y] := if_neg (by simpa using h)
theorem nub_mem {f : List Int} : ∀ {y : Int}, y ∈ nubL f ↔ y ∈ f := by
  refine snoc_ind (P := fun f => ∀ {y : Int}, y ∈ nubL f ↔ y ∈ f) Iff.rfl (fun p x ih => ?_) f
  intro y
  rw [nub_snoc]
  by_cases h : x ∈ nubL p
  · rw [nubS_yes h, ih, List.mem_append, List.mem_singleton]
    exact ⟨.inl, fun hh => hh.elim id fun e => by rw [e]; exact ih.1 h⟩
  · rw [nubS_no h, List.mem_append, List.mem_append, ih]
theorem nub_nodup (f : List Int) : (nubL f).Nodup := by
  refine snoc_ind (P := fun f => (nubL f).Nodup) List.nodup_nil (fun p x ih => ?_) f
  rw [nub_snoc]
  by_cases h : x ∈ nubL p
  · rw [nubS_yes h]; exact ih
  · rw [nubS_no h, List.nodup_append]
    exact ⟨ih, by simp, fun a ha b hb e => by rw [List.mem_singleton] at hb; subst hb; subst e; exact h ha⟩
theorem nub_le (f : List Int) : (nubL f).length ≤ f.length := nodup_le (nub_nodup f) fun _ hy => nub_mem.1 hy
theorem nub_full {f : List Int} : (nubL f).length = f.length ↔ f.Nodup := by
  constructor
  · intro h
    exact full_nodup (nub_nodup f) (fun x hx => nub_mem.1 hx) (by omega)
  · intro h
    exact nodup_same (nub_nodup f) h fun x => nub_mem
theorem nub_ne {f : List Int} (h : 1 ≤ f.length) : 1 ≤ (nubL f).length := by
  obtain ⟨x, hx⟩ := List.length_pos_iff_exists_mem.1 h
  exact List.length_pos_of_mem (nub_mem.2 hx)
/-- THE KINDS into which a row puts. -/
def kbyL (f : List Int) : List Int := toPart (nubL f) f
theorem kby_length (f : List Int) : (kbyL f).length = f.length := toPart_length _ _
theorem kby_snoc (f : List Int) (y : Int) : kbyL (f ++ [y]) = kbyL f ++ [(((nubL (f ++ [y])).idxOf y : Nat) : Int)] := by
  unfold kbyL toPart
  rw [List.map_append, List.map_singleton]
  congr 1
  refine List.map_congr_left fun z hz => ?_
  rw [nub_snoc]
  by_cases h : y ∈ nubL f
  · rw [nubS_yes h]
  · rw [nubS_no h, List.idxOf_append, if_pos (nub_mem.2 hz)]
theorem kby_kind (f : List Int) : kindOk (kbyL f) = true ∧ topK (kbyL f) = (nubL f).length := by
  refine snoc_ind (P := fun f => kindOk (kbyL f) = true ∧ topK (kbyL f) = (nubL f).length) ⟨rfl, rfl⟩ (fun p x ih => ?_) f
  obtain ⟨h1, h2⟩ := ih
  rw [kby_snoc, kindOk_snoc_iff, topK_snoc, h2, nub_snoc, Int.toNat_natCast]
  by_cases h : x ∈ nubL p
  · rw [nubS_yes h]
    have := List.idxOf_lt_length_of_mem h
    exact ⟨⟨h1, by omega, by omega⟩, by omega⟩
  · rw [nubS_no h, List.idxOf_append, if_neg h]
    simp [h1]
    try omega
theorem kby_get {f : List Int} {j : Nat} (hj : j < f.length) : nd (kbyL f) j < (nubL f).length ∧ (nubL f)[nd (kbyL f) j]? = f[j]? := by
  obtain ⟨k, _, e2, e3, e4⟩ := toPart_get (List.getElem?_eq_getElem hj) (nub_mem.2 (List.getElem_mem hj))
  unfold kbyL
  rw [e2, e3, List.getElem?_eq_getElem hj]
  exact ⟨e4, rfl⟩
theorem nodup_get {l : List Int} (h : l.Nodup) {i j : Nat} (hi : i < l.length) (e : l[i]? = l[j]?) : i = j := by
  have hj : j < l.length := by
    rcases Nat.lt_or_ge j l.length with h1 | h1
    · exact h1
    · rw [List.getElem?_eq_none h1, List.getElem?_eq_getElem hi] at e; cases e
  rcases Nat.lt_trichotomy i j with hl | hl | hl
  · exact absurd (by rw [List.getElem?_eq_getElem hi, List.getElem?_eq_getElem hj] at e; exact Option.some.inj e) ((List.pairwise_iff_getElem.1 h) i j hi hj hl)
  · exact hl
  · exact absurd (by rw [List.getElem?_eq_getElem hi, List.getElem?_eq_getElem hj] at e; exact (Option.some.inj e).symm) ((List.pairwise_iff_getElem.1 h) j i hj hi hl)
/-- TWO NODES ARE OF ONE KIND just if they are led to one node. -/
theorem kby_iff {f : List Int} {i j : Nat} (hi : i < f.length) (hj : j < f.length) : nd (kbyL f) i = nd (kbyL f) j ↔ f[i]? = f[j]? := by
  obtain ⟨h1, h2⟩ := kby_get hi
  obtain ⟨h3, h4⟩ := kby_get hj
  constructor
  · intro e; rw [← h2, ← h4, e]
  · intro e; exact nodup_get (nub_nodup f) h1 (by rw [h2, h4, e])
/-- Kinds are told by which nodes are of one kind. -/
theorem kind_ext {ks : List Int} : ∀ {ls : List Int}, kindOk ks = true → kindOk ls = true → ks.length = ls.length → (∀ i j, i < ks.length → j < ks.length → (nd ks i = nd ks j ↔ nd ls i = nd ls j)) → ks = ls := by
  refine snoc_ind (P := fun ks => ∀ {ls : List Int}, kindOk ks = true → kindOk ls = true → ks.length = ls.length → (∀ i j, i < ks.length → j < ks.length → (nd ks i = nd ks j ↔ nd ls i = nd ls j)) → ks = ls) (fun {ls} _ _ h _ => (List.eq_nil_of_length_eq_zero h.symm).symm) (fun p x ih => ?_) ks
  intro ls h1 h2 hl h
  rcases snoc_cases ls with rfl | ⟨q, y, rfl⟩
  · simp at hl
  · obtain ⟨a1, a2, a3⟩ := kindOk_snoc_iff.1 h1
    obtain ⟨b1, b2, b3⟩ := kindOk_snoc_iff.1 h2
    simp only [List.length_append, List.length_singleton] at hl h
    have hl' : p.length = q.length := by omega
    have e : p = q := ih a1 b1 hl' fun i j hi hj => by
      have := h i j (by omega) (by omega)
      rw [nd_snoc_lt hi, nd_snoc_lt hj, nd_snoc_lt (by omega), nd_snoc_lt (by omega)] at this
      exact this
    subst e
    have ex : x = ((x.toNat : Nat) : Int) := (Int.toNat_of_nonneg a2).symm
    have ey : y = ((y.toNat : Nat) : Int) := (Int.toNat_of_nonneg b2).symm
    have lx : nd (p ++ [x]) p.length = x.toNat := by rw [ex, nd_snoc_last, Int.toNat_natCast]
    have ly : nd (p ++ [y]) p.length = y.toNat := by rw [ey, nd_snoc_last, Int.toNat_natCast]
    have key : x.toNat = y.toNat := by
      by_cases hx : x.toNat < topK p
      · obtain ⟨j, hj, ej⟩ := kind_all a1 _ hx
        have := (h j p.length (by omega) (by omega)).1 (by rw [nd_snoc_lt hj, lx, ej])
        rw [nd_snoc_lt hj, ly, ej] at this; exact this
      · by_cases hy : y.toNat < topK p
        · obtain ⟨j, hj, ej⟩ := kind_all a1 _ hy
          have := (h j p.length (by omega) (by omega)).2 (by rw [nd_snoc_lt hj, ly, ej])
          rw [nd_snoc_lt hj, lx, ej] at this; exact this.symm
        · omega
    rw [ex, ey, key]

/-- A MAP FALLS APART IN TWO. -/
theorem kby_kOk {G : List (List Int)} {f : List Int} (hg : gOk G = true) (hl : f.length = G.length) : kOkI G (kbyL f) = true := kOk_iff.2 ⟨hg, by rw [kby_length]; exact hl, (kby_kind f).1⟩
theorem nub_nodes {n m : Nat} {f : List Int} (h : Tells n m f) : Nodes m (nubL f) := nodup_nodes (fun _ hy => tells_mem h (nub_mem.1 hy)) (nub_nodup f)
theorem nub_nd {f : List Int} {j : Nat} (hj : j < f.length) : nd (nubL f) (nd (kbyL f) j) = nd f j := by
  unfold nd
  rw [show ((kbyL f)[j]?.getD 0).toNat = nd (kbyL f) j from rfl, (kby_get hj).2]
theorem nub_map {G H : List (List Int)} {f : List Int} (hg : gOk G = true) (hf : IsMap G H f) : IsMap (grkL G (kbyL f)) H (nubL f) := by
  have hk := kby_kOk hg hf.1.1
  have ht := (kby_kind f).2
  refine ⟨⟨by rw [grk_length hk, ht], fun j y hy => tells_mem hf.1 (nub_mem.1 (List.mem_of_getElem? hy))⟩, fun a b ha hb hab => ?_⟩
  rw [grk_length hk] at ha hb
  rw [grk_arw hk ha hb] at hab
  obtain ⟨i, hi, j, hj, hij, rfl, rfl⟩ := kArw_iff.1 hab
  rw [nub_nd (by rw [hf.1.1]; exact hi), nub_nd (by rw [hf.1.1]; exact hj)]
  exact hf.2 i j hi hj hij
theorem nub_beh {G H : List (List Int)} {f : List Int} (hg : gOk G = true) (hf : IsMap G H f) : behL (kbyL f) (nubL f) = f := by
  have hk := kby_kOk hg hf.1.1
  have h1 := beh_map (grk_map hk) (nub_map hg hf)
  refine tells_ext h1.1 hf.1 fun j hj => ?_
  rw [behL_nd (by rw [kby_length, hf.1.1]; exact hj), nub_nd (by rw [hf.1.1]; exact hj)]

/-- DOES A MAP LEAD NO TWO NODES TO ONE? -/
def apaI (G H : List (List Int)) (f : List Int) : Bool := mapOkI G H f && decide f.Nodup
theorem apa_iff {G H : List (List Int)} {f : List Int} : apaI G H f = true ↔ mapOkI G H f = true ∧ f.Nodup := by simp [apaI]
/-- It holds just if the last node's kind is the last one that there may be. -/
theorem apa_last {f : List Int} (h : 1 ≤ f.length) : f.Nodup ↔ nd (kbyL f) (f.length - 1) = f.length - 1 := by
  obtain ⟨h1, h2⟩ := kby_kind f
  have hl := kby_length f
  rw [← nub_full, ← h2, ← hl]
  rw [← hl] at h
  generalize kbyL f = ks at *
  rcases snoc_cases ks with rfl | ⟨p, x, rfl⟩
  · simp at h
  · obtain ⟨a1, a2, a3⟩ := kindOk_snoc_iff.1 h1
    have := kind_top a1
    have ex : x = ((x.toNat : Nat) : Int) := (Int.toNat_of_nonneg a2).symm
    have lx : nd (p ++ [x]) p.length = x.toNat := by rw [ex, nd_snoc_last, Int.toNat_natCast]
    rw [topK_snoc, List.length_append, List.length_singleton, Nat.add_sub_cancel, lx]
    omega
theorem apa_arrows {G H : List (List Int)} {f : List Int} (h : apaI G H f = true) : arrowsI G ≤ arrowsI H := by
  obtain ⟨h1, h2⟩ := apa_iff.1 h
  obtain ⟨⟨hg, hh⟩, hf⟩ := mapOk_iff.1 h1
  have hN : Nodes H.length f := nodup_nodes (fun _ hy => tells_mem hf.1 hy) h2
  have hl := hf.1.1
  rw [arrowsI_yes hg, arrowsI_yes hh, AL_cnt, AL_cnt, cnt_sum, cnt_sum]
  have e1 : sumN G.length (fun i => sumN G.length fun j => bN (arw G i j)) ≤ sumN G.length (fun i => sumN G.length fun j => bN (arw H (nd f i) (nd f j))) := sumN_le fun i hi => sumN_le fun j hj => by
    have := hf.2 i j hi hj
    unfold bN
    cases h3 : arw G i j
    · simp
    · rw [this h3]; exact Nat.le_refl _
  have e2 : sumN G.length (fun i => sumN G.length fun j => bN (arw H (nd f i) (nd f j))) ≤ sumN H.length (fun i => sumN H.length fun j => bN (arw H i j)) := by
    refine Nat.le_trans (sumN_le (g := fun i => sumN H.length (fun l => bN (arw H (nd f i) l))) fun i _ => sumN_inj (fun l => bN (arw H (nd f i) l)) (fun j hj => nd_tells hf.1 hj) fun i j hij hj => nodes_inj hN i j hij (by omega)) ?_
    exact sumN_inj (fun k => sumN H.length (fun l => bN (arw H k l))) (fun j hj => nd_tells hf.1 hj) fun i j hij hj => nodes_inj hN i j hij (by omega)
  omega

/-- HOW MANY MAPS LEAD NO TWO NODES TO ONE. -/
def apaL (G H : List (List Int)) : List (List Int) := (mapsL G H).filter fun f => decide f.Nodup
def capI (G H : List (List Int)) : Int := if fewI G H = true then ((apaL G H).length : Int) else -1
theorem cap_yes {G H : List (List Int)} (h : fewI G H = true) : capI G H = ((apaL G H).length : Int) := if_pos h
theorem cap_no {G H : List (List Int)} (h : fewI G H = false) : capI G H = -1 := if_neg (by rw [h]; decide)
theorem apaL_le (G H : List (List Int)) : (apaL G H).length ≤ (mapsL G H).length := List.length_filter_le _ _
theorem apaL_mem {G H : List (List Int)} (h : fewI G H = true) {f : List Int} : f ∈ apaL G H ↔ IsMap G H f ∧ f.Nodup := by
  unfold apaL
  rw [List.mem_filter, mapsL_mem h, decide_eq_true_eq]
theorem grk_few {G H : List (List Int)} {ks : List Int} (hk : kOkI G ks = true) (h : fewI G H = true) : fewI (grkL G ks) H = true := by
  obtain ⟨h1, h2, h3⟩ := fewI_iff.1 h
  refine fewI_iff.2 ⟨grk_good hk, h2, Nat.le_trans ?_ h3⟩
  rw [grk_length hk]
  exact Nat.pow_le_pow_right (good_of h2).1 (grk_top hk).2
/-- ALL MAPS ARE MAPS OF KINDS. -/
theorem maps_kinds {G H : List (List Int)} (h5 : g5 G = true) (h : fewI G H = true) : ((allKL G).map fun ks => (apaL (grkL G ks) H).length).sum = (mapsL G H).length := by
  have e : ((allKL G).flatMap fun ks => (apaL (grkL G ks) H).map (behL ks)).length = ((allKL G).map fun ks => (apaL (grkL G ks) H).length).sum := by
    rw [List.length_flatMap]
    congr 1
    exact List.map_congr_left fun ks _ => List.length_map _
  rw [← e]
  have hg := (g5_iff.1 h5).1
  refine nodup_same (flat_nodup (allK_nodup G) (fun ks hk => ?_) fun ks hk ls hl z hz hz2 => ?_) (mapsL_nodup G H) fun f => ?_
  · have hk := (allK_mem h5).1 hk
    refine map_nodup (List.Nodup.sublist List.filter_sublist (mapsL_nodup _ _)) fun x hx y hy exy => ?_
    obtain ⟨hx1, _⟩ := (apaL_mem (grk_few hk h)).1 hx
    obtain ⟨hy1, _⟩ := (apaL_mem (grk_few hk h)).1 hy
    refine tells_ext hx1.1 hy1.1 fun a ha => ?_
    rw [grk_length hk] at ha
    obtain ⟨j, hj, rfl⟩ := kind_all (kOk_iff.1 hk).2.2 a ha
    rw [← behL_nd hj, ← behL_nd hj, exy]
  · have hk := (allK_mem h5).1 hk
    have hl := (allK_mem h5).1 hl
    have key : ∀ {ks : List Int}, kOkI G ks = true → z ∈ (apaL (grkL G ks) H).map (behL ks) → ks = kbyL z := fun {ks} hk hz => by
      obtain ⟨e, he, rfl⟩ := List.mem_map.1 hz
      obtain ⟨he1, he2⟩ := (apaL_mem (grk_few hk h)).1 he
      have hT := k_tells hk
      have ht : e.length = topK ks := by rw [he1.1.1, grk_length hk]
      have hlen : (behL ks e).length = ks.length := behL_length _ _
      have get : ∀ i, i < ks.length → (behL ks e)[i]? = e[nd ks i]? := fun i hi => by
        have hi2 : i < G.length := by rw [← hT.1]; exact hi
        obtain ⟨p, hp, hpn, hpt⟩ := tells_at hT hi2
        unfold behL
        rw [List.getElem?_map, hp, hpn]
        simp [List.getElem?_eq_getElem (show p < e.length by omega)]
      refine kind_ext (kOk_iff.1 hk).2.2 (kby_kind _).1 (by rw [kby_length, hlen]) fun i j hi hj => ?_
      rw [kby_iff (by omega) (by omega), get i hi, get j hj]
      constructor
      · intro e2; rw [e2]
      · intro e2
        exact nodup_get he2 (by rw [ht]; exact nd_tells hT (by rw [← hT.1]; exact hi)) e2
    exact (key hk hz).trans (key hl hz2).symm
  · rw [mapsL_mem h, List.mem_flatMap]
    constructor
    · rintro ⟨ks, hk, hf⟩
      have hk := (allK_mem h5).1 hk
      obtain ⟨e, he, rfl⟩ := List.mem_map.1 hf
      exact beh_map (grk_map hk) ((apaL_mem (grk_few hk h)).1 he).1
    · intro hf
      have hk := kby_kOk hg hf.1.1
      exact ⟨kbyL f, (allK_mem h5).2 hk, List.mem_map.2 ⟨nubL f, (apaL_mem (grk_few hk h)).2 ⟨nub_map hg hf, nub_nodup f⟩, nub_beh hg hf⟩⟩

end Go.Proofs.Ytpcmenhchabgiaa

namespace Go.Proofs.Ytpcmenhchabgiaa
open Go.RowKit Go.Shelf Go.Deep

theorem take_next {α : Type} {l : List α} {k : Nat} {x : α} (h : l[k]? = some x) : l.take (k + 1) = l.take k ++ [x] := by rw [List.take_add_one, h]; rfl
theorem kind_take {ks : List Int} (h : kindOk ks = true) (k : Nat) : kindOk (ks.take k) = true := by
  refine List.all_eq_true.2 fun i hi => ?_
  have hi := List.mem_range.1 hi
  rw [List.length_take] at hi
  have := List.all_eq_true.1 h i (List.mem_range.2 (by omega))
  rw [List.getElem?_take_of_lt (by omega), List.take_take, Nat.min_eq_left (by omega)]
  exact this
theorem kind_next {ks : List Int} {k : Nat} {x : Int} (hx : ks[k]? = some x) (h : kindOk (ks.take k) = true) (h0 : 0 ≤ x) (h1 : x ≤ (topK (ks.take k) : Int)) : kindOk (ks.take (k + 1)) = true := by
  rw [take_next hx]; exact kindOk_snoc_iff.2 ⟨h, h0, by omega⟩
theorem kind_fail {ks : List Int} {k : Nat} {x : Int} (hx : ks[k]? = some x) (h : ¬ (0 ≤ x ∧ x ≤ (topK (ks.take k) : Int))) : kindOk ks = false := Bool.eq_false_iff.2 fun hk => h <| by
  have := kind_take hk (k + 1)
  rw [take_next hx] at this
  obtain ⟨_, h1, h2⟩ := kindOk_snoc_iff.1 this
  omega
theorem topK_next {ks : List Int} {k : Nat} {x : Int} (hx : ks[k]? = some x) (h0 : 0 ≤ x) : ((topK (ks.take (k + 1)) : Nat) : Int) = max (topK (ks.take k) : Int) (x + 1) := by
  rw [take_next hx, topK_snoc]; omega
theorem topK_take {ks : List Int} {k : Nat} (h : kindOk (ks.take k) = true) : topK (ks.take k) ≤ k := by
  have := kind_top h
  rw [List.length_take] at this; omega
theorem kind_end {ks : List Int} (h : kindOk (ks.take ks.length) = true) : kindOk ks = true := by rwa [List.take_length] at h
theorem kOk_no1 {G : List (List Int)} {ks : List Int} (h : gOk G = false) : kOkI G ks = false := by unfold kOkI; rw [h]; rfl
theorem kOk_no2 {G : List (List Int)} {ks : List Int} (h : kindOk ks = false) : kOkI G ks = false := by unfold kOkI; rw [h]; simp
theorem kOk_no3 {G : List (List Int)} {ks : List Int} (h : ks.length ≠ G.length) : kOkI G ks = false := by unfold kOkI; rw [decide_eq_false h]; simp
theorem kOk_eq {G : List (List Int)} {ks : List Int} (h : kindOk ks = true) : kOkI G ks = (gOk G && decide (ks.length = G.length)) := by unfold kOkI; rw [h]; simp

/-- None twice, pair by pair. -/
theorem nodup_pairs {f : List Int} : f.Nodup ↔ ∀ k j, j < k → k < f.length → f[j]? ≠ f[k]? := by
  rw [List.Nodup, List.pairwise_iff_getElem]
  constructor
  · intro h k j hj hk e
    rw [List.getElem?_eq_getElem (by omega), List.getElem?_eq_getElem hk] at e
    exact h j k (by omega) hk hj (Option.some.inj e)
  · intro h i j hi hj hij e
    exact h j i hij hj (by rw [List.getElem?_eq_getElem hi, List.getElem?_eq_getElem hj, e])
theorem apa_no {G H : List (List Int)} {f : List Int} {j k : Nat} (hj : j < k) (hk : k < f.length) (e : f[j]? = f[k]?) : apaI G H f = false := Bool.eq_false_iff.2 fun h => nodup_pairs.1 (apa_iff.1 h).2 k j hj hk e
theorem apa_yes {G H : List (List Int)} {f : List Int} (h : ∀ k j, j < k → k < f.length → f[j]? ≠ f[k]?) : apaI G H f = mapOkI G H f := by
  unfold apaI; rw [decide_eq_true (nodup_pairs.2 h)]; simp

theorem kby_pre (p q : List Int) : kbyL p <+: kbyL (p ++ q) := by
  refine snoc_ind (P := fun q => kbyL p <+: kbyL (p ++ q)) (by rw [List.append_nil]; exact List.prefix_refl _) (fun q x ih => ?_) q
  rw [← List.append_assoc, kby_snoc]
  exact ih.trans (List.prefix_append _ _)
theorem kby_take (f : List Int) (k : Nat) : kbyL (f.take k) = (kbyL f).take k := by
  have h := kby_pre (f.take k) (f.drop k)
  rw [List.take_append_drop] at h
  have e := List.prefix_iff_eq_take.1 h
  rw [kby_length, List.length_take] at e
  rw [e]
  rcases Nat.le_total k f.length with hk | hk
  · rw [Nat.min_eq_left hk]
  · rw [Nat.min_eq_right hk, List.take_of_length_le (by rw [kby_length]; exact Nat.le_refl _), List.take_of_length_le (by rw [kby_length]; exact hk)]
theorem nub_next {f : List Int} {k : Nat} {y : Int} (hy : f[k]? = some y) : nubL (f.take (k + 1)) = nubS (nubL (f.take k)) y := by rw [take_next hy, nub_snoc]
/-- The next node's kind, where it is a new one, and where its node was there before. -/
theorem kby_new {f : List Int} {k : Nat} {y : Int} (hy : f[k]? = some y) (h : y ∉ f.take k) : kbyL (f.take (k + 1)) = kbyL (f.take k) ++ [((topK (kbyL (f.take k)) : Nat) : Int)] ∧ nubL (f.take (k + 1)) = nubL (f.take k) ++ [y] := by
  have h' : y ∉ nubL (f.take k) := fun hh => h (nub_mem.1 hh)
  refine ⟨?_, by rw [nub_next hy, nubS_no h']⟩
  rw [take_next hy, kby_snoc, nub_snoc, nubS_no h', List.idxOf_append, if_neg h', (kby_kind _).2]
  simp
theorem kby_old {f : List Int} {k j : Nat} {y : Int} (hy : f[k]? = some y) (hj : j < k) (h : f[j]? = some y) : kbyL (f.take (k + 1)) = kbyL (f.take k) ++ [((nd (kbyL (f.take k)) j : Nat) : Int)] ∧ nubL (f.take (k + 1)) = nubL (f.take k) := by
  have hk := (List.getElem?_eq_some_iff.1 hy).1
  have hm : y ∈ nubL (f.take k) := nub_mem.2 (List.mem_of_getElem? (show (f.take k)[j]? = some y by rw [List.getElem?_take_of_lt hj, h]))
  refine ⟨?_, by rw [nub_next hy, nubS_yes hm]⟩
  have hl : j < (f.take k).length := by rw [List.length_take]; omega
  obtain ⟨h1, h2⟩ := kby_get hl
  rw [List.getElem?_take_of_lt hj, h] at h2
  rw [take_next hy, kby_snoc, nub_snoc, nubS_yes hm]
  congr 3
  have hi := List.idxOf_lt_length_of_mem hm
  refine nodup_get (nub_nodup _) hi ?_
  rw [h2, List.getElem?_eq_getElem hi, List.getElem_idxOf hi]
/-- A node comes first just where its kind is the next one. -/
theorem kby_first {f : List Int} {k : Nat} {y x : Int} (hy : f[k]? = some y) (hx : (kbyL f)[k]? = some x) : nubL (f.take (k + 1)) = if x = ((nubL (f.take k)).length : Int) then nubL (f.take k) ++ [y] else nubL (f.take k) := by
  have hk := (List.getElem?_eq_some_iff.1 hy).1
  have e : (kbyL (f.take (k + 1)))[k]? = some x := by rw [kby_take, List.getElem?_take_of_lt (by omega), hx]
  have hlen : (kbyL (f.take k)).length = k := by rw [kby_length, List.length_take]; omega
  by_cases h : y ∈ f.take k
  · obtain ⟨j, hj⟩ := List.mem_iff_getElem?.1 h
    have hjk : j < k := by have := (List.getElem?_eq_some_iff.1 hj).1; rw [List.length_take] at this; omega
    rw [List.getElem?_take_of_lt hjk] at hj
    obtain ⟨e1, e2⟩ := kby_old hy hjk hj
    rw [e1, List.getElem?_append_right (by omega), hlen, Nat.sub_self] at e
    have hx2 : x = ((nd (kbyL (f.take k)) j : Nat) : Int) := by simpa using e.symm
    have := (kby_get (f := f.take k) (j := j) (by rw [List.length_take]; omega)).1
    rw [e2, if_neg (by omega)]
  · obtain ⟨e1, e2⟩ := kby_new hy h
    rw [e1, List.getElem?_append_right (by omega), hlen, Nat.sub_self, (kby_kind _).2] at e
    have hx2 : x = (((nubL (f.take k)).length : Nat) : Int) := by simpa using e.symm
    rw [e2, if_pos hx2]
/-- THE KINDS OF A MAP, and the map from them; nothing for others. -/
def kbI (G H : List (List Int)) (f : List Int) : List Int := if mapOkI G H f = true then kbyL f else []
theorem kb_yes {G H : List (List Int)} {f : List Int} (h : mapOkI G H f = true) : kbI G H f = kbyL f := if_pos h
theorem kb_no {G H : List (List Int)} {f : List Int} (h : mapOkI G H f = false) : kbI G H f = [] := if_neg (by rw [h]; decide)
def frI (G H : List (List Int)) (f : List Int) : List Int := if mapOkI G H f = true then nubL f else []
theorem fr_yes {G H : List (List Int)} {f : List Int} (h : mapOkI G H f = true) : frI G H f = nubL f := if_pos h
theorem fr_no {G H : List (List Int)} {f : List Int} (h : mapOkI G H f = false) : frI G H f = [] := if_neg (by rw [h]; decide)
theorem map_le {G H : List (List Int)} {f : List Int} (h : mapOkI G H f = true) : f.length = G.length ∧ 1 ≤ f.length ∧ f.length ≤ 9 := by
  obtain ⟨⟨h1, _⟩, h3⟩ := mapOk_iff.1 h
  have := good_of h1
  have hl := h3.1.1
  exact ⟨hl, by rw [hl]; exact this.1, by rw [hl]; exact this.2.1⟩
/-- How many of the first maps lead no two nodes to one. -/
def apaN (ls : List (List Int)) (k : Nat) : Nat := ((ls.take k).filter fun f => decide f.Nodup).length
theorem apaN_next {ls : List (List Int)} {k : Nat} {x : List Int} (hx : ls[k]? = some x) : apaN ls (k + 1) = apaN ls k + if x.Nodup then 1 else 0 := by
  unfold apaN
  rw [take_next hx, List.filter_append, List.length_append]
  by_cases h : x.Nodup <;> simp [h]
theorem apaN_le (ls : List (List Int)) (k : Nat) : apaN ls k ≤ ls.length := by
  unfold apaN
  refine Nat.le_trans (List.length_filter_le _ _) ?_
  rw [List.length_take]; omega
theorem apaN_all (G H : List (List Int)) : apaN (mapsL G H) (mapsL G H).length = (apaL G H).length := by unfold apaN apaL; rw [List.take_length]
theorem apa_map {G H : List (List Int)} (h : fewI G H = true) {x : List Int} (hx : x ∈ mapsL G H) : apaI G H x = decide x.Nodup := by
  unfold apaI; rw [(mapOk_mem h x).2 hx]; simp

end Go.Proofs.Ytpcmenhchabgiaa

namespace Go.Proofs.Ytpcmenhchabgiaa
open Go.RowKit Go.Shelf Go.Deep

/-- Arrows of kinds that come from the first n nodes, or from the next one to the first j. -/
def kTo (G : List (List Int)) (ks : List Int) (n j : Nat) (a b : Nat) : Bool :=
  ((List.range n).any fun i => (List.range G.length).any fun l => arw G i l && (nd ks i == a && nd ks l == b)) || (List.range j).any fun l => arw G n l && (nd ks n == a && nd ks l == b)
theorem kTo_zero (G : List (List Int)) (ks : List Int) : kTo G ks 0 0 = fun _ _ => false := by funext a b; simp [kTo]
theorem kTo_row (G : List (List Int)) (ks : List Int) (n : Nat) : kTo G ks (n + 1) 0 = kTo G ks n G.length := by
  funext a b
  unfold kTo
  rw [List.range_succ, List.any_append]
  simp
theorem kTo_all (G : List (List Int)) (ks : List Int) : kTo G ks G.length 0 = kArw G ks := by funext a b; simp [kTo, kArw]
theorem kTo_next (G : List (List Int)) (ks : List Int) (n j a b : Nat) : kTo G ks n (j + 1) a b = (kTo G ks n j a b || (arw G n j && (nd ks n == a && nd ks j == b))) := by
  unfold kTo
  rw [List.range_succ, List.any_append]
  simp [Bool.or_assoc]
theorem kTo_no {G : List (List Int)} {ks : List Int} {n j : Nat} (h : arw G n j = false) : kTo G ks n (j + 1) = kTo G ks n j := by
  funext a b; rw [kTo_next, h]; simp
theorem kTo_yes {G : List (List Int)} {ks : List Int} {n j : Nat} (h : arw G n j = true) : kTo G ks n (j + 1) = fun a b => kTo G ks n j a b || (nd ks n == a && nd ks j == b) := by
  funext a b; rw [kTo_next, h]; simp
/-- One entry set to 1. -/
theorem rowsP_set {m : Nat} {p : Nat → Nat → Bool} {x y : Nat} (hx : x < m) (hy : y < m) :
    (rowsP m p).set x (((List.range m).map fun j => if p x j = true then (1 : Int) else 0).set y 1) = rowsP m fun a b => p a b || (x == a && y == b) := by
  refine List.ext_getElem? fun i => ?_
  by_cases hi : i < m
  · rw [rowsP_get hi]
    by_cases e : i = x
    · subst e
      rw [List.getElem?_set_self (by rw [rowsP_length]; exact hi)]
      congr 1
      refine List.ext_getElem? fun j => ?_
      by_cases hj : j < m
      · by_cases e2 : j = y
        · subst e2
          rw [List.getElem?_set_self (by simp; exact hj)]
          simp [hj]
        · rw [List.getElem?_set_ne (fun h => e2 h.symm)]
          have : ¬ y = j := fun h => e2 h.symm
          simp [hj, this]
      · rw [List.getElem?_eq_none (by simp; omega), List.getElem?_eq_none (by simp; omega)]
    · rw [List.getElem?_set_ne (fun h => e h.symm), rowsP_get hi]
      have : (x == i) = false := by simp; exact fun h => e h.symm
      simp [this]
  · rw [List.getElem?_eq_none (by simp [rowsP_length]; omega), List.getElem?_eq_none (by rw [rowsP_length]; omega)]
/-- Rows of nothing. -/
theorem rowsP_none (m : Nat) : rowsP m (fun _ _ => false) = List.replicate m (List.replicate m 0) := by
  refine List.ext_getElem? fun i => ?_
  by_cases hi : i < m
  · rw [rowsP_get hi, List.getElem?_replicate, if_pos hi]
    congr 1
    refine List.ext_getElem? fun j => ?_
    by_cases hj : j < m <;> simp [hj]
  · rw [List.getElem?_eq_none (by rw [rowsP_length]; omega), List.getElem?_eq_none (by simp; omega)]

end Go.Proofs.Ytpcmenhchabgiaa

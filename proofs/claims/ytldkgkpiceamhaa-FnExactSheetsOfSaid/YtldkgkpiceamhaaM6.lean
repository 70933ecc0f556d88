/-
  The recursive iterator over the maps that begin with a row: impl.graph.mapsBegun.
-/
import Derived.Test.YtldkgkpiceamhaaZO
namespace Go.Proofs.Ytldkgkpiceamhaa
open Go.RowKit Go.Shelf Go.Deep

attribute [local go_sem] Oper.semAt_some

/-- WHERE THE ITERATOR's OWN BOXES LIE, and what it reads. -/
def Begun (s b n₀ N : Nat) (a a' : Option Addr) (c c' : Nat) (G H : List (List Int)) (p : List Int) (W : World) : Prop :=
  Boxed W s 61 (.slice a G.length c) ∧ Boxed W (s + 1) 61 (.slice a' H.length c') ∧ Boxed W (s + 1 + 1) 24 (.slice (some ⟨b, 0, none⟩) p.length N) ∧ Mat n₀ W a G ∧ Mat n₀ W a' H
theorem Begun.keep {s b n₀ N : Nat} {a a' : Option Addr} {c c' : Nat} {G H : List (List Int)} {p : List Int} {A C : World} (h : Begun s b n₀ N a a' c c' G H p A) (hk : ∀ (k : Nat) (o : Obj), A.heap[k]? = some o → o.isCells = true → k ≠ b → (k < n₀ ∨ s ≤ k) → C.heap[k]? = some o) (hb : n₀ ≤ b) (hbs : b < s) : Begun s b n₀ N a a' c c' G H p C := by
  have hm : ∀ (x : Option Addr) (X : List (List Int)), Mat n₀ A x X → Mat n₀ C x X := fun x X hX => by
    intro hne
    obtain ⟨b1, o1, e, h1, hc⟩ := hX hne
    have cellk : ∀ (q : Addr) (v : Value), q.block < n₀ → A.cell? q = some v → C.cell? q = some v := fun q v hq hv => by
      obtain ⟨o, ho, hoc⟩ := cells_of_cell hv
      exact (World.cell?_of_block ((hk _ o ho hoc (by omega) (.inl hq)).trans ho.symm)).trans hv
    refine ⟨b1, o1, e, h1, fun i hi => ?_⟩
    obtain ⟨a2, c2, h2, h3⟩ := hc i hi
    refine ⟨a2, c2, cellk ⟨b1, o1 + i, none⟩ _ h1 h2, fun hne2 => ?_⟩
    obtain ⟨b3, o3, e3, h4, h5⟩ := h3 hne2
    exact ⟨b3, o3, e3, h4, fun j hj => cellk ⟨b3, o3 + j, none⟩ _ h4 (h5 j hj)⟩
  exact ⟨hk _ _ h.1 rfl (by omega) (.inr (by omega)), hk _ _ h.2.1 rfl (by omega) (.inr (by omega)), hk _ _ h.2.2.1 rfl (by omega) (.inr (by omega)), hm _ _ h.2.2.2.1, hm _ _ h.2.2.2.2⟩
theorem Begun.grown {s b n₀ N : Nat} {a a' : Option Addr} {c c' : Nat} {G H : List (List Int)} {p : List Int} {A C : World} {row : Option Nat} (h : Begun s b n₀ N a a' c c' G H p A) (hg : A.grownBy C row) (hr : ∀ r, row = some r → r = b ∨ ∃ o : Obj, A.heap[r]? = some o ∧ o.isCells = false) (hb : n₀ ≤ b) (hbs : b < s) : Begun s b n₀ N a a' c c' G H p C :=
  h.keep (fun k o ho hc hkb _ => (hg.block k (Array.getElem?_eq_some_iff.1 ho).1 (fun e => by
    rcases hr k e.symm with h' | ⟨o', ho', hc'⟩
    · exact hkb h'
    · rw [ho] at ho'; cases ho'; rw [hc] at hc'; cases hc')).trans ho) hb hbs
theorem Begun.keepC {s b n₀ N T : Nat} {S : Nat → Prop} {a a' : Option Addr} {c c' : Nat} {G H : List (List Int)} {p : List Int} {A C : World} (h : Begun s b n₀ N a a' c c' G H p A) (hk : KeepC S T A C) (hS : ∀ B, S B → n₀ ≤ B ∧ B < s) (hb : n₀ ≤ b) (hbs : b < s) : Begun s b n₀ N a a' c c' G H p C :=
  h.keep (fun k o ho hc _ h' => hk.2 k o (fun hs => by have := hS k hs; omega) ho (.inl hc)) hb hbs
theorem begun_own {β : Type} (s b n₀ N : Nat) (a a' : Option Addr) (c c' : Nat) (G H : List (List Int)) (p : List Int) (hb : n₀ ≤ b) (hbs : b < s) : Own (fun (_ : β) W => Begun s b n₀ N a a' c c' G H p W) :=
  fun _ _ _ _ h hg hr => h.grown hg (fun r e => .inr (hr r e)) hb hbs

theorem mapsFrom_one (G H : List (List Int)) (p : List Int) : mapsFrom G H 0 p = [p] := rfl

set_option maxRecDepth 100000 in
set_option maxHeartbeats 4000000 in
theorem begun_Y (n₀ b N : Nat) (a a' : Option Addr) (c c' : Nat) (G H : List (List Int)) (hG : Good G) (hH : Good H) (hN : N = G.length) (S : Nat → Prop) (hSb : ¬ S b) (hb : n₀ ≤ b) : ∀ (n : Nat) (p : List Int) (T s : Nat) (w : World),
    p.length + n = N → Tells p.length H.length p → Begun s b n₀ N a a' c c' G H p w → Hold b N p w → b < s → (∀ B, S B → n₀ ≤ B ∧ B < s) → w.heap.size ≤ T → n₀ ≤ w.heap.size →
    SeqY Fence.wide Try.prog 113 #[.pointer (some ⟨s + 1 + 1, 0, none⟩), .pointer (some ⟨s, 0, none⟩), .pointer (some ⟨s + 1, 0, none⟩)] (fun _ : List Int => #[.slice (some ⟨b, 0, none⟩) N N]) b (Hold b N p) (fun x W => x.length = N ∧ Hold b N x W) (KeepC S T)
      (fun xs => xs = mapsFrom G H n p) (fun pre => pre <+: mapsFrom G H n p) T w := by
  have h80 : Fence.wide.fn 61 := trivial
  have h110 : Fence.wide.fn 114 := trivial
  have h103 : Fence.wide.fn 103 := trivial
  have hdd : ∀ k : Nat, (Fence.wide.depth.isSome = true → 1 ≤ k) := fun k h => by cases h
  have hl9 := hG.2.1
  have hl9' := hH.2.1
  have HG := Lib.hid hG
  have HH := Lib.hid hH
  have HSb := Lib.hid hSb
  obtain ⟨i1, hj, hy0, hy1, hy2⟩ := info_parts infoInt
  have es : ∀ (W : World) (o : Obj), (W.alloc o).heap.size = W.heap.size + 1 := fun W o => by simp
  have HN := Lib.hid hN
  clear hG hH hSb hN
  intro n
  induction n with
  | zero =>
    intro p T s w hpn hTp hBw hHw hbs hS hwT hnw l J Jx W hT hW hJ hJx hY h0
    have hB0 := hBw.grown (grown_of_below hW) (fun r e => by cases e) hb hbs
    have hH0 := hHw.below hW hHw.lt
    have hpN : p.length = N := by omega
    have HJ := Lib.hid hJ
    have HJx := Lib.hid hJx
    have HY := Lib.hid hY
    have HJ0 := Lib.hid h0
    have HS := Lib.hid hS
    have hlt3 := hB0.2.2.1.lt
    have hTW : T ≤ W.heap.size := by omega
    clear hJ hJx hY h0 hS hBw hHw hT
    refine callsIn_of_wp_marks Try.func113 rfl trivial ?_ rfl
    simp only [Try.ntmps113, List.size_toArray, List.length_cons, List.length_nil, Nat.reduceAdd, Nat.reduceSub, Array.replicate_succ, Array.replicate_zero, List.push_toArray, List.append_toArray, List.nil_append, List.cons_append]
    subst hpN
    gi_wp2
    have bY1 := Boxed.new W 70 (.func (.yield l) #[] #[])
    have hB1 := hB0.grown (World.grownBy_alloc W (.cells #[.func (.yield l) #[] #[]] 70) none) (fun r e => by cases e) hb hbs
    have hH1 := hH0.alloc (.cells #[.func (.yield l) #[] #[]] 70)
    have HJ1 := Lib.hid (OwnFrom.alloc HJ.out.1 (.cells #[.func (.yield l) #[] #[]] 70) HJ0.out)
    have hs1 : (W.alloc (.cells #[.func (.yield l) #[] #[]] 70)).heap.size = W.heap.size + 1 := es _ _
    obtain ⟨W1, hW1⟩ : ∃ W1, W.alloc (.cells #[.func (.yield l) #[] #[]] 70) = W1 := ⟨_, rfl⟩
    rw [hW1] at bY1 hB1 hH1 HJ1 hs1 ⊢
    clear hW1 hB0 hH0 HJ0
    have cP := hB1.2.2.1.cell
    have cG := hB1.1.cell
    have ltP := hB1.2.2.1.lt
    have ltG := hB1.1.lt
    have hpe : ((p.length : Int) == (G.length : Int)) = true := by simp; have := HN.out; omega
    refine wpIn_wide.2 ?_
    go_region_held3 (fun w' => w'.cell? ⟨s + 1 + 1, 0, none⟩ = some (.slice (some ⟨b, 0, none⟩) p.length p.length) ∧ w'.cell? ⟨s, 0, none⟩ = some (.slice a G.length c)) (go_keep)
      (first | (go_at_call 61; refine (nodesP _ _ _ _).mono ?_; rintro e w' ⟨rfl, rfl⟩))
    go_wp2_with fail
    have hga := World.grownBy_alloc W1 (.cells #[.slice a G.length c] 61) none
    have hgd : W1.grownBy (W1.alloc (.cells #[.slice a G.length c] 61)).drew none := ⟨hga.os, hga.tape, hga.output, hga.size, hga.block⟩
    clear hga
    have bY2 := bY1.kept hgd (by simp)
    have hB2 := hB1.grown hgd (fun r e => by cases e) hb hbs
    have hH2 := hH1.kept hgd (by simp)
    have HJ2 := Lib.hid (HJ.out.1 _ _ _ none HJ1.out hgd (fun r e => by cases e))
    have hs2 : (W1.alloc (.cells #[.slice a G.length c] 61)).drew.heap.size = W1.heap.size + 1 := es _ _
    obtain ⟨V, hV⟩ : ∃ V, (W1.alloc (.cells #[.slice a G.length c] 61)).drew = V := ⟨_, rfl⟩
    rw [hV] at bY2 hB2 hH2 HJ2 hs2 ⊢
    clear hV bY1 hB1 hH1 HJ1 cP cG ltP ltG hgd
    have cY := bY2.cell
    have cP := hB2.2.2.1.cell
    obtain ⟨fn, tmps, assign, body, hy, hR⟩ := HY.out 0 [] p V HJ2.out (by rw [List.nil_append]; exact List.prefix_refl _) ⟨rfl, hH2⟩
    gi_wp2
    refine hR.mono ?_
    rintro e W3 (⟨rfl, hJ3, hk3⟩ | ⟨rfl, hJx3, hk3⟩)
    · have HJ3 := Lib.hid hJ3
      clear hJ3 hk3
      gi_wp2
      exact ⟨_, results_none rfl _ _ _, ⟨_, rfl⟩, .inl ⟨[p], rfl, HJ3.out⟩⟩
    · have HJ3 := Lib.hid hJx3
      clear hJx3 hk3
      gi_wp2
      exact ⟨_, results_none rfl _ _ _, ⟨_, rfl⟩, .inr ⟨[p], List.prefix_refl _, HJ3.out⟩⟩
  | succ n ih =>
    intro p T s w hpn hTp hBw hHw hbs hS hwT hnw l J Jx W hT hW hJ hJx hY h0
    have hB0 := hBw.grown (grown_of_below hW) (fun r e => by cases e) hb hbs
    have hH0 := hHw.below hW hHw.lt
    have HJ := Lib.hid hJ
    have HJx := Lib.hid hJx
    have HY := Lib.hid hY
    have HJ0 := Lib.hid h0
    have HS := Lib.hid hS
    have HT := Lib.hid hT
    have HTp := Lib.hid hTp
    have HIH := Lib.hid ih
    have hlt3 := hB0.2.2.1.lt
    have hTW : T ≤ W.heap.size := by omega
    have hnW : n₀ ≤ W.heap.size := by omega
    have hTW2 : W.heap.size ≤ T := by omega
    clear hJ hJx hY h0 hS hBw hHw hT hTp ih
    refine callsIn_of_wp_marks Try.func113 rfl trivial ?_ rfl
    simp only [Try.ntmps113, List.size_toArray, List.length_cons, List.length_nil, Nat.reduceAdd, Nat.reduceSub, Array.replicate_succ, Array.replicate_zero, List.push_toArray, List.append_toArray, List.nil_append, List.cons_append]
    gi_wp2
    have bY1 := Boxed.new W 70 (.func (.yield l) #[] #[])
    have hB1 := hB0.grown (World.grownBy_alloc W (.cells #[.func (.yield l) #[] #[]] 70) none) (fun r e => by cases e) hb hbs
    have hH1 := hH0.alloc (.cells #[.func (.yield l) #[] #[]] 70)
    have HJ1 := Lib.hid (OwnFrom.alloc HJ.out.1 (.cells #[.func (.yield l) #[] #[]] 70) HJ0.out)
    have hs1 : (W.alloc (.cells #[.func (.yield l) #[] #[]] 70)).heap.size = W.heap.size + 1 := es _ _
    obtain ⟨W1, hW1⟩ : ∃ W1, W.alloc (.cells #[.func (.yield l) #[] #[]] 70) = W1 := ⟨_, rfl⟩
    rw [hW1] at bY1 hB1 hH1 HJ1 hs1 ⊢
    clear hW1 hB0 hH0 HJ0
    have cP := hB1.2.2.1.cell
    have cG := hB1.1.cell
    have ltP := hB1.2.2.1.lt
    have ltG := hB1.1.lt
    have hpe : ((p.length : Int) == (G.length : Int)) = false := by simp; have := HN.out; omega
    refine wpIn_wide.2 ?_
    go_region_held3 (fun w' => w'.cell? ⟨s + 1 + 1, 0, none⟩ = some (.slice (some ⟨b, 0, none⟩) p.length N) ∧ w'.cell? ⟨s, 0, none⟩ = some (.slice a G.length c)) (go_keep)
      (first | (go_at_call 61; refine (nodesP _ _ _ _).mono ?_; rintro e w' ⟨rfl, rfl⟩))
    go_wp2_with fail
    have hga := World.grownBy_alloc W1 (.cells #[.slice a G.length c] 61) none
    have hgd : W1.grownBy (W1.alloc (.cells #[.slice a G.length c] 61)).drew none := ⟨hga.os, hga.tape, hga.output, hga.size, hga.block⟩
    clear hga
    have bY2 := bY1.kept hgd (by simp)
    have hB2 := hB1.grown hgd (fun r e => by cases e) hb hbs
    have hH2 := hH1.kept hgd (by simp)
    have HJ2 := Lib.hid (HJ.out.1 _ _ _ none HJ1.out hgd (fun r e => by cases e))
    have hs2 : (W1.alloc (.cells #[.slice a G.length c] 61)).drew.heap.size = W1.heap.size + 1 := es _ _
    obtain ⟨V, hV⟩ : ∃ V, (W1.alloc (.cells #[.slice a G.length c] 61)).drew = V := ⟨_, rfl⟩
    rw [hV] at bY2 hB2 hH2 HJ2 hs2 ⊢
    clear hV bY1 hB1 hH1 HJ1 cP cG ltP ltG hgd
    have cH := hB2.2.1.cell
    gi_wp2_with ((try refine ⟨hdd _, ?_⟩); gi_at_call 61; refine (nodes_in Fence.wide _ (fun _ => trivial) rfl _ _ _ _).mono ?_; rintro e w' ⟨rfl, rfl⟩)
    have bY3 := bY2.alloc (.cells #[.slice a' H.length c'] 61)
    have hga := World.grownBy_alloc V (.cells #[.slice a' H.length c'] 61) none
    have hB3 := hB2.grown hga (fun r e => by cases e) hb hbs
    have hH3 := hH2.kept hga (by simp)
    have HJ3 := Lib.hid (HJ.out.1 _ _ _ none HJ2.out hga (fun r e => by cases e))
    have hs3 : (V.alloc (.cells #[.slice a' H.length c'] 61)).heap.size = V.heap.size + 1 := es _ _
    obtain ⟨V3, hV⟩ : ∃ V3, V.alloc (.cells #[.slice a' H.length c'] 61) = V3 := ⟨_, rfl⟩
    rw [hV] at bY3 hB3 hH3 HJ3 hs3 ⊢
    clear hV bY2 hB2 hH2 HJ2 cH hga
    have hsz : W.heap.size ≤ V3.heap.size := by omega
    clear hs1 hs2 hs3
    refine wpIn_loop (fun a₁ W' => ∃ (k : Nat) (Ds : List Nat) (i u5 u6 u7 u8 u9 u10 u11 u12 u13 u14 u15 u16 u19 u20 u21 u22 u23 u24 u25 u26 u27 u28 u29 u30 u31 u32 u33 u34 u35 u36 u37 u38 u39 : Value), k ≤ H.length ∧ i = .int .i64 k ∧ a₁ = { tmps := #[.func (.yield l) #[] #[], .pointer (some ⟨s + 1 + 1, 0, none⟩), .pointer (some ⟨s, 0, none⟩), .pointer (some ⟨s + 1, 0, none⟩), .pointer (some ⟨W.heap.size, 0, none⟩), u5, u6, u7, u8, u9, u10, u11, u12, u13, u14, u15, u16, .int .i64 H.length, i, u19, u20, u21, u22, u23, u24, u25, u26, u27, u28, u29, u30, u31, u32, u33, u34, u35, u36, u37, u38, u39], defers := marks Ds } ∧
      Hid (J (mapsTill G H n p k) W') ∧ Boxed W' W.heap.size 70 (.func (.yield l) #[] #[]) ∧ Begun s b n₀ N a a' c c' G H p W' ∧ Hold b N p W' ∧ Hid (Marked T Ds W') ∧ W.heap.size ≤ W'.heap.size)
      (fun a₁ _ => H.length - (intOf (a₁.tmps.getD 18 undef)).toNat) ⟨0, [], _, _, _, _, _, _, _, _, _, _, _, _, _, _, _, _, _, _, _, _, _, _, _, _, _, _, _, _, _, _, _, _, _, _, Nat.zero_le _, rfl, rfl, HJ3, bY3, hB3, hH3, Marked.nil _ _, hsz⟩ ?_
    clear bY3 hB3 hH3 HJ3 hsz
    rintro _ V ⟨k, Ds, _, u5, u6, u7, u8, u9, u10, u11, u12, u13, u14, u15, u16, u19, u20, u21, u22, u23, u24, u25, u26, u27, u28, u29, u30, u31, u32, u33, u34, u35, u36, u37, u38, u39, hk, rfl, rfl, HJV, bY, hBV, hHV, HMk, hsV⟩
    by_cases hlt : k < H.length
    · have cP := hBV.2.2.1.cell
      have hpN2 : p.length + 1 ≤ N := by omega
      have hbl := hHV.lt
      gi_wp2_with (gi_at_builtin; refine wpListIn_append_fits _ rfl _ _ 24 rfl b 3 i1 1 Try.underlying24 hj hy1 b p.length N (p.map (Value.int .i64)) rfl (hHV.alloc _) ⟨V.heap.size, 0, none⟩ 1 1 [.int .i64 (k : Int)] rfl rfl (cell_one_new _ _ _) (by simp [Value.oneCell']) (by omega) ?_; intro w5 hown5 hgrow5; (have hH5 : Hold b N (p ++ [(k : Int)]) w5 := by unfold Hold; rw [List.length_append, List.length_singleton, List.map_append]; exact hown5); have hga := World.grownBy_alloc V (.cells #[.int .i64 (k : Int)] 3) none; have HJ5 := Lib.hid (HJ.out.2 _ _ _ (OwnFrom.alloc HJ.out.1 (.cells #[.int .i64 (k : Int)] 3) HJV.out) hgrow5 hH5.trunc); (have hYb : W.heap.size ≠ b := by omega); have bY5 := (bY.alloc (.cells #[.int .i64 (k : Int)] 3)).kept hgrow5 (fun e => hYb (by cases e; rfl)); (have hB5 := (hBV.grown hga (fun r e => by cases e) hb hbs).grown hgrow5 (fun r e => .inl (by cases e; rfl)) hb hbs); (have HMk5 := Lib.hid ((HMk.out.grown hga (fun r e => by cases e)).row (hHV.alloc _) hgrow5)); have hsV5 : W.heap.size ≤ w5.heap.size := Nat.le_trans hsV (Nat.le_trans hga.size hgrow5.size); clear hown5 hgrow5 hga HJV bY hBV hHV HMk hsV cP hbl; have cG := hB5.1.cell; have cH := hB5.2.1.cell)
      have hLL := leadsLastP n₀ b 0 a a' c c' N G H (p ++ [(k : Int)]) w5 hB5.2.2.2.1 hB5.2.2.2.2 (by omega) hH5.ints HG.out HH.out (by simp) (by rw [List.length_append, List.length_singleton]; have := HN.out; omega) (tells_snoc HTp.out hlt)
      rw [List.length_append, List.length_singleton] at hLL
      cases hlead : lead G H (p ++ [(k : Int)]) with
      | false =>
        rw [hlead] at hLL
        have HLL := Lib.hid hLL
        clear hLL
        gi_wp2_with ((try refine ⟨hdd _, ?_⟩); gi_at_call 114; refine (callsIn_wide.2 HLL.out).mono ?_; rintro e w6 ⟨rfl, hB6⟩)
        have hg6 := grown_of_below hB6
        refine ⟨⟨k + 1, Ds, _, _, _, _, _, _, _, _, _, _, _, _, _, _, _, _, _, _, _, _, _, _, _, _, _, _, _, _, _, _, _, _, _, _, by omega, by go_num, rfl, ?_, bY5.kept hg6 (by simp), hB5.grown hg6 (fun r e => by cases e) hb hbs, hH5.trunc.kept hg6 (by simp), Lib.hid (HMk5.out.grown hg6 (fun r e => by cases e)), Nat.le_trans hsV5 hB6.size⟩, ?_⟩
        · rw [mapsTill_no hlead]; exact Lib.hid (HJ.out.1 _ _ _ none HJ5.out hg6 (fun r e => by cases e))
        · simp [intOf]; omega
      | true =>
        rw [hlead] at hLL
        have HLL := Lib.hid hLL
        have HLD := Lib.hid hlead
        clear hLL hlead
        gi_wp2_with (first
          | ((try refine ⟨hdd _, ?_⟩); gi_at_call 114; refine (callsIn_wide.2 HLL.out).mono ?_; rintro e w6 ⟨rfl, hB6⟩; have hg6 := grown_of_below hB6; have HJ6 := Lib.hid (HJ.out.1 _ _ _ none HJ5.out hg6 (fun r e => (by cases e))); have bY6 := bY5.kept hg6 (by simp); have hB6' := hB5.grown hg6 (fun r e => (by cases e)) hb hbs; have hH6 := hH5.kept hg6 (by simp); have HMk6 := Lib.hid (HMk5.out.grown hg6 (fun r e => (by cases e))); have hsV6 := Nat.le_trans hsV5 hB6.size; clear HJ5 bY5 hB5 hH5 HMk5 hsV5 hg6 hB6 cG cH; have cG := hB6'.1.cell; have cH := hB6'.2.1.cell)
          | ((try refine ⟨hdd _, ?_⟩); gi_at_call 103; refine (mapsBegun_in _ _ _ _ _ _ _ _ _ _ _).mono ?_; rintro e w7 ⟨rfl, rfl⟩))
        have hDs : ∀ D ∈ Ds, D < w6.heap.size := fun D hD => (HMk6.out.2 D hD).2.1
        have g1 := World.grownBy_alloc w6 (.cells #[.slice a G.length c] 61) none
        have g2 := World.grownBy_alloc (w6.alloc (.cells #[.slice a G.length c] 61)) (.cells #[.slice a' H.length c'] 61) none
        have g3 := World.grownBy_alloc ((w6.alloc (.cells #[.slice a G.length c] 61)).alloc (.cells #[.slice a' H.length c'] 61)) (.cells #[.slice (some ⟨b, 0, none⟩) (p.length + 1) N] 24) none
        have HJ7 := Lib.hid (HJ.out.1 _ _ _ none (HJ.out.1 _ _ _ none (HJ.out.1 _ _ _ none HJ6.out g1 (fun r e => by cases e)) g2 (fun r e => by cases e)) g3 (fun r e => by cases e))
        have bY7 := ((bY6.kept g1 (by simp)).kept g2 (by simp)).kept g3 (by simp)
        have hB7 := ((hB6'.grown g1 (fun r e => by cases e) hb hbs).grown g2 (fun r e => by cases e) hb hbs).grown g3 (fun r e => by cases e) hb hbs
        have hH7 := ((hH6.kept g1 (by simp)).kept g2 (by simp)).kept g3 (by simp)
        have HMk7 := Lib.hid (((HMk6.out.grown g1 (fun r e => by cases e)).grown g2 (fun r e => by cases e)).grown g3 (fun r e => by cases e))
        have q1 := (Boxed.new w6 61 (.slice a G.length c)).kept g2 (by simp) |>.kept g3 (by simp)
        have q2 := (Boxed.new (w6.alloc (.cells #[.slice a G.length c] 61)) 61 (.slice a' H.length c')).kept g3 (by simp)
        have q3 := Boxed.new ((w6.alloc (.cells #[.slice a G.length c] 61)).alloc (.cells #[.slice a' H.length c'] 61)) 24 (.slice (some ⟨b, 0, none⟩) (p.length + 1) N)
        rw [es] at q2
        rw [es, es] at q3
        have hsX : (((w6.alloc (.cells #[.slice a G.length c] 61)).alloc (.cells #[.slice a' H.length c'] 61)).alloc (.cells #[.slice (some ⟨b, 0, none⟩) (p.length + 1) N] 24)).heap.size = w6.heap.size + 1 + 1 + 1 := by rw [es, es, es]
        obtain ⟨X, hX⟩ : ∃ X, ((w6.alloc (.cells #[.slice a G.length c] 61)).alloc (.cells #[.slice a' H.length c'] 61)).alloc (.cells #[.slice (some ⟨b, 0, none⟩) (p.length + 1) N] 24) = X := ⟨_, rfl⟩
        rw [hX] at HJ7 bY7 hB7 hH7 HMk7 q1 q2 q3 hsX ⊢
        clear hX g1 g2 g3 HJ6 bY6 hB6' hH6 HMk6 cG cH
        obtain ⟨z6, hz6⟩ : ∃ z6, z6 = w6.heap.size := ⟨_, rfl⟩
        rw [← hz6] at q1 q2 q3 hDs hsX hsV6 ⊢
        have hzb : b < z6 := by omega
        have hsX1 : z6 < X.heap.size := by omega
        have hsX2 : X.heap.size ≤ z6 + 3 := by omega
        have hlen : (p ++ [(k : Int)]).length = p.length + 1 := by simp
        have hbeg : Begun z6 b n₀ N a a' c c' G H (p ++ [(k : Int)]) X := ⟨q1, q2, by rw [hlen]; exact q3, hB7.2.2.2.1, hB7.2.2.2.2⟩
        have hih := HIH.out (p ++ [(k : Int)]) (X.heap.size + 2) z6 X (by rw [hlen]; omega) (tells_snoc HTp.out hlt) hbeg hH7 hzb (fun B hB => ⟨(HS.out B hB).1, by have := (HS.out B hB).2; omega⟩) (by omega) (by omega)
        clear hz6 hsX q1 q2 q3 hbeg hlen
        refine range_lawY rfl rfl (fun _ => trivial) (gf := 113) (lb := #[.pointer (some ⟨z6 + 1 + 1, 0, none⟩), .pointer (some ⟨z6, 0, none⟩), .pointer (some ⟨z6 + 1, 0, none⟩)]) rfl (enters_of Try.func113 (by kernel_rfl) rfl)
          hih (.inl (by omega)) (OwnFrom.and (ownFrom_pure _ _) (Own.from (hold_own _ _ _) _)) (fun h k => KeepC.trans h k) (fun W' o o' h hc => KeepC.putObj S (by omega) W' o o' h hc) (Below.refl _ _) (fun _ => rfl)
          (fun pre W' => ((((Hid (J (mapsTill G H n p k ++ pre) W') ∧ Boxed W' W.heap.size 70 (.func (.yield l) #[] #[])) ∧ Begun s b n₀ N a a' c c' G H p W') ∧ Hold b N p W') ∧ Hid (Marked T Ds W')) ∧ X.heap.size ≤ W'.heap.size)
          (fun c₁ pre W' => (c₁ = .ret ∧ Hid (Jx (mapsTill G H n p k ++ pre) W')) ∧ Hid (Marked T Ds W'))
          ?hI ?hIx ?h0 ?a1 ?assign ?body ?done ?stop
        case hI =>
          refine ⟨?_, ?_⟩
          · intro pre A C row ⟨⟨⟨⟨⟨h1, h2⟩, h3⟩, h4⟩, h5⟩, h6⟩ hg hr
            have hr' : ∀ r, row = some r → ∃ o : Obj, A.heap[r]? = some o ∧ o.isCells = false := fun r e => (hr r e).2
            exact ⟨⟨⟨⟨⟨Lib.hid ((OwnFrom.far HJ.out.1 (by omega)) _ _ _ _ h1.out hg hr), h2.kept hg (fun e => by obtain ⟨o, ho, hc⟩ := hr' _ e.symm; rw [show A.heap[W.heap.size]? = _ from h2] at ho; cases ho; cases hc)⟩, h3.grown hg (fun r e => .inr (hr' r e)) hb hbs⟩, hold_own b N (fun _ : List (List Int) => p) pre _ _ _ h4 hg hr'⟩, Lib.hid (h5.out.from (fun D hD => Nat.lt_trans (hDs D hD) hsX1) hg (fun r e => (hr r e).1))⟩, Nat.le_trans h6 hg.size⟩
          · intro pre A C ⟨⟨⟨⟨⟨h1, h2⟩, h3⟩, h4⟩, h5⟩, h6⟩ hg hh
            exact ⟨⟨⟨⟨⟨Lib.hid (HJ.out.2 _ _ _ h1.out hg hh.trunc), h2.kept hg (fun e => by have e' := Option.some.inj e; omega)⟩, h3.grown hg (fun r e => .inl (by cases e; rfl)) hb hbs⟩, hh.trunc⟩, Lib.hid (h5.out.row h4 hg)⟩, Nat.le_trans h6 hg.size⟩
        case hIx =>
          intro c₁
          refine ⟨?_, ?_⟩
          · intro pre A C row ⟨⟨h1, h2⟩, h3⟩ hg hr
            exact ⟨⟨h1, Lib.hid ((OwnFrom.far HJx.out.1 (by omega)) _ _ _ _ h2.out hg hr)⟩, Lib.hid (h3.out.from (fun D hD => Nat.lt_trans (hDs D hD) hsX1) hg (fun r e => (hr r e).1))⟩
          · intro pre A C ⟨⟨h1, h2⟩, h3⟩ hg hh
            exact ⟨⟨h1, Lib.hid (HJx.out.2 _ _ _ h2.out hg hh.trunc)⟩, Lib.hid (h3.out.other (by omega) hg)⟩
        case h0 => exact ⟨⟨⟨⟨⟨by rw [List.append_nil]; exact HJ7, bY7⟩, hB7⟩, hH7.trunc⟩, HMk7⟩, Nat.le_refl _⟩
        case assign =>
          intro l2 x W' K hK
          gi_wp2
          exact hK
        case body =>
          rintro l2 pre x W' ⟨⟨⟨⟨⟨h1, h2⟩, h3⟩, h4⟩, h5⟩, h6⟩ hsp ⟨hxN, hHx⟩
          clear hih HJ7 bY7 hB7 hH7 HMk7
          have cY := h2.cell
          have hsp' : (mapsTill G H n p k ++ pre) ++ [x] <+: mapsFrom G H (n + 1) p := by
            rw [List.append_assoc]
            refine List.IsPrefix.trans ((List.prefix_append_right_inj _).2 hsp) ?_
            rw [← mapsTill_yes HLD.out]
            exact mapsTill_prefix G H n p (by omega)
          obtain ⟨fn, tmps, assign, body, hy, hR⟩ := HY.out 0 _ x W' h1.out hsp' ⟨hxN, hHx⟩
          have hR' := Lib.hid (RoundIn_round (l' := l2) hR)
          clear hR hsp'
          gi_wp2_with ((try refine ⟨hdd _, ?_⟩); refine hR'.out.mono ?_; clear hR'; rintro e W3 (⟨rfl, hJ3, hk3⟩ | ⟨rfl, hJx3, hkf3⟩))
          · have HK3 := Lib.hid hk3
            have HJ3 := Lib.hid hJ3
            clear hk3 hJ3
            gi_wp2
            exact ⟨KeepC.from HK3.out (fun B hB => by have := (HS.out B hB).2; omega) (by omega), KeepC.more HK3.out (by omega), ⟨⟨⟨⟨by rw [← List.append_assoc]; exact HJ3, KeepC.boxed HK3.out (fun hB => by have := (HS.out _ hB).2; omega) h2⟩, h3.keepC HK3.out HS.out hb hbs⟩, h4.keepC HK3.out HSb.out⟩, Lib.hid (h5.out.keepC HK3.out (fun B hB => by have := (HS.out B hB).2; omega))⟩, Nat.le_trans h6 HK3.out.1⟩
          · have HK3 := Lib.hid hkf3
            have HJ3 := Lib.hid hJx3
            clear hkf3 hJx3
            gi_wp2
            exact ⟨⟨HK3.out.size, fun k o hk ho hc => HK3.out.same k o (by omega) ho hc⟩, ⟨rfl, by rw [← List.append_assoc]; exact HJ3⟩, Lib.hid (h5.out.keep HK3.out.size (fun D o hD ho hc => HK3.out.same D o hD ho hc))⟩
        case done =>
          rintro D ys W' hD rfl ⟨⟨⟨⟨⟨h1, h2⟩, h3⟩, h4⟩, h5⟩, h6⟩ hK
          clear hih HJ7 bY7 hB7 hH7 HMk7
          have HJ9 : Hid (J (mapsTill G H n p (k + 1)) W') := by rw [mapsTill_yes HLD.out]; exact h1
          have HM9 : Hid (Marked T (D :: Ds) W') := Lib.hid (h5.out.cons (by omega) hK (fun x hx => by have := hDs x hx; omega))
          clear h1 h5 hK
          gi_wp2
          refine ⟨⟨k + 1, D :: Ds, _, _, _, _, _, _, _, _, _, _, _, _, _, _, _, _, _, _, _, _, _, _, _, _, _, _, _, _, _, _, _, _, _, _, by omega, by go_num, rfl, HJ9, h2, h3, h4, HM9, by omega⟩, ?_⟩
          simp [intOf]; omega
        case stop =>
          rintro D c₁ pre W' hD hpre ⟨⟨rfl, h2⟩, h5⟩ hK
          clear hih HJ7 bY7 hB7 hH7 HMk7
          have HM9 : Hid (Marked T (D :: Ds) W') := Lib.hid (h5.out.cons (by omega) hK (fun x hx => by have := hDs x hx; omega))
          have hp9 : mapsTill G H n p k ++ pre <+: mapsFrom G H (n + 1) p := by
            refine List.IsPrefix.trans ((List.prefix_append_right_inj _).2 hpre) ?_
            rw [← mapsTill_yes HLD.out]
            exact mapsTill_prefix G H n p (by omega)
          have HP9 := Lib.hid hp9
          clear h5 hK hp9
          gi_wp2
          exact leaves_marks (T := T) (fun W' => Jx (mapsTill G H n p k ++ pre) W') (fun W' D hD hk hz => HJx.out.1.putObj _ hz (by have := HT.out; omega) hk rfl) (fun W' hz => ⟨_, results_none rfl _ _ _, ⟨_, rfl⟩, .inr ⟨_, HP9.out, hz⟩⟩) (D :: Ds) W' HM9.out h2.out
    · obtain rfl : k = H.length := by omega
      gi_wp2
      refine leaves_marks (T := T) (fun W' => J (mapsFrom G H (n + 1) p) W') (fun W' D hD hk hz => HJ.out.1.putObj _ hz (by have := HT.out; omega) hk rfl) (fun W' hz => ⟨_, results_none rfl _ _ _, ⟨_, rfl⟩, .inl ⟨_, rfl, hz⟩⟩) Ds V HMk.out HJV.out

end Go.Proofs.Ytldkgkpiceamhaa

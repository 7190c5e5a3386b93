/- Texts of one chain, laid one behind the other. -/
import Derived.Test.YtimioiaoefhabaaGreatPartPackPlaces22
import Derived.Test.YtimioiaoefhabaaGreatPartPackPlaces23
namespace Go.Proofs.YtimioiaoefhabaaGreat
open Go.ChangeShapes Go.WideShapes Go.ChangeAt Go.RowKit
def memX (L : List (Int × Int)) (x y : Int) : Bool := L.any fun p => p.1 == x && p.2 == y
theorem memX_at {L : List (Int × Int)} {k : Nat} {x y : Int} (hk : k < L.length) (h1 : (nthX L k).1 = x) (h2 : (nthX L k).2 = y) : memX L x y = true := by
  unfold memX
  refine List.any_eq_true.2 ⟨L[k], List.getElem_mem hk, ?_⟩
  have e : nthX L k = L[k] := nthX_at (List.getElem?_eq_getElem hk)
  rw [← e, h1, h2]; simp
theorem memX_no {L : List (Int × Int)} {x y : Int} (h : ∀ k, k < L.length → ¬ ((nthX L k).1 = x ∧ (nthX L k).2 = y)) : memX L x y = false := by
  apply Bool.eq_false_iff.2
  intro q
  obtain ⟨r, hr, q1⟩ := List.any_eq_true.1 q
  obtain ⟨k, hk, rfl⟩ := List.getElem_of_mem hr
  have e : nthX L k = L[k] := nthX_at (List.getElem?_eq_getElem hk)
  refine h k hk ?_
  rw [e]
  simpa using q1
set_option maxRecDepth 100000 in
set_option maxHeartbeats 2000000 in
theorem index_anyX (a : Option Addr) (c : Nat) (L : List (Int × Int)) (x y : Int) (W : World) (h : AtPp W a L) (hn : L.length ≤ 1000000) :
    Calls Tryz.prog 104 #[.slice a L.length c, .agg #[.int .i64 x, .int .i64 y]] W fun e w' => (∃ r : Int, e = .returned (.int .i64 r) ∧ decide (r ≥ 0) = memX L x y) ∧ ∃ q os, w' = Go.Sort.grow (W.drewN q) os := by
  obtain ⟨PE, hPE⟩ : ∃ Q : Ending → World → Prop, (fun e w' => (∃ r : Int, e = .returned (.int .i64 r) ∧ decide (r ≥ 0) = memX L x y) ∧ ∃ q os, w' = Go.Sort.grow (W.drewN q) os) = Q := ⟨_, rfl⟩
  rw [hPE]
  have HPE := hiddenN hPE
  have B0 := hiddenN ((Below.refl W.heap.size W).alloc (Nat.le_refl _) (.cells #[.int .i64 x, .int .i64 y] 34))
  have G0 := hiddenN (blkA_new 34 W #[.int .i64 x, .int .i64 y])
  have H0 := hiddenN (h.below B0.out)
  have HW : Hid (W.alloc (.cells #[.int .i64 x, .int .i64 y] 34) = Go.Sort.grow W #[.cells #[.int .i64 x, .int .i64 y] 34]) := Go.Sort.alloc_eq_grow ..
  obtain ⟨n, hN⟩ : ∃ n, L.length = n := ⟨_, rfl⟩
  have HN := hiddenN hN
  rw [hN] at hn ⊢
  clear h hPE hN B0
  go_enter Tryz.func104, Tryz.ntmps104
  go_upto_region 1 with fail
  generalize W.alloc (.cells #[.int .i64 x, .int .i64 y] 34) = W1 at *
  go_wp2
  go_loopg [8] n (fun gk u wr => ∃ k m : Nat, k ≤ n ∧ gk = n - k ∧ u = .int .i64 (k : Int) ∧ wr = W1.drewN m ∧ ∀ q, q < k → ¬ ((nthX L q).1 = x ∧ (nthX L q).2 = y))
  case atStart => exact ⟨0, 0, Nat.zero_le _, rfl, rfl, rfl, fun q hq => absurd hq (Nat.not_lt_zero _)⟩
  case round =>
    obtain ⟨k, m, hk, rfl, rfl, rfl, hq⟩ := hrel
    have HQ := hiddenN hq
    clear hq
    by_cases hlt : k < n
    · have hki : (k : Int) < (n : Int) := by omega
      have hkR : k < L.length := by rw [HN.out]; exact hlt
      rcases H0.out with e1 | ⟨b, off, rfl, hc⟩
      · rw [e1] at hkR; exact absurd hkR (Nat.not_lt_zero _)
      obtain ⟨c0, c1⟩ := hc k hkR
      have z0 := G0.out.cell (k := 0) rfl
      have z1 := G0.out.cell (k := 1) rfl
      simp only [List.getElem_toArray, List.getElem_cons_zero, List.getElem_cons_succ] at z0 z1
      have HY := hiddenN (@memX_at L k x y hkR)
      obtain ⟨p, hp⟩ : ∃ p, (nthX L k).1 = p := ⟨_, rfl⟩
      obtain ⟨p2, hp2⟩ : ∃ p, (nthX L k).2 = p := ⟨_, rfl⟩
      rw [hp] at c0
      rw [hp2] at c1
      rw [hp, hp2] at HY
      have HP := hiddenN hp
      have HP2 := hiddenN hp2
      clear hc hkR hp hp2
      have hgd : ∀ (op : BinOp) (a b : Operand) (xs ys : Array Value) (w : World), Sem.run Tryz.prog (eqGuard op 34 a b (.agg xs) (.agg ys)) w = .ok () w := Tryz.eqgPp
      go_upto_region 4 with fail
      by_cases hpx : x = p
      · by_cases hpy : y = p2
        · have heq : ∀ w, Sem.run Tryz.prog (binOp .eql 34 (.agg #[.int .i64 x, .int .i64 y]) (.agg #[.int .i64 p, .int .i64 p2])) w = .ok (.bool true) w := fun w => by rw [Tryz.eqlPp]; simp [hpx, hpy]
          have HPX := hiddenN hpx.symm
          have HPY := hiddenN hpy.symm
          clear hpx hpy
          go_quiet (fail)
          go_wp2
          rw [← HPE.out]
          exact ⟨⟨(k : Int), rfl, by rw [HY.out HPX.out HPY.out]; exact decide_eq_true (Int.natCast_nonneg k)⟩, by rw [HW.out]; exact ⟨m + nq, _, by rw [World.drewN_drewN]; rfl⟩⟩
        · subst hpx
          have heq : ∀ w, Sem.run Tryz.prog (binOp .eql 34 (.agg #[.int .i64 x, .int .i64 y]) (.agg #[.int .i64 x, .int .i64 p2])) w = .ok (.bool false) w := fun w => by rw [Tryz.eqlPp]; simp [hpy]
          go_quiet (fail)
          go_wp2
          go_roundg (n - (k + 1))
          case measure => omega
          case rel => exact ⟨k + 1, m + nq, by omega, rfl, by go_num, by simp, fun q hq => by
            by_cases e : q = k
            · subst e; rw [HP.out, HP2.out]; exact fun t => hpy t.2.symm
            · exact HQ.out q (by omega)⟩
      · have heq : ∀ w, Sem.run Tryz.prog (binOp .eql 34 (.agg #[.int .i64 x, .int .i64 y]) (.agg #[.int .i64 p, .int .i64 p2])) w = .ok (.bool false) w := fun w => by rw [Tryz.eqlPp]; simp [hpx]
        go_quiet (fail)
        go_wp2
        go_roundg (n - (k + 1))
        case measure => omega
        case rel => exact ⟨k + 1, m + nq, by omega, rfl, by go_num, by simp, fun q hq => by
          by_cases e : q = k
          · subst e; rw [HP.out]; exact fun t => hpx t.1.symm
          · exact HQ.out q (by omega)⟩
    · have ek : n = k := by omega
      have hki : ¬ (k : Int) < (n : Int) := by omega
      have HM : Hid (memX L x y = false) := memX_no fun q hq => HQ.out q (by rw [HN.out] at hq; omega)
      clear ek
      go_wp2
      rw [← HPE.out]
      exact ⟨⟨-1, rfl, by rw [HM.out]; rfl⟩, by rw [HW.out]; exact ⟨_, _, rfl⟩⟩
set_option maxRecDepth 100000 in
set_option maxHeartbeats 1000000 in
theorem contains_anyX (a : Option Addr) (c : Nat) (L : List (Int × Int)) (x y : Int) (W : World) (h : AtPp W a L) (hn : L.length ≤ 1000000) :
    Calls Tryz.prog 80 #[.slice a L.length c, .agg #[.int .i64 x, .int .i64 y]] W fun e w' => e = .returned (.bool (memX L x y)) ∧ ∃ q os, w' = Go.Sort.grow (W.drewN q) os := by
  have B0 := hiddenN ((Below.refl W.heap.size W).alloc (Nat.le_refl _) (.cells #[.int .i64 x, .int .i64 y] 34))
  have G0 := hiddenN (blkA_new 34 W #[.int .i64 x, .int .i64 y])
  have HW : Hid (W.alloc (.cells #[.int .i64 x, .int .i64 y] 34) = Go.Sort.grow W #[.cells #[.int .i64 x, .int .i64 y] 34]) := Go.Sort.alloc_eq_grow ..
  have CI := hiddenN (index_anyX a c L x y _ (h.below B0.out) hn)
  have z0 := G0.out.cell (k := 0) rfl
  have z1 := G0.out.cell (k := 1) rfl
  simp only [List.getElem_toArray, List.getElem_cons_zero, List.getElem_cons_succ] at z0 z1
  generalize memX L x y = r at *
  generalize L.length = n at *
  clear h hn B0 G0
  go_enter Tryz.func80, Tryz.ntmps80
  go_upto_region 1 with fail
  generalize W.alloc (.cells #[.int .i64 x, .int .i64 y] 34) = W1 at *
  go_wp2_with (go_at_call 104; (with_reducible refine CI.out.mono ?_); rintro e w' ⟨⟨v, rfl, hx⟩, q, os, rfl⟩; have HXX := hiddenN hx; clear hx)
  go_ret
  refine ⟨by rw [← HXX.out]; rfl, ?_⟩
  rw [HW.out]
  exact ⟨q, _, by rw [← Go.Sort.grow_grow]; rfl⟩
set_option maxRecDepth 100000 in
set_option maxHeartbeats 1000000 in
theorem clash_anyX (v a : Value) (ap : Option Addr) (np cp : Nat) (L : List (Int × Int)) (x y : Int) (W : World) (ha : a = .slice ap np cp) (h : AtPp W ap L) (hL : L.length = np) (hn : np ≤ 1000000) :
    Calls Tryz.prog 60 #[.agg #[v, a], .int .i64 x, .int .i64 y] W fun e w' => e = .returned (.bool (memX L (min x y) (max x y))) ∧ ∃ q os, w' = Go.Sort.grow (W.drewN q) os := by
  subst ha
  subst hL
  have B0 := hiddenN ((Below.refl W.heap.size W).alloc (Nat.le_refl _) (.cells #[v, .slice ap L.length cp] 64))
  have G0 := hiddenN (blkA_new 64 W #[v, .slice ap L.length cp])
  have HW : Hid (W.alloc (.cells #[v, .slice ap L.length cp] 64) = Go.Sort.grow W #[.cells #[v, .slice ap L.length cp] 64]) := Go.Sort.alloc_eq_grow ..
  have CI : Hid (Calls Tryz.prog 80 #[.slice ap L.length cp, .agg #[.int .i64 (min x y), .int .i64 (max x y)]] (W.alloc (.cells #[v, .slice ap L.length cp] 64)) fun e w' => e = .returned (.bool (memX L (min x y) (max x y))) ∧ ∃ q os, w' = Go.Sort.grow ((W.alloc (.cells #[v, .slice ap L.length cp] 64)).drewN q) os) := contains_anyX ap cp L _ _ _ (h.below B0.out) hn
  have z1 := G0.out.cell (k := 1) rfl
  simp only [List.getElem_toArray, List.getElem_cons_zero, List.getElem_cons_succ] at z1
  generalize memX L (min x y) (max x y) = r at *
  generalize L.length = n at *
  clear h hn B0 G0
  go_enter Tryz.func60, Tryz.ntmps60
  go_upto_region 1 with fail
  generalize W.alloc (.cells #[v, .slice ap n cp] 64) = W1 at *
  go_wp2_with (go_at_call 80; (with_reducible refine CI.out.mono ?_); rintro e w' ⟨rfl, q, os, rfl⟩)
  go_ret
  refine ⟨rfl, ?_⟩
  rw [HW.out]
  exact ⟨q, _, by rw [← Go.Sort.grow_grow]; rfl⟩
/-- Two arcs stand among the pairs. -/
def prdX (PL : List (Int × Int)) (i j : Nat) : Bool := memX PL (min (i : Int) (j : Int)) (max (i : Int) (j : Int))
theorem rivX_next (near : Nat → Nat → Bool) (L : List (Int × Int)) (i k : Nat) : rivP near L i (k + 1) = if near i k = true then rivP near L i k ++ [nthX L k] else rivP near L i k := by
  have e : L.getD k (0, 0) = nthX L k := by rw [List.getD_eq_getElem?_getD]; rfl
  unfold rivP
  rw [List.range_succ, List.filter_append]
  by_cases h : near i k = true
  · rw [if_pos h, List.filter_cons_of_pos h, List.filter_nil, List.map_append, List.map_cons, List.map_nil, e]
  · rw [if_neg h, List.filter_cons_of_neg h, List.filter_nil, List.append_nil]
theorem rivX_len (near : Nat → Nat → Bool) (L : List (Int × Int)) (i k : Nat) : (rivP near L i k).length ≤ k := by
  unfold rivP
  rw [List.length_map]
  have := List.length_filter_le (near i) (List.range k)
  rw [List.length_range] at this
  exact this
set_option maxRecDepth 100000 in
set_option maxHeartbeats 4000000 in
theorem rivals_anyX (v : Value) (ap : Option Addr) (np cp : Nat) (PL : List (Int × Int)) (arc : Nat) (ar : Option Addr) (m cr : Nat) (L : List (Int × Int)) (W : World) (hP : AtPp W ap PL) (hPl : PL.length = np) (hnp : np ≤ 1000000) (hL : AtGn W ar L) (hLl : L.length = m) (hm : m ≤ 1000000) :
    Calls Tryz.prog 32 #[.agg #[v, .slice ap np cp], .int .i64 (arc : Int), .slice ar m cr] W fun e w' => ∃ d c, e = .returned (.slice d (rivP (prdX PL) L arc m).length c) ∧ CapGn W.heap.size w' d c (rivP (prdX PL) L arc m) ∧ Below W.heap.size W w' := by
  obtain ⟨PE, hPE⟩ : ∃ Q : Ending → World → Prop, (fun e w' => ∃ d c, e = .returned (.slice d (rivP (prdX PL) L arc m).length c) ∧ CapGn W.heap.size w' d c (rivP (prdX PL) L arc m) ∧ Below W.heap.size W w') = Q := ⟨_, rfl⟩
  rw [hPE]
  have HPE := hiddenN hPE
  have b0 := (Below.refl W.heap.size W).alloc (Nat.le_refl _) (.cells #[v, .slice ap np cp] 64)
  have B0 := hiddenN b0
  have G0 := hiddenN (blkA_new 64 W #[v, .slice ap np cp])
  have HP := hiddenN (hP.below b0)
  have HL := hiddenN (hL.below b0)
  have HPl := hiddenN hPl
  have HLl := hiddenN hLl
  clear hPE b0 hP hL hPl hLl
  go_enter Tryz.func32, Tryz.ntmps32
  go_upto_region 1 with fail
  generalize W.alloc (.cells #[v, .slice ap np cp] 64) = W1 at *
  obtain ⟨Q, hQ⟩ : ∃ q, W1.heap.size = q := ⟨_, rfl⟩
  have HQ := hiddenN hQ
  have HWQ : Hid (W.heap.size ≤ Q) := by show _ ≤ _; rw [← hQ]; exact B0.out.size
  clear hQ
  go_wp2
  go_loopg [7, 12] m (fun gk u7 u12 wr => ∃ (k : Nat) (d : Option Addr) (c : Nat), k ≤ m ∧ gk = m - k ∧ u12 = .int .i64 (k : Int) ∧ u7 = .slice d (rivP (prdX PL) L arc k).length c ∧ CapGn Q wr d c (rivP (prdX PL) L arc k) ∧ Below Q W1 wr)
  case atStart => exact ⟨0, none, 0, Nat.zero_le _, rfl, rfl, rfl, CapGn.nil _ _, Below.refl _ _⟩
  case round =>
    obtain ⟨k, d, c, hk, rfl, rfl, rfl, hC, hB⟩ := hrel
    have HC := hiddenN hC
    have HB := hiddenN hB
    have hQw : Q ≤ wr.heap.size := by have := hB.size; have := HQ.out; omega
    have hl6 := Nat.le_trans (rivX_len (prdX PL) L arc k) (Nat.le_trans hk hm)
    clear hC hB
    by_cases hlt : k < m
    · have hki : (k : Int) < (m : Int) := by omega
      have hkL : k < L.length := by rw [HLl.out]; exact hlt
      rcases HL.out with e1 | ⟨b, off, rfl, hc⟩
      · rw [e1] at hkL; exact absurd hkL (Nat.not_lt_zero _)
      have HB1 : Hid (Below W1.heap.size W1 wr) := by show Below _ _ _; rw [HQ.out]; exact HB.out
      have c0 := cellN_later HB1.out (hc k hkL).1
      have c1 := cellN_later HB1.out (hc k hkL).2
      have NX := hiddenN (rivX_next (prdX PL) L arc k)
      obtain ⟨x, hx⟩ : ∃ x, nthX L k = x := ⟨_, rfl⟩
      rw [hx] at c0 c1 NX
      obtain ⟨x1, x2⟩ := x
      simp only at c0 c1
      obtain ⟨F, hF⟩ : ∃ F, rivP (prdX PL) L arc k = F := ⟨_, rfl⟩
      rw [hF] at HC NX hl6 ⊢
      have hGx := hiddenN (blkA_new 47 wr #[.int .i64 x1, .int .i64 x2])
      have bx := (Below.refl Q wr).alloc hQw (.cells #[.int .i64 x1, .int .i64 x2] 47)
      have HBx := hiddenN (HB1.out.trans (bx.mono (by rw [HQ.out]; exact Nat.le_refl _)))
      have HCx := hiddenN (HC.out.later ((Below.refl wr.heap.size wr).alloc (Nat.le_refl _) (.cells #[.int .i64 x1, .int .i64 x2] 47)))
      clear hc hkL hx hF bx
      go_upto_region 5 with fail
      generalize wr.alloc (.cells #[.int .i64 x1, .int .i64 x2] 47) = W2 at *
      have z0 := (G0.out.below HBx.out).cell (k := 0) rfl
      have z1 := (G0.out.below HBx.out).cell (k := 1) rfl
      simp only [List.getElem_toArray, List.getElem_cons_zero, List.getElem_cons_succ] at z0 z1
      have CL := hiddenN (clash_anyX v _ ap np cp PL (arc : Int) (k : Int) W2 rfl (HP.out.below HBx.out) HPl.out hnp)
      obtain ⟨r, hr⟩ : ∃ r, prdX PL arc k = r := ⟨_, rfl⟩
      have hr' : memX PL (min (arc : Int) (k : Int)) (max (arc : Int) (k : Int)) = r := hr
      rw [hr'] at CL
      rw [hr] at NX
      clear hr hr' c0 c1
      cases r with
      | true =>
        have NT : Hid (rivP (prdX PL) L arc (k + 1) = F ++ [(x1, x2)]) := NX.out.trans (if_pos rfl)
        clear NX
        go_upto_region 6 with (go_at_call 60; (with_reducible refine CL.out.mono ?_); rintro e W3 ⟨rfl, hg⟩; have HG := hiddenN hg; clear hg)
        have hB3 : Hid (Below W2.heap.size W2 W3) := grn_below HG.out (Nat.le_refl _)
        have y0 := (hGx.out.below hB3.out).cell (k := 0) rfl
        have y1 := (hGx.out.below hB3.out).cell (k := 1) rfl
        simp only [List.getElem_toArray, List.getElem_cons_zero, List.getElem_cons_succ] at y0 y1
        have HB3 := hiddenN (HBx.out.trans (hB3.out.mono HBx.out.size))
        have HC3 := hiddenN (HCx.out.later hB3.out)
        have hGy := hiddenN (blkA_new 47 W3 #[.int .i64 x1, .int .i64 x2])
        have v0 := hGy.out.cell (k := 0) rfl
        have v1 := hGy.out.cell (k := 1) rfl
        simp only [List.getElem_toArray, List.getElem_cons_zero, List.getElem_cons_succ] at v0 v1
        have hq3 : Q ≤ W3.heap.size := by have := HB3.out.size; have := HQ.out; omega
        have HC4 := hiddenN (HC3.out.later ((Below.refl _ _).alloc (Nat.le_refl _) (.cells #[.int .i64 x1, .int .i64 x2] 47)))
        have HB4 : Hid (Below Q W1 (W3.alloc (.cells #[.int .i64 x1, .int .i64 x2] 47))) := by
          have q : Below Q W1 W3 := by rw [← HQ.out]; exact HB3.out
          exact q.alloc hq3 _
        have hB4 : Q ≤ (W3.alloc (.cells #[.int .i64 x1, .int .i64 x2] 47)).heap.size := by rw [World.size_alloc]; omega
        have hd0 := fun y hy => (HC4.out.lt y hy).1
        obtain ⟨nF, hNF⟩ : ∃ nF, F.length = nF := ⟨_, rfl⟩
        have HNF := hiddenN hNF
        rw [hNF] at hl6 ⊢
        have hm9 : nF ≤ 10000000 := by omega
        clear hNF z0 z1 hl6
        go_upto_region 7 with (at_builtin; refine wpList_appGn1 rfl _ _ rfl Q d c F nF HNF.out rfl HC4.out W3.heap.size (x1, x2) rfl v0 v1 hm9 hB4 ?_; intro d2 c2 W5 hg2; have HC5 := hiddenN hg2.own; have HB5 := hiddenN (HB4.out.trans (hg2.below hB4 hd0)); clear hg2)
        clear v0 v1 y0 y1
        go_wp2
        go_roundg (m - (k + 1))
        case measure => omega
        case rel => exact ⟨k + 1, d2, c2, by omega, rfl, by go_num, by rw [NT.out, List.length_append, HNF.out]; rfl, by rw [NT.out]; exact HC5.out, HB5.out⟩
      | false =>
        have NT : Hid (rivP (prdX PL) L arc (k + 1) = F) := NX.out.trans (if_neg (by decide))
        clear NX
        go_wp2_with (go_at_call 60; (with_reducible refine CL.out.mono ?_); rintro e W3 ⟨rfl, hg⟩; have HG := hiddenN hg; clear hg)
        have hB3 : Hid (Below W2.heap.size W2 W3) := grn_below HG.out (Nat.le_refl _)
        have HB3 : Hid (Below Q W1 W3) := by show Below _ _ _; rw [← HQ.out]; exact HBx.out.trans (hB3.out.mono HBx.out.size)
        have HC3 := hiddenN (HCx.out.later hB3.out)
        go_roundg (m - (k + 1))
        case measure => omega
        case rel => exact ⟨k + 1, d, c, by omega, rfl, by go_num, by rw [NT.out], by rw [NT.out]; exact HC3.out, HB3.out⟩
    · have hki : ¬ (k : Int) < (m : Int) := by omega
      have ek : Hid (m = k) := by show _ = _; omega
      obtain ⟨nF, hNF⟩ : ∃ nF, (rivP (prdX PL) L arc k).length = nF := ⟨_, rfl⟩
      have HNF := hiddenN hNF
      rw [hNF] at hl6 ⊢
      clear hNF
      go_wp2
      rw [← HPE.out]
      refine ⟨d, c, ?_, ?_, ?_⟩
      · rw [ek.out, HNF.out]
      · rw [ek.out]; exact HC.out.mono HWQ.out
      · exact B0.out.trans (HB.out.mono HWQ.out)
end Go.Proofs.YtimioiaoefhabaaGreat

/- Texts of one chain, laid one behind the other. -/
import Derived.Test.YtmeogapffdgjlaaPartNestRanges16
import Derived.Test.YtmeogapffdgjlaaPartNestRanges12
namespace Go.Proofs.Ytmeogapffdgjlaa
open Go.ChangeShapes Go.WideShapes Go.ChangeAt Go.RowKit
theorem capY_cell1 {B : Nat} {w : World} {g c : Nat} {L : List (Int × Int)} (h : CapY B w (some ⟨g, 0, none⟩) c L) {k : Nat} (hk : k < L.length) : w.cell? ⟨g, k * 2 + 1, none⟩ = some (.int .i64 (nthY L k).2) := by
  rw [World.ownsRow.cellAt h (k * 2 + 1) (by omega), flatY_get hk (by decide)]
  rfl
theorem capY_cell0 {B : Nat} {w : World} {g c : Nat} {L : List (Int × Int)} (h : CapY B w (some ⟨g, 0, none⟩) c L) {k : Nat} (hk : k < L.length) : w.cell? ⟨g, k * 2, none⟩ = some (.int .i64 (nthY L k).1) := by
  have := flatY_get hk (j := 0) (by decide)
  rw [Nat.add_zero] at this
  rw [World.ownsRow.cellAt h (k * 2) (by omega), this]
  rfl
theorem flatY_bump : ∀ (R : List (Int × Int)) (z c d : Int), (flatY (R ++ [(z, c)])).set (R.length * 2 + 1) (.int .i64 d) = flatY (R ++ [(z, d)])
  | [], z, c, d => rfl
  | x :: R, z, c, d => by
    show (rnV x ++ flatY (R ++ [(z, c)])).set _ _ = rnV x ++ flatY (R ++ [(z, d)])
    rw [← flatY_bump R z c d, List.length_cons, List.set_append_right _ _ (by show 2 ≤ _; omega)]
    rw [show (R.length + 1) * 2 + 1 - (rnV x).length = R.length * 2 + 1 by show (R.length + 1) * 2 + 1 - 2 = _; omega]
theorem capY_bump {B : Nat} {w : World} {g cap : Nat} {R : List (Int × Int)} {z c : Int} (h : CapY B w (some ⟨g, 0, none⟩) cap (R ++ [(z, c)])) (d : Int) : CapY B (w.setCell ⟨g, R.length * 2 + 1, none⟩ (.int .i64 d)) (some ⟨g, 0, none⟩) cap (R ++ [(z, d)]) := by
  have h1 := (World.ownsRow.stored h (R.length * 2 + 1) (.int .i64 d)).1
  rw [flatY_bump] at h1
  unfold CapY
  simpa using h1
theorem capY_some {B : Nat} {w : World} {a : Option Addr} {c : Nat} {L : List (Int × Int)} (h : CapY B w a c L) (h0 : L ≠ []) : ∃ g, a = some ⟨g, 0, none⟩ := by
  rcases h.2 with ⟨hv, hn⟩ | ⟨g, cap, cur, hv, hg, hh, hc, hm, hs, ht⟩
  · exact absurd (List.eq_nil_of_length_eq_zero hn) h0
  · cases hv; exact ⟨g, rfl⟩
theorem take_snocZ {l : List Int} {k : Nat} (h : k < l.length) : l.take (k + 1) = l.take k ++ [nth l k] := by
  rw [List.take_add_one, List.getElem?_eq_getElem h]
  unfold nth
  rw [List.getD_eq_getElem?_getD, List.getElem?_eq_getElem h]
  rfl
theorem nth_takeZ {l : List Int} {k : Nat} (h : k < l.length) (h0 : 0 < k) : nth (l.take k) ((l.take k).length - 1) = nth l (k - 1) := by
  rw [List.length_take, Nat.min_eq_left (Nat.le_of_lt h)]
  unfold nth
  rw [List.getD_eq_getElem?_getD, List.getD_eq_getElem?_getD, List.getElem?_take_of_lt (by omega)]
def RunE (zs : List Int) (w : World) (e : Ending) (w' : World) : Prop := ∃ d c, e = .returned (.slice d (runsY zs).length c) ∧ CapY w.heap.size w' d c (runsY zs) ∧ Below w.heap.size w w'
set_option maxRecDepth 100000 in
set_option maxHeartbeats 8000000 in
theorem runsZ_any (a : Option Addr) (zs : List Int) (cap : Nat) (w : World) (h : At w a zs) (hm : zs.length ≤ 10000000) :
    Calls Try.prog 30 #[.slice a zs.length cap] w (RunE zs w) := by
  obtain ⟨RE, hRE⟩ : ∃ Q, RunE zs w = Q := ⟨_, rfl⟩
  rw [hRE]
  have HRE := hiddenN hRE
  obtain ⟨L, hL⟩ : ∃ L, zs.length = L := ⟨_, rfl⟩
  have HL := hiddenN hL
  have A0 := hiddenN h
  rw [hL] at hm ⊢
  have hLI : (L : Int) ≤ 10000000 := by omega
  clear hRE hL h
  go_enter Try.func30, Try.ntmps30
  go_upto_region 3 with fail
  go_loopg [3, 8] L (fun gk rv iv wr => ∃ (k : Nat) (d : Option Addr) (c n : Nat) (R : List (Int × Int)), k ≤ L ∧ gk = L - k ∧ iv = .int .i64 (k : Int) ∧ rv = .slice d n c ∧ R.length = n ∧ CapY w.heap.size wr d c R ∧ Below w.heap.size w wr ∧ R = runsY (zs.take k))
  case atStart => exact ⟨0, none, 0, 0, [], Nat.zero_le _, rfl, rfl, rfl, rfl, CapY.nil _ _, Below.refl _ _, rfl⟩
  case round =>
    obtain ⟨k, d, c, n, R, hk, rfl, rfl, rfl, hn, hC, hb, hR⟩ := hrel
    have HC0 := hiddenN hC
    have HB0 := hiddenN hb
    have HR := hiddenN hR
    have HN := hiddenN hn
    clear hC hb hR hn
    by_cases hlt : k < L
    · have hkz : k < zs.length := by rw [HL.out]; exact hlt
      have hki : (k : Int) < (L : Int) := by omega
      rcases (A0.out.below HB0.out) with e | ⟨ab, ao, rfl, hcl⟩
      · rw [e] at hkz; exact absurd hkz (Nat.not_lt_zero _)
      have c0 := hcl k hkz
      have HX := hiddenN (runs_is (zs.take k))
      rw [← HR.out] at HX
      have HRN : Hid (runsY (zs.take (k + 1)) = stepY R (nth zs k)) := by show _ = _; rw [take_snocZ hkz, runs_snoc, ← HR.out]
      have hnk : n ≤ k := by
        have := HX.out.few
        rw [HN.out, List.length_take] at this
        omega
      have hnI : (n : Int) ≤ 10000000 := by omega
      by_cases hk0 : k = 0
      · subst hk0
        have hRn : R = [] := by rw [HR.out]; rfl
        subst hRn
        clear hcl HX
        rw [Nat.add_zero] at c0
        generalize hz : nth zs 0 = z at *
        obtain ⟨m, hmE⟩ : ∃ m, n = m := ⟨_, rfl⟩
        subst hmE
        have HM := HN
        have HC1 := hiddenN (HC0.out.later ((Below.refl _ _).alloc (Nat.le_refl _) (.cells #[.int .i64 z, .int .i64 0] 65)))
        have XB := hiddenN (blkA_new 65 wr #[.int .i64 z, .int .i64 0])
        have u0 := XB.out.cell (k := 0) rfl
        have u1 := XB.out.cell (k := 1) rfl
        simp only [List.getElem_toArray, List.getElem_cons_zero, List.getElem_cons_succ] at u0 u1
        have hB1 : w.heap.size ≤ (wr.alloc (.cells #[.int .i64 z, .int .i64 0] 65)).heap.size := by rw [World.size_alloc]; have := HB0.out.size; omega
        have hd0 := fun y hy => (HC1.out.lt y hy).1
        have hm9 : n ≤ 10000000 := by omega
        go_upto_region 7 with (at_builtin; refine wpList_appY1 rfl _ _ rfl w.heap.size d c (([] : List (Int × Int))) n HM.out rfl HC1.out wr.heap.size (z, 0) rfl u0 u1 hm9 hB1 ?_; intro d2 c2 W2 hg2; have HC := hiddenN hg2.own; have B2 := hiddenN ((HB0.out.alloc HB0.out.size _).trans (hg2.below hB1 hd0)); clear hg2)
        obtain ⟨g, rfl⟩ := capY_some HC.out (by simp)
        have zz := capY_cell1 HC.out (k := (([] : List (Int × Int))).length) (by simp)
        rw [nthY_last, HM.out] at zz
        have fz := World.ownsRow.frozenAt HC.out (n * 2 + 1)
        have HC3 := hiddenN (capY_bump HC.out 1)
        rw [HM.out] at HC3
        have B3 : Hid (Below w.heap.size w (W2.setCell ⟨g, n * 2 + 1, none⟩ (.int .i64 1))) := B2.out.setCell (p := ⟨g, n * 2 + 1, none⟩) (HC.out.lt _ rfl).1 _
        have hmI : (n : Int) ≤ 10000000 := by omega
        go_wp2
        go_roundg (L - (0 + 1))
        case measure => omega
        case rel => exact ⟨0 + 1, _, _, n + 1, _, by omega, rfl, by go_num, rfl, by rw [List.length_append, HM.out]; rfl, HC3.out, B3.out, HRN.out.symm⟩
      · obtain ⟨R', cc, hRe, hc1, hc2⟩ := HX.out.last (by intro e; have := congrArg List.length e; rw [List.length_take, List.length_nil] at this; omega)
        rw [nth_takeZ hkz (by omega)] at hRe
        rw [List.length_take, Nat.min_eq_left (Nat.le_of_lt hkz)] at hc2
        have c1 := hcl (k - 1) (by omega)
        obtain ⟨j, rfl⟩ : ∃ j, k = j + 1 := ⟨k - 1, by omega⟩
        rw [Nat.add_sub_cancel] at c1 hRe
        subst hRe
        have hcI : cc ≤ 10000000 := by omega
        have hkb : ((((j + 1 : Nat) : Int)) == 0) = false := by simp; omega
        have hjl : j < L := by omega
        have hji : (j : Int) < (L : Int) := by omega
        clear hcl HX
        by_cases hsame : nth zs (j + 1) = nth zs j
        · rw [hsame, step_same] at HRN
          have hzz : (nth zs (j + 1) != nth zs j) = false := by simpa using hsame
          clear hsame
          generalize nth zs j = z at *
          generalize nth zs (j + 1) = z9 at *
          go_upto_region 7 with fail
          clear hzz c0 c1
          obtain ⟨m, hmE⟩ : ∃ m, R'.length = m := ⟨_, rfl⟩
          have HM := hiddenN hmE
          have hnn : n = m + 1 := by rw [← HN.out, ← hmE]; simp
          subst hnn
          have HC := HC0
          have B2 := HB0
          obtain ⟨W2, hW2⟩ : ∃ q : World, q = wr := ⟨_, rfl⟩
          subst hW2
          clear hmE HC0 HB0
          obtain ⟨g, rfl⟩ := capY_some HC.out (by simp)
          have zz := capY_cell1 HC.out (k := R'.length) (by simp)
          rw [nthY_last, HM.out] at zz
          have fz := World.ownsRow.frozenAt HC.out (m * 2 + 1)
          have HC3 := hiddenN (capY_bump HC.out (cc + 1))
          rw [HM.out] at HC3
          have B3 : Hid (Below w.heap.size w (W2.setCell ⟨g, m * 2 + 1, none⟩ (.int .i64 (cc + 1)))) := B2.out.setCell (p := ⟨g, m * 2 + 1, none⟩) (HC.out.lt _ rfl).1 _
          have hmI : (m : Int) ≤ 10000000 := by omega
          go_wp2
          go_roundg (L - ((j + 1) + 1))
          case measure => omega
          case rel => exact ⟨(j + 1) + 1, _, _, m + 1, _, by omega, rfl, by go_num, rfl, by rw [List.length_append, HM.out]; rfl, HC3.out, B3.out, HRN.out.symm⟩
        · have HRN2 := hiddenN HRN.out
          rw [step_other (fun e => hsame e.symm)] at HRN2
          have hne : (nth zs (j + 1) != nth zs j) = true := by simpa using hsame
          clear hsame HRN
          generalize nth zs j = y at *
          generalize nth zs (j + 1) = z at *
          obtain ⟨m, hmE⟩ : ∃ m, n = m := ⟨_, rfl⟩
          subst hmE
          have HM := HN
          have HC1 := hiddenN (HC0.out.later ((Below.refl _ _).alloc (Nat.le_refl _) (.cells #[.int .i64 z, .int .i64 0] 65)))
          have XB := hiddenN (blkA_new 65 wr #[.int .i64 z, .int .i64 0])
          have u0 := XB.out.cell (k := 0) rfl
          have u1 := XB.out.cell (k := 1) rfl
          simp only [List.getElem_toArray, List.getElem_cons_zero, List.getElem_cons_succ] at u0 u1
          have hB1 : w.heap.size ≤ (wr.alloc (.cells #[.int .i64 z, .int .i64 0] 65)).heap.size := by rw [World.size_alloc]; have := HB0.out.size; omega
          have hd0 := fun y hy => (HC1.out.lt y hy).1
          have hm9 : n ≤ 10000000 := by omega
          go_upto_region 7 with (at_builtin; refine wpList_appY1 rfl _ _ rfl w.heap.size d c ((R' ++ [(y, cc)])) n HM.out rfl HC1.out wr.heap.size (z, 0) rfl u0 u1 hm9 hB1 ?_; intro d2 c2 W2 hg2; have HC := hiddenN hg2.own; have B2 := hiddenN ((HB0.out.alloc HB0.out.size _).trans (hg2.below hB1 hd0)); clear hg2)
          obtain ⟨g, rfl⟩ := capY_some HC.out (by simp)
          have zz := capY_cell1 HC.out (k := ((R' ++ [(y, cc)])).length) (by simp)
          rw [nthY_last, HM.out] at zz
          have fz := World.ownsRow.frozenAt HC.out (n * 2 + 1)
          have HC3 := hiddenN (capY_bump HC.out 1)
          rw [HM.out] at HC3
          have B3 : Hid (Below w.heap.size w (W2.setCell ⟨g, n * 2 + 1, none⟩ (.int .i64 1))) := B2.out.setCell (p := ⟨g, n * 2 + 1, none⟩) (HC.out.lt _ rfl).1 _
          have hmI : (n : Int) ≤ 10000000 := by omega
          go_wp2
          go_roundg (L - ((j + 1) + 1))
          case measure => omega
          case rel => exact ⟨(j + 1) + 1, _, _, n + 1, _, by omega, rfl, by go_num, rfl, by rw [List.length_append, HM.out]; rfl, HC3.out, B3.out, HRN2.out.symm⟩
    · have ek : L = k := by omega
      subst ek
      have hT : zs.take L = zs := List.take_of_length_le (by rw [HL.out]; exact Nat.le_refl _)
      rw [hT] at HR
      have hki : ¬ ((L : Int) < (L : Int)) := by omega
      go_wp2
      rw [← HRE.out]
      exact ⟨d, c, by rw [← HR.out, HN.out], by rw [← HR.out]; exact HC0.out, HB0.out⟩
end Go.Proofs.Ytmeogapffdgjlaa

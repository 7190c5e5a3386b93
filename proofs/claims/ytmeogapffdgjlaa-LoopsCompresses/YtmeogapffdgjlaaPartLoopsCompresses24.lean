/- Texts of one chain, laid one behind the other. -/
import Derived.Test.YtmeogapffdgjlaaPartLoopsCompresses16
import Derived.Test.YtmeogapffdgjlaaPartLoopsCompresses12
import Derived.Test.YtmeogapffdgjlaaPartLoopsCompresses18
import Derived.Test.YtmeogapffdgjlaaPartLoopsCompresses8
import Derived.Test.YtmeogapffdgjlaaPartLoopsCompresses23
import Derived.Laws.AppendOwnNone
import Derived.Test.YtmeogapffdgjlaaPartLoopsCompresses21
namespace Go.Proofs.Ytmeogapffdgjlaa
open Go.ChangeShapes Go.WideShapes Go.ChangeAt Go.RowKit Go.Shelf
set_option maxRecDepth 100000 in
set_option maxHeartbeats 8000000 in
theorem rrunsY_any (a : Option Addr) (zs : List Int) (cap : Nat) (w : World) (h : At w a zs) (hm : zs.length ≤ 10000000) :
    Calls Try.prog 50 #[.slice a zs.length cap] w (RunE zs w) := by
  obtain ⟨RE, hRE⟩ : ∃ Q, RunE zs w = Q := ⟨_, rfl⟩
  rw [hRE]
  have HRE := hiddenN hRE
  obtain ⟨L, hL⟩ : ∃ L, zs.length = L := ⟨_, rfl⟩
  have HL := hiddenN hL
  have A0 := hiddenN h
  rw [hL] at hm ⊢
  have hLI : (L : Int) ≤ 10000000 := by omega
  clear hRE hL h
  go_enter Try.func50, Try.ntmps50
  go_upto_region 3 with fail
  go_loopg [3, 4] L (fun gk rv iv wr => ∃ (k : Nat) (d : Option Addr) (c n : Nat) (R : List (Int × Int)), k ≤ L ∧ gk = L - k ∧ iv = .int .i64 (k : Int) ∧ rv = .slice d n c ∧ R.length = n ∧ CapY w.heap.size wr d c R ∧ Below w.heap.size w wr ∧ R = runsY (zs.take k))
  case atStart => exact ⟨0, none, 0, 0, [], Nat.zero_le _, rfl, rfl, rfl, rfl, CapY.nil _ _, Below.refl _ _, rfl⟩
  case round =>
    obtain ⟨k, d, c, n, R, hk, rfl, rfl, rfl, hn, hC, hb, hR⟩ := hrel
    have HC0 := hiddenN hC
    have HB0 := hiddenN hb
    have HR := hiddenN hR
    have HN := hiddenN hn
    clear hC hb hR hn
    by_cases hlt : k < L
    · have hkz : k < zs.length := by rw [HL.out]; exact hlt
      have hki : (k : Int) < (L : Int) := by omega
      rcases (A0.out.below HB0.out) with e | ⟨ab, ao, rfl, hcl⟩
      · rw [e] at hkz; exact absurd hkz (Nat.not_lt_zero _)
      have c0 := hcl k hkz
      have HX := hiddenN (runs_is (zs.take k))
      rw [← HR.out] at HX
      have HRN : Hid (runsY (zs.take (k + 1)) = stepY R (nth zs k)) := by show _ = _; rw [take_snocZ hkz, runs_snoc, ← HR.out]
      have hnk : n ≤ k := by
        have := HX.out.few
        rw [HN.out, List.length_take] at this
        omega
      have hnI : (n : Int) ≤ 10000000 := by omega
      by_cases hk0 : k = 0
      · subst hk0
        have hRn : R = [] := by rw [HR.out]; rfl
        subst hRn
        clear hcl HX
        rw [Nat.add_zero] at c0
        generalize hz : nth zs 0 = z at *
        go_upto_region 5 with fail
        go_quiet (fail)
        have HB1 := hiddenN (drewB HB0.out nq)
        have HC9 := hiddenN (HC0.out.later (drewB (Below.refl _ _) nq))
        have c09 := (drewB (Below.refl wr.heap.size wr) nq).cell (block_lt_of_cell c0)
        rw [c0] at c09
        clear HB0 HC0 c0
        have HB0 := HB1
        have HC0 := HC9
        have c0 := c09
        clear HB1 HC9 c09
        generalize wr.drewN nq = W1 at *
        have HC1 := hiddenN (HC0.out.later ((Below.refl _ _).alloc (Nat.le_refl _) (.cells #[.int .i64 z, .int .i64 1] 65)))
        have XB := hiddenN (blkA_new 65 W1 #[.int .i64 z, .int .i64 1])
        have u0 := XB.out.cell (k := 0) rfl
        have u1 := XB.out.cell (k := 1) rfl
        simp only [List.getElem_toArray, List.getElem_cons_zero, List.getElem_cons_succ] at u0 u1
        have hB1 : w.heap.size ≤ (W1.alloc (.cells #[.int .i64 z, .int .i64 1] 65)).heap.size := by rw [World.size_alloc]; have := HB0.out.size; omega
        have hd0 := fun y hy => (HC1.out.lt y hy).1
        have hm9 : n ≤ 10000000 := by omega
        go_wp2_with (at_builtin; refine wpList_appY1 rfl _ _ rfl w.heap.size d c (([] : List (Int × Int))) n HN.out rfl HC1.out W1.heap.size (z, 1) rfl u0 u1 hm9 hB1 ?_; intro d2 c2 W2 hg2; have HC := hiddenN hg2.own; have B2 := hiddenN ((HB0.out.alloc HB0.out.size _).trans (hg2.below hB1 hd0)); clear hg2)
        go_roundg (L - (0 + 1))
        case measure => omega
        case rel => exact ⟨0 + 1, _, _, n + 1, _, by omega, rfl, by go_num, rfl, by rw [List.length_append, HN.out]; rfl, HC.out, B2.out, HRN.out.symm⟩
      · obtain ⟨R', cc, hRe, hc1, hc2⟩ := HX.out.last (by intro e; have := congrArg List.length e; rw [List.length_take, List.length_nil] at this; omega)
        rw [nth_takeZ hkz (by omega)] at hRe
        rw [List.length_take, Nat.min_eq_left (Nat.le_of_lt hkz)] at hc2
        have c1 := hcl (k - 1) (by omega)
        obtain ⟨j, rfl⟩ : ∃ j, k = j + 1 := ⟨k - 1, by omega⟩
        rw [Nat.add_sub_cancel] at c1 hRe
        subst hRe
        have hcI : cc ≤ 10000000 := by omega
        have hjl : j < L := by omega
        have hji : (j : Int) < (L : Int) := by omega
        have hjp : (j : Int) + 1 > 0 := by omega
        clear hcl HX
        by_cases hsame : nth zs (j + 1) = nth zs j
        · rw [hsame, step_same] at HRN
          have hzz : (nth zs (j + 1) == nth zs j) = true := by simpa using hsame
          clear hsame
          generalize nth zs j = z at *
          generalize nth zs (j + 1) = z9 at *
          go_upto_region 5 with fail
          go_quiet (fail)
          have HB1 := hiddenN (drewB HB0.out nq)
          have HC9 := hiddenN (HC0.out.later (drewB (Below.refl _ _) nq))
          have c09 := (drewB (Below.refl wr.heap.size wr) nq).cell (block_lt_of_cell c0)
          rw [c0] at c09
          clear HB0 HC0 c0
          have HB0 := HB1
          have HC0 := HC9
          have c0 := c09
          clear HB1 HC9 c09
          generalize wr.drewN nq = W1 at *
          clear hzz c0 c1
          obtain ⟨m, hmE⟩ : ∃ m, R'.length = m := ⟨_, rfl⟩
          have HM := hiddenN hmE
          have hnn : n = m + 1 := by rw [← HN.out, ← hmE]; simp
          subst hnn
          clear hmE
          obtain ⟨g, rfl⟩ := capY_some HC0.out (by simp)
          have zz := capY_cell1 HC0.out (k := R'.length) (by simp)
          rw [nthY_last, HM.out] at zz
          have fz := World.ownsRow.frozenAt HC0.out (m * 2 + 1)
          have HC3 := hiddenN (capY_bump HC0.out (cc + 1))
          rw [HM.out] at HC3
          have B3 : Hid (Below w.heap.size w (W1.setCell ⟨g, m * 2 + 1, none⟩ (.int .i64 (cc + 1)))) := HB0.out.setCell (p := ⟨g, m * 2 + 1, none⟩) (HC0.out.lt _ rfl).1 _
          have hmI : (m : Int) ≤ 10000000 := by omega
          go_wp2
          go_roundg (L - ((j + 1) + 1))
          case measure => omega
          case rel => exact ⟨(j + 1) + 1, _, _, m + 1, _, by omega, rfl, by go_num, rfl, by rw [List.length_append, HM.out]; rfl, HC3.out, B3.out, HRN.out.symm⟩
        · have HRN2 := hiddenN HRN.out
          rw [step_other (fun e => hsame e.symm)] at HRN2
          have hne : (nth zs (j + 1) == nth zs j) = false := by simpa using hsame
          clear hsame HRN
          generalize nth zs j = y at *
          generalize nth zs (j + 1) = z at *
          go_upto_region 5 with fail
          go_quiet (fail)
          have HB1 := hiddenN (drewB HB0.out nq)
          have HC9 := hiddenN (HC0.out.later (drewB (Below.refl _ _) nq))
          have c09 := (drewB (Below.refl wr.heap.size wr) nq).cell (block_lt_of_cell c0)
          rw [c0] at c09
          clear HB0 HC0 c0
          have HB0 := HB1
          have HC0 := HC9
          have c0 := c09
          clear HB1 HC9 c09
          generalize wr.drewN nq = W1 at *
          have HC1 := hiddenN (HC0.out.later ((Below.refl _ _).alloc (Nat.le_refl _) (.cells #[.int .i64 z, .int .i64 1] 65)))
          have XB := hiddenN (blkA_new 65 W1 #[.int .i64 z, .int .i64 1])
          have u0 := XB.out.cell (k := 0) rfl
          have u1 := XB.out.cell (k := 1) rfl
          simp only [List.getElem_toArray, List.getElem_cons_zero, List.getElem_cons_succ] at u0 u1
          have hB1 : w.heap.size ≤ (W1.alloc (.cells #[.int .i64 z, .int .i64 1] 65)).heap.size := by rw [World.size_alloc]; have := HB0.out.size; omega
          have hd0 := fun y hy => (HC1.out.lt y hy).1
          have hm9 : n ≤ 10000000 := by omega
          go_wp2_with (at_builtin; refine wpList_appY1 rfl _ _ rfl w.heap.size d c (R' ++ [(y, cc)]) n HN.out rfl HC1.out W1.heap.size (z, 1) rfl u0 u1 hm9 hB1 ?_; intro d2 c2 W2 hg2; have HC := hiddenN hg2.own; have B2 := hiddenN ((HB0.out.alloc HB0.out.size _).trans (hg2.below hB1 hd0)); clear hg2)
          go_roundg (L - ((j + 1) + 1))
          case measure => omega
          case rel => exact ⟨(j + 1) + 1, _, _, n + 1, _, by omega, rfl, by go_num, rfl, by rw [List.length_append, HN.out]; rfl, HC.out, B2.out, HRN2.out.symm⟩
    · have ek : L = k := by omega
      subst ek
      have hT : zs.take L = zs := List.take_of_length_le (by rw [HL.out]; exact Nat.le_refl _)
      rw [hT] at HR
      have hki : ¬ ((L : Int) < (L : Int)) := by omega
      go_wp2
      rw [← HRE.out]
      exact ⟨d, c, by rw [← HR.out, HN.out], by rw [← HR.out]; exact HC0.out, HB0.out⟩
theorem flatY_put : ∀ (R : List (Int × Int)) (p q : Int × Int) (S : List (Int × Int)), ((flatY (R ++ p :: S)).set (R.length * 2) (.int .i64 q.1)).set (R.length * 2 + 1) (.int .i64 q.2) = flatY (R ++ q :: S)
  | [], p, q, S => rfl
  | x :: R, p, q, S => by
    show ((rnV x ++ flatY (R ++ p :: S)).set _ _).set _ _ = rnV x ++ flatY (R ++ q :: S)
    rw [← flatY_put R p q S, List.length_cons, List.set_append_right _ _ (by show 2 ≤ _; omega), List.set_append_right _ _ (by show 2 ≤ _; omega)]
    rw [show (R.length + 1) * 2 - (rnV x).length = R.length * 2 by show (R.length + 1) * 2 - 2 = _; omega, show (R.length + 1) * 2 + 1 - (rnV x).length = R.length * 2 + 1 by show (R.length + 1) * 2 + 1 - 2 = _; omega]
theorem capY_put {B : Nat} {w : World} {g cap : Nat} {R S : List (Int × Int)} {p : Int × Int} (h : CapY B w (some ⟨g, 0, none⟩) cap (R ++ p :: S)) (x y : Int) (m : Nat) (hm : R.length = m) : CapY B ((w.setCell ⟨g, m * 2, none⟩ (.int .i64 x)).setCell ⟨g, m * 2 + 1, none⟩ (.int .i64 y)) (some ⟨g, 0, none⟩) cap (R ++ (x, y) :: S) := by
  subst hm
  have h1 := (World.ownsRow.stored h (R.length * 2) (.int .i64 x)).1
  have h2 := (World.ownsRow.stored h1 (R.length * 2 + 1) (.int .i64 y)).1
  rw [flatY_put R p (x, y) S] at h2
  unfold CapY
  simpa using h2
theorem GrwY.trans {B : Nat} {V u u1 u' : World} {d0 d d' : Option Addr} {L L' : List (Int × Int)} {c c' : Nat} (h : GrwY B V d0 L u d c) (hb : Below u.heap.size u u1) (k : GrwY B u1 d L' u' d' c') : GrwY B V d0 L' u' d' c' := by
  refine ⟨k.own, fun j hj hne => ?_, fun z hz => ?_, Nat.le_trans h.size (Nat.le_trans hb.size k.size), k.os.trans (hb.os.trans h.os), k.tape.trans (hb.tape.trans h.tape), k.output.trans (hb.output.trans h.output)⟩
  · have h1 : j < u.heap.size := Nat.lt_of_lt_of_le hj h.size
    refine (k.keep j (Nat.lt_of_lt_of_le h1 hb.size) fun y hy e => ?_).trans ((hb.block j h1).trans (h.keep j hj hne))
    rcases h.new y hy with q | q
    · exact hne y q e
    · omega
  · rcases k.new z hz with q | q
    · exact h.new z q
    · exact .inr (Nat.le_trans h.size (Nat.le_trans hb.size q))
theorem GrwY.put {B : Nat} {V u : World} {g cap : Nat} {R S : List (Int × Int)} {p : Int × Int} (h : GrwY B V (some ⟨g, 0, none⟩) (R ++ p :: S) u (some ⟨g, 0, none⟩) cap) (x y : Int) (m : Nat) (hm : R.length = m) : GrwY B V (some ⟨g, 0, none⟩) (R ++ (x, y) :: S) ((u.setCell ⟨g, m * 2, none⟩ (.int .i64 x)).setCell ⟨g, m * 2 + 1, none⟩ (.int .i64 y)) (some ⟨g, 0, none⟩) cap := by
  have b1 := But.set u g (m * 2) (.int .i64 x)
  have b2 := But.set (u.setCell ⟨g, m * 2, none⟩ (.int .i64 x)) g (m * 2 + 1) (.int .i64 y)
  have b := b1.trans b2
  exact ⟨capY_put h.own x y m hm, fun j hj hne => (b.block j (Nat.lt_of_lt_of_le hj h.size) (fun e => hne _ rfl e.symm)).trans (h.keep j hj hne), h.new, Nat.le_trans h.size b.size, b.os.trans h.os, b.tape.trans h.tape, b.output.trans h.output⟩
end Go.Proofs.Ytmeogapffdgjlaa

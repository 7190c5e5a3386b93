/- Texts of one chain, laid one behind the other. -/
import Derived.Test.YtmeogapffdgjlaaPartNestRanges21
import Derived.Test.YtmeogapffdgjlaaPartNestRanges15
import Derived.Test.YtmeogapffdgjlaaPartNestRanges19
import Derived.Deep.QuietTactic
import Derived.BigQuiet
namespace Go.Proofs.Ytmeogapffdgjlaa
open Go.ChangeShapes Go.WideShapes Go.ChangeAt Go.RowKit
def nthT (Ts : List RwL) (j : Nat) : RwL := Ts.getD j ⟨none, 0, []⟩
theorem nthT_get {Ts : List RwL} {j : Nat} (h : j < Ts.length) : Ts[j]? = some (nthT Ts j) := by
  unfold nthT
  rw [List.getD_eq_getElem?_getD, List.getElem?_eq_getElem h]
  rfl
theorem nthT_mem {Ts : List RwL} {j : Nat} (h : j < Ts.length) : nthT Ts j ∈ Ts := List.mem_of_getElem? (nthT_get h)
/-- All rows of two nests: a call's own, apart, not too long. -/
structure FamT (B : Nat) (w : World) (Ts : List RwL) : Prop where
  own : ∀ r ∈ Ts, CapZ B w r.a r.c r.Z
  pair : Ts.Pairwise (fun r s => ∀ x y, r.a = some x → s.a = some y → x.block ≠ y.block)
  few : ∀ r ∈ Ts, r.Z.length ≤ 1000000
  low : B ≤ w.heap.size
theorem apart_nth {Ts : List RwL} (h : Ts.Pairwise (fun r s => ∀ x y, r.a = some x → s.a = some y → x.block ≠ y.block)) {j k : Nat} (hj : j < Ts.length) (hk : k < Ts.length) (hne : j ≠ k) (x y : Addr) (hx : (nthT Ts j).a = some x) (hy : (nthT Ts k).a = some y) : x.block ≠ y.block := by
  rw [List.pairwise_iff_getElem] at h
  have ej : nthT Ts j = Ts[j] := by have := nthT_get hj; rw [List.getElem?_eq_getElem hj] at this; exact (Option.some.inj this).symm
  have ek : nthT Ts k = Ts[k] := by have := nthT_get hk; rw [List.getElem?_eq_getElem hk] at this; exact (Option.some.inj this).symm
  rw [ej] at hx
  rw [ek] at hy
  rcases Nat.lt_or_gt_of_ne hne with q | q
  · exact h j k hj hk q x y hx hy
  · exact fun e => h k j hk hj q y x hy hx e.symm
/-- The second table, row i with k marks. -/
def LgK (L : Nat → Nat) (D : Nat → Option Addr) (E : Nat → Nat) (i k : Nat) (j : Nat) : Value := if j < i then .slice (D j) (L j + 8) (E j) else if j = i then .slice (D j) (L j + k) (E j) else .slice none 0 0
def LgI (L : Nat → Nat) (D : Nat → Option Addr) (E : Nat → Nat) (i : Nat) (j : Nat) : Value := if j < i then .slice (D j) (L j + 8) (E j) else .slice none 0 0
theorem lg_start (L : Nat → Nat) (D : Nat → Option Addr) (E : Nat → Nat) (i : Nat) : upd (LgI L D E i) i (.slice (D i) (L i) (E i)) = LgK L D E i 0 := by
  funext j
  unfold LgK
  by_cases e : j = i
  · subst e; rw [upd_eq, if_neg (by omega), if_pos rfl, Nat.add_zero]
  · rw [upd_ne e, if_neg e]; unfold LgI; rfl
theorem lg_step (L : Nat → Nat) (D : Nat → Option Addr) (E : Nat → Nat) (i k : Nat) (d : Option Addr) (c : Nat) : upd (LgK L D E i k) i (.slice d (L i + k + 1) c) = LgK L (upd D i d) (upd E i c) i (k + 1) := by
  funext j
  unfold LgK
  by_cases e : j = i
  · subst e; rw [upd_eq, if_neg (by omega), if_pos rfl, upd_eq, upd_eq]; rfl
  · rw [upd_ne e, if_neg e, if_neg e, upd_ne e, upd_ne e]
theorem lg_next (L : Nat → Nat) (D : Nat → Option Addr) (E : Nat → Nat) (i : Nat) : LgK L D E i 8 = LgI L D E (i + 1) := by
  funext j
  unfold LgK LgI
  by_cases e : j < i
  · rw [if_pos e, if_pos (by omega)]
  · by_cases e2 : j = i
    · subst e2; rw [if_neg e, if_pos rfl, if_pos (by omega)]
    · rw [if_neg e, if_neg e2, if_neg (by omega)]
theorem lg_zero (L : Nat → Nat) (D : Nat → Option Addr) (E : Nat → Nat) : LgI L D E 0 = fun _ => .slice none 0 0 := by
  funext j
  unfold LgI
  rw [if_neg (by omega)]
def ApE (B : Nat) (Ts : List RwL) (w : World) (e : Ending) (w' : World) : Prop := e = .returned (.bool true) ∧ Below B w w' ∧ ∀ k, k < w.heap.size → (∀ r ∈ Ts, ∀ x, r.a = some x → x.block ≠ k) → w'.heap[k]? = w.heap[k]?
set_option maxRecDepth 100000 in
set_option maxHeartbeats 16000000 in
theorem apartLoops_any (B : Nat) (la lb : List Lp) (aA aB : Option Addr) (cA cB : Nat) (SA SB : List Lv) (RA RB : List RwL) (w : World) (hA : RelR la SA RA) (hB : RelR lb SB RB) (hF : FamT B w ((RA ++ [⟨aA, cA, SA⟩]) ++ (RB ++ [⟨aB, cB, SB⟩]))) (hs : sizZ la + sizZ lb + 2 ≤ 1000000) :
    Calls Try.prog 15 #[.slice aA la.length cA, .slice aB lb.length cB] w (ApE B ((RA ++ [⟨aA, cA, SA⟩]) ++ (RB ++ [⟨aB, cB, SB⟩])) w) := by
  have hin1 : ∀ r ∈ RA ++ [(⟨aA, cA, SA⟩ : RwL)], r ∈ (RA ++ [⟨aA, cA, SA⟩]) ++ (RB ++ [⟨aB, cB, SB⟩]) := fun r h => List.mem_append_left _ h
  have hin2 : ∀ r ∈ RB ++ [(⟨aB, cB, SB⟩ : RwL)], r ∈ (RA ++ [⟨aA, cA, SA⟩]) ++ (RB ++ [⟨aB, cB, SB⟩]) := fun r h => List.mem_append_right _ h
  have mA : (⟨aA, cA, SA⟩ : RwL) ∈ RA ++ [(⟨aA, cA, SA⟩ : RwL)] := List.mem_append_right _ (List.mem_cons_self ..)
  have mB : (⟨aB, cB, SB⟩ : RwL) ∈ RB ++ [(⟨aB, cB, SB⟩ : RwL)] := List.mem_append_right _ (List.mem_cons_self ..)
  have hfA := rel_few _ _ _ hA
  have hfB := rel_few _ _ _ hB
  have L1 := hiddenN (listsZ_any la SA RA B w.heap.size aA cA none 0 [] w (hF.own _ (hin1 _ mA)) hA (fun r h => hF.own r (hin1 r (List.mem_append_left _ h))) (fun x hx => ((hF.own _ (hin1 _ mA)).lt x hx).2) (fun r h x hx => ((hF.own r (hin1 r (List.mem_append_left _ h))).lt x hx).2) (World.ownsRow_nil _ _ _ _) (Nat.le_refl _) (by rw [List.length_nil]; omega))
  rw [List.nil_append, List.length_nil] at L1
  have L2 : Hid (∀ u d cc, Below w.heap.size w u → u.ownsRow w.heap.size 22 1 (.slice d ((RA ++ [(⟨aA, cA, SA⟩ : RwL)]).map valR).length cc) ((RA ++ [(⟨aA, cA, SA⟩ : RwL)]).map valR).length ((RA ++ [(⟨aA, cA, SA⟩ : RwL)]).map valR) → Calls Try.prog 42 #[.slice aB lb.length cB, .slice d ((RA ++ [(⟨aA, cA, SA⟩ : RwL)]).map valR).length cc] u (LstE w.heap.size (((RA ++ [(⟨aA, cA, SA⟩ : RwL)]).map valR) ++ (RB ++ [(⟨aB, cB, SB⟩ : RwL)]).map valR) u)) := fun u d cc hb hv => by
    refine listsZ_any lb SB RB B w.heap.size aB cB d cc _ u ((hF.own _ (hin2 _ mB)).keep fun x hx => hb.block _ ((hF.own _ (hin2 _ mB)).lt x hx).2) hB (fun r h => (hF.own r (hin2 r (List.mem_append_left _ h))).keep fun x hx => hb.block _ ((hF.own r (hin2 r (List.mem_append_left _ h))).lt x hx).2) (fun x hx => ((hF.own _ (hin2 _ mB)).lt x hx).2) (fun r h x hx => ((hF.own r (hin2 r (List.mem_append_left _ h))).lt x hx).2) hv hb.size ?_
    rw [List.length_map, List.length_append, List.length_singleton]
    omega
  have hTl : (RA ++ [(⟨aA, cA, SA⟩ : RwL)]).length + (RB ++ [(⟨aB, cB, SB⟩ : RwL)]).length ≤ 1000000 := by
    rw [List.length_append, List.length_append, List.length_singleton, List.length_singleton]
    omega
  have hT0 : (RA ++ [(⟨aA, cA, SA⟩ : RwL)]) ++ (RB ++ [(⟨aB, cB, SB⟩ : RwL)]) ≠ [] := by simp
  obtain ⟨TA, hTA⟩ : ∃ q, RA ++ [(⟨aA, cA, SA⟩ : RwL)] = q := ⟨_, rfl⟩
  obtain ⟨TB, hTB⟩ : ∃ q, RB ++ [(⟨aB, cB, SB⟩ : RwL)] = q := ⟨_, rfl⟩
  rw [hTA] at L1 L2 hF hTl hT0 ⊢
  rw [hTB] at L2 hF hTl hT0 ⊢
  have eM : TA.map valR ++ TB.map valR = (TA ++ TB).map valR := List.map_append.symm
  rw [eM] at L2
  have HTL : Hid ((TA ++ TB).length ≤ 1000000) := by show _ ≤ _; rw [List.length_append]; exact hTl
  obtain ⟨Ts, hTs⟩ : ∃ q, TA ++ TB = q := ⟨_, rfl⟩
  rw [hTs] at L2 hF HTL hT0 ⊢
  obtain ⟨VA, hVA⟩ : ∃ q, TA.map valR = q := ⟨_, rfl⟩
  rw [hVA] at L1 L2
  unfold LstE at L1 L2
  rw [List.length_map] at L2
  obtain ⟨nA, hnA⟩ : ∃ q, VA.length = q := ⟨_, rfl⟩
  rw [hnA] at L1 L2
  obtain ⟨n, hn⟩ : ∃ q, Ts.length = q := ⟨_, rfl⟩
  rw [hn] at L2 HTL
  have HNL := hiddenN hn
  have HT0 := hiddenN hT0
  have HF := hiddenN hF
  obtain ⟨LA, hLA⟩ : ∃ q, la.length = q := ⟨_, rfl⟩
  obtain ⟨LB, hLB⟩ : ∃ q, lb.length = q := ⟨_, rfl⟩
  rw [hLA] at L1 ⊢
  rw [hLB] at L2 ⊢
  obtain ⟨RE, hRE⟩ : ∃ Q : Ending → World → Prop, ApE B Ts w = Q := ⟨_, rfl⟩
  rw [hRE]
  have HRE := hiddenN hRE
  have hn6 : n ≤ 1000000 := HTL.out
  have hnI : (n : Int) ≤ 1000000 := by omega
  have hmk := run_make_row' (P := Try.prog) 70 22 (.slice none 0 0) 24 Try.underlying70 Try.infoLs rfl .i64 .i64 n (by omega) (by omega)
  clear hin1 hin2 mA mB hfA hfB hTl hT0 hTA hTB eM hTs hVA hnA hn hLA hLB hRE hF hs hA hB HTL
  go_enter Try.func15, Try.ntmps15
  go_upto_region 3 with (go_at_call 42; (with_reducible refine L1.out.mono ?_); rintro e W1 ⟨d1, c1, rfl, hv, b⟩; have V1 := hiddenN hv; have B1 := hiddenN b; clear hv b)
  have L2x := hiddenN (L2.out W1 d1 c1 B1.out V1.out)
  clear L1 L2
  go_upto_region 5 with (go_at_call 42; (with_reducible refine L2x.out.mono ?_); rintro e W2 ⟨d2, c2, rfl, hv, b⟩; have V2 := hiddenN hv; have B2 := hiddenN (B1.out.trans b); clear hv b)
  clear L2x V1 B1
  have hG : ∃ G, d2 = some ⟨G, 0, none⟩ ∧ w.heap.size ≤ G ∧ G < W2.heap.size := by
    rcases V2.out.2 with ⟨e, e0⟩ | ⟨g, cap, cur, e, hg, hh, -⟩
    · exact absurd (List.eq_nil_of_length_eq_zero (HNL.out.trans e0)) HT0.out
    · cases e
      exact ⟨g, rfl, hg, (Array.getElem?_eq_some_iff.1 hh).1⟩
  obtain ⟨G, rfl, hGl, hGs⟩ := hG
  have ST : Hid (ApAL B n G W2 W2 (fun j => (nthT Ts j).a) (fun j => (nthT Ts j).Z.length) (fun j => (nthT Ts j).c) (fun j => (nthT Ts j).Z)) := by
    have lt : ∀ j, j < n → j < Ts.length := fun j hj => by rw [HNL.out]; exact hj
    refine ⟨fun j hj => ⟨(HF.out.own _ (nthT_mem (lt j hj))).keep fun x hx => B2.out.block _ ((HF.out.own _ (nthT_mem (lt j hj))).lt x hx).2, rfl⟩, fun j hj => ?_, fun j k x y hj hk hne hx hy => apart_nth HF.out.pair (lt j hj) (lt k hk) hne x y hx hy, fun j x hj hx => ?_, hGs, Nat.le_trans HF.out.low B2.out.size, Below.refl _ _, fun _ _ _ => rfl⟩
    · have q := World.ownsRow.cellAt V2.out j (by rw [Nat.mul_one]; exact hj)
      rw [List.getElem?_map, nthT_get (lt j hj)] at q
      exact q
    · have := ((HF.out.own _ (nthT_mem (lt j hj))).lt x hx).2
      omega
  have HLe : Hid (∀ j, j < n → (fun j => (nthT Ts j).Z.length) j ≤ 1000000) := fun j hj => HF.out.few _ (nthT_mem (by rw [HNL.out]; exact hj))
  have HAA : Hid (∀ k, (∀ r ∈ Ts, ∀ x, r.a = some x → x.block ≠ k) → ∀ j x, j < n → (fun j => (nthT Ts j).a) j = some x → x.block ≠ k) := fun k hk j x hj hx => hk _ (nthT_mem (by rw [HNL.out]; exact hj)) x hx
  generalize (fun j => (nthT Ts j).a) = A at *
  generalize (fun j => (nthT Ts j).Z.length) = L at *
  generalize (fun j => (nthT Ts j).c) = C at *
  generalize (fun j => (nthT Ts j).Z) = Z0 at *
  have HBQ : Hid (Below B w W2) := B2.out.mono HF.out.low
  have HB0 : Hid (w.heap.size ≤ W2.heap.size) := B2.out.size
  have HBB := hiddenN B2.out
  clear V2 HF HT0 B2
  go_loopg [6] n (fun gk v wr => ∃ (i : Nat) (Z : Nat → List Lv), i ≤ n ∧ gk = n - i ∧ v = .int .i64 i ∧ ApAL B n G W2 wr A L C Z ∧ MarkedL L Z i)
  case atStart => exact ⟨0, Z0, Nat.zero_le _, rfl, rfl, ST.out, fun j hj => by omega⟩
  case round =>
    clear ST
    obtain ⟨i, Z, hin, rfl, rfl, S, hM⟩ := hrel
    have HM := hiddenN hM
    have HS := hiddenN S
    clear hM S
    by_cases hlt : i < n
    · have hii : (i : Int) < (n : Int) := by omega
      have hLi := HLe.out i hlt
      have hLiI : (L i : Int) ≤ 1000000 := by omega
      go_wp2
      go_loopg [7] (L i) (fun gm v wr => ∃ (k : Nat) (Z : Nat → List Lv), k ≤ L i ∧ gm = L i - k ∧ v = .int .i64 k ∧ ApAL B n G W2 wr A L C Z ∧ MarkedL L Z i ∧ ∀ k', k' < k → nthZ (Z i) k' = mkL i k')
      case atStart => exact ⟨0, Z, Nat.zero_le _, rfl, rfl, HS.out, HM.out, fun k' hk' => by omega⟩
      case round =>
        clear HS HM
        obtain ⟨k, Z, hk, rfl, rfl, S, hM, hP⟩ := hrel
        have HM := hiddenN hM
        have HP := hiddenN hP
        have HS := hiddenN S
        have ht := S.tab i hlt
        clear hM hP
        by_cases hlk : k < L i
        · have hkk : (k : Int) < (L i : Int) := by omega
          have hrow := S.rows i hlt
          have hZ0 : Z i ≠ [] := fun e => by have := hrow.2; rw [e] at this; simp at this; omega
          obtain ⟨g, hg⟩ := hrow.1.there hZ0
          rw [hg] at ht
          have hrw := hrow.1
          rw [hg] at hrw
          have hkZ : k < (Z i).length := by rw [hrow.2]; exact hlk
          have z0 := hrw.cell (k := k) (j := 0) hkZ (by decide)
          have z1 := hrw.cell (k := k) (j := 1) hkZ (by decide)
          have z2 := hrw.cell (k := k) (j := 2) hkZ (by decide)
          rw [Nat.add_zero] at z0
          have f0 := World.ownsRow.frozenAt hrw (k * 3)
          have f1 := World.ownsRow.frozenAt hrw (k * 3 + 1)
          have f2 := World.ownsRow.frozenAt hrw (k * 3 + 2)
          have KS : Hid (ApAL B n G W2 (((wr.setCell ⟨g, k * 3, none⟩ (.int .i64 (i : Int))).setCell ⟨g, k * 3 + 1, none⟩ (.int .i64 (k : Int))).setCell ⟨g, k * 3 + 2, none⟩ (.slice none 0 0)) A L C (upd Z i ((Z i).set k (mkL i k)))) := HS.out.mark hlt hg hlk (mkL i k)
          have KM : Hid (MarkedL L (upd Z i ((Z i).set k (mkL i k))) i ∧ ∀ k', k' < k + 1 → nthZ (upd Z i ((Z i).set k (mkL i k)) i) k' = mkL i k') := by
            refine ⟨fun j hj q hq => ?_, fun q hq => ?_⟩
            · rw [upd_ne (by omega)]; exact HM.out j hj q hq
            · rw [upd_eq]
              by_cases e : k = q
              · subst e
                exact nthZ_set_eq hkZ
              · rw [nthZ_set_ne e]
                exact HP.out q (by omega)
          clear S hrow hg hrw HS HM HP hkZ hZ0
          generalize nthZ (Z i) k = old at *
          go_wp2
          go_roundg (L i - (k + 1))
          case measure => omega
          case rel => exact ⟨k + 1, _, by omega, rfl, by go_num, KS.out, KM.out.1, KM.out.2⟩
        · have hkk : ¬ (k : Int) < (L i : Int) := by omega
          have KM : Hid (MarkedL L Z (i + 1)) := fun j hj q hq => by
            by_cases e : j < i
            · exact HM.out j e q hq
            · have : j = i := by omega
              subst this
              exact HP.out q (by omega)
          clear S HM HP
          go_wp2
          go_roundg (n - (i + 1))
          case measure => omega
          case rel => exact ⟨i + 1, _, by omega, rfl, by go_num, HS.out, KM.out⟩
    · have ei : n = i := by omega
      subst ei
      have hnn : ¬ (n : Int) < (n : Int) := by omega
      have HLZ : Hid (∀ j, j < n → (Z j).length = L j) := fun j hj => (HS.out.rows j hj).2
      have bm := (Below.refl wr.heap.size wr).alloc (Nat.le_refl _) (.cells (madeCells #[.slice none 0 0] n) 22)
      have SC : Hid (ApCL B n G wr.heap.size (LgI L A C 0) wr (wr.alloc (.cells (madeCells #[.slice none 0 0] n) 22)) A L C Z A C (yyL Z 0 0)) := by
        show ApCL _ _ _ _ _ _ _ _ _ _ _ _ _ _
        rw [yyL_start, lg_zero]
        exact apCL_start HS.out bm (World.rowIs_made wr (.slice none 0 0) n 22) (by rw [World.size_alloc]; omega)
      have HKW : Hid (Below B w wr ∧ ∀ k, k < w.heap.size → (∀ r ∈ Ts, ∀ x, r.a = some x → x.block ≠ k) → wr.heap[k]? = w.heap[k]?) := ⟨HBQ.out.trans HS.out.bel, fun k hk hne => (HS.out.keep k (Nat.lt_of_lt_of_le hk HB0.out) (HAA.out k hne)).trans (HBB.out.block k hk)⟩
      have HWS : Hid (w.heap.size ≤ wr.heap.size) := HKW.out.1.size
      clear HS hlt bm
      go_upto_region 13 with fail
      clear hmk
      obtain ⟨H, hH⟩ : ∃ q, wr.heap.size = q := ⟨_, rfl⟩
      have HHH := hiddenN hH
      rw [hH] at SC ⊢
      clear hH
      generalize wr.alloc (.cells (madeCells #[.slice none 0 0] n) 22) = W4 at *
      obtain ⟨wA, hwA⟩ : ∃ q : World, q = wr := ⟨_, rfl⟩
      subst hwA
      go_loopg [9] n (fun gk v wr => ∃ (i : Nat) (D : Nat → Option Addr) (E : Nat → Nat), i ≤ n ∧ gk = n - i ∧ v = .int .i64 i ∧ ApCL B n G H (LgI L D E i) wA wr A L C Z D E (yyL Z i 0) ∧ ∀ j, i ≤ j → D j = A j ∧ E j = C j)
      case atStart => exact ⟨0, A, C, Nat.zero_le _, rfl, rfl, SC.out, fun _ _ => ⟨rfl, rfl⟩⟩
      case round =>
        clear SC
        obtain ⟨i, D, E, hin, rfl, rfl, S, hDA⟩ := hrel
        have HS := hiddenN S
        have HDA := hiddenN hDA
        clear S hDA
        by_cases hlt : i < n
        · have hii : (i : Int) < (n : Int) := by omega
          have hLi := HLe.out i hlt
          have hLiI : (L i : Int) ≤ 1000000 := by omega
          have t0 := HS.out.tab i hlt
          have l0 := HS.out.long.cell hlt
          have lf := HS.out.long.frozen i
          rw [show LgI L D E i i = .slice none 0 0 by unfold LgI; rw [if_neg (by omega)]] at l0
          have KN : Hid (ApCL B n G H (LgK L D E i 0) wA (wr.setCell ⟨H, i, none⟩ (.slice (A i) (L i) (C i))) A L C Z D E (yyL Z i 0)) := by
            have q := HS.out.setL i (.slice (D i) (L i) (E i))
            rw [lg_start, (HDA.out i (Nat.le_refl _)).1, (HDA.out i (Nat.le_refl _)).2] at q
            exact q
          have KD : Hid (∀ j, i + 1 ≤ j → D j = A j ∧ E j = C j) := fun j hj => HDA.out j (by omega)
          clear HS HDA
          go_upto_region 17 with fail
          clear t0 l0 lf
          generalize wr.setCell ⟨H, i, none⟩ (.slice (A i) (L i) (C i)) = W6 at *
          go_loopg [10] 8 (fun gm v wr => ∃ (k : Nat) (D : Nat → Option Addr) (E : Nat → Nat), k ≤ 8 ∧ gm = 8 - k ∧ v = .int .i64 k ∧ ApCL B n G H (LgK L D E i k) wA wr A L C Z D E (yyL Z i k) ∧ ∀ j, i + 1 ≤ j → D j = A j ∧ E j = C j)
          case atStart => exact ⟨0, D, E, Nat.zero_le _, rfl, rfl, KN.out, KD.out⟩
          case round =>
            clear KN KD
            obtain ⟨k, D, E, hk, rfl, rfl, S, hDA⟩ := hrel
            have HS := hiddenN S
            have HDA := hiddenN hDA
            clear S hDA
            by_cases hlk : k < 8
            · have hkk : (k : Int) < 8 := by omega
              obtain ⟨ix, hix⟩ : ∃ q, q = i := ⟨_, rfl⟩
              subst hix
              obtain ⟨m, hm⟩ : ∃ q, L ix + k = q := ⟨_, rfl⟩
              have HMK := hiddenN hm
              have hlc := HS.out.long.cell hlt
              rw [show LgK L D E ix k ix = .slice (D ix) m (E ix) by unfold LgK; rw [if_neg (by omega), if_pos rfl, hm]] at hlc
              have HYX : Hid (yyL Z ix k ix = Z ix ++ tailsL ix k) := by show _ = _; unfold yyL; rw [if_neg (by omega), if_pos rfl]
              have HZM : Hid ((Z ix ++ tailsL ix k).length = m) := by show _ = _; rw [List.length_append, tailsL_len, HLZ.out ix hlt, hm]
              have HYL : Hid ((yyL Z ix k ix).length = m) := by show _ = _; rw [HYX.out]; exact HZM.out
              have HOW := hiddenN (HS.out.own ix hlt)
              have HBV : Hid (B ≤ wr.heap.size) := Nat.le_trans HS.out.low (Nat.le_of_lt HS.out.gh.2.2)
              have hm9 : m ≤ 10000000 := by omega
              have hmm : (m : Int) < (m : Int) + 1 := by omega
              have v1 : IntKind.i64.wrap (-(ix : Int)) = -(ix : Int) := by rw [IntKind.wrap_i64]; omega
              have v2 : IntKind.i64.wrap (-(ix : Int) - 1) = -(ix : Int) - 1 := by rw [IntKind.wrap_i64]; omega
              clear hm
              go_upto_region 19 with fail
              obtain ⟨V9, hV9⟩ : ∃ q : World, q = wr := ⟨_, rfl⟩
              subst hV9
              refine wp_region_gho [11, 13, 15] (fun y d i u z => match i with
                  | 0 => z = .slice (some ⟨H, 0, none⟩) n n
                  | 1 => z = .int .i64 (ix : Int)
                  | 2 => z = .pointer (some ⟨H, ix, none⟩)
                  | 3 => z = .slice (D ix) m (E ix)
                  | 4 => z = .int .i64 (ix : Int)
                  | 5 => z = .int .i64 (-(ix : Int))
                  | 6 => z = .int .i64 (-(ix : Int) - 1)
                  | 7 => z = .int .i64 (k : Int)
                  | 8 => z = .agg #[.int .i64 (-(ix : Int) - 1), .int .i64 (k : Int), .slice none 0 0]
                  | 9 => z = .int .i64 (m : Int)
                  | 10 => (d 11 = false → CnL u z)
                  | 11 => (d 11 = true ∧ z = .slice (some ⟨y.g, 0, none⟩) (m + 1) y.c)
                  | 12 => (d 11 = true ∧ z = .pointer (some ⟨y.g, m * 3, none⟩))
                  | 13 => True
                  | 14 => z = .pointer (some ⟨H, ix, none⟩)
                  | 15 => True
                  | _ => True) (fun y d u => CAp V9 B n G H (LgK L D E ix k) wA A L C Z D E (yyL Z ix k) ix m (tailsL ix k) (mtL ix k) y d u) (⟨0, 0⟩) (by kernel_rfl) (by kernel_rfl) (by kernel_rfl) ?_ ?_ ?_ ?_ ?_ ?_ (by kernel_rfl)
              · intro y d i w v w' h hb
                match i, h with
                | 0, h => exact h
                | 1, h => exact h
                | 2, h => exact h
                | 3, h => exact h
                | 4, h => exact h
                | 5, h => exact h
                | 6, h => exact h
                | 7, h => exact h
                | 8, h => exact h
                | 9, h => exact h
                | 10, h => exact fun e => (h e).later hb
                | 11, h => exact h
                | 12, h => exact h
                | 13, h => trivial
                | 14, h => exact h
                | 15, h => trivial
                | _ + 16, _ => trivial
              · intro y d u u' h hb
                exact CAp.later h hb
              · exact CAp.start
              · intro y d i o ρ w' hm ho hf hg hC hcs hfs hfr hdep
                match i, hm, ho, hf, hg, hfr, hdep with
                | 0, _, ho, hf, hg, hfr, hdep =>
                  simp only [List.getElem?_toArray, List.getElem?_cons_zero, Option.some.injEq] at ho
                  subst ho
                  refine ⟨fun _ => ?_, fun hw => absurd (show true = false from hw) (by decide)⟩
                  have ts : ρ (.tmp 8) = .slice (some ⟨H, 0, none⟩) n n := hfr 8 (by kernel_rfl)
                  simp [go_sem, ts]
                  exact ⟨Below.refl _ _, rfl⟩
                | 1, _, ho, hf, hg, hfr, hdep =>
                  simp only [List.getElem?_toArray, List.getElem?_cons_zero, List.getElem?_cons_succ, Option.some.injEq] at ho
                  subst ho
                  refine ⟨fun _ => ?_, fun hw => absurd (show true = false from hw) (by decide)⟩
                  have ts : ρ (.tmp 9) = .int .i64 (ix : Int) := hfr 9 (by kernel_rfl)
                  simp [go_sem, ts]
                  exact ⟨Below.refl _ _, rfl⟩
                | 2, _, ho, hf, hg, hfr, hdep =>
                  simp only [List.getElem?_toArray, List.getElem?_cons_zero, List.getElem?_cons_succ, Option.some.injEq] at ho
                  subst ho
                  refine ⟨fun _ => ?_, fun hw => absurd (show true = false from hw) (by decide)⟩
                  have d0 : ρ (.tmp 64) = .slice (some ⟨H, 0, none⟩) n n := hdep 0 64 (by kernel_rfl) (by kernel_rfl)
                  have d1 : ρ (.tmp 65) = .int .i64 (ix : Int) := hdep 1 65 (by kernel_rfl) (by kernel_rfl)
                  simp [go_sem, d0, d1, hii]
                  exact ⟨Below.refl _ _, rfl⟩
                | 3, _, ho, hf, hg, hfr, hdep =>
                  simp only [List.getElem?_toArray, List.getElem?_cons_zero, List.getElem?_cons_succ, Option.some.injEq] at ho
                  subst ho
                  refine ⟨fun _ => ?_, fun hw => absurd (show true = false from hw) (by decide)⟩
                  have t0 : ρ (.tmp 66) = .pointer (some ⟨H, ix, none⟩) := hdep 2 66 (by kernel_rfl) (by kernel_rfl)
                  have k0 := ((hC.fst (hf 11 (by kernel_rfl) (by kernel_rfl))).1.cell (block_lt_of_cell hlc)).trans hlc
                  simp [go_sem, t0, k0]
                  exact ⟨Below.refl _ _, rfl⟩
                | 4, _, ho, hf, hg, hfr, hdep =>
                  simp only [List.getElem?_toArray, List.getElem?_cons_zero, List.getElem?_cons_succ, Option.some.injEq] at ho
                  subst ho
                  refine ⟨fun _ => ?_, fun hw => absurd (show true = false from hw) (by decide)⟩
                  have ts : ρ (.tmp 9) = .int .i64 (ix : Int) := hfr 9 (by kernel_rfl)
                  simp [go_sem, ts]
                  exact ⟨Below.refl _ _, rfl⟩
                | 5, _, ho, hf, hg, hfr, hdep =>
                  simp only [List.getElem?_toArray, List.getElem?_cons_zero, List.getElem?_cons_succ, Option.some.injEq] at ho
                  subst ho
                  refine ⟨fun _ => ?_, fun hw => absurd (show true = false from hw) (by decide)⟩
                  have d0 : ρ (.tmp 68) = .int .i64 (ix : Int) := hdep 4 68 (by kernel_rfl) (by kernel_rfl)
                  simp [go_sem, d0, v1]
                  exact ⟨Below.refl _ _, rfl⟩
                | 6, _, ho, hf, hg, hfr, hdep =>
                  simp only [List.getElem?_toArray, List.getElem?_cons_zero, List.getElem?_cons_succ, Option.some.injEq] at ho
                  subst ho
                  refine ⟨fun _ => ?_, fun hw => absurd (show true = false from hw) (by decide)⟩
                  have t0 : ρ (.tmp 69) = .int .i64 (-(ix : Int)) := hdep 5 69 (by kernel_rfl) (by kernel_rfl)
                  simp [go_sem, t0, hcs, v2]
                  exact ⟨Below.refl _ _, rfl⟩
                | 7, _, ho, hf, hg, hfr, hdep =>
                  simp only [List.getElem?_toArray, List.getElem?_cons_zero, List.getElem?_cons_succ, Option.some.injEq] at ho
                  subst ho
                  refine ⟨fun _ => ?_, fun hw => absurd (show true = false from hw) (by decide)⟩
                  have ts : ρ (.tmp 10) = .int .i64 (k : Int) := hfr 10 (by kernel_rfl)
                  simp [go_sem, ts]
                  exact ⟨Below.refl _ _, rfl⟩
                | 8, _, ho, hf, hg, hfr, hdep =>
                  simp only [List.getElem?_toArray, List.getElem?_cons_zero, List.getElem?_cons_succ, Option.some.injEq] at ho
                  subst ho
                  refine ⟨fun _ => ?_, fun hw => absurd (show true = false from hw) (by decide)⟩
                  have d0 : ρ (.tmp 70) = .int .i64 (-(ix : Int) - 1) := hdep 6 70 (by kernel_rfl) (by kernel_rfl)
                  have d1 : ρ (.tmp 71) = .int .i64 (k : Int) := hdep 7 71 (by kernel_rfl) (by kernel_rfl)
                  simp [go_sem, d0, d1]
                  exact ⟨Below.refl _ _, rfl⟩
                | 9, _, ho, hf, hg, hfr, hdep =>
                  simp only [List.getElem?_toArray, List.getElem?_cons_zero, List.getElem?_cons_succ, Option.some.injEq] at ho
                  subst ho
                  refine ⟨fun _ => ?_, fun hw => absurd (show true = false from hw) (by decide)⟩
                  have d0 : ρ (.tmp 67) = .slice (D ix) m (E ix) := hdep 3 67 (by kernel_rfl) (by kernel_rfl)
                  simp [go_sem, d0]
                  exact ⟨Below.refl _ _, rfl⟩
                | 10, _, ho, hf, hg, hfr, hdep =>
                  simp only [List.getElem?_toArray, List.getElem?_cons_zero, List.getElem?_cons_succ, Option.some.injEq] at ho
                  subst ho
                  refine ⟨fun _ => ?_, fun hw => absurd (show true = false from hw) (by decide)⟩
                  simp [go_sem, hcs]
                  exact ⟨(Below.refl _ _).alloc (Nat.le_refl _) _, fun _ => CnL.new w'⟩
                | 11, hm, _, _, _, _, _ => exact absurd hm (by decide)
                | 12, _, ho, hf, hg, hfr, hdep =>
                  simp only [List.getElem?_toArray, List.getElem?_cons_zero, List.getElem?_cons_succ, Option.some.injEq] at ho
                  subst ho
                  refine ⟨fun _ => ?_, fun hw => absurd (show true = false from hw) (by decide)⟩
                  obtain ⟨q1, t0⟩ : d 11 = true ∧ ρ (.tmp 75) = .slice (some ⟨y.g, 0, none⟩) (m + 1) y.c := hdep 11 75 (by kernel_rfl) (by kernel_rfl)
                  have t1 : ρ (.tmp 73) = .int .i64 (m : Int) := hdep 9 73 (by kernel_rfl) (by kernel_rfl)
                  simp [go_sem, t0, t1, hmm]
                  exact ⟨Below.refl _ _, q1, rfl⟩
                | 13, hm, _, _, _, _, _ => exact absurd hm (by decide)
                | 14, _, ho, hf, hg, hfr, hdep =>
                  simp only [List.getElem?_toArray, List.getElem?_cons_zero, List.getElem?_cons_succ, Option.some.injEq] at ho
                  subst ho
                  refine ⟨fun _ => ?_, fun hw => absurd (show true = false from hw) (by decide)⟩
                  have d0 : ρ (.tmp 64) = .slice (some ⟨H, 0, none⟩) n n := hdep 0 64 (by kernel_rfl) (by kernel_rfl)
                  have d1 : ρ (.tmp 65) = .int .i64 (ix : Int) := hdep 1 65 (by kernel_rfl) (by kernel_rfl)
                  simp [go_sem, d0, d1, hii]
                  exact ⟨Below.refl _ _, rfl⟩
                | 15, hm, _, _, _, _, _ => exact absurd hm (by decide)
                | n + 16, _, ho, _, _, _, _ => simp at ho
              · intro y d i o ρ w' hm ho h0 hf hg hC hcs hfs hfr hdep
                match i, hm, ho, h0, hf, hg, hfr, hdep with
                | 0, hm, _, _, _, _, _, _ => exact absurd hm (by decide)
                | 1, hm, _, _, _, _, _, _ => exact absurd hm (by decide)
                | 2, hm, _, _, _, _, _, _ => exact absurd hm (by decide)
                | 3, hm, _, _, _, _, _, _ => exact absurd hm (by decide)
                | 4, hm, _, _, _, _, _, _ => exact absurd hm (by decide)
                | 5, hm, _, _, _, _, _, _ => exact absurd hm (by decide)
                | 6, hm, _, _, _, _, _, _ => exact absurd hm (by decide)
                | 7, hm, _, _, _, _, _, _ => exact absurd hm (by decide)
                | 8, hm, _, _, _, _, _, _ => exact absurd hm (by decide)
                | 9, hm, _, _, _, _, _, _ => exact absurd hm (by decide)
                | 10, hm, _, _, _, _, _, _ => exact absurd hm (by decide)
                | 11, _, ho, h0, hf, hg, hfr, hdep =>
                  simp only [List.getElem?_toArray, List.getElem?_cons_zero, List.getElem?_cons_succ, Option.some.injEq] at ho
                  subst ho
                  have t0 : ρ (.tmp 67) = .slice (D ix) m (E ix) := hdep 3 67 (by kernel_rfl) (by kernel_rfl)
                  have t1 : d 11 = false → CnL w' (ρ (.tmp 74)) := hdep 10 74 (by kernel_rfl) (by kernel_rfl)
                  obtain ⟨gz, t2, z0, z1, z2⟩ := t1 h0
                  refine ⟨rfl, ?_⟩
                  refine mark_appZ (.tmp 67) (.tmp 74) rfl m HYL.out (y := zL) t0 t2 HOW.out (hC.fst h0).1 z0 z1 z2 hm9 HBV.out ?_
                  intro u9 d9 c9 hg9
                  obtain ⟨g9, rfl⟩ := hg9.own.there (by simp)
                  refine ⟨⟨g9, c9⟩, hC.m11 h0 HS.out hlt HYX.out hg9, fun _ => ⟨doneAt_eq _ _, rfl⟩, ?_⟩
                  intro j t hj hs
                  match j, hs with
                  | 0, hs => exact hs
                  | 1, hs => exact hs
                  | 2, hs => exact hs
                  | 3, hs => exact hs
                  | 4, hs => exact hs
                  | 5, hs => exact hs
                  | 6, hs => exact hs
                  | 7, hs => exact hs
                  | 8, hs => exact hs
                  | 9, hs => exact hs
                  | 10, hs => exact fun e => absurd e (by rw [doneAt_eq]; decide)
                  | 11, hs => exact absurd hs.1 (by rw [h0]; decide)
                  | 12, hs => exact absurd hs.1 (by rw [h0]; decide)
                  | 13, hs => exact hs
                  | 14, hs => exact hs
                  | 15, hs => exact hs
                  | _ + 16, _ => trivial
                | 12, hm, _, _, _, _, _, _ => exact absurd hm (by decide)
                | 13, _, ho, h0, hf, hg, hfr, hdep =>
                  simp only [List.getElem?_toArray, List.getElem?_cons_zero, List.getElem?_cons_succ, Option.some.injEq] at ho
                  subst ho
                  obtain ⟨q1, t0⟩ : d 11 = true ∧ ρ (.tmp 76) = .pointer (some ⟨y.g, m * 3, none⟩) := hdep 12 76 (by kernel_rfl) (by kernel_rfl)
                  have t1 : ρ (.tmp 72) = .agg #[.int .i64 (-(ix : Int) - 1), .int .i64 (k : Int), .slice none 0 0] := hdep 8 72 (by kernel_rfl) (by kernel_rfl)
                  obtain ⟨c0, c1, c2, z0, z1, z2, f0, f1, f2⟩ := hC.cells q1 hlt HZM.out
                  refine ⟨rfl, ?_⟩
                  refine mark_store3 _ (.tmp 76) (.tmp 72) rfl y.g (m * 3) _ _ t0 t1 z0 z1 z2 f0 f1 f2 ?_
                  refine ⟨y, hC.m13 q1 h0 hlt HZM.out, fun _ => trivial, ?_⟩
                  intro j t hj hs
                  match j, hs with
                  | 0, hs => exact hs
                  | 1, hs => exact hs
                  | 2, hs => exact hs
                  | 3, hs => exact hs
                  | 4, hs => exact hs
                  | 5, hs => exact hs
                  | 6, hs => exact hs
                  | 7, hs => exact hs
                  | 8, hs => exact hs
                  | 9, hs => exact hs
                  | 10, hs => exact fun e => absurd ((doneAt_ne d (by decide)).symm.trans e) (by rw [q1]; decide)
                  | 11, hs => exact ⟨(doneAt_ne d (by decide)).trans hs.1, hs.2⟩
                  | 12, hs => exact ⟨(doneAt_ne d (by decide)).trans hs.1, hs.2⟩
                  | 13, hs => exact hs
                  | 14, hs => exact hs
                  | 15, hs => exact hs
                  | _ + 16, _ => trivial
                | 14, hm, _, _, _, _, _, _ => exact absurd hm (by decide)
                | 15, _, ho, h0, hf, hg, hfr, hdep =>
                  simp only [List.getElem?_toArray, List.getElem?_cons_zero, List.getElem?_cons_succ, Option.some.injEq] at ho
                  subst ho
                  have t0 : ρ (.tmp 77) = .pointer (some ⟨H, ix, none⟩) := hdep 14 77 (by kernel_rfl) (by kernel_rfl)
                  obtain ⟨q1, t1⟩ : d 11 = true ∧ ρ (.tmp 75) = .slice (some ⟨y.g, 0, none⟩) (m + 1) y.c := hdep 11 75 (by kernel_rfl) (by kernel_rfl)
                  obtain ⟨c0, z0, f0⟩ := hC.cell q1 hlt
                  refine ⟨rfl, ?_⟩
                  refine markUpon_skip (w' := w'.setCell ⟨H, ix, none⟩ (.slice (some ⟨y.g, 0, none⟩) (m + 1) y.c)) (by simp [go_sem, t0, t1, z0, f0]) ?_
                  refine ⟨y, hC.m15 q1 h0, fun _ => trivial, ?_⟩
                  intro j t hj hs
                  match j, hs with
                  | 0, hs => exact hs
                  | 1, hs => exact hs
                  | 2, hs => exact hs
                  | 3, hs => exact hs
                  | 4, hs => exact hs
                  | 5, hs => exact hs
                  | 6, hs => exact hs
                  | 7, hs => exact hs
                  | 8, hs => exact hs
                  | 9, hs => exact hs
                  | 10, hs => exact fun e => absurd ((doneAt_ne d (by decide)).symm.trans e) (by rw [q1]; decide)
                  | 11, hs => exact ⟨(doneAt_ne d (by decide)).trans hs.1, hs.2⟩
                  | 12, hs => exact ⟨(doneAt_ne d (by decide)).trans hs.1, hs.2⟩
                  | 13, hs => exact hs
                  | 14, hs => exact hs
                  | 15, hs => exact hs
                  | _ + 16, _ => trivial
                | n + 16, _, ho, _, _, _, _, _ => simp at ho
              · intro y9 V w9 hC9 hS
                simp only [puts, put_none]
                simp only [Act.put, List.setIfInBounds_toArray, List.set_cons_zero, List.set_cons_succ]
                clear hS 
                have q9 := hC9.snd rfl
                rw [show allOf [11, 13, 15] 15 = true from rfl, show allOf [11, 13, 15] 13 = true from rfl, if_pos rfl, if_pos rfl, ← HMK.out, lg_step, ← List.append_assoc, ← HYX.out, yyL_step] at q9
                have KQ := hiddenN q9
                have KD : Hid (∀ j, ix + 1 ≤ j → upd D ix (some ⟨y9.g, 0, none⟩) j = A j ∧ upd E ix y9.c j = C j) := fun j hj => by rw [upd_ne (by omega), upd_ne (by omega)]; exact HDA.out j hj
                clear hC9 q9
                generalize upd D ix (some ⟨y9.g, 0, none⟩) = D2 at *
                generalize upd E ix y9.c = E2 at *
                go_wp2
                go_roundg (8 - (k + 1))
                case measure => omega
                case rel => exact ⟨k + 1, D2, E2, by omega, rfl, by go_num, KQ.out, KD.out⟩
            · have hkk : ¬ (k : Int) < 8 := by omega
              have ek : k = 8 := by omega
              subst ek
              have KN : Hid (ApCL B n G H (LgI L D E (i + 1)) wA wr A L C Z D E (yyL Z (i + 1) 0)) := by
                have q := HS.out
                rw [lg_next, yyL_next] at q
                exact q
              clear HS
              go_wp2
              go_roundg (n - (i + 1))
              case measure => omega
              case rel => exact ⟨i + 1, D, E, by omega, rfl, by go_num, KN.out, HDA.out⟩
        · have ei : n = i := by omega
          subst ei
          have hnn : ¬ (n : Int) < (n : Int) := by omega
          clear hlt
          have T1 : Hid (∀ j, j < n → wr.cell? ⟨G, j, none⟩ = some (.slice (A j) (L j) (C j))) := fun j hj => HS.out.tab j hj
          have T2 : Hid (∀ j, j < n → wr.cell? ⟨H, j, none⟩ = some (.slice (D j) (L j + 8) (E j))) := fun j hj => by
            have := HS.out.long.cell hj
            rwa [show LgI L D E n j = .slice (D j) (L j + 8) (E j) by unfold LgI; rw [if_pos hj]] at this
          have T3 : Hid (∀ j k, j < n → k < L j → ∃ b, A j = some ⟨b, 0, none⟩ ∧ wr.cell? ⟨b, k * 3, none⟩ = some (.int .i64 (j : Int)) ∧ wr.cell? ⟨b, k * 3 + 1, none⟩ = some (.int .i64 (k : Int))) := fun j k hj hk => by
            rcases HS.out.lie j hj with h0 | ⟨b, e, hc⟩
            · have := HLZ.out j hj
              rw [h0] at this
              simp at this
              omega
            · have hkZ : k < (Z j).length := by rw [HLZ.out j hj]; exact hk
              have q0 := hc k hkZ 0 (by decide)
              have q1 := hc k hkZ 1 (by decide)
              rw [HM.out j hj k hk] at q0 q1
              rw [Nat.add_zero] at q0
              exact ⟨b, e, q0, q1⟩
          have T4 : Hid (∀ j, j < n → ∃ g, D j = some ⟨g, 0, none⟩ ∧ (∀ k, k < 8 → wr.cell? ⟨g, (L j + k) * 3, none⟩ = some (.int .i64 (-(j : Int) - 1)) ∧ wr.cell? ⟨g, (L j + k) * 3 + 1, none⟩ = some (.int .i64 (k : Int)))) := fun j hj => by
            have hr := HS.out.own j hj
            rw [yyL_end Z hj] at hr
            obtain ⟨g, hg⟩ := hr.there (by intro e; have := congrArg List.length e; rw [List.length_append, tailsL_len] at this; simp at this)
            rw [hg] at hr
            refine ⟨g, hg, fun k hk => ?_⟩
            have hl : L j + k < (Z j ++ tailsL j 8).length := by rw [List.length_append, tailsL_len, HLZ.out j hj]; omega
            have q0 := hr.cell (k := L j + k) (j := 0) hl (by decide)
            have q1 := hr.cell (k := L j + k) (j := 1) hl (by decide)
            rw [← HLZ.out j hj, nthZ_right, nth_tailsL hk] at q0 q1
            rw [HLZ.out j hj] at q0 q1
            rw [Nat.add_zero] at q0
            exact ⟨q0, q1⟩
          have HEND : Hid (Below B w wr ∧ ∀ k, k < w.heap.size → (∀ r ∈ Ts, ∀ x, r.a = some x → x.block ≠ k) → wr.heap[k]? = w.heap[k]?) := by
            refine ⟨HKW.out.1.trans HS.out.bel.1, fun k hk hne => (HS.out.bel.2 k (Nat.lt_of_lt_of_le hk HWS.out) (by have := HWS.out; have := HHH.out; omega) (HAA.out k hne)).trans (HKW.out.2 k hk hne)⟩
          clear HS HM HLZ HDA HKW HWS
          generalize wr = w3 at *
          go_upto_region 21 with fail
          go_loopg [11] n (fun gk v wr => ∃ (i q : Nat), i ≤ n ∧ gk = n - i ∧ v = .int .i64 i ∧ wr = w3.drewN q)
          case atStart => exact ⟨0, 0, Nat.zero_le _, rfl, rfl, rfl⟩
          case round =>
            obtain ⟨i, q, hin, rfl, rfl, rfl⟩ := hrel
            by_cases hlt : i < n
            · have hii : (i : Int) < (n : Int) := by omega
              have hLi := HLe.out i hlt
              have hLiI : (L i : Int) ≤ 1000000 := by omega
              have t1 := T1.out i hlt
              have t2 := T2.out i hlt
              go_wp2
              go_loopg [12] (L i) (fun gm v wr => ∃ (k q : Nat), k ≤ L i ∧ gm = L i - k ∧ v = .int .i64 k ∧ wr = w3.drewN q)
              case atStart => exact ⟨0, q, Nat.zero_le _, rfl, rfl, rfl⟩
              case round =>
                obtain ⟨k, q, hk, rfl, rfl, rfl⟩ := hrel
                by_cases hlk : k < L i
                · have hkk : (k : Int) < (L i : Int) := by omega
                  obtain ⟨b, e1, c0, c1⟩ := T3.out i k hlt hlk
                  rw [e1] at t1
                  have hn1 : ((i : Int) != (i : Int)) = false := by simp
                  have hn2 : ((k : Int) != (k : Int)) = false := by simp
                  clear e1
                  go_wp2
                  go_roundg (L i - (k + 1))
                  case measure => omega
                  case rel => exact ⟨k + 1, q, by omega, rfl, by go_num, rfl⟩
                · have hkk : ¬ (k : Int) < (L i : Int) := by omega
                  go_wp2
                  go_loopg [13] 8 (fun gm v wr => ∃ (k q : Nat), k ≤ 8 ∧ gm = 8 - k ∧ v = .int .i64 k ∧ wr = w3.drewN q)
                  case atStart => exact ⟨0, q, Nat.zero_le _, rfl, rfl, rfl⟩
                  case round =>
                    clear hkk hlk hk
                    obtain ⟨k, q, hk, rfl, rfl, rfl⟩ := hrel
                    by_cases hlk : k < 8
                    · have hkk : (k : Int) < 8 := by omega
                      obtain ⟨g, e2, c2⟩ := T4.out i hlt
                      obtain ⟨c0, c1⟩ := c2 k hlk
                      rw [e2] at t2
                      obtain ⟨m, hm⟩ : ∃ m, L i + k = m := ⟨_, rfl⟩
                      rw [hm] at c0 c1
                      have hm1 : (L i : Int) + (k : Int) = (m : Int) := by omega
                      have hm2 : (m : Int) < (L i : Int) + 8 := by omega
                      have v1 : IntKind.i64.wrap (-(i : Int)) = -(i : Int) := by rw [IntKind.wrap_i64]; omega
                      have v2 : IntKind.i64.wrap (-(i : Int) - 1) = -(i : Int) - 1 := by rw [IntKind.wrap_i64]; omega
                      have v3 : IntKind.i64.wrap (m : Int) = (m : Int) := by rw [IntKind.wrap_i64]; omega
                      have hn1 : ((-(i : Int) - 1) != (-(i : Int) - 1)) = false := by simp
                      have hn2 : ((k : Int) != (k : Int)) = false := by simp
                      clear e2 c2 hm
                      go_wp2
                      go_quiet (fail)
                      go_wp2
                      go_roundg (8 - (k + 1))
                      case measure => omega
                      case rel => exact ⟨k + 1, q + nq, by omega, rfl, by go_num, by simp⟩
                    · have hkk : ¬ (k : Int) < 8 := by omega
                      go_wp2
                      go_roundg (n - (i + 1))
                      case measure => omega
                      case rel => exact ⟨i + 1, q, by omega, rfl, by go_num, rfl⟩
            · have hii : ¬ (i : Int) < (n : Int) := by omega
              go_wp2
              rw [← HRE.out]
              exact ⟨rfl, drewB HEND.out.1 q, fun k h1 h2 => HEND.out.2 k h1 h2⟩
end Go.Proofs.Ytmeogapffdgjlaa

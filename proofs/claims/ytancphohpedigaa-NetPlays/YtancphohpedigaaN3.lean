/- A state's isNode, inArcs, outArcs, Short, May, Counts, Fired. (Written by tmpl/mkN2.py.) -/
import Derived.Test.YtancphohpedigaaN2
namespace Go.Proofs.Ytancphohpedigaa
open Go.ChangeShapes Go.WideShapes Go.ChangeAt Go.RowKit

theorem nodes_nat {n : NN} (h : SoundN n) : ((n.nodes.toNat : Nat) : Int) = n.nodes ∧ 1 ≤ n.nodes.toNat ∧ n.nodes.toNat ≤ 32 := by have := h.nodes; omega
set_option maxRecDepth 100000 in
set_option maxHeartbeats 1000000 in
theorem isNode_any {B E : Nat} (w : World) (K : Nat) (n : NN) (T F : List Int) (h : StE B E w K n T F) (v : Int) : Calls Try.prog 43 #[.pointer (some ⟨K, 0, none⟩), .int .i64 v] w fun e w' => e = .returned (.bool (nodeB n v)) ∧ w' = w := by
  obtain ⟨aA, cA, H1, H2, D1, D2, E1, E2, aT, cT, gF, hP⟩ := h
  have y1 := hP.blk.cell (k := 1) rfl
  have hn := nodes_nat hP.sound
  have eb : nodeB n v = inB v 0 ((n.nodes.toNat : Int) - 1) := by
    unfold nodeB inB
    by_cases h1 : 0 ≤ v <;> by_cases h2 : v < n.nodes <;> simp [h1, h2] <;> omega
  rw [eb]
  generalize n.nodes.toNat = N at *
  have hw : IntKind.i64.wrap ((N : Int) - 1) = (N : Int) - 1 := by rw [IntKind.wrap_i64]; omega
  have H : Hid (∀ x y z w1, Calls Try.prog 29 #[.int .i64 x, .int .i64 y, .int .i64 z] w1 fun e w' => e = .returned (.bool (inB x y z)) ∧ w' = w1) := fun x y z w1 => withinN_any x y z w1
  clear hP eb hn
  go_enter Try.func43, Try.ntmps43
  go_wp2_with (go_at_call 29; (with_reducible refine (H.out _ _ _ _).mono ?_); rintro e w' ⟨rfl, hw'⟩; rw [hw']; clear hw' w')
  go_ret
  exact ⟨rfl, rfl⟩

set_option maxRecDepth 100000 in
set_option maxHeartbeats 1000000 in
theorem inArcs_any {B E : Nat} (w : World) (K : Nat) (n : NN) (T F : List Int) (aA : Option Addr) (cA H1 H2 : Nat) (D1 D2 : Nat → Option Addr) (E1 E2 : Nat → Nat) (aT : Option Addr) (cT gF : Nat) (hP : StP B E w K n T F aA cA H1 H2 D1 D2 E1 E2 aT cT gF) (v : Nat) (hv : v < n.nodes.toNat) : Calls Try.prog 45 #[.pointer (some ⟨K, 0, none⟩), .int .i64 (v : Int)] w fun e w' => e = .returned (.slice (D1 v) (inArcsN n v).length (E1 v)) ∧ w' = w := by
  have y1 := hP.blk.cell (k := 1) rfl
  have y2 := (hP.ins v hv).1
  generalize n.nodes.toNat = N at *
  have hm : (v : Int) < (N : Int) := by omega
  clear hP
  generalize (inArcsN n v).length = M at *
  generalize D1 v = d at *
  generalize E1 v = c at *
  go_enter Try.func45, Try.ntmps45
  go_wp2
  go_ret
  exact ⟨rfl, rfl⟩

set_option maxRecDepth 100000 in
set_option maxHeartbeats 1000000 in
theorem outArcs_any {B E : Nat} (w : World) (K : Nat) (n : NN) (T F : List Int) (aA : Option Addr) (cA H1 H2 : Nat) (D1 D2 : Nat → Option Addr) (E1 E2 : Nat → Nat) (aT : Option Addr) (cT gF : Nat) (hP : StP B E w K n T F aA cA H1 H2 D1 D2 E1 E2 aT cT gF) (v : Nat) (hv : v < n.nodes.toNat) : Calls Try.prog 52 #[.pointer (some ⟨K, 0, none⟩), .int .i64 (v : Int)] w fun e w' => e = .returned (.slice (D2 v) (outArcsN n v).length (E2 v)) ∧ w' = w := by
  have y1 := hP.blk.cell (k := 2) rfl
  have y2 := (hP.outs v hv).1
  generalize n.nodes.toNat = N at *
  have hm : (v : Int) < (N : Int) := by omega
  clear hP
  generalize (outArcsN n v).length = M at *
  generalize D2 v = d at *
  generalize E2 v = c at *
  go_enter Try.func52, Try.ntmps52
  go_wp2
  go_ret
  exact ⟨rfl, rfl⟩

set_option maxRecDepth 100000 in
set_option maxHeartbeats 4000000 in
theorem short_any {B E : Nat} (w : World) (K : Nat) (n : NN) (T F : List Int) (h : StE B E w K n T F) (v : Int) : Calls Try.prog 32 #[.pointer (some ⟨K, 0, none⟩), .int .i64 v] w fun e w' => e = .returned (.int .i64 (shortN n T v)) ∧ Below w.heap.size w w' := by
  have IN := hiddenN (isNode_any w K n T F h v)
  obtain ⟨aA, cA, H1, H2, D1, D2, E1, E2, aT, cT, gF, hP⟩ := h
  unfold shortN
  cases hb : nodeB n v with
  | false =>
    rw [hb] at IN
    rw [if_neg (by decide)]
    clear hP
    go_enter Try.func32, Try.ntmps32
    go_wp2_with (go_at_call 43; (with_reducible refine IN.out.mono ?_); rintro e w' ⟨rfl, hw'⟩; rw [hw']; clear hw' w')
    go_ret
    exact ⟨rfl, Below.refl _ _⟩
  | true =>
    rw [hb] at IN
    rw [if_pos rfl]
    have hv : 0 ≤ v ∧ v < n.nodes := of_decide_eq_true hb
    obtain ⟨vn, rfl⟩ : ∃ k : Nat, v = (k : Int) := ⟨v.toNat, by omega⟩
    have hvn : vn < n.nodes.toNat := by omega
    have IA := hiddenN (inArcs_any w K n T F aA cA H1 H2 D1 D2 E1 E2 aT cT gF hP vn hvn)
    have HR := hiddenN (hP.ins vn hvn).2
    have RN := hiddenN (fun q (hq : q < (inArcsN n vn).length) => posU_nth (p := toB vn) (A := n.arcs) (q := n.arcs.length) (k := q) hq)
    have RL : (inArcsN n vn).length ≤ 96 := Nat.le_trans (posU_len _ _ _) hP.sound.most
    have HP := hiddenN hP
    have y0 := hP.blk.cell (k := 0) rfl
    have y3 := hP.blk.cell (k := 3) rfl
    have hlT := hP.lT
    have hmost := hP.sound.most
    clear hP hb hv hvn
    generalize D1 vn = d at *
    generalize E1 vn = c at *
    obtain ⟨R, hR⟩ : ∃ R, inArcsN n vn = R := ⟨_, rfl⟩
    have hR' : posU (toB vn) n.arcs n.arcs.length = R := hR
    rw [hR] at IA HR RN RL ⊢
    obtain ⟨M, hM⟩ : ∃ M, R.length = M := ⟨_, rfl⟩
    rw [hM] at IA RN RL
    rw [hR'] at RN
    clear hR hR'
    go_enter Try.func32, Try.ntmps32
    go_wp2_with (first | (go_at_call 43; (with_reducible refine IN.out.mono ?_); rintro e w' ⟨rfl, hw'⟩; rw [hw']; clear hw' w') | (go_at_call 45; (with_reducible refine IA.out.mono ?_); rintro e w' ⟨rfl, hw'⟩; rw [hw']; clear hw' w'))
    clear IN IA
    go_loopg [21] M (fun gk u wr => ∃ q : Nat, q ≤ M ∧ gk = M - q ∧ u = .int .i64 (q : Int) ∧ Below w.heap.size w wr ∧ ∀ j, j < q → lackB n.arcs T (nth R j) = false)
    case atStart => exact ⟨0, Nat.zero_le _, rfl, rfl, Below.refl _ _, fun j hj => by omega⟩
    case round =>
      obtain ⟨q, hq, rfl, rfl, hB, hE⟩ := hrel
      have HB := hiddenN hB
      have HE := hiddenN hE
      clear hB hE
      by_cases hlt : q < M
      · have hki : (q : Int) < (M : Int) := by omega
        rcases HR.out.below HB.out with e | ⟨rb, ro, rfl, hc⟩
        · rw [e] at hM; simp at hM; omega
        have c0 := hc q (by omega)
        obtain ⟨ix, hi, hil, -⟩ := RN.out q hlt
        have HS := hiddenN (short_here (A := n.arcs) (T := T) (R := R) (k := q) (by omega) HE.out)
        have HZ : Hid (lackB n.arcs T (nth R q) = false → ∀ j, j < q + 1 → lackB n.arcs T (nth R j) = false) := fun h0 j hj => by
          by_cases e : j = q
          · subst e; exact h0
          · exact HE.out j (by omega)
        rw [hi] at c0 HS HZ
        have lk : lackB n.arcs T (ix : Int) = decide (nth T ix < (nthNa n.arcs ix).k) := by unfold lackB; rw [Int.toNat_natCast]
        rw [lk] at HS HZ
        have hP1 := HP.out.below HB.out
        rcases hP1.arcs with e | ⟨ab, ao, rfl, hca⟩
        · rw [e] at hil; simp at hil
        obtain ⟨-, -, -, c3, -⟩ := hca ix hil
        obtain ⟨gT, rfl, -, -⟩ := hP1.tok.there (by omega)
        rcases hP1.tok.at with e | ⟨tb, tof, et, cT'⟩
        · rw [e] at hlT; simp at hlT; omega
        obtain ⟨rfl, rfl⟩ : gT = tb ∧ 0 = tof := by simp at et; exact ⟨et.1, et.2⟩
        have c5 := cT' ix (by omega)
        rw [Nat.zero_add] at c5
        have z0 := hP1.blk.cell (k := 0) rfl
        have z3 := hP1.blk.cell (k := 3) rfl
        simp only [List.getElem_toArray, List.getElem_cons_zero, List.getElem_cons_succ] at z0 z3
        have hm1 : ix < T.length := by omega
        have hm2 : ix < n.arcs.length := by omega
        generalize n.arcs.length = al at *
        generalize T.length = tl at *
        generalize nth T ix = x at *
        generalize (nthNa n.arcs ix).k = y at *
        clear hca hc cT' et hP1 hi lk y0 y3
        go_upto_region 8 with fail

        refine wp_region_said 16 (fun i u v => match i with
            | 0 => v = .pointer (some ⟨K, 0, none⟩)
            | 1 => v = .pointer (some ⟨K, 0, none⟩)
            | 2 => v = .pointer (some ⟨K, 3, none⟩)
            | 3 => v = .slice (some ⟨gT, 0, none⟩) tl cT
            | 4 => v = .int .i64 (ix : Int)
            | 5 => v = .pointer (some ⟨gT, ix, none⟩)
            | 6 => v = .int .i64 x
            | 7 => v = .pointer (some ⟨K, 0, none⟩)
            | 8 => v = .pointer (some ⟨K, 0, none⟩)
            | 9 => v = .pointer (some ⟨K, 0, none⟩)
            | 10 => v = .pointer (some ⟨K, 0, none⟩)
            | 11 => v = .slice (some ⟨ab, ao, none⟩) al cA
            | 12 => v = .int .i64 (ix : Int)
            | 13 => v = .pointer (some ⟨ab, ao + ix * 5, none⟩)
            | 14 => v = .pointer (some ⟨ab, ao + ix * 5 + 3, none⟩)
            | 15 => v = .int .i64 y
            | _ => True) (by kernel_rfl) (by kernel_rfl) (by kernel_rfl) (by kernel_rfl) ?_ ?_ ?_
        · intro i w v w' h hb
          match i, h with
          | 0, h => exact h
          | 1, h => exact h
          | 2, h => exact h
          | 3, h => exact h
          | 4, h => exact h
          | 5, h => exact h
          | 6, h => exact h
          | 7, h => exact h
          | 8, h => exact h
          | 9, h => exact h
          | 10, h => exact h
          | 11, h => exact h
          | 12, h => exact h
          | 13, h => exact h
          | 14, h => exact h
          | 15, h => exact h
          | _ + 16, _ => trivial
        · intro i o ρ w' hi ho hb hc hf hfr hdep
          have k0 := cellN_later hb z0
          have k3 := cellN_later hb z3
          have kT := cellN_later hb c5
          have kA := cellN_later hb c3
          match i, hi with
          | 0, _ =>
            simp only [List.getElem?_toArray, List.getElem?_cons_zero, Option.some.injEq] at ho
            subst ho
            have ts : ρ (.tmp 0) = .pointer (some ⟨K, 0, none⟩) := hfr 0 (by kernel_rfl)
            simp [go_sem, ts]
            exact ⟨Below.refl _ _, rfl⟩
          | 1, _ =>
            simp only [List.getElem?_toArray, List.getElem?_cons_zero, List.getElem?_cons_succ, Option.some.injEq] at ho
            subst ho
            have t0 : ρ (.tmp 25) = .pointer (some ⟨K, 0, none⟩) := hdep 0 25 (by kernel_rfl) (by kernel_rfl)
            simp [go_sem, t0]
            exact ⟨Below.refl _ _, rfl⟩
          | 2, _ =>
            simp only [List.getElem?_toArray, List.getElem?_cons_zero, List.getElem?_cons_succ, Option.some.injEq] at ho
            subst ho
            have t0 : ρ (.tmp 26) = .pointer (some ⟨K, 0, none⟩) := hdep 1 26 (by kernel_rfl) (by kernel_rfl)
            simp [go_sem, t0]
            exact ⟨Below.refl _ _, rfl⟩
          | 3, _ =>
            simp only [List.getElem?_toArray, List.getElem?_cons_zero, List.getElem?_cons_succ, Option.some.injEq] at ho
            subst ho
            have ts : ρ (.tmp 27) = .pointer (some ⟨K, 3, none⟩) := hdep 2 27 (by kernel_rfl) (by kernel_rfl)
            simp [go_sem, ts, k3]
            exact ⟨Below.refl _ _, rfl⟩
          | 4, _ =>
            simp only [List.getElem?_toArray, List.getElem?_cons_zero, List.getElem?_cons_succ, Option.some.injEq] at ho
            subst ho
            have ts : ρ (.tmp 6) = .int .i64 (ix : Int) := hfr 6 (by kernel_rfl)
            simp [go_sem, ts]
            exact ⟨Below.refl _ _, rfl⟩
          | 5, _ =>
            simp only [List.getElem?_toArray, List.getElem?_cons_zero, List.getElem?_cons_succ, Option.some.injEq] at ho
            subst ho
            have t0 : ρ (.tmp 28) = .slice (some ⟨gT, 0, none⟩) tl cT := hdep 3 28 (by kernel_rfl) (by kernel_rfl)
            have t1 : ρ (.tmp 29) = .int .i64 (ix : Int) := hdep 4 29 (by kernel_rfl) (by kernel_rfl)
            simp [go_sem, t0, t1, hm1]
            exact ⟨Below.refl _ _, rfl⟩
          | 6, _ =>
            simp only [List.getElem?_toArray, List.getElem?_cons_zero, List.getElem?_cons_succ, Option.some.injEq] at ho
            subst ho
            have ts : ρ (.tmp 30) = .pointer (some ⟨gT, ix, none⟩) := hdep 5 30 (by kernel_rfl) (by kernel_rfl)
            simp [go_sem, ts, kT]
            exact ⟨Below.refl _ _, rfl⟩
          | 7, _ =>
            simp only [List.getElem?_toArray, List.getElem?_cons_zero, List.getElem?_cons_succ, Option.some.injEq] at ho
            subst ho
            have ts : ρ (.tmp 0) = .pointer (some ⟨K, 0, none⟩) := hfr 0 (by kernel_rfl)
            simp [go_sem, ts]
            exact ⟨Below.refl _ _, rfl⟩
          | 8, _ =>
            simp only [List.getElem?_toArray, List.getElem?_cons_zero, List.getElem?_cons_succ, Option.some.injEq] at ho
            subst ho
            have t0 : ρ (.tmp 32) = .pointer (some ⟨K, 0, none⟩) := hdep 7 32 (by kernel_rfl) (by kernel_rfl)
            simp [go_sem, t0]
            exact ⟨Below.refl _ _, rfl⟩
          | 9, _ =>
            simp only [List.getElem?_toArray, List.getElem?_cons_zero, List.getElem?_cons_succ, Option.some.injEq] at ho
            subst ho
            have t0 : ρ (.tmp 33) = .pointer (some ⟨K, 0, none⟩) := hdep 8 33 (by kernel_rfl) (by kernel_rfl)
            simp [go_sem, t0]
            exact ⟨Below.refl _ _, rfl⟩
          | 10, _ =>
            simp only [List.getElem?_toArray, List.getElem?_cons_zero, List.getElem?_cons_succ, Option.some.injEq] at ho
            subst ho
            have t0 : ρ (.tmp 34) = .pointer (some ⟨K, 0, none⟩) := hdep 9 34 (by kernel_rfl) (by kernel_rfl)
            simp [go_sem, t0]
            exact ⟨Below.refl _ _, rfl⟩
          | 11, _ =>
            simp only [List.getElem?_toArray, List.getElem?_cons_zero, List.getElem?_cons_succ, Option.some.injEq] at ho
            subst ho
            have ts : ρ (.tmp 35) = .pointer (some ⟨K, 0, none⟩) := hdep 10 35 (by kernel_rfl) (by kernel_rfl)
            simp [go_sem, ts, k0]
            exact ⟨Below.refl _ _, rfl⟩
          | 12, _ =>
            simp only [List.getElem?_toArray, List.getElem?_cons_zero, List.getElem?_cons_succ, Option.some.injEq] at ho
            subst ho
            have ts : ρ (.tmp 6) = .int .i64 (ix : Int) := hfr 6 (by kernel_rfl)
            simp [go_sem, ts]
            exact ⟨Below.refl _ _, rfl⟩
          | 13, _ =>
            simp only [List.getElem?_toArray, List.getElem?_cons_zero, List.getElem?_cons_succ, Option.some.injEq] at ho
            subst ho
            have t0 : ρ (.tmp 36) = .slice (some ⟨ab, ao, none⟩) al cA := hdep 11 36 (by kernel_rfl) (by kernel_rfl)
            have t1 : ρ (.tmp 37) = .int .i64 (ix : Int) := hdep 12 37 (by kernel_rfl) (by kernel_rfl)
            simp [go_sem, t0, t1, hm2]
            exact ⟨Below.refl _ _, rfl⟩
          | 14, _ =>
            simp only [List.getElem?_toArray, List.getElem?_cons_zero, List.getElem?_cons_succ, Option.some.injEq] at ho
            subst ho
            have t0 : ρ (.tmp 38) = .pointer (some ⟨ab, ao + ix * 5, none⟩) := hdep 13 38 (by kernel_rfl) (by kernel_rfl)
            simp [go_sem, t0]
            exact ⟨Below.refl _ _, rfl⟩
          | 15, _ =>
            simp only [List.getElem?_toArray, List.getElem?_cons_zero, List.getElem?_cons_succ, Option.some.injEq] at ho
            subst ho
            have ts : ρ (.tmp 39) = .pointer (some ⟨ab, ao + ix * 5 + 3, none⟩) := hdep 14 39 (by kernel_rfl) (by kernel_rfl)
            simp [go_sem, ts, kA]
            exact ⟨Below.refl _ _, rfl⟩
          | k + 16, h => exact absurd h (by omega)
        · intro V w9 q9 hS
          have e0 : V 0 = .pointer (some ⟨K, 0, none⟩) := hS 0 (by decide)
          have e1 : V 1 = .pointer (some ⟨K, 0, none⟩) := hS 1 (by decide)
          have e2 : V 2 = .pointer (some ⟨K, 3, none⟩) := hS 2 (by decide)
          have e3 : V 3 = .slice (some ⟨gT, 0, none⟩) tl cT := hS 3 (by decide)
          have e4 : V 4 = .int .i64 (ix : Int) := hS 4 (by decide)
          have e5 : V 5 = .pointer (some ⟨gT, ix, none⟩) := hS 5 (by decide)
          have e6 : V 6 = .int .i64 x := hS 6 (by decide)
          have e7 : V 7 = .pointer (some ⟨K, 0, none⟩) := hS 7 (by decide)
          have e8 : V 8 = .pointer (some ⟨K, 0, none⟩) := hS 8 (by decide)
          have e9 : V 9 = .pointer (some ⟨K, 0, none⟩) := hS 9 (by decide)
          have e10 : V 10 = .pointer (some ⟨K, 0, none⟩) := hS 10 (by decide)
          have e11 : V 11 = .slice (some ⟨ab, ao, none⟩) al cA := hS 11 (by decide)
          have e12 : V 12 = .int .i64 (ix : Int) := hS 12 (by decide)
          have e13 : V 13 = .pointer (some ⟨ab, ao + ix * 5, none⟩) := hS 13 (by decide)
          have e14 : V 14 = .pointer (some ⟨ab, ao + ix * 5 + 3, none⟩) := hS 14 (by decide)
          have e15 : V 15 = .int .i64 y := hS 15 (by decide)
          simp only [List.drop_succ_cons, List.drop_zero, List.take_succ_cons, List.take_zero, puts, e0, e1, e2, e3, e4, e5, e6, e7, e8, e9, e10, e11, e12, e13, e14, e15]
          clear hS e0 e1 e2 e3 e4 e5 e6 e7 e8 e9 e10 e11 e12 e13 e14 e15 V

          have B9 := hiddenN (HB.out.trans (q9.mono HB.out.size))
          clear q9
          by_cases hxy : x < y
          · have hd := decide_eq_true hxy
            rw [hd] at HS
            clear hd
            go_wp2
            go_ret
            rw [HS.out (by first | rfl | trivial)]
            exact ⟨rfl, B9.out⟩
          · have hd := decide_eq_false hxy
            rw [hd] at HZ
            clear hd
            go_wp2
            go_roundg (M - (q + 1))
            case measure => omega
            case rel => exact ⟨q + 1, by omega, rfl, by go_num, B9.out, HZ.out (by first | rfl | trivial)⟩
      · have ek : q = M := by omega
        subst ek
        have hki : ¬ (q : Int) < (q : Int) := by omega
        have HN := hiddenN (short_none (A := n.arcs) (T := T) (R := R) (fun j hj => HE.out j (by omega)))
        go_wp2
        go_ret
        rw [HN.out]
        exact ⟨rfl, HB.out⟩
theorem may_iff (n : NN) (T : List Int) (v : Int) : mayN n T v = (nodeB n v && decide (shortN n T v = -1)) := by
  unfold mayN shortN
  cases h : nodeB n v
  · rfl
  · rw [if_pos rfl]
set_option maxRecDepth 100000 in
set_option maxHeartbeats 2000000 in
theorem may_any {B E : Nat} (w : World) (K : Nat) (n : NN) (T F : List Int) (h : StE B E w K n T F) (v : Int) : Calls Try.prog 26 #[.pointer (some ⟨K, 0, none⟩), .int .i64 v] w fun e w' => e = .returned (.bool (mayN n T v)) ∧ Below w.heap.size w w' := by
  have IN := hiddenN (isNode_any w K n T F h v)
  have SH := hiddenN (short_any w K n T F h v)
  rw [may_iff]
  clear h
  generalize shortN n T v = s at *
  cases hb : nodeB n v with
  | false =>
    rw [hb] at IN
    rw [Bool.false_and]
    go_enter Try.func26, Try.ntmps26
    go_wp2_with (go_at_call 43; (with_reducible refine IN.out.mono ?_); rintro e w' ⟨rfl, hw'⟩; rw [hw']; clear hw' w')
    go_ret
    exact ⟨rfl, Below.refl _ _⟩
  | true =>
    rw [hb] at IN
    rw [Bool.true_and]
    go_enter Try.func26, Try.ntmps26
    go_wp2_with (first | (go_at_call 43; (with_reducible refine IN.out.mono ?_); rintro e w' ⟨rfl, hw'⟩; rw [hw']; clear hw' w') | (go_at_call 32; (with_reducible refine SH.out.mono ?_); rintro e w' ⟨rfl, b1⟩; have B1 := hiddenN b1; clear b1))
    go_ret
    exact ⟨by by_cases e : s = -1 <;> simp [e], B1.out⟩
end Go.Proofs.Ytancphohpedigaa

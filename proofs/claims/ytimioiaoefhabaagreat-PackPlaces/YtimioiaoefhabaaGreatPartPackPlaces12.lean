/- Texts of one chain, laid one behind the other. -/
import Derived.Test.YtimioiaoefhabaaGreatPartPackPlaces11
import Derived.Handy
import Derived.WalkSpells
import Derived.Test.YtimioiaoefhabaaGreatPartPackPlaces3
namespace Go.Proofs.YtimioiaoefhabaaGreat
open Go.ChangeShapes Go.WideShapes Go.ChangeAt Go.RowKit
def RowEndN (w : World) (zs : List Int) (e : Ending) (w' : World) : Prop := ∃ (a : Option Addr) (cap : Nat), e = .returned (.slice a zs.length cap) ∧ CapR w.heap.size w' a cap zs ∧ Below w.heap.size w w'
theorem emptyN_own (w : World) : (w.alloc (.cells #[] 3)).ownsRow w.heap.size 3 1 (.slice (some ⟨w.heap.size, 0, none⟩) 0 0) 0 [] :=
  ⟨rfl, .inr ⟨w.heap.size, 0, #[], rfl, Nat.le_refl _, by show (w.heap.push _)[w.heap.size]? = _; simp, Nat.le_refl _, by unfold maxLen; omega, rfl, rfl⟩⟩
set_option maxRecDepth 100000 in
set_option maxHeartbeats 400000 in
theorem cloneN_any (a : Option Addr) (zs : List Int) (len cap : Nat) (w : World) (hl : zs.length = len) (hr : len * 8 ≤ 140737488351232) (hn : a = none → len = 0 ∧ cap = 0) (h : At w a zs) :
    Calls Tryz.prog 83 #[.slice a len cap] w (RowEndN w zs) := by
  obtain ⟨i0, hi, hz0, hz1, hz2⟩ := info_parts Tryz.info3
  cases a with
  | none =>
    obtain ⟨rfl, rfl⟩ := hn rfl
    have e : zs = [] := List.eq_nil_of_length_eq_zero hl
    subst e
    have q0 := Lib.run_eql_slice_nil (P := Tryz.prog) w 25 3 none 0 0 0 0 Tryz.underlying25
    go_enter Tryz.func83, Tryz.ntmps83
    go_wp2
    go_ret
    exact ⟨none, 0, rfl, World.ownsRow_nil _ _ _ _, Below.refl _ _⟩
  | some ad =>
    have EO := hiddenN (emptyN_own w)
    have HA := hiddenN (h.below ((Below.refl w.heap.size w).alloc (Nat.le_refl _) (.cells #[] 3)))
    clear h
    have q0 := Lib.run_eql_slice_nil (P := Tryz.prog) w 25 3 (some ad) len cap 0 0 Tryz.underlying25
    go_enter Tryz.func83, Tryz.ntmps83
    go_wp2_with (at_builtin; refine wpList_append_own _ rfl _ _ 25 rfl w.heap.size 3 i0 (.int .i64 0) 1 8 Tryz.underlying25 hi hz0 hz1 hz2 rfl (by decide) _ 0 [] rfl EO.out ad len cap (zs.map (Value.int .i64)) rfl (by simp [hl]) (lies_new HA.out) (ints_oneCell _ _) ?c3 ?c4 (by simp) ?_)
    case c3 => unfold maxLen; omega
    case c4 => omega
    intro v' w1 hown hgrow _
    have hown' : w1.ownsRow w.heap.size 3 1 v' len (zs.map (Value.int .i64)) := by simpa using hown
    obtain ⟨a', cap', hv, -, hat', hc', hn', hb'⟩ := owns_at (n := len) (zs := zs) hown'
    rw [hv]
    go_wp2
    go_ret
    refine ⟨a', cap', by rw [hl]; rfl, ?_, ((Below.refl _ _).alloc (Nat.le_refl _) _).grown hgrow (by simp) (fun k h => by cases h; exact Nat.le_refl _)⟩
    unfold CapR
    rw [hl, ← hv]
    exact hown'
theorem CapR.noneN {base : Nat} {w : World} {cap : Nat} {zs : List Int} (h : CapR base w none cap zs) : zs.length = 0 ∧ cap = 0 := by
  rcases h.2 with h2 | ⟨g, c, cur, hv, -⟩
  · have := h2.1; simp at this; exact ⟨by rw [this.1]; rfl, this.2⟩
  · cases hv
set_option maxRecDepth 100000 in
set_option maxHeartbeats 1000000 in
theorem counts_any {B E : Nat} (w : World) (K : Nat) (n : NN) (T F : List Int) (h : StE B E w K n T F) : Calls Tryz.prog 63 #[.pointer (some ⟨K, 0, none⟩)] w (RowEndN w T) := by
  obtain ⟨aA, cA, H1, H2, D1, D2, E1, E2, aT, cT, gF, hP⟩ := h
  have y3 := hP.blk.cell (k := 3) rfl
  simp only [List.getElem_toArray, List.getElem_cons_zero, List.getElem_cons_succ] at y3
  have hlen : T.length ≤ 96 := by have := hP.lT; have := hP.lF; have := hP.sound.most; have := hP.sound.nodes; omega
  have hC := hiddenN (cloneN_any aT T T.length cT w rfl (by omega) (fun e => by subst e; exact hP.tok.noneN) hP.tok.at)
  generalize aT = ad at *
  generalize cT = c at *
  clear hP
  go_enter Tryz.func63, Tryz.ntmps63
  go_wp2_with (go_at_call 83; (with_reducible refine hC.out.mono ?_); rintro e w' ⟨a', cap', rfl, h1, h2⟩; have R1 := hiddenN h1; have R2 := hiddenN h2; clear h1 h2)
  go_ret
  exact ⟨_, _, rfl, R1.out, R2.out⟩
theorem wrapN (x : Int) : IntKind.i64.wrap x = wrap64 x := by rw [IntKind.wrap_i64]; unfold wrap64; rfl
set_option maxRecDepth 100000 in
set_option maxHeartbeats 8000000 in
theorem fire_any {B E : Nat} (w : World) (K : Nat) (n : NN) (T F : List Int) (h : StE B E w K n T F) (v : Int) (hv : nodeB n v = true) : Calls Tryz.prog 85 #[.pointer (some ⟨K, 0, none⟩), .int .i64 v] w fun e w' => e = .returned (.tuple #[]) ∧ StE B E w' K n (fireN n T v) (bumpF F v) ∧ Mid B E w w' := by
  obtain ⟨aA, cA, H1, H2, D1, D2, E1, E2, aT, cT, gF, hP⟩ := h
  have hv : 0 ≤ v ∧ v < n.nodes := of_decide_eq_true hv
  obtain ⟨vn, rfl⟩ : ∃ k : Nat, v = (k : Int) := ⟨v.toNat, by omega⟩
  have hvn : vn < n.nodes.toNat := by omega
  unfold fireN
  have IA := hiddenN (fun (W : World) (T' F' : List Int) (hS : StP B E W K n T' F' aA cA H1 H2 D1 D2 E1 E2 aT cT gF) => inArcs_any W K n T' F' aA cA H1 H2 D1 D2 E1 E2 aT cT gF hS vn hvn)
  have HI := hiddenN (fun (W : World) (T' : List Int) (hS : StP B E W K n T' F aA cA H1 H2 D1 D2 E1 E2 aT cT gF) => (hS.ins vn hvn).2)
  have NI := hiddenN (fun q (hq : q < (inArcsN n vn).length) => posU_nth (p := toB vn) (A := n.arcs) (q := n.arcs.length) (k := q) hq)
  have OA := hiddenN (fun (W : World) (T' F' : List Int) (hS : StP B E W K n T' F' aA cA H1 H2 D1 D2 E1 E2 aT cT gF) => outArcs_any W K n T' F' aA cA H1 H2 D1 D2 E1 E2 aT cT gF hS vn hvn)
  have HO := hiddenN (fun (W : World) (T' : List Int) (hS : StP B E W K n T' F aA cA H1 H2 D1 D2 E1 E2 aT cT gF) => (hS.outs vn hvn).2)
  have NO := hiddenN (fun q (hq : q < (outArcsN n vn).length) => posU_nth (p := fromB vn) (A := n.arcs) (q := n.arcs.length) (k := q) hq)
  have RLI : (inArcsN n vn).length ≤ 96 := Nat.le_trans (posU_len _ _ _) hP.sound.most
  have RLO : (outArcsN n vn).length ≤ 96 := Nat.le_trans (posU_len _ _ _) hP.sound.most
  have HP := hiddenN hP
  have hmost := hP.sound.most
  have hnn := (nodes_nat hP.sound).2
  clear hP hv
  obtain ⟨RI, hRI⟩ : ∃ R, inArcsN n vn = R := ⟨_, rfl⟩
  obtain ⟨RO, hRO⟩ : ∃ R, outArcsN n vn = R := ⟨_, rfl⟩
  have hRI' : posU (toB vn) n.arcs n.arcs.length = RI := hRI
  have hRO' : posU (fromB vn) n.arcs n.arcs.length = RO := hRO
  rw [hRI'] at NI
  rw [hRO'] at NO
  rw [hRI] at IA HI NI RLI ⊢
  rw [hRO] at OA HO NO RLO ⊢
  obtain ⟨MI, hMI⟩ : ∃ M, RI.length = M := ⟨_, rfl⟩
  obtain ⟨MO, hMO⟩ : ∃ M, RO.length = M := ⟨_, rfl⟩
  rw [hMI] at IA NI RLI ⊢
  rw [hMO] at OA NO RLO ⊢
  clear hRI hRI' hRO hRO'
  obtain ⟨Id, hId⟩ : ∃ d, D1 vn = d := ⟨_, rfl⟩
  obtain ⟨Od, hOd⟩ : ∃ d, D2 vn = d := ⟨_, rfl⟩
  rw [hId] at IA HI
  rw [hOd] at OA HO
  clear hId hOd
  have IA0 := hiddenN (IA.out w _ _ HP.out)
  generalize E1 vn = Ic at *
  generalize E2 vn = Oc at *
  clear IA
  go_enter Tryz.func85, Tryz.ntmps85
  go_wp2_with (go_at_call 110; (with_reducible refine IA0.out.mono ?_); rintro e w' ⟨rfl, hw'⟩; rw [hw']; clear hw' w')
  clear IA0
  go_loopg [14] MI (fun gk u wr => ∃ q : Nat, q ≤ MI ∧ gk = MI - q ∧ u = .int .i64 (q : Int) ∧ StP B E wr K n (takeU n.arcs RI T q) F aA cA H1 H2 D1 D2 E1 E2 aT cT gF ∧ Mid B E w wr)
  case atStart => exact ⟨0, Nat.zero_le _, rfl, rfl, HP.out, Mid.refl _ _ _⟩
  case round =>
    clear HP
    obtain ⟨q, hq, rfl, rfl, hS, hB⟩ := hrel
    have HS := hiddenN hS
    have HB := hiddenN hB
    clear hS hB
    by_cases hlt : q < MI
    · have hki : (q : Int) < (MI : Int) := by omega
      have hRw : At wr Id RI := (HI.out wr _ HS.out)
      rcases hRw with e | ⟨rb, ro, rfl, hc⟩
      · rw [e] at hMI; simp at hMI; omega
      have c0 := hc q (by omega)
      obtain ⟨ix, hi, hil, -⟩ := NI.out q hlt
      rw [hi] at c0
      have hP1 := HS.out
      have hlen : (takeU n.arcs RI T q).length = n.arcs.length := hP1.lT
      have US : takeU n.arcs RI T (q + 1) = (takeU n.arcs RI T q).set ix (wrap64 (nth (takeU n.arcs RI T q) ix - (nthNa n.arcs ix).k)) := by
        show (takeU n.arcs RI T q).set (nth RI q).toNat _ = _
        rw [hi, Int.toNat_natCast]
      rcases hP1.arcs with e | ⟨ab, ao, rfl, hca⟩
      · rw [e] at hil; simp at hil
      obtain ⟨-, -, c2', c3', -⟩ := hca ix hil
      have c3 := c3'
      clear c2' c3'
      obtain ⟨gT, rfl, -, -⟩ := hP1.tok.there (by omega)
      rcases hP1.tok.at with e | ⟨tb, tof, et, cT'⟩
      · rw [e] at hlen; simp at hlen; omega
      obtain ⟨rfl, rfl⟩ : gT = tb ∧ 0 = tof := by simp at et; exact ⟨et.1, et.2⟩
      have c5 := cT' ix (by omega)
      rw [Nat.zero_add] at c5
      have z0 := hP1.blk.cell (k := 0) rfl
      have z3 := hP1.blk.cell (k := 3) rfl
      simp only [List.getElem_toArray, List.getElem_cons_zero, List.getElem_cons_succ] at z0 z3
      have hm1 : ix < (takeU n.arcs RI T q).length := by omega
      have hm2 : ix < n.arcs.length := hil
      have fz := hiddenN fun (W : World) (hb : Below wr.heap.size wr W) => (hP1.below hb).tok.fz ix
      have NX : Hid (∀ W, Below wr.heap.size wr W → StP B E (W.setCell ⟨gT, ix, none⟩ (.int .i64 (wrap64 (nth (takeU n.arcs RI T q) ix - (nthNa n.arcs ix).k)))) K n (takeU n.arcs RI T (q + 1)) F (some ⟨ab, ao, none⟩) cA H1 H2 D1 D2 E1 E2 (some ⟨gT, 0, none⟩) cT gF) := fun W hb => by
        rw [US]
        exact (hP1.below hb).setT (wrap64_in _)
      have MX : Hid (∀ W u, Below wr.heap.size wr W → Mid B E w (W.setCell ⟨gT, ix, none⟩ u)) := fun W u hb => (HB.out.trans (Mid.of_below hb)).trans (Mid.set W ix u ⟨(hP1.iT _ rfl).1, (hP1.iT _ rfl).2.1⟩)
      generalize n.arcs.length = al at *
      generalize (takeU n.arcs RI T q).length = tl at *
      generalize nth (takeU n.arcs RI T q) ix = x at *
      generalize (nthNa n.arcs ix).k = y at *
      clear hca hc cT' et hP1 hi US hlen
      go_upto_region 3 with fail
      refine wp_region_said 17 (fun i u v => match i with
          | 0 => v = .pointer (some ⟨K, 0, none⟩)
          | 1 => v = .pointer (some ⟨K, 0, none⟩)
          | 2 => v = .pointer (some ⟨K, 3, none⟩)
          | 3 => v = .slice (some ⟨gT, 0, none⟩) tl cT
          | 4 => v = .int .i64 (ix : Int)
          | 5 => v = .pointer (some ⟨gT, ix, none⟩)
          | 6 => v = .int .i64 x
          | 7 => v = .pointer (some ⟨K, 0, none⟩)
          | 8 => v = .pointer (some ⟨K, 0, none⟩)
          | 9 => v = .pointer (some ⟨K, 0, none⟩)
          | 10 => v = .pointer (some ⟨K, 0, none⟩)
          | 11 => v = .slice (some ⟨ab, ao, none⟩) al cA
          | 12 => v = .int .i64 (ix : Int)
          | 13 => v = .pointer (some ⟨ab, ao + ix * 5, none⟩)
          | 14 => v = .pointer (some ⟨ab, ao + ix * 5 + 3, none⟩)
          | 15 => v = .int .i64 y
          | 16 => v = .int .i64 (wrap64 (x - y))
          | _ => True) (by kernel_rfl) (by kernel_rfl) (by kernel_rfl) (by kernel_rfl) ?_ ?_ ?_
      · intro i w v w' h hb
        match i, h with
        | 0, h => exact h
        | 1, h => exact h
        | 2, h => exact h
        | 3, h => exact h
        | 4, h => exact h
        | 5, h => exact h
        | 6, h => exact h
        | 7, h => exact h
        | 8, h => exact h
        | 9, h => exact h
        | 10, h => exact h
        | 11, h => exact h
        | 12, h => exact h
        | 13, h => exact h
        | 14, h => exact h
        | 15, h => exact h
        | 16, h => exact h
        | _ + 17, _ => trivial
      · intro i o ρ w' hi ho hb hc hf hfr hdep
        have k0 := cellN_later hb z0
        have k3 := cellN_later hb z3
        have kT := cellN_later hb c5
        have kA := cellN_later hb c3
        match i, hi with
        | 0, _ =>
          simp only [gTA, gCZ, gSI] at ho
          subst ho
          have ts : ρ (.tmp 0) = .pointer (some ⟨K, 0, none⟩) := hfr 0 (by kernel_rfl)
          simp [go_sem, ts]
          exact ⟨Below.refl _ _, rfl⟩
        | 1, _ =>
          simp only [gTA, gCZ, gCS, gSI] at ho
          subst ho
          have t0 : ρ (.tmp 18) = .pointer (some ⟨K, 0, none⟩) := hdep 0 18 (by kernel_rfl) (by kernel_rfl)
          simp [go_sem, t0]
          exact ⟨Below.refl _ _, rfl⟩
        | 2, _ =>
          simp only [gTA, gCZ, gCS, gSI] at ho
          subst ho
          have t0 : ρ (.tmp 19) = .pointer (some ⟨K, 0, none⟩) := hdep 1 19 (by kernel_rfl) (by kernel_rfl)
          simp [go_sem, t0]
          exact ⟨Below.refl _ _, rfl⟩
        | 3, _ =>
          simp only [gTA, gCZ, gCS, gSI] at ho
          subst ho
          have ts : ρ (.tmp 20) = .pointer (some ⟨K, 3, none⟩) := hdep 2 20 (by kernel_rfl) (by kernel_rfl)
          simp [go_sem, ts, k3]
          exact ⟨Below.refl _ _, rfl⟩
        | 4, _ =>
          simp only [gTA, gCZ, gCS, gSI] at ho
          subst ho
          have ts : ρ (.tmp 5) = .int .i64 (ix : Int) := hfr 5 (by kernel_rfl)
          simp [go_sem, ts]
          exact ⟨Below.refl _ _, rfl⟩
        | 5, _ =>
          simp only [gTA, gCZ, gCS, gSI] at ho
          subst ho
          have t0 : ρ (.tmp 21) = .slice (some ⟨gT, 0, none⟩) tl cT := hdep 3 21 (by kernel_rfl) (by kernel_rfl)
          have t1 : ρ (.tmp 22) = .int .i64 (ix : Int) := hdep 4 22 (by kernel_rfl) (by kernel_rfl)
          simp [go_sem, t0, t1, hm1]
          exact ⟨Below.refl _ _, rfl⟩
        | 6, _ =>
          simp only [gTA, gCZ, gCS, gSI] at ho
          subst ho
          have ts : ρ (.tmp 23) = .pointer (some ⟨gT, ix, none⟩) := hdep 5 23 (by kernel_rfl) (by kernel_rfl)
          simp [go_sem, ts, kT]
          exact ⟨Below.refl _ _, rfl⟩
        | 7, _ =>
          simp only [gTA, gCZ, gCS, gSI] at ho
          subst ho
          have ts : ρ (.tmp 0) = .pointer (some ⟨K, 0, none⟩) := hfr 0 (by kernel_rfl)
          simp [go_sem, ts]
          exact ⟨Below.refl _ _, rfl⟩
        | 8, _ =>
          simp only [gTA, gCZ, gCS, gSI] at ho
          subst ho
          have t0 : ρ (.tmp 25) = .pointer (some ⟨K, 0, none⟩) := hdep 7 25 (by kernel_rfl) (by kernel_rfl)
          simp [go_sem, t0]
          exact ⟨Below.refl _ _, rfl⟩
        | 9, _ =>
          simp only [gTA, gCZ, gCS, gSI] at ho
          subst ho
          have t0 : ρ (.tmp 26) = .pointer (some ⟨K, 0, none⟩) := hdep 8 26 (by kernel_rfl) (by kernel_rfl)
          simp [go_sem, t0]
          exact ⟨Below.refl _ _, rfl⟩
        | 10, _ =>
          simp only [gTA, gCZ, gCS, gSI] at ho
          subst ho
          have t0 : ρ (.tmp 27) = .pointer (some ⟨K, 0, none⟩) := hdep 9 27 (by kernel_rfl) (by kernel_rfl)
          simp [go_sem, t0]
          exact ⟨Below.refl _ _, rfl⟩
        | 11, _ =>
          simp only [gTA, gCZ, gCS, gSI] at ho
          subst ho
          have ts : ρ (.tmp 28) = .pointer (some ⟨K, 0, none⟩) := hdep 10 28 (by kernel_rfl) (by kernel_rfl)
          simp [go_sem, ts, k0]
          exact ⟨Below.refl _ _, rfl⟩
        | 12, _ =>
          simp only [gTA, gCZ, gCS, gSI] at ho
          subst ho
          have ts : ρ (.tmp 5) = .int .i64 (ix : Int) := hfr 5 (by kernel_rfl)
          simp [go_sem, ts]
          exact ⟨Below.refl _ _, rfl⟩
        | 13, _ =>
          simp only [gTA, gCZ, gCS, gSI] at ho
          subst ho
          have t0 : ρ (.tmp 29) = .slice (some ⟨ab, ao, none⟩) al cA := hdep 11 29 (by kernel_rfl) (by kernel_rfl)
          have t1 : ρ (.tmp 30) = .int .i64 (ix : Int) := hdep 12 30 (by kernel_rfl) (by kernel_rfl)
          simp [go_sem, t0, t1, hm2]
          exact ⟨Below.refl _ _, rfl⟩
        | 14, _ =>
          simp only [gTA, gCZ, gCS, gSI] at ho
          subst ho
          have t0 : ρ (.tmp 31) = .pointer (some ⟨ab, ao + ix * 5, none⟩) := hdep 13 31 (by kernel_rfl) (by kernel_rfl)
          simp [go_sem, t0]
          exact ⟨Below.refl _ _, rfl⟩
        | 15, _ =>
          simp only [gTA, gCZ, gCS, gSI] at ho
          subst ho
          have ts : ρ (.tmp 32) = .pointer (some ⟨ab, ao + ix * 5 + 3, none⟩) := hdep 14 32 (by kernel_rfl) (by kernel_rfl)
          simp [go_sem, ts, kA]
          exact ⟨Below.refl _ _, rfl⟩
        | 16, _ =>
          simp only [gTA, gCZ, gCS, gSI] at ho
          subst ho
          have t0 : ρ (.tmp 24) = .int .i64 x := hdep 6 24 (by kernel_rfl) (by kernel_rfl)
          have t1 : ρ (.tmp 33) = .int .i64 y := hdep 15 33 (by kernel_rfl) (by kernel_rfl)
          simp [go_sem, t0, t1, wrapN]
          exact ⟨Below.refl _ _, rfl⟩
        | k + 17, h => exact absurd h (by omega)
      · intro V w9 q9 hS
        have e0 : V 0 = .pointer (some ⟨K, 0, none⟩) := hS 0 (by decide)
        have e1 : V 1 = .pointer (some ⟨K, 0, none⟩) := hS 1 (by decide)
        have e2 : V 2 = .pointer (some ⟨K, 3, none⟩) := hS 2 (by decide)
        have e3 : V 3 = .slice (some ⟨gT, 0, none⟩) tl cT := hS 3 (by decide)
        have e4 : V 4 = .int .i64 (ix : Int) := hS 4 (by decide)
        have e5 : V 5 = .pointer (some ⟨gT, ix, none⟩) := hS 5 (by decide)
        have e6 : V 6 = .int .i64 x := hS 6 (by decide)
        have e7 : V 7 = .pointer (some ⟨K, 0, none⟩) := hS 7 (by decide)
        have e8 : V 8 = .pointer (some ⟨K, 0, none⟩) := hS 8 (by decide)
        have e9 : V 9 = .pointer (some ⟨K, 0, none⟩) := hS 9 (by decide)
        have e10 : V 10 = .pointer (some ⟨K, 0, none⟩) := hS 10 (by decide)
        have e11 : V 11 = .slice (some ⟨ab, ao, none⟩) al cA := hS 11 (by decide)
        have e12 : V 12 = .int .i64 (ix : Int) := hS 12 (by decide)
        have e13 : V 13 = .pointer (some ⟨ab, ao + ix * 5, none⟩) := hS 13 (by decide)
        have e14 : V 14 = .pointer (some ⟨ab, ao + ix * 5 + 3, none⟩) := hS 14 (by decide)
        have e15 : V 15 = .int .i64 y := hS 15 (by decide)
        have e16 : V 16 = .int .i64 (wrap64 (x - y)) := hS 16 (by decide)
        simp only [List.drop_succ_cons, List.drop_zero, List.take_succ_cons, List.take_zero, puts, e0, e1, e2, e3, e4, e5, e6, e7, e8, e9, e10, e11, e12, e13, e14, e15, e16]
        clear hS e0 e1 e2 e3 e4 e5 e6 e7 e8 e9 e10 e11 e12 e13 e14 e15 e16 V
        have c9 := cellN_later q9 c5
        have f9 := fz.out w9 q9
        have N9 := hiddenN (NX.out w9 q9)
        have M9 := hiddenN (MX.out w9 (.int .i64 (wrap64 (x - y))) q9)
        clear q9 fz NX MX
        go_wp2
        go_roundg (MI - (q + 1))
        case measure => omega
        case rel => exact ⟨q + 1, by omega, rfl, by go_num, N9.out, M9.out⟩
    · have ek : q = MI := by omega
      subst ek
      have hki : ¬ (q : Int) < (q : Int) := by omega
      have OA0 := hiddenN (OA.out wr _ _ HS.out)
      clear OA
      obtain ⟨T1, hT1⟩ : ∃ T1, takeU n.arcs RI T q = T1 := ⟨_, rfl⟩
      rw [hT1] at HS
      obtain ⟨wa, hwa⟩ : ∃ wa, wr = wa := ⟨_, rfl⟩
      rw [hwa] at HS HB OA0 ⊢
      clear hwa HI
      have HT1 := hiddenN hT1
      clear hT1
      go_wp2_with (go_at_call 111; (with_reducible refine OA0.out.mono ?_); rintro e w' ⟨rfl, hw'⟩; rw [hw']; clear hw' w')
      clear OA0
      go_loopg [43] MO (fun gk u wr => ∃ q : Nat, q ≤ MO ∧ gk = MO - q ∧ u = .int .i64 (q : Int) ∧ StP B E wr K n (giveU n.arcs RO T1 q) F aA cA H1 H2 D1 D2 E1 E2 aT cT gF ∧ Mid B E w wr)
      case atStart => exact ⟨0, Nat.zero_le _, rfl, rfl, HS.out, HB.out⟩
      case round =>
        clear HS HB
        obtain ⟨q, hq, rfl, rfl, hS, hB⟩ := hrel
        have HS := hiddenN hS
        have HB := hiddenN hB
        clear hS hB
        by_cases hlt : q < MO
        · have hki : (q : Int) < (MO : Int) := by omega
          have hRw : At wr Od RO := (HO.out wr _ HS.out)
          rcases hRw with e | ⟨rb, ro, rfl, hc⟩
          · rw [e] at hMO; simp at hMO; omega
          have c0 := hc q (by omega)
          obtain ⟨ix, hi, hil, -⟩ := NO.out q hlt
          rw [hi] at c0
          have hP1 := HS.out
          have hlen : (giveU n.arcs RO T1 q).length = n.arcs.length := hP1.lT
          have US : giveU n.arcs RO T1 (q + 1) = (giveU n.arcs RO T1 q).set ix (wrap64 (nth (giveU n.arcs RO T1 q) ix + (nthNa n.arcs ix).g)) := by
            show (giveU n.arcs RO T1 q).set (nth RO q).toNat _ = _
            rw [hi, Int.toNat_natCast]
          rcases hP1.arcs with e | ⟨ab, ao, rfl, hca⟩
          · rw [e] at hil; simp at hil
          obtain ⟨-, -, c2', c3', -⟩ := hca ix hil
          have c3 := c2'
          clear c2' c3'
          obtain ⟨gT, rfl, -, -⟩ := hP1.tok.there (by omega)
          rcases hP1.tok.at with e | ⟨tb, tof, et, cT'⟩
          · rw [e] at hlen; simp at hlen; omega
          obtain ⟨rfl, rfl⟩ : gT = tb ∧ 0 = tof := by simp at et; exact ⟨et.1, et.2⟩
          have c5 := cT' ix (by omega)
          rw [Nat.zero_add] at c5
          have z0 := hP1.blk.cell (k := 0) rfl
          have z3 := hP1.blk.cell (k := 3) rfl
          simp only [List.getElem_toArray, List.getElem_cons_zero, List.getElem_cons_succ] at z0 z3
          have hm1 : ix < (giveU n.arcs RO T1 q).length := by omega
          have hm2 : ix < n.arcs.length := hil
          have fz := hiddenN fun (W : World) (hb : Below wr.heap.size wr W) => (hP1.below hb).tok.fz ix
          have NX : Hid (∀ W, Below wr.heap.size wr W → StP B E (W.setCell ⟨gT, ix, none⟩ (.int .i64 (wrap64 (nth (giveU n.arcs RO T1 q) ix + (nthNa n.arcs ix).g)))) K n (giveU n.arcs RO T1 (q + 1)) F (some ⟨ab, ao, none⟩) cA H1 H2 D1 D2 E1 E2 (some ⟨gT, 0, none⟩) cT gF) := fun W hb => by
            rw [US]
            exact (hP1.below hb).setT (wrap64_in _)
          have MX : Hid (∀ W u, Below wr.heap.size wr W → Mid B E w (W.setCell ⟨gT, ix, none⟩ u)) := fun W u hb => (HB.out.trans (Mid.of_below hb)).trans (Mid.set W ix u ⟨(hP1.iT _ rfl).1, (hP1.iT _ rfl).2.1⟩)
          generalize n.arcs.length = al at *
          generalize (giveU n.arcs RO T1 q).length = tl at *
          generalize nth (giveU n.arcs RO T1 q) ix = x at *
          generalize (nthNa n.arcs ix).g = y at *
          clear hca hc cT' et hP1 hi US hlen
          go_upto_region 8 with fail
          refine wp_region_said 17 (fun i u v => match i with
              | 0 => v = .pointer (some ⟨K, 0, none⟩)
              | 1 => v = .pointer (some ⟨K, 0, none⟩)
              | 2 => v = .pointer (some ⟨K, 3, none⟩)
              | 3 => v = .slice (some ⟨gT, 0, none⟩) tl cT
              | 4 => v = .int .i64 (ix : Int)
              | 5 => v = .pointer (some ⟨gT, ix, none⟩)
              | 6 => v = .int .i64 x
              | 7 => v = .pointer (some ⟨K, 0, none⟩)
              | 8 => v = .pointer (some ⟨K, 0, none⟩)
              | 9 => v = .pointer (some ⟨K, 0, none⟩)
              | 10 => v = .pointer (some ⟨K, 0, none⟩)
              | 11 => v = .slice (some ⟨ab, ao, none⟩) al cA
              | 12 => v = .int .i64 (ix : Int)
              | 13 => v = .pointer (some ⟨ab, ao + ix * 5, none⟩)
              | 14 => v = .pointer (some ⟨ab, ao + ix * 5 + 2, none⟩)
              | 15 => v = .int .i64 y
              | 16 => v = .int .i64 (wrap64 (x + y))
              | _ => True) (by kernel_rfl) (by kernel_rfl) (by kernel_rfl) (by kernel_rfl) ?_ ?_ ?_
          · intro i w v w' h hb
            match i, h with
            | 0, h => exact h
            | 1, h => exact h
            | 2, h => exact h
            | 3, h => exact h
            | 4, h => exact h
            | 5, h => exact h
            | 6, h => exact h
            | 7, h => exact h
            | 8, h => exact h
            | 9, h => exact h
            | 10, h => exact h
            | 11, h => exact h
            | 12, h => exact h
            | 13, h => exact h
            | 14, h => exact h
            | 15, h => exact h
            | 16, h => exact h
            | _ + 17, _ => trivial
          · intro i o ρ w' hi ho hb hc hf hfr hdep
            have k0 := cellN_later hb z0
            have k3 := cellN_later hb z3
            have kT := cellN_later hb c5
            have kA := cellN_later hb c3
            match i, hi with
            | 0, _ =>
              simp only [gTA, gCZ, gSI] at ho
              subst ho
              have ts : ρ (.tmp 0) = .pointer (some ⟨K, 0, none⟩) := hfr 0 (by kernel_rfl)
              simp [go_sem, ts]
              exact ⟨Below.refl _ _, rfl⟩
            | 1, _ =>
              simp only [gTA, gCZ, gCS, gSI] at ho
              subst ho
              have t0 : ρ (.tmp 47) = .pointer (some ⟨K, 0, none⟩) := hdep 0 47 (by kernel_rfl) (by kernel_rfl)
              simp [go_sem, t0]
              exact ⟨Below.refl _ _, rfl⟩
            | 2, _ =>
              simp only [gTA, gCZ, gCS, gSI] at ho
              subst ho
              have t0 : ρ (.tmp 48) = .pointer (some ⟨K, 0, none⟩) := hdep 1 48 (by kernel_rfl) (by kernel_rfl)
              simp [go_sem, t0]
              exact ⟨Below.refl _ _, rfl⟩
            | 3, _ =>
              simp only [gTA, gCZ, gCS, gSI] at ho
              subst ho
              have ts : ρ (.tmp 49) = .pointer (some ⟨K, 3, none⟩) := hdep 2 49 (by kernel_rfl) (by kernel_rfl)
              simp [go_sem, ts, k3]
              exact ⟨Below.refl _ _, rfl⟩
            | 4, _ =>
              simp only [gTA, gCZ, gCS, gSI] at ho
              subst ho
              have ts : ρ (.tmp 7) = .int .i64 (ix : Int) := hfr 7 (by kernel_rfl)
              simp [go_sem, ts]
              exact ⟨Below.refl _ _, rfl⟩
            | 5, _ =>
              simp only [gTA, gCZ, gCS, gSI] at ho
              subst ho
              have t0 : ρ (.tmp 50) = .slice (some ⟨gT, 0, none⟩) tl cT := hdep 3 50 (by kernel_rfl) (by kernel_rfl)
              have t1 : ρ (.tmp 51) = .int .i64 (ix : Int) := hdep 4 51 (by kernel_rfl) (by kernel_rfl)
              simp [go_sem, t0, t1, hm1]
              exact ⟨Below.refl _ _, rfl⟩
            | 6, _ =>
              simp only [gTA, gCZ, gCS, gSI] at ho
              subst ho
              have ts : ρ (.tmp 52) = .pointer (some ⟨gT, ix, none⟩) := hdep 5 52 (by kernel_rfl) (by kernel_rfl)
              simp [go_sem, ts, kT]
              exact ⟨Below.refl _ _, rfl⟩
            | 7, _ =>
              simp only [gTA, gCZ, gCS, gSI] at ho
              subst ho
              have ts : ρ (.tmp 0) = .pointer (some ⟨K, 0, none⟩) := hfr 0 (by kernel_rfl)
              simp [go_sem, ts]
              exact ⟨Below.refl _ _, rfl⟩
            | 8, _ =>
              simp only [gTA, gCZ, gCS, gSI] at ho
              subst ho
              have t0 : ρ (.tmp 54) = .pointer (some ⟨K, 0, none⟩) := hdep 7 54 (by kernel_rfl) (by kernel_rfl)
              simp [go_sem, t0]
              exact ⟨Below.refl _ _, rfl⟩
            | 9, _ =>
              simp only [gTA, gCZ, gCS, gSI] at ho
              subst ho
              have t0 : ρ (.tmp 55) = .pointer (some ⟨K, 0, none⟩) := hdep 8 55 (by kernel_rfl) (by kernel_rfl)
              simp [go_sem, t0]
              exact ⟨Below.refl _ _, rfl⟩
            | 10, _ =>
              simp only [gTA, gCZ, gCS, gSI] at ho
              subst ho
              have t0 : ρ (.tmp 56) = .pointer (some ⟨K, 0, none⟩) := hdep 9 56 (by kernel_rfl) (by kernel_rfl)
              simp [go_sem, t0]
              exact ⟨Below.refl _ _, rfl⟩
            | 11, _ =>
              simp only [gTA, gCZ, gCS, gSI] at ho
              subst ho
              have ts : ρ (.tmp 57) = .pointer (some ⟨K, 0, none⟩) := hdep 10 57 (by kernel_rfl) (by kernel_rfl)
              simp [go_sem, ts, k0]
              exact ⟨Below.refl _ _, rfl⟩
            | 12, _ =>
              simp only [gTA, gCZ, gCS, gSI] at ho
              subst ho
              have ts : ρ (.tmp 7) = .int .i64 (ix : Int) := hfr 7 (by kernel_rfl)
              simp [go_sem, ts]
              exact ⟨Below.refl _ _, rfl⟩
            | 13, _ =>
              simp only [gTA, gCZ, gCS, gSI] at ho
              subst ho
              have t0 : ρ (.tmp 58) = .slice (some ⟨ab, ao, none⟩) al cA := hdep 11 58 (by kernel_rfl) (by kernel_rfl)
              have t1 : ρ (.tmp 59) = .int .i64 (ix : Int) := hdep 12 59 (by kernel_rfl) (by kernel_rfl)
              simp [go_sem, t0, t1, hm2]
              exact ⟨Below.refl _ _, rfl⟩
            | 14, _ =>
              simp only [gTA, gCZ, gCS, gSI] at ho
              subst ho
              have t0 : ρ (.tmp 60) = .pointer (some ⟨ab, ao + ix * 5, none⟩) := hdep 13 60 (by kernel_rfl) (by kernel_rfl)
              simp [go_sem, t0]
              exact ⟨Below.refl _ _, rfl⟩
            | 15, _ =>
              simp only [gTA, gCZ, gCS, gSI] at ho
              subst ho
              have ts : ρ (.tmp 61) = .pointer (some ⟨ab, ao + ix * 5 + 2, none⟩) := hdep 14 61 (by kernel_rfl) (by kernel_rfl)
              simp [go_sem, ts, kA]
              exact ⟨Below.refl _ _, rfl⟩
            | 16, _ =>
              simp only [gTA, gCZ, gCS, gSI] at ho
              subst ho
              have t0 : ρ (.tmp 53) = .int .i64 x := hdep 6 53 (by kernel_rfl) (by kernel_rfl)
              have t1 : ρ (.tmp 62) = .int .i64 y := hdep 15 62 (by kernel_rfl) (by kernel_rfl)
              simp [go_sem, t0, t1, wrapN]
              exact ⟨Below.refl _ _, rfl⟩
            | k + 17, h => exact absurd h (by omega)
          · intro V w9 q9 hS
            have e0 : V 0 = .pointer (some ⟨K, 0, none⟩) := hS 0 (by decide)
            have e1 : V 1 = .pointer (some ⟨K, 0, none⟩) := hS 1 (by decide)
            have e2 : V 2 = .pointer (some ⟨K, 3, none⟩) := hS 2 (by decide)
            have e3 : V 3 = .slice (some ⟨gT, 0, none⟩) tl cT := hS 3 (by decide)
            have e4 : V 4 = .int .i64 (ix : Int) := hS 4 (by decide)
            have e5 : V 5 = .pointer (some ⟨gT, ix, none⟩) := hS 5 (by decide)
            have e6 : V 6 = .int .i64 x := hS 6 (by decide)
            have e7 : V 7 = .pointer (some ⟨K, 0, none⟩) := hS 7 (by decide)
            have e8 : V 8 = .pointer (some ⟨K, 0, none⟩) := hS 8 (by decide)
            have e9 : V 9 = .pointer (some ⟨K, 0, none⟩) := hS 9 (by decide)
            have e10 : V 10 = .pointer (some ⟨K, 0, none⟩) := hS 10 (by decide)
            have e11 : V 11 = .slice (some ⟨ab, ao, none⟩) al cA := hS 11 (by decide)
            have e12 : V 12 = .int .i64 (ix : Int) := hS 12 (by decide)
            have e13 : V 13 = .pointer (some ⟨ab, ao + ix * 5, none⟩) := hS 13 (by decide)
            have e14 : V 14 = .pointer (some ⟨ab, ao + ix * 5 + 2, none⟩) := hS 14 (by decide)
            have e15 : V 15 = .int .i64 y := hS 15 (by decide)
            have e16 : V 16 = .int .i64 (wrap64 (x + y)) := hS 16 (by decide)
            simp only [List.drop_succ_cons, List.drop_zero, List.take_succ_cons, List.take_zero, puts, e0, e1, e2, e3, e4, e5, e6, e7, e8, e9, e10, e11, e12, e13, e14, e15, e16]
            clear hS e0 e1 e2 e3 e4 e5 e6 e7 e8 e9 e10 e11 e12 e13 e14 e15 e16 V
            have c9 := cellN_later q9 c5
            have f9 := fz.out w9 q9
            have N9 := hiddenN (NX.out w9 q9)
            have M9 := hiddenN (MX.out w9 (.int .i64 (wrap64 (x + y))) q9)
            clear q9 fz NX MX
            go_wp2
            go_roundg (MO - (q + 1))
            case measure => omega
            case rel => exact ⟨q + 1, by omega, rfl, by go_num, N9.out, M9.out⟩
        · have ek : q = MO := by omega
          subst ek
          have hki : ¬ (q : Int) < (q : Int) := by omega
          have hP1 := HS.out
          obtain ⟨T2, hT2⟩ : ∃ T2, giveU n.arcs RO T1 q = T2 := ⟨_, rfl⟩
          rw [hT2] at hP1
          have HT2 := hiddenN hT2
          have z4 := hP1.blk.cell (k := 4) rfl
          simp only [List.getElem_toArray, List.getElem_cons_zero, List.getElem_cons_succ] at z4
          rcases hP1.fir.at with e | ⟨tb, tof, et, cF⟩
          · have := hP1.lF; rw [e] at this; simp at this; omega
          obtain ⟨rfl, rfl⟩ : gF = tb ∧ 0 = tof := by simp at et; exact ⟨et.1, et.2⟩
          have c5 := cF vn (by have := hP1.lF; omega)
          rw [Nat.zero_add] at c5
          have hm1 : vn < n.nodes.toNat := hvn
          have f9 := hP1.fir.fz vn
          have eF : F.set vn (wrap64 (nth F vn + 1)) = bumpF F (vn : Int) := by unfold bumpF; rw [Int.toNat_natCast]
          have N9 : Hid (StE B E (wr.setCell ⟨gF, vn, none⟩ (.int .i64 (wrap64 (nth F vn + 1)))) K n T2 (bumpF F (vn : Int))) := by
            have h1 := hP1.setF (i := vn) (x := wrap64 (nth F vn + 1)) (wrap64_in _)
            rw [eF] at h1
            exact ⟨_, _, _, _, _, _, _, _, _, _, _, h1⟩
          have M9 := hiddenN (HB.out.trans (Mid.set wr vn (.int .i64 (wrap64 (nth F vn + 1))) hP1.iF))
          generalize nth F vn = x at *
          generalize n.nodes.toNat = Nn at *
          have hwx := wrapN (x + 1)
          clear hP1 et cF eF hT2 HS HB HO NO NI
          go_wp2
          refine bodyPost_end (v := .tuple #[]) (by simp [results, Tryz.results85, go_sem]) rfl ?_
          rw [HT1.out, HT2.out]
          exact ⟨rfl, N9.out, M9.out⟩
theorem at_lt {w : World} {a : Option Addr} {zs : List Int} (h : At w a zs) (hne : zs ≠ []) {x : Addr} (hx : a = some x) : x.block < w.heap.size := by
  rcases h with h | ⟨b, off, e, hc⟩
  · exact absurd h hne
  · rw [e] at hx
    cases hx
    have hl : 0 < zs.length := List.length_pos_iff.2 hne
    exact block_lt_of_cell (hc 0 hl)
set_option maxRecDepth 100000 in
set_option maxHeartbeats 4000000 in
theorem fires_any {B E : Nat} (w : World) (K : Nat) (n : NN) (T F : List Int) (h : StE B E w K n T F) (a : Option Addr) (c : Nat) (zs : List Int) (hz : At w a zs) (hl : zs.length ≤ 4611686018427387904) (hK : ∀ x, a = some x → zs ≠ [] → x.block < B ∨ E ≤ x.block) : Calls Tryz.prog 64 #[.pointer (some ⟨K, 0, none⟩), .slice a zs.length c] w fun e w' => e = .returned (.int .i64 ((firesN n zs T F).1 : Int)) ∧ StE B E w' K n (firesN n zs T F).2.1 (firesN n zs T F).2.2 ∧ Mid B E w w' := by
  obtain ⟨R, hR⟩ : ∃ R, firesN n zs T F = R := ⟨_, rfl⟩
  rw [hR]
  have H0 := hiddenN h
  have HZ := hiddenN hz
  obtain ⟨N, hN⟩ : ∃ N, zs.length = N := ⟨_, rfl⟩
  rw [hN] at hl ⊢
  clear h hz
  go_enter Tryz.func64, Tryz.ntmps64
  go_wp2
  go_loopg [9] N (fun gk u wr => ∃ (k : Nat) (T1 F1 : List Int), k ≤ N ∧ gk = N - k ∧ u = .int .i64 (k : Int) ∧ StE B E wr K n T1 F1 ∧ Mid B E w wr ∧ R = (k + (firesN n (zs.drop k) T1 F1).1, (firesN n (zs.drop k) T1 F1).2))
  case atStart => exact ⟨0, T, F, Nat.zero_le _, rfl, rfl, H0.out, Mid.refl _ _ _, by rw [List.drop_zero, hR, Nat.zero_add]⟩
  case round =>
    clear H0
    obtain ⟨k, T1, F1, hk, rfl, rfl, hS, hM, hE⟩ := hrel
    have HS := hiddenN hS
    have HM := hiddenN hM
    clear hS hM
    by_cases hlt : k < N
    · have hki : (k : Int) < (N : Int) := by omega
      have hne : zs ≠ [] := fun e => by rw [e] at hN; simp at hN; omega
      have hzr : At wr a zs := HZ.out.keep fun x hx => HM.out.block _ (at_lt HZ.out hne hx) (hK x hx hne)
      rcases hzr with e | ⟨zb, zo, rfl, hc⟩
      · rw [e] at hN; simp at hN; omega
      have c0 := hc k (by omega)
      have hdr : zs.drop k = nth zs k :: zs.drop (k + 1) := by
        rw [List.drop_eq_getElem_cons (by omega)]
        unfold nth
        rw [List.getD_eq_getElem?_getD, List.getElem?_eq_getElem (by omega)]
        rfl
      rw [hdr] at hE
      unfold firesN at hE
      have MY := hiddenN (may_any wr K n T1 F1 HS.out (nth zs k))
      have FI := hiddenN (fun (W : World) (hS : StE B E W K n T1 F1) (hv : nodeB n (nth zs k) = true) => fire_any W K n T1 F1 hS (nth zs k) hv)
      have mb : mayN n T1 (nth zs k) = true → nodeB n (nth zs k) = true := fun e => by unfold mayN at e; rw [Bool.and_eq_true] at e; exact e.1
      have HE := hiddenN hE
      clear hE hc hdr
      generalize nth zs k = v at *
      cases hb : mayN n T1 v with
      | false =>
        rw [hb] at MY HE
        go_wp2_with (go_at_call 84; (with_reducible refine MY.out.mono ?_); rintro e w1 ⟨rfl, b1⟩; have B1 := hiddenN b1; clear b1)
        go_ret
        rw [HE.out, if_neg (by decide)]
        exact ⟨by simp, HS.out.below B1.out, HM.out.trans (Mid.of_below B1.out)⟩
      | true =>
        rw [hb] at MY HE
        have hnb := mb hb
        rw [if_pos rfl] at HE
        clear mb hb
        go_wp2_with (first | (go_at_call 84; (with_reducible refine MY.out.mono ?_); rintro e w1 ⟨rfl, b1⟩; have B1 := hiddenN b1; clear b1; have FI1 := hiddenN (FI.out w1 (HS.out.below B1.out) hnb)) | (go_at_call 85; (with_reducible refine FI1.out.mono ?_); rintro e w2 ⟨rfl, s2, m2⟩; have S2 := hiddenN s2; have M2 := hiddenN ((HM.out.trans (Mid.of_below B1.out)).trans m2); clear s2 m2))
        go_roundg (N - (k + 1))
        case measure => omega
        case rel => exact ⟨k + 1, _, _, by omega, rfl, by go_num, S2.out, M2.out, by rw [HE.out]; simp; omega⟩
    · have ek : k = N := by omega
      subst ek
      have hki : ¬ (k : Int) < (k : Int) := by omega
      have hd : zs.drop k = [] := List.drop_eq_nil_of_le (by omega)
      rw [hd] at hE
      have HE := hiddenN hE
      clear hE hd
      go_wp2
      go_ret
      rw [HE.out]
      exact ⟨by simp [firesN], HS.out, HM.out⟩
def celN (a : NA) (j : Nat) : Value := .int .i64 (match j with | 0 => a.f | 1 => a.t | 2 => a.g | 3 => a.k | _ => a.s)
def fiveN (a : NA) : List Value := [.int .i64 a.f, .int .i64 a.t, .int .i64 a.g, .int .i64 a.k, .int .i64 a.s]
def flatN : List NA → List Value
  | [] => []
  | a :: L => fiveN a ++ flatN L
theorem flatN_len : ∀ L : List NA, (flatN L).length = L.length * 5
  | [] => rfl
  | a :: L => by
    show (fiveN a ++ flatN L).length = _
    rw [List.length_append, flatN_len L, List.length_cons]
    show 5 + L.length * 5 = _
    omega
theorem fiveN_get (a : NA) {j : Nat} (hj : j < 5) : (fiveN a)[j]? = some (celN a j) := by
  match j, hj with
  | 0, _ => rfl
  | 1, _ => rfl
  | 2, _ => rfl
  | 3, _ => rfl
  | 4, _ => rfl
theorem flatN_get : ∀ {L : List NA} {k j : Nat}, k < L.length → j < 5 → (flatN L)[k * 5 + j]? = some (celN (nthNa L k) j)
  | [], k, j, hk, _ => absurd hk (Nat.not_lt_zero _)
  | a :: L, 0, j, _, hj => by
    show (fiveN a ++ flatN L)[0 * 5 + j]? = _
    rw [Nat.zero_mul, Nat.zero_add, List.getElem?_append_left (by show j < 5; exact hj)]
    exact fiveN_get a hj
  | a :: L, k + 1, j, hk, hj => by
    show (fiveN a ++ flatN L)[(k + 1) * 5 + j]? = _
    rw [List.getElem?_append_right (by show 5 ≤ _; omega)]
    have e : (k + 1) * 5 + j - (fiveN a).length = k * 5 + j := by show (k + 1) * 5 + j - 5 = _; omega
    rw [e]
    exact flatN_get (Nat.lt_of_succ_lt_succ hk) hj
theorem AtN.flat {w : World} {ad : Addr} {L : List NA} (h : AtN w (some ad) L) : ∀ j u, (flatN L)[j]? = some u → w.cell? (ad.add j) = some u := by
  intro j u hu
  have hj : j < L.length * 5 := by rw [← flatN_len]; exact (List.getElem?_eq_some_iff.1 hu).1
  rcases h with e | ⟨b, off, e, hc⟩
  · subst e; simp at hj
  · cases e
    have hk : j / 5 < L.length := by omega
    have e1 : j = j / 5 * 5 + j % 5 := by omega
    have hr : j % 5 < 5 := Nat.mod_lt _ (by decide)
    have h1 := flatN_get (L := L) hk hr
    rw [← e1, hu] at h1
    cases h1
    obtain ⟨c0, c1, c2, c3, c4⟩ := hc (j / 5) hk
    have ea : (⟨b, off, none⟩ : Addr).add j = ⟨b, off + j / 5 * 5 + j % 5, none⟩ := by
      have e2 : off + j / 5 * 5 + j % 5 = off + j := by omega
      rw [e2]
      simp [Addr.add]
    rw [ea]
    clear ea e1
    generalize j / 5 = k at *
    generalize j % 5 = r at *
    match r, hr with
    | 0, _ => exact c0
    | 1, _ => exact c1
    | 2, _ => exact c2
    | 3, _ => exact c3
    | 4, _ => exact c4
theorem flatN_one (L : List NA) : ∀ u ∈ flatN L, u.oneCell' = true := by
  induction L with
  | nil => intro u hu; cases hu
  | cons a L ih =>
    intro u hu
    rcases List.mem_append.1 (show u ∈ fiveN a ++ flatN L from hu) with h | h
    · simp [fiveN] at h
      rcases h with rfl | rfl | rfl | rfl | rfl <;> rfl
    · exact ih u h
theorem ownsN_at {w : World} {base n : Nat} {v : Value} {L : List NA} (h : w.ownsRow base 53 5 v n (flatN L)) : ∃ a cap, v = .slice a n cap ∧ AtN w a L ∧ (∀ x, a = some x → base ≤ x.block ∧ x.block < w.heap.size) := by
  have hl : L.length = n := by have h1 := h.1; rw [flatN_len] at h1; omega
  rcases h.2 with ⟨hv, hn⟩ | ⟨g, cap, cur, hv, hg, hh, hc, hm, hs, ht⟩
  · exact ⟨none, 0, by rw [hv, hn], Or.inl (List.eq_nil_of_length_eq_zero (by omega)), fun x hx => by cases hx⟩
  · rw [hv] at h
    refine ⟨some ⟨g, 0, none⟩, cap, hv, Or.inr ⟨g, 0, rfl, fun k hk => ?_⟩, fun x hx => by cases hx; exact ⟨hg, (Array.getElem?_eq_some_iff.1 hh).1⟩⟩
    have key : ∀ j, j < 5 → w.cell? ⟨g, k * 5 + j, none⟩ = some (celN (nthNa L k) j) := fun j hj => by
      rw [h.cellAt (k * 5 + j) (by omega), flatN_get hk hj]
    rw [Nat.zero_add]
    exact ⟨key 0 (by decide), key 1 (by decide), key 2 (by decide), key 3 (by decide), key 4 (by decide)⟩
theorem Tryz.infoArc : (Tryz.prog.info? 53).map (fun i => (i.zero, i.size, i.bytes)) = some (some (.agg #[.int .i64 0, .int .i64 0, .int .i64 0, .int .i64 0, .int .i64 0]), 5, 40) := by kernel_rfl
def ArcsEnd (w : World) (L : List NA) (e : Ending) (w' : World) : Prop := ∃ (a : Option Addr) (cap : Nat), e = .returned (.slice a L.length cap) ∧ AtN w' a L ∧ (∀ x, a = some x → w.heap.size ≤ x.block ∧ x.block < w'.heap.size) ∧ Below w.heap.size w w'
theorem emptyA_own (w : World) : (w.alloc (.cells #[] 53)).ownsRow w.heap.size 53 5 (.slice (some ⟨w.heap.size, 0, none⟩) 0 0) 0 [] :=
  ⟨rfl, .inr ⟨w.heap.size, 0, #[], rfl, Nat.le_refl _, by show (w.heap.push _)[w.heap.size]? = _; simp, Nat.le_refl _, by unfold maxLen; omega, rfl, rfl⟩⟩
set_option maxRecDepth 100000 in
set_option maxHeartbeats 400000 in
theorem cloneA_any (a : Option Addr) (L : List NA) (len cap : Nat) (w : World) (hl : L.length = len) (hr : len ≤ 96) (hn : a = none → len = 0 ∧ cap = 0) (h : AtN w a L) :
    Calls Tryz.prog 107 #[.slice a len cap] w (ArcsEnd w L) := by
  obtain ⟨i0, hi, hz0, hz1, hz2⟩ := info_parts Tryz.infoArc
  cases a with
  | none =>
    obtain ⟨rfl, rfl⟩ := hn rfl
    have e : L = [] := List.eq_nil_of_length_eq_zero hl
    subst e
    have q0 := Lib.run_eql_slice_nil (P := Tryz.prog) w 22 53 none 0 0 0 0 Tryz.underlying22
    go_enter Tryz.func107, Tryz.ntmps107
    go_wp2
    go_ret
    exact ⟨none, 0, rfl, .inl rfl, (fun x hx => by cases hx), Below.refl _ _⟩
  | some ad =>
    have EO := hiddenN (emptyA_own w)
    have HA := hiddenN (h.below ((Below.refl w.heap.size w).alloc (Nat.le_refl _) (.cells #[] 53)))
    clear h
    have q0 := Lib.run_eql_slice_nil (P := Tryz.prog) w 22 53 (some ad) len cap 0 0 Tryz.underlying22
    go_enter Tryz.func107, Tryz.ntmps107
    go_wp2_with (at_builtin; refine wpList_append_own _ rfl _ _ 22 rfl w.heap.size 53 i0 _ 5 40 Tryz.underlying22 hi hz0 hz1 hz2 rfl (by decide) _ 0 [] rfl EO.out ad len cap (flatN L) rfl (by rw [flatN_len, hl]) (AtN.flat HA.out) (flatN_one L) ?c3 ?c4 (by simp) ?_)
    case c3 => unfold maxLen; omega
    case c4 => omega
    intro v' w1 hown hgrow _
    have hown' : w1.ownsRow w.heap.size 53 5 v' len (flatN L) := by simpa using hown
    obtain ⟨a', cap', hv, hat', hb'⟩ := ownsN_at hown'
    rw [hv]
    go_wp2
    go_ret
    exact ⟨a', cap', by rw [hl]; rfl, hat', hb', ((Below.refl _ _).alloc (Nat.le_refl _) _).grown hgrow (by simp) (fun k h => by cases h; exact Nat.le_refl _)⟩
/-- A table of rows, as it lies: H the table's block, D the rows'. -/
structure TabN (B : Nat) (w : World) (H N : Nat) (D : Nat → Option Addr) (E : Nat → Nat) (Y : Nat → List Int) : Prop where
  own : ∀ j, j < N → CapR B w (D j) (E j) (Y j)
  long : w.rowIs H 25 N (fun j => .slice (D j) (Y j).length (E j))
  dd : ∀ j k x y, j < N → k < N → j ≠ k → D j = some x → D k = some y → x.block ≠ y.block
  dt : ∀ j x, j < N → D j = some x → x.block ≠ H
  low : B ≤ H
/-- Its blocks. -/
def ofT (N H : Nat) (D : Nat → Option Addr) (k : Nat) : Prop := k = H ∨ ∃ j x, j < N ∧ D j = some x ∧ x.block = k
theorem TabN.lt {B : Nat} {w : World} {H N : Nat} {D : Nat → Option Addr} {E : Nat → Nat} {Y : Nat → List Int} (h : TabN B w H N D E Y) {k : Nat} (hk : ofT N H D k) : B ≤ k ∧ k < w.heap.size := by
  rcases hk with rfl | ⟨j, x, hj, hx, rfl⟩
  · exact ⟨h.low, h.long.lt⟩
  · exact (h.own j hj).lt x hx
theorem TabN.keep {B : Nat} {w w' : World} {H N : Nat} {D : Nat → Option Addr} {E : Nat → Nat} {Y : Nat → List Int} (h : TabN B w H N D E Y) (hk : ∀ k, ofT N H D k → w'.heap[k]? = w.heap[k]?) : TabN B w' H N D E Y :=
  ⟨fun j hj => (h.own j hj).keep fun x hx => hk _ (.inr ⟨j, x, hj, hx, rfl⟩), h.long.of_block (hk H (.inl rfl)), h.dd, h.dt, h.low⟩
theorem TabN.below {B : Nat} {w w' : World} {H N : Nat} {D : Nat → Option Addr} {E : Nat → Nat} {Y : Nat → List Int} (h : TabN B w H N D E Y) (hb : Below w.heap.size w w') : TabN B w' H N D E Y := h.keep fun k hk => hb.block k (h.lt hk).2
theorem tabN_start {B : Nat} {w : World} {H N : Nat} (hB : B ≤ H) (h : w.rowIs H 25 N (fun _ => .slice none 0 0)) : TabN B w H N (fun _ => none) (fun _ => 0) (fun _ => []) :=
  ⟨fun _ _ => CapR.nil _ _, h, (fun _ _ _ _ _ _ _ h => by cases h), (fun _ _ _ h => by cases h), hB⟩
/-- A row has grown: which blocks may have changed. -/
theorem TabN.put {B : Nat} {wr w2 : World} {H N i c : Nat} {D : Nat → Option Addr} {E : Nat → Nat} {Y : Nat → List Int} {d : Option Addr} {L : List Int} (h : TabN B wr H N D E Y) (hi : i < N) (hd : CapR B w2 d c L) (hk : ∀ k, k < wr.heap.size → (∀ y, D i = some y → y.block ≠ k) → w2.heap[k]? = wr.heap[k]?) (hn : ∀ z, d = some z → D i = some z ∨ wr.heap.size ≤ z.block) :
    TabN B (w2.setCell ⟨H, i, none⟩ (.slice d L.length c)) H N (upd D i d) (upd E i c) (upd Y i L) := by
  have hH := h.long.lt
  have dH : ∀ z, d = some z → z.block ≠ H := fun z hz => by
    rcases hn z hz with h1 | h1
    · exact h.dt i z hi h1
    · omega
  have far : ∀ j x z, j < N → j ≠ i → D j = some x → d = some z → x.block ≠ z.block := fun j x z hj hji hx hz => by
    rcases hn z hz with h1 | h1
    · exact h.dd j i x z hj hi hji hx h1
    · have := ((h.own j hj).lt x hx).2; omega
  refine ⟨fun j hj => ?_, ?_, fun j k x y hj hk' hjk hx hy => ?_, fun j x hj hx => ?_, h.low⟩
  · by_cases e : j = i
    · subst e
      rw [upd_eq, upd_eq, upd_eq]
      exact hd.setOther (ad := ⟨H, j, none⟩) dH _
    · rw [upd_ne e, upd_ne e, upd_ne e]
      refine ((h.own j hj).keep fun x hx => hk _ ((h.own j hj).lt x hx).2 fun y hy => (h.dd j i x y hj hi e hx hy).symm).setOther (ad := ⟨H, i, none⟩) (fun x hx => h.dt j x hj hx) _
  · refine ((h.long.of_block (hk H hH fun y hy => h.dt i y hi hy)).set i _).congr fun j hj => ?_
    by_cases e : j = i
    · subst e; rw [if_pos rfl, upd_eq, upd_eq, upd_eq]
    · rw [if_neg e, upd_ne e, upd_ne e, upd_ne e]
  · by_cases e : j = i
    · subst e
      rw [upd_eq] at hx
      rw [upd_ne (Ne.symm hjk)] at hy
      exact (far k y x hk' (Ne.symm hjk) hy hx).symm
    · rw [upd_ne e] at hx
      by_cases e2 : k = i
      · subst e2
        rw [upd_eq] at hy
        exact far j x y hj e hx hy
      · rw [upd_ne e2] at hy
        exact h.dd j k x y hj hk' hjk hx hy
  · by_cases e : j = i
    · subst e; rw [upd_eq] at hx; exact dH x hx
    · rw [upd_ne e] at hx; exact h.dt j x hj hx
theorem ofT_put {N H i : Nat} {D : Nat → Option Addr} {d : Option Addr} {k : Nat} (h : ofT N H (upd D i d) k) : ofT N H D k ∨ ∃ z, d = some z ∧ z.block = k := by
  rcases h with h | ⟨j, x, hj, hx, hk⟩
  · exact .inl (.inl h)
  · by_cases e : j = i
    · subst e; rw [upd_eq] at hx; exact .inr ⟨x, hx, hk⟩
    · rw [upd_ne e] at hx; exact .inl (.inr ⟨j, x, hj, hx, hk⟩)
end Go.Proofs.YtimioiaoefhabaaGreat

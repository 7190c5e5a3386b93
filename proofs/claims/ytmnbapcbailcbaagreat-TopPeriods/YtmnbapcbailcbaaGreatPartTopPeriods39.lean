/- Texts of one chain, laid one behind the other. -/
import Derived.Test.YtmnbapcbailcbaaGreatPartTopPeriods34
import Derived.Test.YtmnbapcbailcbaaGreatPartTopPeriods15
import Derived.Test.YtmnbapcbailcbaaGreatPartTopPeriods38
import Derived.Laws.AppendOwnNone
namespace Go.Proofs.YtmnbapcbailcbaaGreat
open Go.ChangeShapes Go.WideShapes Go.ChangeAt Go.RowKit
theorem wpList_appI {w : World} {ops : Array Oper} {rest : List Oper} {o : Oper} {a : Act} {Q : Exit → Act → World → Prop} (hgd : o.guard = none) (s x : Operand) (ho : o.op = .call { callee := .builtin .append, args := #[s, x], argTypes := #[27, 27] })
    (B : Nat) (d0 : Option Addr) (c0 : Nat) (zs : List Int) (hs : a.eval s = .slice d0 zs.length c0) (hown : CapR B w d0 c0 zs) (ad : Option Addr) (c : Nat) (ys : List Int) (hx : a.eval x = .slice ad ys.length c) (hna : ad = none → ys.length = 0 ∧ c = 0) (hat : At w ad ys) (hb : (zs.length + ys.length) * 8 ≤ 140737488355328) (hB : B ≤ w.heap.size) (m : Nat) (R : List Int) (hm : zs.length + ys.length = m) (hR : zs ++ ys = R)
    (h : ∀ d c' w', CapR B w' d c' R → Below B w w' → wpList Tryz.prog ops Q rest (a.put o.dst (.slice d m c')) w') : wpList Tryz.prog ops Q (o :: rest) a w := by
  subst hm
  subst hR
  obtain ⟨i0, hi, hz0, hz1, hz2⟩ := info_parts Tryz.info3
  cases ad with
  | none =>
    obtain ⟨h1, rfl⟩ := hna rfl
    have e : ys = [] := List.eq_nil_of_length_eq_zero h1
    subst e
    refine wpList_append_own_none hgd s x 27 ho B 3 i0 1 Tryz.underlying27 hi _ zs.length (zs.map (Value.int .i64)) hs hown hx ?_
    have := h d0 c0 w (by rw [List.append_nil]; exact hown) (Below.refl _ _)
    simpa using this
  | some ad =>
    refine wpList_append_own _ hgd s x 27 ho B 3 i0 (.int .i64 0) 1 8 Tryz.underlying27 hi hz0 hz1 hz2 rfl (by decide) _ zs.length (zs.map (Value.int .i64)) hs hown ad ys.length c (ys.map (Value.int .i64)) hx (by simp) (lies_new hat) (ints_oneCell _ _) (by unfold maxLen; omega) (by omega) hB ?_
    intro v' w1 hown1 hgrow _
    have hown' : w1.ownsRow B 3 1 v' (zs.length + ys.length) ((zs ++ ys).map (Value.int .i64)) := by simpa using hown1
    obtain ⟨a', cap', hv, -, -, -, -, -⟩ := owns_at (n := zs.length + ys.length) (zs := zs ++ ys) hown'
    rw [hv]
    refine h a' cap' w1 ?_ ((Below.refl _ _).grown hgrow hB (fun k hk => (hown.lt ⟨k, 0, none⟩ (by
      cases d0 with
      | none => cases hk
      | some y =>
        rcases hown.2 with ⟨e1, -⟩ | ⟨g, cap, cur, e1, -⟩
        · cases e1
        · cases e1; cases hk; rfl)).1))
    unfold CapR
    rw [List.length_append, ← hv]
    exact hown'
/-- New, of a net that came in, in a later world. -/
theorem newS_yes (n : NN) (a : Option Addr) (c : Nat) (w : World) (h : ArgN w a c n) (hc : checkN n = 0) (U : World) (hb : Below w.heap.size w U) : Calls Tryz.prog 9 #[.agg #[.int .i64 n.nodes, .slice a n.arcs.length c]] U fun e w' => ∃ K E, e = .returned (.tuple #[.pointer (some ⟨K, 0, none⟩), .int .i64 0]) ∧ StE U.heap.size E w' K n (startT n) (List.replicate n.nodes.toNat 0) ∧ Below U.heap.size U w' := by
  refine (newS_any n a c U (h.lies.below hb) (by have := h.room; omega) h.none).mono ?_
  intro e w' hh
  unfold NewE at hh
  rw [if_pos hc] at hh
  exact hh
/-- Rows of two answers are the same. -/
theorem sameN (U : World) (a1 a2 : Option Addr) (zs : List Int) (c1 c2 : Nat) (hl : zs.length ≤ 4611686018427387904) (h1 : At U a1 zs) (h2 : At U a2 zs) : Calls Tryz.prog 12 #[.slice a1 zs.length c1, .slice a2 zs.length c2] U fun e w' => e = .returned (.bool true) ∧ Below U.heap.size U w' :=
  (same_any a1 a2 zs zs.length c1 c2 U rfl hl h1 h2).mono fun e w' hh => by
    obtain ⟨n, h1, rfl⟩ := hh
    exact ⟨h1, drewB (Below.refl _ _) n⟩
theorem StE.mid {B E B' E' : Nat} {w w' : World} {K : Nat} {n : NN} {T F : List Int} (h : StE B E w K n T F) (hm : Mid B' E' w w') (hd : E ≤ B' ∨ E' ≤ B) : StE B E w' K n T F :=
  h.keep (fun k h1 h2 => hm.block k (Nat.lt_of_lt_of_le h2 h.low.2) (by omega)) hm.size
/-- Two states of a net, side by side. -/
structure TwoS (w : World) (n : NN) (B1 E1 K1 B2 E2 K2 : Nat) (T F T' F' : List Int) (U : World) : Prop where
  s : StE B1 E1 U K1 n T F
  t : StE B2 E2 U K2 n T' F'
  bel : Below w.heap.size w U
theorem TwoS.below {w : World} {n : NN} {B1 E1 K1 B2 E2 K2 : Nat} {T F T' F' : List Int} {U U' : World} (h : TwoS w n B1 E1 K1 B2 E2 K2 T F T' F' U) (hb : Below U.heap.size U U') : TwoS w n B1 E1 K1 B2 E2 K2 T F T' F' U' := ⟨h.s.below hb, h.t.below hb, h.bel.trans (hb.mono h.bel.size)⟩
theorem sizNet : (Tryz.prog.info? 30).map (·.size) = some 2 := by kernel_rfl
def nodB (m v : Int) : Bool := decide (0 ≤ v) && decide (v < m)
theorem drewF (w : World) (q : Nat) : Below w.heap.size w (w.drewN q) := ⟨rfl, rfl, rfl, Nat.le_refl _, fun _ _ => rfl⟩
theorem made_zeroF {w0 : World} {B g n : Nat} (h : w0.ownsRow B 3 1 (.slice (some ⟨g, 0, none⟩) n n) n (madeCells (Value.cells (.int .i64 0)) (n * 1)).toList) : CapR B w0 (some ⟨g, 0, none⟩) n (List.replicate n 0) := by
  unfold CapR
  have e : (madeCells (Value.cells (.int .i64 0)) (n * 1)).toList = (List.replicate n 0).map (Value.int .i64) := by
    show (madeCells #[.int .i64 0] (n * 1)).toList = _
    apply List.ext_getElem?
    intro k
    rw [Nat.mul_one]
    by_cases hk : k < n <;> simp [madeCells, hk, Nat.mod_one]
  rw [e] at h
  simpa using h
theorem blkF_but {T : TypeId} {b K : Nat} {u u' : World} {cs : Array Value} (h : BlkA T b u cs) (hb : But K u u') (hK : b ≠ K) : BlkA T b u' cs := h.keep (hb.block b h.lt hK)
/-- The list of joined nodes, as it lies. -/
structure LooF (B : Nat) (w : World) (hb lb g n : Nat) (L : Nat → Nat) : Prop where
  hc : w.cell? ⟨hb, 0, none⟩ = some (.func (.func 70) #[] #[.pointer (some ⟨lb, 0, none⟩)])
  lc : w.cell? ⟨lb, 0, none⟩ = some (.slice (some ⟨g, 0, none⟩) n n)
  row : CapR B w (some ⟨g, 0, none⟩) n (rowF n L)
  hg : hb ≠ g
  lg : lb ≠ g
  hB : B ≤ hb
  lB : B ≤ lb
theorem LooF.below {B : Nat} {w w' : World} {hb lb g n : Nat} {L : Nat → Nat} (h : LooF B w hb lb g n L) (hw : Below w.heap.size w w') : LooF B w' hb lb g n L :=
  ⟨cellN_later hw h.hc, cellN_later hw h.lc, h.row.later hw, h.hg, h.lg, h.hB, h.lB⟩
theorem LooF.cell {B : Nat} {w : World} {hb lb g n : Nat} {L : Nat → Nat} (h : LooF B w hb lb g n L) {k : Nat} (hk : k < n) : w.cell? ⟨g, k, none⟩ = some (.int .i64 (L k : Int)) := by
  rcases h.row.at with e | ⟨b, off, e, hc⟩
  · have := rowF_len n L
    rw [e] at this
    simp at this
    omega
  · cases e
    have := hc k (by rw [rowF_len]; exact hk)
    rw [rowF_nth hk, Nat.zero_add] at this
    exact this
theorem LooF.glt {B : Nat} {w : World} {hb lb g n : Nat} {L : Nat → Nat} (h : LooF B w hb lb g n L) : B ≤ g ∧ g < w.heap.size := h.row.lt _ rfl
theorem LooF.set {B : Nat} {w : World} {hb lb g n : Nat} {L : Nat → Nat} (h : LooF B w hb lb g n L) {k x : Nat} : LooF B (w.setCell ⟨g, k, none⟩ (.int .i64 (x : Int))) hb lb g n (updF L k x) := by
  refine ⟨?_, ?_, ?_, h.hg, h.lg, h.hB, h.lB⟩
  · rw [World.cell?_setCell_other _ _ _ _ (fun e => h.hg (by cases e; rfl))]; exact h.hc
  · rw [World.cell?_setCell_other _ _ _ _ (fun e => h.lg (by cases e; rfl))]; exact h.lc
  · rw [← rowF_set]
    exact h.row.setAt _
set_option maxRecDepth 100000 in
set_option maxHeartbeats 1000000 in
theorem home_any {B : Nat} {w : World} {hb lb g n : Nat} {L H : Nat → Nat} (h : LooF B w hb lb g n L) (hU : UfF n L H) (v : Nat) (hv : v < n) :
    Calls Tryz.prog 70 #[.int .i64 (v : Int), .pointer (some ⟨lb, 0, none⟩)] w fun e w' => e = .returned (.int .i64 (H v : Int)) ∧ w' = w := by
  have lc := h.lc
  have CR := hiddenN (fun k (hk : k < n) => h.cell hk)
  have HU := hiddenN hU
  clear h hU
  go_enter Tryz.func70, Tryz.ntmps70
  go_wp2
  go_loopg [0] v (fun gk u wr => ∃ q : Nat, q < n ∧ gk = q ∧ u = .int .i64 (q : Int) ∧ H q = H v ∧ w = wr)
  case atStart => exact ⟨v, hv, rfl, rfl, rfl, rfl⟩
  case round =>
    obtain ⟨q, hq, rfl, rfl, hH, rfl⟩ := hrel
    have HH := hiddenN hH
    clear hH
    have c0 := CR.out gk hq
    have hki : (gk : Int) < (n : Int) := by omega
    have hle := HU.out.le gk hq
    have SM := hiddenN (HU.out.same gk hq)
    have FX := hiddenN (HU.out.fix gk hq)
    generalize L gk = p at *
    by_cases hp : p = gk
    · have E9 := hiddenN (FX.out.1 hp)
      subst hp
      clear FX SM
      go_wp2
      go_ret
      exact ⟨by rw [← HH.out, E9.out]; rfl, rfl⟩
    · have hpi : ¬ (p : Int) = (gk : Int) := by omega
      go_wp2
      go_roundg p
      case measure => omega
      case rel => exact ⟨p, by omega, rfl, rfl, SM.out.trans HH.out, rfl⟩
set_option maxRecDepth 100000 in
set_option maxHeartbeats 1000000 in
theorem join_any {B : Nat} {w : World} {hb lb g n : Nat} {L H : Nat → Nat} (h : LooF B w hb lb g n L) (hU : UfF n L H) (hH : ∀ v, H v ≤ v) (a b : Nat) (ha : a < n) (hb' : b < n) :
    Calls Tryz.prog 71 #[.int .i64 (a : Int), .int .i64 (b : Int), .pointer (some ⟨hb, 0, none⟩), .pointer (some ⟨lb, 0, none⟩)] w fun e w' => e = .returned (.bool (!decide (H a = H b))) ∧ LooF B w' hb lb g n (updF L (max (H a) (H b)) (min (H a) (H b))) ∧ But g w w' := by
  have hc := h.hc
  have HF := hiddenN h
  have Ha : Hid (∀ m, Calls Tryz.prog 70 #[.int .i64 (a : Int), .pointer (some ⟨lb, 0, none⟩)] (w.drewN m) fun e w' => e = .returned (.int .i64 (H a : Int)) ∧ w' = w.drewN m) := fun m => home_any (h.below (drewF _ _)) hU a ha
  have Hb : Hid (∀ m, Calls Tryz.prog 70 #[.int .i64 (b : Int), .pointer (some ⟨lb, 0, none⟩)] (w.drewN m) fun e w' => e = .returned (.int .i64 (H b : Int)) ∧ w' = w.drewN m) := fun m => home_any (h.below (drewF _ _)) hU b hb'
  have xa := hH a
  have xb := hH b
  clear h hU hH
  generalize H a = x at *
  generalize H b = y at *
  go_enter Tryz.func71, Tryz.ntmps71
  go_upto_region 1 with fail
  go_quiet (first | (go_at_call 70; (with_reducible refine Calls.quiet_of_same (Ha.out _))) | (go_at_call 70; (with_reducible refine Calls.quiet_of_same (Hb.out _))))
  have hl := HF.out.below (drewF w nq)
  have bt : But g w (w.drewN nq) := But.of_below (drewF w nq)
  have HL := hiddenN hl
  have BT := hiddenN bt
  have lc := hl.lc
  have c9 := hl.cell (k := max x y) (by omega)
  have f9 := hl.row.fz (max x y)
  clear hl bt HF Ha Hb hc
  generalize w.drewN nq = W at *
  have hmI : (max x y : Nat) < n := by omega
  have ST := hiddenN (HL.out.set (k := max x y) (x := min x y))
  rcases Nat.lt_trichotomy x y with l | l | l
  · have l' : ¬ y < x := by omega
    have hne : ¬ x = y := by omega
    have L1 : Hid (max x y = y) := by show _ = _; omega
    have L2 : Hid (min x y = x) := by show _ = _; omega
    rw [L1.out] at c9 f9 hmI ST
    rw [L2.out] at ST
    have hyI : (y : Int) < (n : Int) := by omega
    go_wp2
    go_ret
    exact ⟨by simp [hne]; omega, by rw [L1.out, L2.out]; exact ST.out, BT.out.trans (But.set W g y _)⟩
  · subst l
    have l' : ¬ x < x := by omega
    have L1 : Hid (max x x = x) := by show _ = _; omega
    have L2 : Hid (min x x = x) := by show _ = _; omega
    rw [L1.out] at c9 f9 hmI ST
    rw [L2.out] at ST
    have hyI : (x : Int) < (n : Int) := by omega
    go_wp2
    go_ret
    exact ⟨by simp, by first | exact ST.out | (rw [L1.out, L2.out]; exact ST.out), BT.out.trans (But.set W g x _)⟩
  · have l' : ¬ x < y := by omega
    have hne : ¬ x = y := by omega
    have L1 : Hid (max x y = x) := by show _ = _; omega
    have L2 : Hid (min x y = y) := by show _ = _; omega
    rw [L1.out] at c9 f9 hmI ST
    rw [L2.out] at ST
    have hyI : (x : Int) < (n : Int) := by omega
    go_wp2
    go_ret
    exact ⟨by simp [hne]; omega, by rw [L1.out, L2.out]; exact ST.out, BT.out.trans (But.set W g x _)⟩
/-- How loose ends. -/
def LooE (w : World) (n : Nat) (e : Ending) (w' : World) : Prop :=
  ∃ hb lb g, e = .returned (.tuple #[.func (.func 71) #[] #[.pointer (some ⟨hb, 0, none⟩), .pointer (some ⟨lb, 0, none⟩)], .func (.func 70) #[] #[.pointer (some ⟨lb, 0, none⟩)]]) ∧ LooF w.heap.size w' hb lb g n (fun v => v) ∧ Below w.heap.size w w'
theorem but_drew {K : Nat} (w : World) : But K w w.drew := ⟨rfl, rfl, rfl, Nat.le_refl _, fun _ _ _ => rfl⟩
theorem loose_end {w V0 wr W9 U : World} {hb lb g n : Nat} (hw : w.heap.size = hb) (g0 : hb < g) (g1 : g < lb) (be : Below w.heap.size w V0) (lx : BlkA 27 lb V0 #[.slice (some ⟨g, 0, none⟩) n n]) (rw' : CapR g wr (some ⟨g, 0, none⟩) n (rowF n (fun v => v))) (bt : But g V0 wr) (b9 : But hb wr W9) (bu : But hb W9 U)
    (hc : U.cell? ⟨hb, 0, none⟩ = some (.func (.func 70) #[] #[.pointer (some ⟨lb, 0, none⟩)])) :
    LooE w n (.returned (.tuple #[.func (.func 71) #[] #[.pointer (some ⟨hb, 0, none⟩), .pointer (some ⟨lb, 0, none⟩)], .func (.func 70) #[] #[.pointer (some ⟨lb, 0, none⟩)]])) U := by
  have l1 := blkF_but (blkF_but (blkF_but lx bt (by omega)) b9 (by omega)) bu (by omega)
  refine ⟨hb, lb, g, rfl, ⟨hc, l1.cell (k := 0) rfl, ?_, by omega, by omega, by omega, by omega⟩, ?_⟩
  · have r1 : CapR g W9 (some ⟨g, 0, none⟩) n (rowF n (fun v => v)) := rw'.keep fun x hx => by
      cases hx
      exact b9.block g (rw'.lt _ rfl).2 (by omega)
    have r2 : CapR g U (some ⟨g, 0, none⟩) n (rowF n (fun v => v)) := r1.keep fun x hx => by
      cases hx
      exact bu.block g (r1.lt _ rfl).2 (by omega)
    exact r2.mono (by omega)
  · have s1 := be.size
    have s2 := bt.size
    have s3 := b9.size
    exact ⟨bu.os.trans (b9.os.trans (bt.os.trans be.os)), bu.tape.trans (b9.tape.trans (bt.tape.trans be.tape)), bu.output.trans (b9.output.trans (bt.output.trans be.output)), Nat.le_trans (Nat.le_trans s1 s2) (Nat.le_trans s3 bu.size), fun k hk => (bu.block k (by omega) (by omega)).trans ((b9.block k (by omega) (by omega)).trans ((bt.block k (by omega) (by omega)).trans (be.block k hk)))⟩
theorem rowF_zero (n : Nat) : List.replicate n (0 : Int) = rowF n (fun v => if v < 0 then v else 0) := by
  unfold rowF
  apply List.ext_getElem
  · simp
  · intro i h1 h2
    simp
theorem rowF_full {n : Nat} : rowF n (fun v => if v < n then v else 0) = rowF n (fun v => v) := by
  unfold rowF
  apply List.map_congr_left
  intro v hv
  have := List.mem_range.1 hv
  simp [this]
theorem updF_next (q : Nat) : updF (fun v => if v < q then v else 0) q q = fun v => if v < q + 1 then v else 0 := by
  funext v
  show (if v = q then q else if v < q then v else 0) = if v < q + 1 then v else 0
  split
  · rw [if_pos (by omega)]; omega
  · split
    · rw [if_pos (by omega)]
    · rw [if_neg (by omega)]
set_option maxRecDepth 100000 in
set_option maxHeartbeats 2000000 in
theorem loose_any (w : World) (n : Nat) (hn : n ≤ 1000) : Calls Tryz.prog 39 #[.int .i64 (n : Int)] w (LooE w n) := by
  have hmf : ∀ (fn : Fn) (first cap : Array Value) (w : World), (Instr.makeFunc fn first cap).run Tryz.prog w = .ok (.func fn first cap) w := fun _ _ _ _ => rfl
  have hsf := fun (a : Addr) (fn : Fn) (c : Array Value) (w : World) => run_store Tryz.prog w a (.func fn #[] c) .plain rfl
  obtain ⟨i0, hi, hz0, hz1, hz2⟩ := info_parts Tryz.info3
  have b0 := (Below.refl w.heap.size w).alloc (Nat.le_refl _) (.cells #[.nilFunc] 108)
  have X0 := hiddenN (blkA_new 108 w #[.nilFunc])
  have B0 := hiddenN b0
  have hs0 : (w.alloc (.cells #[.nilFunc] 108)).heap.size = w.heap.size + 1 := World.size_alloc _ _
  have S0 := hiddenN hs0
  clear b0 hs0
  obtain ⟨OE, hOE⟩ : ∃ R, LooE w n = R := ⟨_, rfl⟩
  rw [hOE]
  have HOE := hiddenN hOE
  clear hOE
  go_enter Tryz.func39, Tryz.ntmps39
  go_upto_region 1 with fail
  generalize w.alloc (.cells #[.nilFunc] 108) = W0 at *
  go_upto_region 2 with (at_make; refine wpList_make_full _ rfl _ _ 27 rfl W0.heap.size 3 i0 (.int .i64 0) 1 Tryz.underlying27 hi hz0 hz1 _ _ _ _ n rfl rfl rfl rfl (by rw [hz2]; omega) (by unfold maxLen; omega) (Nat.le_refl _) ?_; intro w1 hown0 hgrow0; have C0 := hiddenN (made_zeroF hown0); have B1 := hiddenN ((Below.refl W0.heap.size W0).grown hgrow0 (Nat.le_refl _) (fun k h => by cases h)); clear hown0 hgrow0)
  have b2 := (Below.refl w1.heap.size w1).alloc (Nat.le_refl _) (.cells #[.slice (some ⟨W0.heap.size, 0, none⟩) n n] 27)
  have LX := hiddenN (blkA_new 27 w1 #[.slice (some ⟨W0.heap.size, 0, none⟩) n n])
  have HX := hiddenN ((X0.out.below B1.out).below b2)
  have C1 := hiddenN (C0.out.later b2)
  have g1 := (C0.out.lt _ rfl).2
  have BE := hiddenN ((B0.out.trans (B1.out.mono B0.out.size)).trans (b2.mono (by have := B0.out.size; have := B1.out.size; omega)))
  have g0 : w.heap.size < W0.heap.size := X0.out.lt
  simp only at g1
  rw [rowF_zero] at C1
  clear b2 B1 C0 X0 B0 S0
  obtain ⟨hb, hhb⟩ : ∃ q, w.heap.size = q := ⟨_, rfl⟩
  obtain ⟨g, hg⟩ : ∃ q, W0.heap.size = q := ⟨_, rfl⟩
  obtain ⟨lb, hlb⟩ : ∃ q, w1.heap.size = q := ⟨_, rfl⟩
  rw [hhb] at g0 HX ⊢
  rw [hg] at g0 g1 LX C1 HX BE ⊢
  rw [hlb] at g1 LX ⊢
  have HHB := hiddenN hhb
  generalize w1.alloc (.cells #[.slice (some ⟨g, 0, none⟩) n n] 27) = V0 at *
  clear hg hlb hhb
  have l0 := LX.out.cell (k := 0) rfl
  simp only [List.getElem_toArray, List.getElem_cons_zero] at l0
  go_upto_region 3 with fail
  go_loopg [10] n (fun gk u wr => ∃ q : Nat, q ≤ n ∧ gk = n - q ∧ u = .int .i64 (q : Int) ∧ CapR g wr (some ⟨g, 0, none⟩) n (rowF n (fun v => if v < q then v else 0)) ∧ But g V0 wr)
  case atStart => exact ⟨0, Nat.zero_le _, rfl, rfl, C1.out, But.of_below (Below.refl _ _)⟩
  case round =>
    clear C1 l0
    obtain ⟨q, hq, rfl, rfl, hr, hbt⟩ := hrel
    have RW := hiddenN hr
    have BT := hiddenN hbt
    have l0 := (blkF_but LX.out hbt (by omega)).cell (k := 0) rfl
    simp only [List.getElem_toArray, List.getElem_cons_zero] at l0
    clear hr hbt
    by_cases hlt : q < n
    · have hki : (q : Int) < (n : Int) := by omega
      obtain ⟨z, c0⟩ : ∃ z, wr.cell? ⟨g, q, none⟩ = some (.int .i64 z) := by
        rcases RW.out.at with e | ⟨b, off, e, hc⟩
        · have := rowF_len n (fun v => if v < q then v else 0)
          rw [e] at this
          simp at this
          omega
        · cases e
          have := hc q (by rw [rowF_len]; exact hlt)
          rw [Nat.zero_add] at this
          exact ⟨_, this⟩
      have f0 := RW.out.fz q
      have R2 := RW.out.setAt (k := q) (q : Int)
      rw [rowF_set, updF_next] at R2
      have RN := hiddenN R2
      have BN := hiddenN (BT.out.trans (But.set wr g q (.int .i64 (q : Int))))
      clear R2 RW BT
      go_wp2
      go_roundg (n - (q + 1))
      case measure => omega
      case rel => exact ⟨q + 1, by omega, rfl, by go_num, RN.out, BN.out⟩
    · have ek : q = n := by omega
      have hki : ¬ (q : Int) < (n : Int) := by omega
      rw [ek, rowF_full] at RW
      clear ek
      have h0 := blkF_but HX.out BT.out (by omega)
      have c0 := h0.cell (k := 0) rfl
      have f0 := h0.frozen 0
      simp only [List.getElem_toArray, List.getElem_cons_zero] at c0
      have H0 := hiddenN h0
      clear h0
      go_wp2
      have h9 := H0.out.set 0 (.func (.func 70) #[] #[.pointer (some ⟨lb, 0, none⟩)])
      have H9 : Hid (BlkA 108 hb (wr.setCell ⟨hb, 0, none⟩ (.func (.func 70) #[] #[.pointer (some ⟨lb, 0, none⟩)])) #[.func (.func 70) #[] #[.pointer (some ⟨lb, 0, none⟩)]]) := h9
      have B9 : Hid (But hb wr (wr.setCell ⟨hb, 0, none⟩ (.func (.func 70) #[] #[.pointer (some ⟨lb, 0, none⟩)]))) := But.set wr hb 0 _
      clear h9 c0 f0 l0
      generalize wr.setCell ⟨hb, 0, none⟩ (.func (.func 70) #[] #[.pointer (some ⟨lb, 0, none⟩)]) = W9 at *
      have c0 := H9.out.cell (k := 0) rfl
      have f0 := H9.out.frozen 0
      simp only [List.getElem_toArray, List.getElem_cons_zero] at c0
      have c1 : (W9.setCell ⟨hb, 0, none⟩ (.func (.func 70) #[] #[.pointer (some ⟨lb, 0, none⟩)])).cell? ⟨hb, 0, none⟩ = some (.func (.func 70) #[] #[.pointer (some ⟨lb, 0, none⟩)]) := World.cell?_setCell_same _ _ _ c0
      go_region
      all_goals go_wp2
      all_goals refine bodyPost_ret (v := .tuple #[.func (.func 71) #[] #[.pointer (some ⟨hb, 0, none⟩), .pointer (some ⟨lb, 0, none⟩)], .func (.func 70) #[] #[.pointer (some ⟨lb, 0, none⟩)]]) (by simp [results, Tryz.results39, go_sem, c1]) rfl ?_
      all_goals rw [← HOE.out]
      all_goals exact loose_end HHB.out g0 g1 BE.out LX.out RW.out BT.out B9.out ((But.set W9 hb 0 _).trans (but_drew _)) c1
/-- How Of ends. -/
def OfFE (n : NN) (w : World) (e : Ending) (w' : World) : Prop :=
  if checkN n = 0 then ∃ d1 c1 d2 c2, e = .returned (.tuple #[.agg #[.slice d1 (intsF (treF n.arcs n.arcs.length)).length c1, .slice d2 (rowF n.nodes.toNat (homF n.arcs n.arcs.length)).length c2], .int .i64 0]) ∧ CapR w.heap.size w' d1 c1 (intsF (treF n.arcs n.arcs.length)) ∧ CapR w.heap.size w' d2 c2 (rowF n.nodes.toNat (homF n.arcs n.arcs.length)) ∧ (∀ x y, d1 = some x → d2 = some y → x.block ≠ y.block) ∧ Below w.heap.size w w'
  else e = .returned (.tuple #[.agg #[.slice none 0 0, .slice none 0 0], .int .i64 (checkN n)]) ∧ Below w.heap.size w w'
/-- The forest while its arcs are found. -/
structure F1S (n B0 B1 : Nat) (W1 wr : World) (hb lb g fb : Nat) (H : Nat → Nat) (T : List Nat) (d : Option Addr) (c : Nat) : Prop where
  loo : ∃ L, LooF B0 wr hb lb g n L ∧ UfF n L H
  blk : BlkA 69 fb wr #[.slice d (intsF T).length c, .slice none 0 0]
  row : CapR B1 wr d c (intsF T)
  frm : ∀ k, k < fb → k ≠ g → wr.heap[k]? = W1.heap[k]?
  os : wr.os = W1.os
  tape : wr.tape = W1.tape
  output : wr.output = W1.output
  size : B1 ≤ wr.heap.size
  low : g < fb ∧ hb < fb ∧ lb < fb ∧ fb < B1
theorem LooF.keep {B : Nat} {w w' : World} {hb lb g n : Nat} {L : Nat → Nat} (h : LooF B w hb lb g n L) (h1 : w'.heap[hb]? = w.heap[hb]?) (h2 : w'.heap[lb]? = w.heap[lb]?) (h3 : w'.heap[g]? = w.heap[g]?) : LooF B w' hb lb g n L := by
  refine ⟨?_, ?_, h.row.keep (fun x hx => by cases hx; exact h3), h.hg, h.lg, h.hB, h.lB⟩
  · have := h.hc; unfold World.cell? at this ⊢; rw [h1]; exact this
  · have := h.lc; unfold World.cell? at this ⊢; rw [h2]; exact this
theorem F1S.below {n B0 B1 : Nat} {W1 wr w' : World} {hb lb g fb : Nat} {H : Nat → Nat} {T : List Nat} {d : Option Addr} {c : Nat} (h : F1S n B0 B1 W1 wr hb lb g fb H T d c) (hw : Below wr.heap.size wr w') : F1S n B0 B1 W1 w' hb lb g fb H T d c := by
  obtain ⟨L, h1, h2⟩ := h.loo
  have l := h.low
  have s := h.size
  exact ⟨⟨L, h1.below hw, h2⟩, h.blk.below hw, h.row.later hw, fun k hk hn => (hw.block k (by omega)).trans (h.frm k hk hn), hw.os.trans h.os, hw.tape.trans h.tape, hw.output.trans h.output, Nat.le_trans h.size hw.size, h.low⟩
/-- Two nodes joined. -/
theorem F1S.join {n B0 B1 : Nat} {W1 wr w' : World} {hb lb g fb : Nat} {H H' : Nat → Nat} {T : List Nat} {d : Option Addr} {c : Nat} {L' : Nat → Nat} (h : F1S n B0 B1 W1 wr hb lb g fb H T d c) (hl : LooF B0 w' hb lb g n L') (hu : UfF n L' H') (hb' : But g wr w') : F1S n B0 B1 W1 w' hb lb g fb H' T d c := by
  have l := h.low
  have s := h.size
  refine ⟨⟨L', hl, hu⟩, blkF_but h.blk hb' (by omega), h.row.keep (fun x hx => hb'.block _ (h.row.lt x hx).2 (by have := (h.row.lt x hx).1; omega)), fun k hk hn => (hb'.block k (by omega) hn).trans (h.frm k hk hn), hb'.os.trans h.os, hb'.tape.trans h.tape, hb'.output.trans h.output, Nat.le_trans h.size hb'.size, h.low⟩
/-- One arc more: the row has grown, then the field is set. -/
theorem F1S.grow {n B0 B1 : Nat} {W1 wr w' : World} {hb lb g fb : Nat} {H : Nat → Nat} {T : List Nat} {d d' : Option Addr} {c c' : Nat} {j : Nat} (h : F1S n B0 B1 W1 wr hb lb g fb H T d c) (hr : CapR B1 w' d' c' (intsF T ++ [(j : Int)])) (hw : Below B1 wr w') : BlkA 69 fb w' #[.slice d (intsF T).length c, .slice none 0 0] ∧ F1S n B0 B1 W1 (w'.setCell ⟨fb, 0, none⟩ (.slice d' ((intsF T).length + 1) c')) hb lb g fb H (T ++ [j]) d' c' := by
  have l := h.low
  have s := h.size
  have hbk : BlkA 69 fb w' #[.slice d (intsF T).length c, .slice none 0 0] := h.blk.keep (hw.block fb (by omega))
  have bt := But.set w' fb 0 (.slice d' ((intsF T).length + 1) c')
  have s2 := hw.size
  refine ⟨hbk, ?_, ?_, ?_, fun k hk hn => ?_, bt.os.trans (hw.os.trans h.os), bt.tape.trans (hw.tape.trans h.tape), bt.output.trans (hw.output.trans h.output), Nat.le_trans (Nat.le_trans s s2) bt.size, h.low⟩
  · obtain ⟨L, h1, h2⟩ := h.loo
    exact ⟨L, h1.keep ((bt.block hb (by omega) (by omega)).trans (hw.block hb (by omega))) ((bt.block lb (by omega) (by omega)).trans (hw.block lb (by omega))) ((bt.block g (by omega) (by omega)).trans (hw.block g (by omega))), h2⟩
  · have := hbk.set 0 (.slice d' ((intsF T).length + 1) c')
    rw [intsF_snoc, List.length_append]
    exact this
  · rw [intsF_snoc]
    exact hr.keep fun x hx => bt.block _ (hr.lt x hx).2 (by have := (hr.lt x hx).1; omega)
  · exact (bt.block k (by omega) (by omega)).trans ((hw.block k (by omega)).trans (h.frm k hk hn))
/-- The forest while its homes are told: S: what was there when that began. -/
structure F2S (n S fb : Nat) (W2 wr : World) (d1 d2 : Option Addr) (c1 c2 : Nat) (l1 : Nat) (R : List Int) : Prop where
  blk : BlkA 69 fb wr #[.slice d1 l1 c1, .slice d2 R.length c2]
  row : CapR S wr d2 c2 R
  but : ∀ k, k < S → k ≠ fb → wr.heap[k]? = W2.heap[k]?
  os : wr.os = W2.os
  tape : wr.tape = W2.tape
  output : wr.output = W2.output
  size : S ≤ wr.heap.size
  low : fb < S
theorem F2S.below {n S fb : Nat} {W2 wr w' : World} {d1 d2 : Option Addr} {c1 c2 l1 : Nat} {R : List Int} (h : F2S n S fb W2 wr d1 d2 c1 c2 l1 R) (hw : Below wr.heap.size wr w') : F2S n S fb W2 w' d1 d2 c1 c2 l1 R :=
  ⟨h.blk.below hw, h.row.later hw, fun k hk hn => (hw.block k (Nat.lt_of_lt_of_le hk h.size)).trans (h.but k hk hn), hw.os.trans h.os, hw.tape.trans h.tape, hw.output.trans h.output, Nat.le_trans h.size hw.size, h.low⟩
theorem F2S.grow {n S fb : Nat} {W2 wr u : World} {d1 d2 d' : Option Addr} {c1 c2 c' l1 : Nat} {R : List Int} {x : Int} (h : F2S n S fb W2 wr d1 d2 c1 c2 l1 R) (hg : GrwN S wr d2 (R ++ [x]) u d' c') : BlkA 69 fb u #[.slice d1 l1 c1, .slice d2 R.length c2] ∧ F2S n S fb W2 (u.setCell ⟨fb, 1, none⟩ (.slice d' (R.length + 1) c')) d1 d' c1 c' l1 (R ++ [x]) := by
  have l := h.low
  have s := h.size
  have far : ∀ k, k < S → ∀ y, d2 = some y → y.block ≠ k := fun k hk y hy e => by have := (h.row.lt y hy).1; omega
  have hbk : BlkA 69 fb u #[.slice d1 l1 c1, .slice d2 R.length c2] := h.blk.keep (hg.keep fb (by omega) (far fb (by omega)))
  have bt := But.set u fb 1 (.slice d' (R.length + 1) c')
  have s2 := hg.size
  refine ⟨hbk, ?_, ?_, fun k hk hn => ?_, bt.os.trans (hg.os.trans h.os), bt.tape.trans (hg.tape.trans h.tape), bt.output.trans (hg.output.trans h.output), Nat.le_trans (Nat.le_trans s s2) bt.size, h.low⟩
  · have := hbk.set 1 (.slice d' (R.length + 1) c')
    rw [List.length_append]
    exact this
  · exact hg.own.keep fun x hx => bt.block _ (hg.own.lt x hx).2 (by have := (hg.own.lt x hx).1; omega)
  · exact (bt.block k (by omega) (by omega)).trans ((hg.keep k (by omega) (far k hk)).trans (h.but k hk hn))
theorem sizFor : (Tryz.prog.info? 69).map (·.size) = some 2 := by kernel_rfl
theorem AtN.lt {w : World} {a : Option Addr} {L : List NA} (h : AtN w a L) (hL : 0 < L.length) : ∀ x, a = some x → x.block < w.heap.size := by
  intro x hx
  rcases h with e | ⟨b, off, e, hc⟩
  · rw [e] at hL; exact absurd hL (Nat.lt_irrefl _)
  · rw [e] at hx
    cases hx
    exact block_lt_of_cell (hc 0 hL).1
theorem F1S.old {n B0 B1 : Nat} {w W1 wr : World} {hb lb g fb B : Nat} {H : Nat → Nat} {T : List Nat} {d : Option Addr} {c : Nat} (h : F1S n B0 B1 W1 wr hb lb g fb H T d c) (hw : Below B w W1) (hB : B ≤ fb) (hg : B ≤ g) (hs : W1.heap.size ≤ wr.heap.size) : Below B w wr :=
  ⟨h.os.trans hw.os, h.tape.trans hw.tape, h.output.trans hw.output, Nat.le_trans hw.size hs, fun k hk => (h.frm k (by omega) (by omega)).trans (hw.block k hk)⟩
theorem F2S.old {n S fb B : Nat} {w W2 wr : World} {d1 d2 : Option Addr} {c1 c2 l1 : Nat} {R : List Int} (h : F2S n S fb W2 wr d1 d2 c1 c2 l1 R) (hw : Below B w W2) (hB : B ≤ fb) (hs : W2.heap.size ≤ wr.heap.size) : Below B w wr :=
  ⟨h.os.trans hw.os, h.tape.trans hw.tape, h.output.trans hw.output, Nat.le_trans hw.size hs, fun k hk => (h.but k (by have := h.low; omega) (by omega)).trans (hw.block k hk)⟩
set_option maxRecDepth 100000 in
set_option maxHeartbeats 16000000 in
theorem ofF_any (n : NN) (a : Option Addr) (c : Nat) (w : World) (h : AtN w a n.arcs) (hl : n.arcs.length ≤ 4611686018427387904) : Calls Tryz.prog 18 #[.agg #[.int .i64 n.nodes, .slice a n.arcs.length c]] w (OfFE n w) := by
  obtain ⟨nn, A⟩ := n
  simp only at h hl ⊢
  have b0 := (Below.refl w.heap.size w).alloc (Nat.le_refl _) (.cells #[.int .i64 nn, .slice a A.length c] 30)
  have b1 := b0.alloc b0.size (.cells #[.slice none 0 0, .slice none 0 0] 69)
  have hsz : (w.alloc (.cells #[.int .i64 nn, .slice a A.length c] 30)).heap.size = w.heap.size + 1 := World.size_alloc _ _
  have XG0 := hiddenN ((blkA_new 30 w #[.int .i64 nn, .slice a A.length c]).below ((Below.refl _ _).alloc (Nat.le_refl _) (.cells #[.slice none 0 0, .slice none 0 0] 69)))
  have xz := blkA_new 69 (w.alloc (.cells #[.int .i64 nn, .slice a A.length c] 30)) #[.slice none 0 0, .slice none 0 0]
  rw [hsz] at xz
  have XZ := hiddenN xz
  have B1 := hiddenN b1
  have HG := hiddenN (h.below b1)
  have HLT := hiddenN (fun hL => h.lt hL)
  have CK := hiddenN (checkN_any ⟨nn, A⟩ a c _ (h.below b1) hl)
  have z0 := XG0.out.cell (k := 0) rfl
  have z1 := XG0.out.cell (k := 1) rfl
  simp only [List.getElem_toArray, List.getElem_cons_zero, List.getElem_cons_succ] at z0 z1
  clear b0 b1 xz h hsz
  obtain ⟨OE, hOE⟩ : ∃ R, OfFE ⟨nn, A⟩ w = R := ⟨_, rfl⟩
  rw [hOE]
  have HOE := hiddenN hOE
  clear hOE
  by_cases hc : checkN ⟨nn, A⟩ = 0
  · have hS := check_sound hc
    have hN1 := hS.nodes
    have hA1 := hS.most
    have SA := hiddenN hS.arcs
    simp only at hN1 hA1
    obtain ⟨N, rfl⟩ : ∃ k : Nat, nn = (k : Int) := ⟨nn.toNat, by omega⟩
    have hN32 : N ≤ 32 := by omega
    have HE : Hid (OE = fun e w' => ∃ d1 c1 d2 c2, e = .returned (.tuple #[.agg #[.slice d1 (intsF (treF A A.length)).length c1, .slice d2 (rowF N (homF A A.length)).length c2], .int .i64 0]) ∧ CapR w.heap.size w' d1 c1 (intsF (treF A A.length)) ∧ CapR w.heap.size w' d2 c2 (rowF N (homF A A.length)) ∧ (∀ x y, d1 = some x → d2 = some y → x.block ≠ y.block) ∧ Below w.heap.size w w') := by
      show _ = _
      rw [← HOE.out]
      funext e w'
      unfold OfFE
      rw [if_pos hc]
      rfl
    rw [hc] at CK
    clear hS hc HOE hN1
    go_enter Tryz.func18, Tryz.ntmps18
    go_upto_region 1 with fail
    generalize (w.alloc (.cells #[.int .i64 (N : Int), .slice a A.length c] 30)).alloc (.cells #[.slice none 0 0, .slice none 0 0] 69) = W0 at *
    go_upto_region 4 with (go_at_call 22; (with_reducible refine CK.out.mono ?_); rintro e W1 ⟨rfl, bb⟩; have Z1 := hiddenN (XZ.out.below bb); have G1 := hiddenN (HG.out.below bb); have XG1 := hiddenN (XG0.out.below bb); have L1 := hiddenN (B1.out.trans (bb.mono B1.out.size)); clear bb z0 z1)
    have z0 := XG1.out.cell (k := 0) rfl
    simp only [List.getElem_toArray, List.getElem_cons_zero] at z0
    clear CK XG0 XZ HG B1
    have LO := hiddenN (loose_any W1 N (by omega))
    have hwW1 : w.heap.size + 1 < W1.heap.size := Z1.out.lt
    go_upto_region 5 with (go_at_call 39; (with_reducible refine LO.out.mono ?_); rintro e W2 ⟨hb, lb, g, rfl, hl2, bb⟩; have Z2 := hiddenN (Z1.out.below bb); have G2 := hiddenN (G1.out.below bb); have XG2 := hiddenN (XG1.out.below bb); have L2 := hiddenN (L1.out.trans (bb.mono L1.out.size)); have LL := hiddenN hl2; have hs1 : W1.heap.size ≤ W2.heap.size := bb.size; clear bb hl2 z0)
    clear LO Z1 G1 XG1 L1
    go_upto_region 6 with fail
    have b3 := (Below.refl W2.heap.size W2).alloc (Nat.le_refl _) (.cells #[.slice none 0 0, .slice none 0 0] 69)
    have hz3 : (W2.alloc (.cells #[.slice none 0 0, .slice none 0 0] 69)).heap.size = W2.heap.size + 1 := World.size_alloc _ _
    have F0 : Hid (F1S N W1.heap.size (W2.heap.size + 1) (W2.alloc (.cells #[.slice none 0 0, .slice none 0 0] 69)) (W2.alloc (.cells #[.slice none 0 0, .slice none 0 0] 69)) hb lb g W2.heap.size (homF A 0) (treF A 0) none 0) :=
      ⟨⟨_, LL.out.below b3, ufF_init N⟩, blkA_new 69 W2 _, World.ownsRow_nil _ _ _ _, fun _ _ _ => rfl, rfl, rfl, rfl, by rw [hz3]; exact Nat.le_refl _, LL.out.glt.2, block_lt_of_cell LL.out.hc, block_lt_of_cell LL.out.lc, Nat.lt_succ_self _⟩
    have hgB := LL.out.glt
    have Z3 := hiddenN (Z2.out.below b3)
    have G3 := hiddenN (G2.out.below b3)
    have XG3 := hiddenN (XG2.out.below b3)
    have L3 := hiddenN (L2.out.trans (b3.mono L2.out.size))
    have hwW : w.heap.size + 1 < W2.heap.size := Z2.out.lt
    clear b3 Z2 G2 XG2 L2 LL
    obtain ⟨fb, hfb⟩ : ∃ q, W2.heap.size = q := ⟨_, rfl⟩
    obtain ⟨B0, hB0⟩ : ∃ q, W1.heap.size = q := ⟨_, rfl⟩
    rw [hfb] at F0 hz3 hwW hgB hs1
    rw [hB0] at F0 hgB hs1 hwW1
    rw [hfb]
    generalize W2.alloc (.cells #[.slice none 0 0, .slice none 0 0] 69) = V0 at *
    clear hfb hB0
    have z1 := XG3.out.cell (k := 1) rfl
    simp only [List.getElem_toArray, List.getElem_cons_zero, List.getElem_cons_succ] at z1
    go_upto_region 7 with fail
    go_loopg [26] A.length (fun gk u wr => ∃ (q c : Nat) (d : Option Addr), q ≤ A.length ∧ gk = A.length - q ∧ u = .int .i64 (q : Int) ∧ F1S N B0 (fb + 1) V0 wr hb lb g fb (homF A q) (treF A q) d c)
    case atStart => exact ⟨0, 0, none, Nat.zero_le _, rfl, rfl, F0.out⟩
    case round =>
      clear F0 z1
      obtain ⟨q, c', d, hq, rfl, rfl, hF⟩ := hrel
      have FI := hiddenN hF
      have hsz := hF.size
      clear hF
      have bw : Below (w.heap.size + 2) V0 wr := FI.out.old (Below.refl _ _) (by omega) (by omega) (by omega)
      by_cases hlt : q < A.length
      · have hki : (q : Int) < (A.length : Int) := by omega
        have GR := G3.out
        rcases GR with e | ⟨eb, eo, ee, hce⟩
        · rw [e] at hlt; simp at hlt
        have hla : (eb : Nat) < w.heap.size + 2 := by have := HLT.out (by omega) _ ee; simp only at this; omega
        have hce' := hce q hlt
        obtain ⟨e0, e1, e2, e3, e4⟩ := hce'
        have hsd := SA.out q hlt
        obtain ⟨⟨f0, f1⟩, ⟨t0, t1⟩, -, -, -⟩ := hsd
        have hfN : fN A q = (nthNa A q).f.toNat := rfl
        have htN : tN A q = (nthNa A q).t.toNat := rfl
        clear hce
        have j0 := cellN_keep bw hla e0
        have j1 := cellN_keep bw hla e1
        have j2 := cellN_keep bw hla e2
        have j3 := cellN_keep bw hla e3
        have j4 := cellN_keep bw hla e4
        clear e0 e1 e2 e3 e4
        generalize nthNa A q = ar at *
        obtain ⟨af, at', ag, ak, az⟩ := ar
        simp only at j0 j1 j2 j3 j4 f0 f1 t0 t1 hfN htN
        obtain ⟨fn, rfl⟩ : ∃ k : Nat, af = (k : Int) := ⟨af.toNat, by omega⟩
        obtain ⟨tn, rfl⟩ : ∃ k : Nat, at' = (k : Int) := ⟨at'.toNat, by omega⟩
        simp only [Int.toNat_natCast] at hfN htN
        have HFN := hiddenN hfN
        have HTN := hiddenN htN
        subst ee
        clear hfN htN
        go_upto_region 9 with fail
        have bc := (Below.refl wr.heap.size wr).alloc (Nat.le_refl _) (.cells #[.int .i64 (fn : Int), .int .i64 (tn : Int), .int .i64 ag, .int .i64 ak, .int .i64 az] 61)
        have XE := hiddenN (blkA_new 61 wr #[.int .i64 (fn : Int), .int .i64 (tn : Int), .int .i64 ag, .int .i64 ak, .int .i64 az])
        have FX := hiddenN (FI.out.below bc)
        obtain ⟨xb, hxb⟩ : ∃ q, wr.heap.size = q := ⟨_, rfl⟩
        rw [hxb] at XE ⊢
        generalize wr.alloc (.cells #[.int .i64 (fn : Int), .int .i64 (tn : Int), .int .i64 ag, .int .i64 ak, .int .i64 az] 61) = V1 at *
        have x0 := XE.out.cell (k := 0) rfl
        have x1 := XE.out.cell (k := 1) rfl
        simp only [List.getElem_toArray, List.getElem_cons_zero, List.getElem_cons_succ] at x0 x1
        clear bc j0 j1 j2 j3 j4 hxb bw hsz
        obtain ⟨L, hL, hU⟩ := FX.out.loo
        have JN := hiddenN (join_any hL hU (fun v => homF_le) fn tn (by omega) (by omega))
        have UJ := hiddenN (hU.join (fun v => homF_idem) (a := fn) (b := tn) (by have := homF_le (A := A) (k := q) (v := fn); omega) (by have := homF_le (A := A) (k := q) (v := tn); omega))
        have HH : Hid ((if homF A q fn = homF A q tn then homF A q else mergeF (homF A q) (homF A q fn) (homF A q tn)) = homF A (q + 1)) := by
          show _ = (if homF A q (fN A q) = homF A q (tN A q) then homF A q else mergeF (homF A q) (homF A q (fN A q)) (homF A q (tN A q)))
          rw [HFN.out, HTN.out]
        have TS : Hid (homF A q fn = homF A q tn → treF A (q + 1) = treF A q) := fun e => treF_same (by rw [HFN.out, HTN.out]; exact e)
        have TN : Hid (¬ homF A q fn = homF A q tn → treF A (q + 1) = treF A q ++ [q]) := fun e => treF_new (by rw [HFN.out, HTN.out]; exact e)
        rw [HH.out] at UJ
        have hTl : (intsF (treF A q)).length ≤ 96 := by have := treF_len (A := A) (k := q); rw [intsF_len]; omega
        clear hL hU HH HFN HTN XE
        by_cases hj : homF A q fn = homF A q tn
        · have TE := hiddenN (TS.out hj)
          have hj1 : (!decide (homF A q fn = homF A q tn)) = false := by simp [hj]
          rw [hj1] at JN
          clear TS TN hj hj1
          go_wp2_with (go_at_call 71; (with_reducible refine JN.out.mono ?_); rintro e W3 ⟨rfl, q1, q2⟩; have F9 := hiddenN (FX.out.join q1 UJ.out q2); clear q1 q2 x0 x1)
          go_roundg (A.length - (q + 1))
          case measure => omega
          case rel => exact ⟨q + 1, c', d, by omega, rfl, by go_num, by rw [TE.out]; exact F9.out⟩
        · have TE := hiddenN (TN.out hj)
          have hj1 : (!decide (homF A q fn = homF A q tn)) = true := by simp [hj]
          rw [hj1] at JN
          clear TS TN hj hj1
          go_upto_region 10 with (go_at_call 71; (with_reducible refine JN.out.mono ?_); rintro e W3 ⟨rfl, q1, q2⟩; have F9 := hiddenN (FX.out.join q1 UJ.out q2); clear q1 q2 x0 x1)
          have y0 := F9.out.blk.cell (k := 0) rfl
          simp only [List.getElem_toArray, List.getElem_cons_zero] at y0
          clear FX JN UJ FI
          have bx := (Below.refl W3.heap.size W3).alloc (Nat.le_refl _) (.cells #[.int .i64 (q : Int)] 3)
          have FA := hiddenN (F9.out.below bx)
          have AX : Hid (At (W3.alloc (.cells #[.int .i64 (q : Int)] 3)) (some ⟨W3.heap.size, 0, none⟩) [(q : Int)]) := .inr ⟨W3.heap.size, 0, rfl, fun k hk => by
            have e : k = 0 := by simp at hk; omega
            subst e
            simp [nth]⟩
          have hs9 := F9.out.size
          have hsA : fb + 1 ≤ (W3.alloc (.cells #[.int .i64 (q : Int)] 3)).heap.size := Nat.le_trans hs9 bx.size
          clear bx F9
          go_wp2_with (at_builtin; refine wpList_appI rfl _ _ rfl (fb + 1) d c' (intsF (treF A q)) rfl FA.out.row (some ⟨W3.heap.size, 0, none⟩) 1 [(q : Int)] rfl (fun e => by cases e) AX.out (by simp; omega) hsA ((intsF (treF A q)).length + 1) (intsF (treF A q) ++ [(q : Int)]) rfl rfl ?_; intro d3 c3 W4 hd3 b3; have GW := hiddenN (FA.out.grow hd3 b3); have y4 := GW.out.1.cell (k := 0) rfl; have f4 := GW.out.1.frozen 0; simp only [List.getElem_toArray, List.getElem_cons_zero] at y4; have GE := hiddenN GW.out.2; clear hd3 b3 y0)
          go_roundg (A.length - (q + 1))
          case measure => omega
          case rel => exact ⟨q + 1, c3, d3, by omega, rfl, by go_num, by rw [TE.out]; exact GE.out⟩
      · have ek : q = A.length := by omega
        have hki : ¬ (q : Int) < (A.length : Int) := by omega
        have Zr := hiddenN (Z3.out.keep (bw.block _ (by omega)))
        have Xr := hiddenN (XG3.out.keep (bw.block _ (by omega)))
        have Lr := hiddenN (L3.out.trans (bw.mono (by omega)))
        have z0 := Xr.out.cell (k := 0) rfl
        simp only [List.getElem_toArray, List.getElem_cons_zero] at z0
        rw [ek] at FI
        clear ek bw
        go_upto_region 13 with fail
        obtain ⟨L, hL, hU⟩ := FI.out.loo
        have HL := hiddenN hL
        have HU := hiddenN hU
        have FJ := FI
        clear FI hL hU
        obtain ⟨W5, hW5⟩ : ∃ q, wr = q := ⟨_, rfl⟩
        rw [hW5] at Zr Xr Lr z0 HL FJ hsz ⊢
        clear hW5
        obtain ⟨T, hT⟩ : ∃ q, treF A A.length = q := ⟨_, rfl⟩
        obtain ⟨H, hH⟩ : ∃ q, homF A A.length = q := ⟨_, rfl⟩
        rw [hT] at FJ HE
        rw [hH] at FJ HE HU
        have hHle : ∀ v, H v ≤ v := fun v => by rw [← hH]; exact homF_le
        clear hT hH
        obtain ⟨l1, hl1⟩ : ∃ q, (intsF T).length = q := ⟨_, rfl⟩
        obtain ⟨S, hS⟩ : ∃ q, W5.heap.size = q := ⟨_, rfl⟩
        have hlow := FJ.out.low
        have F20 : Hid (F2S N S fb W5 W5 d none c' 0 l1 (rowF 0 H)) := by
          have hb0 := FJ.out.blk
          rw [hl1] at hb0
          exact ⟨hb0, World.ownsRow_nil _ _ _ _, fun _ _ _ => rfl, rfl, rfl, rfl, by omega, by omega⟩
        obtain ⟨c1, hc1⟩ : ∃ q, c' = q := ⟨_, rfl⟩
        obtain ⟨d1, hd1⟩ : ∃ q, d = q := ⟨_, rfl⟩
        rw [hc1, hd1] at F20 FJ
        clear hc1 hd1
        go_loopg [46] N (fun gk u wr => ∃ (q c2 : Nat) (d2 : Option Addr), q ≤ N ∧ gk = N - q ∧ u = .int .i64 (q : Int) ∧ F2S N S fb W5 wr d1 d2 c1 c2 l1 (rowF q H))
        case atStart => exact ⟨0, 0, none, Nat.zero_le _, rfl, rfl, F20.out⟩
        case round =>
          clear F20 z0
          obtain ⟨q, c2, d2, hq, rfl, rfl, hF⟩ := hrel
          have FI := hiddenN hF
          have hsz2 := hF.size
          clear hF
          have hRl : (rowF q H).length ≤ 32 := by rw [rowF_len]; omega
          by_cases hlt : q < N
          · have hki : (q : Int) < (N : Int) := by omega
            have hLr := HL.out.keep (FI.out.but hb (by omega) (by omega)) (FI.out.but lb (by omega) (by omega)) (FI.out.but g (by omega) (by omega))
            have HM : Hid (∀ U, Below wr.heap.size wr U → Calls Tryz.prog 70 #[.int .i64 (q : Int), .pointer (some ⟨lb, 0, none⟩)] U fun e w' => e = .returned (.int .i64 (H q : Int)) ∧ w' = U) := fun U hU' => home_any (hLr.below hU') HU.out q hlt
            have RN := hiddenN (rowF_snoc q H)
            clear hLr
            generalize H q = x at *
            generalize rowF q H = R at *
            go_upto_region 15 with fail
            refine wp_region_gen [6, 8] (fun d_ i u z => match i with
                | 0 => z = .pointer (some ⟨fb, 1, none⟩)
                | 1 => z = .slice d2 R.length c2
                | 2 => z = .func (.func 70) #[] #[.pointer (some ⟨lb, 0, none⟩)]
                | 3 => z = .int .i64 (q : Int)
                | 4 => z = .int .i64 (x : Int)
                | 5 => (d_ 6 = false → ∃ g, z = .slice (some ⟨g, 0, none⟩) 1 1 ∧ u.cell? ⟨g, 0, none⟩ = some (.int .i64 (x : Int)))
                | 6 => (d_ 6 = true ∧ (d_ 8 = false → ∃ dd cc, z = .slice dd (R.length + 1) cc ∧ GrwN S wr d2 (R ++ [(x : Int)]) u dd cc))
                | 7 => z = .pointer (some ⟨fb, 1, none⟩)
                | 8 => True
                | _ => True) (fun d_ u => (d_ 6 = false → Below wr.heap.size wr u) ∧ (d_ 8 = true → ∃ dd cc, F2S N S fb W5 u d1 dd c1 cc l1 (R ++ [(x : Int)]))) (by kernel_rfl) (by kernel_rfl) (by kernel_rfl) ?_ ?_ ?_ ?_ ?_ ?_ (by kernel_rfl)
            · intro d_ i w v w' h hb
              match i, h with
              | 0, h => exact h
              | 1, h => exact h
              | 2, h => exact h
              | 3, h => exact h
              | 4, h => exact h
              | 5, h => exact fun e => by obtain ⟨g, h1, h2⟩ := h e; exact ⟨g, h1, cellN_later hb h2⟩
              | 6, h => exact ⟨h.1, fun e => by obtain ⟨dd, cc, h1, h2⟩ := h.2 e; exact ⟨dd, cc, h1, h2.later hb⟩⟩
              | 7, h => exact h
              | 8, h => exact h
              | _ + 9, _ => trivial
            · intro d_ u u' h hb
              exact ⟨fun e => (h.1 e).trans (hb.mono (h.1 e).size), fun e => by obtain ⟨dd, cc, hF⟩ := h.2 e; exact ⟨dd, cc, hF.below hb⟩⟩
            · exact ⟨fun _ => Below.refl _ _, fun e => absurd e (by decide)⟩
            · intro d_ i o ρ w' hm ho hf hg hC hcs hfs hfr hdep
              match i, hm, ho, hf, hg, hfr, hdep with
              | 0, _, ho, hf, hg, hfr, hdep =>
                simp only [gTA, gCZ, gSI] at ho
                subst ho
                refine ⟨fun _ => ?_, fun hw => absurd (show true = false from hw) (by decide)⟩
                have ts : ρ (.tmp 7) = .pointer (some ⟨fb, 0, none⟩) := hfr 7 (by kernel_rfl)
                simp [go_sem, ts]
                exact ⟨Below.refl _ _, rfl⟩
              | 1, _, ho, hf, hg, hfr, hdep =>
                simp only [gTA, gCZ, gCS, gSI] at ho
                subst ho
                refine ⟨fun _ => ?_, fun hw => absurd (show true = false from hw) (by decide)⟩
                have h6 : d_ 6 = false := hf 6 (by decide) (by kernel_rfl)
                have cc : w'.cell? ⟨fb, 1, none⟩ = some (.slice d2 R.length c2) := (FI.out.blk.below (hC.1 h6)).cell rfl
                have d0 : ρ (.tmp 49) = .pointer (some ⟨fb, 1, none⟩) := hdep 0 49 (by kernel_rfl) (by kernel_rfl)
                simp [go_sem, d0, cc]
                exact ⟨Below.refl _ _, rfl⟩
              | 2, _, ho, hf, hg, hfr, hdep =>
                simp only [gTA, gCZ, gCS, gSI] at ho
                subst ho
                refine ⟨fun _ => ?_, fun hw => absurd (show true = false from hw) (by decide)⟩
                have ts : ρ (.tmp 6) = .func (.func 70) #[] #[.pointer (some ⟨lb, 0, none⟩)] := hfr 6 (by kernel_rfl)
                simp [go_sem, ts]
                exact ⟨Below.refl _ _, rfl⟩
              | 3, _, ho, hf, hg, hfr, hdep =>
                simp only [gTA, gCZ, gCS, gSI] at ho
                subst ho
                refine ⟨fun _ => ?_, fun hw => absurd (show true = false from hw) (by decide)⟩
                have ts : ρ (.tmp 10) = .int .i64 (q : Int) := hfr 10 (by kernel_rfl)
                simp [go_sem, ts]
                exact ⟨Below.refl _ _, rfl⟩
              | 4, _, ho, hf, hg, hfr, hdep =>
                simp only [gTA, gCZ, gCS, gSI] at ho
                subst ho
                refine ⟨fun _ => ?_, fun hw => absurd (show true = false from hw) (by decide)⟩
                have t0 : ρ (.tmp 51) = .func (.func 70) #[] #[.pointer (some ⟨lb, 0, none⟩)] := hdep 2 51 (by kernel_rfl) (by kernel_rfl)
                have t1 : ρ (.tmp 52) = .int .i64 (q : Int) := hdep 3 52 (by kernel_rfl) (by kernel_rfl)
                have h6 : d_ 6 = false := hf 6 (by decide) (by kernel_rfl)
                simp [go_sem, t0, t1]
                exact ⟨rfl, (HM.out w' (hC.1 h6)).mono fun e w'' hh => ⟨_, hh.1, by rw [hh.2]; exact Below.refl _ _, rfl⟩⟩
              | 5, _, ho, hf, hg, hfr, hdep =>
                simp only [gTA, gCZ, gCS, gSI] at ho
                subst ho
                refine ⟨fun _ => ?_, fun hw => absurd (show true = false from hw) (by decide)⟩
                have t0 : ρ (.tmp 53) = .int .i64 (x : Int) := hdep 4 53 (by kernel_rfl) (by kernel_rfl)
                simp [go_sem, t0]
                exact ⟨(Below.refl _ _).alloc (Nat.le_refl _) _, fun _ => ⟨w'.heap.size, rfl, by simp⟩⟩
              | 6, hm, _, _, _, _, _ => exact absurd hm (by decide)
              | 7, _, ho, hf, hg, hfr, hdep =>
                simp only [gTA, gCZ, gCS, gSI] at ho
                subst ho
                refine ⟨fun _ => ?_, fun hw => absurd (show true = false from hw) (by decide)⟩
                have ts : ρ (.tmp 7) = .pointer (some ⟨fb, 0, none⟩) := hfr 7 (by kernel_rfl)
                simp [go_sem, ts]
                exact ⟨Below.refl _ _, rfl⟩
              | 8, hm, _, _, _, _, _ => exact absurd hm (by decide)
              | n + 9, _, ho, _, _, _, _ => simp at ho
            · intro d_ i o ρ w' hm ho h0 hf hg hC hcs hfs hfr hdep
              match i, hm, ho, h0, hf, hg, hfr, hdep with
              | 0, hm, _, _, _, _, _, _ => exact absurd hm (by decide)
              | 1, hm, _, _, _, _, _, _ => exact absurd hm (by decide)
              | 2, hm, _, _, _, _, _, _ => exact absurd hm (by decide)
              | 3, hm, _, _, _, _, _, _ => exact absurd hm (by decide)
              | 4, hm, _, _, _, _, _, _ => exact absurd hm (by decide)
              | 5, hm, _, _, _, _, _, _ => exact absurd hm (by decide)
              | 6, _, ho, h0, hf, hg, hfr, hdep =>
                simp only [gTA, gCZ, gCS, gSI] at ho
                subst ho
                have t0 : ρ (.tmp 50) = .slice d2 R.length c2 := hdep 1 50 (by kernel_rfl) (by kernel_rfl)
                obtain ⟨g', t1, cg⟩ : ∃ g, ρ (.tmp 54) = .slice (some ⟨g, 0, none⟩) 1 1 ∧ w'.cell? ⟨g, 0, none⟩ = some (.int .i64 (x : Int)) := hdep 5 54 (by kernel_rfl) (by kernel_rfl) h0
                have h8 : d_ 8 = false := hf 8 (by decide) (by kernel_rfl)
                refine ⟨rfl, mark_appN (.tmp 50) (.tmp 54) rfl t0 t1 FI.out.row (hC.1 h0) cg (by omega) FI.out.size ?_⟩
                intro u9 d9 c9 hG
                refine ⟨⟨fun e => absurd e (by rw [doneAt_eq]; decide), fun e => absurd ((doneAt_ne d_ (by decide)).symm.trans e) (by rw [h8]; decide)⟩, fun _ => ⟨doneAt_eq _ _, fun _ => ⟨d9, c9, rfl, hG⟩⟩, ?_⟩
                intro j t hj hs
                match j, hs with
                | 0, hs => exact hs
                | 1, hs => exact hs
                | 2, hs => exact hs
                | 3, hs => exact hs
                | 4, hs => exact hs
                | 5, hs => exact fun e => absurd e (by rw [doneAt_eq]; decide)
                | 6, hs => exact absurd hs.1 (by rw [h0]; decide)
                | 7, hs => exact hs
                | 8, _ => trivial
                | _ + 9, _ => trivial
              | 7, hm, _, _, _, _, _, _ => exact absurd hm (by decide)
              | 8, _, ho, h0, hf, hg, hfr, hdep =>
                simp only [gTA, gCZ, gCS, gSI] at ho
                subst ho
                have t0 : ρ (.tmp 56) = .pointer (some ⟨fb, 1, none⟩) := hdep 7 56 (by kernel_rfl) (by kernel_rfl)
                have t9 : d_ 6 = true ∧ (d_ 8 = false → ∃ dd cc, ρ (.tmp 55) = .slice dd (R.length + 1) cc ∧ GrwN S wr d2 (R ++ [(x : Int)]) w' dd cc) := hdep 6 55 (by kernel_rfl) (by kernel_rfl)
                obtain ⟨dd, cc, e9, hG⟩ := t9.2 h0
                have hF := FI.out.grow hG
                have c1 : w'.cell? ⟨fb, 1, none⟩ = some (.slice d2 R.length c2) := hF.1.cell rfl
                have f1 := hF.1.frozen 1
                refine ⟨rfl, markUpon_skip (w' := w'.setCell ⟨fb, 1, none⟩ (.slice dd (R.length + 1) cc)) (by simp [go_sem, t0, e9, c1, f1]) ?_⟩
                refine ⟨⟨fun e => absurd ((doneAt_ne d_ (by decide)).symm.trans e) (by rw [t9.1]; decide), fun _ => ⟨dd, cc, hF.2⟩⟩, fun h => absurd rfl h, ?_⟩
                intro j t hj hs
                match j, hs with
                | 0, hs => exact hs
                | 1, hs => exact hs
                | 2, hs => exact hs
                | 3, hs => exact hs
                | 4, hs => exact hs
                | 5, hs => exact fun e => absurd ((doneAt_ne d_ (by decide)).symm.trans e) (by rw [t9.1]; decide)
                | 6, hs => exact ⟨(doneAt_ne d_ (by decide)).trans hs.1, fun e => absurd e (by rw [doneAt_eq]; decide)⟩
                | 7, hs => exact hs
                | 8, _ => trivial
                | _ + 9, _ => trivial
              | n + 9, _, ho, _, _, _, _, _ => simp at ho
            · intro U3 w7 hC7 hS
              simp only [puts, put_none]
              simp only [Act.put, List.setIfInBounds_toArray, List.set_cons_zero, List.set_cons_succ]
              clear hS 
              obtain ⟨d', c'', F9⟩ := hC7.2 rfl
              have F9h := hiddenN F9
              rw [← RN.out] at F9h
              clear hC7 F9 FI HM
              go_wp2
              go_roundg (N - (q + 1))
              case measure => omega
              case rel => exact ⟨q + 1, c'', d', by omega, rfl, by go_num, F9h.out⟩
          · have ek : q = N := by omega
            have hki : ¬ (q : Int) < (N : Int) := by omega
            rw [ek] at FI hRl
            clear ek
            have y0 := FI.out.blk.cell (k := 0) rfl
            have y1 := FI.out.blk.cell (k := 1) rfl
            simp only [List.getElem_toArray, List.getElem_cons_zero, List.getElem_cons_succ] at y0 y1
            have Z8 := hiddenN (Zr.out.keep (FI.out.but _ (by omega) (by omega)))
            go_wp2_with (refine wpList_storeW _ rfl 69 (.tmp 2) (.tmp 58) rfl rfl (w.heap.size + 1) 69 _ _ rfl rfl Z8.out sizFor rfl rfl ?_; intro w8 hN hU; have N8 := hiddenN hN; have U8 := hiddenN hU; clear hN hU)
            have r0 := N8.out.cell (k := 0) rfl
            have r1 := N8.out.cell (k := 1) rfl
            simp only [List.getElem_toArray, List.getElem_cons_zero, List.getElem_cons_succ] at r0 r1
            refine bodyPost_ret (v := .tuple #[.agg #[.slice d1 l1 c1, .slice d2 (rowF N H).length c2], .int .i64 0]) (by simp [results, Tryz.results18, go_sem, r0, r1]) rfl ?_
            rw [HE.out]
            have k1 : CapR (fb + 1) wr d1 c1 (intsF T) := FJ.out.row.keep fun x hx => FI.out.but _ (by have := (FJ.out.row.lt x hx).2; omega) (by have := (FJ.out.row.lt x hx).1; omega)
            have k2 := FI.out.row
            have e1 : CapR w.heap.size w8 d1 c1 (intsF T) := CapR.mono (base := fb + 1) (k1.keep fun x hx => U8.out.block _ (k1.lt x hx).2 (by have := (k1.lt x hx).1; omega)) (by omega)
            have e2 : CapR w.heap.size w8 d2 c2 (rowF N H) := CapR.mono (base := S) (k2.keep fun x hx => U8.out.block _ (k2.lt x hx).2 (by have := (k2.lt x hx).1; omega)) (by omega)
            refine ⟨d1, c1, d2, c2, by rw [hl1], e1, e2, fun x y hx hy => ?_, ?_⟩
            · have := (FJ.out.row.lt x hx).2
              have := (k2.lt y hy).1
              omega
            · have hw8 := FI.out.old (Lr.out.mono (Nat.le_refl _)) (by omega) (by omega)
              exact hw8.trans (U8.out.below (Nat.le_succ _) (by omega))
  · obtain ⟨cd, hcd⟩ : ∃ q, checkN ⟨nn, A⟩ = q := ⟨_, rfl⟩
    have HE : Hid (OE = fun e w' => e = .returned (.tuple #[.agg #[.slice none 0 0, .slice none 0 0], .int .i64 cd]) ∧ Below w.heap.size w w') := by
      show _ = _
      rw [← HOE.out]
      funext e w'
      unfold OfFE
      rw [if_neg hc, hcd]
    rw [hcd] at CK hc
    have hcb : (cd != 0) = true := by simpa using hc
    clear hcd HOE
    go_enter Tryz.func18, Tryz.ntmps18
    go_upto_region 1 with fail
    generalize (w.alloc (.cells #[.int .i64 nn, .slice a A.length c] 30)).alloc (.cells #[.slice none 0 0, .slice none 0 0] 69) = W0 at *
    go_wp2_with (first
      | (go_at_call 22; (with_reducible refine CK.out.mono ?_); rintro e W1 ⟨rfl, bb⟩; have Z1 := hiddenN (XZ.out.below bb); have L1 := hiddenN (B1.out.trans (bb.mono B1.out.size)); clear bb)
      | (refine wpList_storeW _ rfl 69 (.tmp 2) (.tmp 15) rfl rfl (w.heap.size + 1) 69 _ _ rfl rfl Z1.out sizFor rfl rfl ?_; intro w8 hN hU; have N8 := hiddenN hN; have U8 := hiddenN hU; clear hN hU))
    have r0 := N8.out.cell (k := 0) rfl
    have r1 := N8.out.cell (k := 1) rfl
    simp only [List.getElem_toArray, List.getElem_cons_zero, List.getElem_cons_succ] at r0 r1
    refine bodyPost_ret (v := .tuple #[.agg #[.slice none 0 0, .slice none 0 0], .int .i64 cd]) (by simp [results, Tryz.results18, go_sem, r0, r1]) rfl ?_
    rw [HE.out]
    exact ⟨rfl, L1.out.trans (U8.out.below (Nat.le_succ _) L1.out.size)⟩
end Go.Proofs.YtmnbapcbailcbaaGreat

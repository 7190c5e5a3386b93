/- Texts of one chain, laid one behind the other. -/
import Derived.Test.YtimioiaoefhabaaGreatPartPackChecks27
import Derived.Test.YtimioiaoefhabaaGreatPartPackChecks21
namespace Go.Proofs.YtimioiaoefhabaaGreat
open Go.ChangeShapes Go.WideShapes Go.ChangeAt Go.RowKit
def netX : NN := ⟨2, [⟨0, 1, 2, 1, 0⟩, ⟨1, 0, 1, 2, 2⟩]⟩
theorem wakeX1 : codeV netX [0, 1, 1] = 0 ∧ cloL netX [0, 1, 1] = [(0, 1)] ∧ plaC netX [0, 1, 1] = 0 ∧ plaL netX [0, 1, 1] = [(0, 2), (2, 2)] ∧ plaT netX [0, 1, 1] = 4 := by decide +kernel
theorem wakeX2 : plaC netX [0, 1] = 181 ∧ plaL netX [0, 1] = [] ∧ plaT netX [0, 1] = 0 ∧ chkC netX [(0, 2), (1, 2)] 3 [0, 1, 1] = 192 ∧ chkC netX [(3, 2), (0, 3)] 5 [0, 1, 1] = 0 := by decide +kernel
theorem atN_alloc2X (U : World) : AtN (U.alloc (.cells #[.int .i64 0, .int .i64 1, .int .i64 2, .int .i64 1, .int .i64 0, .int .i64 1, .int .i64 0, .int .i64 1, .int .i64 2, .int .i64 2] 53)) (some ⟨U.heap.size, 0, none⟩) netX.arcs := by
  refine .inr ⟨U.heap.size, 0, rfl, fun k hk => ?_⟩
  have b := blkA_new 53 U #[.int .i64 0, .int .i64 1, .int .i64 2, .int .i64 1, .int .i64 0, .int .i64 1, .int .i64 0, .int .i64 1, .int .i64 2, .int .i64 2]
  match k, hk with
  | 0, _ => exact ⟨b.cell rfl, b.cell rfl, b.cell rfl, b.cell rfl, b.cell rfl⟩
  | 1, _ => exact ⟨b.cell rfl, b.cell rfl, b.cell rfl, b.cell rfl, b.cell rfl⟩
set_option maxRecDepth 100000 in
set_option maxHeartbeats 4000000 in
theorem two_anyX (w : World) : Calls Tryz.prog 25 #[] w fun e w' => ∃ x, e = .returned (.agg #[.int .i64 2, .slice (some x) 2 2]) ∧ AtN w' (some x) netX.arcs ∧ Below w.heap.size w w' := by
  have b0 := (Below.refl w.heap.size w).alloc (Nat.le_refl _) (.cells #[.int .i64 0, .slice none 0 0] 24)
  have G0 := hiddenN (blkA_new 24 w #[.int .i64 0, .slice none 0 0])
  have B0 := hiddenN b0
  clear b0
  go_enter Tryz.func25, Tryz.ntmps25
  go_upto_region 1 with fail
  generalize w.alloc (.cells #[.int .i64 0, .slice none 0 0] 24) = W0 at *
  have a1 := (Below.refl W0.heap.size W0).alloc (Nat.le_refl _) (.cells #[.int .i64 0, .int .i64 1, .int .i64 2, .int .i64 1, .int .i64 0, .int .i64 1, .int .i64 0, .int .i64 1, .int .i64 2, .int .i64 2] 53)
  have H1 := hiddenN (atN_alloc2X W0)
  have A1 := hiddenN a1
  have G1 := hiddenN (G0.out.below a1)
  clear a1
  have hlt := G0.out.lt
  go_wp2_with (refine wpList_storeW _ rfl 24 (.tmp 0) (.tmp 4) rfl rfl w.heap.size 24 _ _ rfl rfl G1.out sizNet rfl rfl ?_; intro w8 hN hU; have N8 := hiddenN hN; have U8 := hiddenN hU; clear hN hU)
  have t0 : w8.cell? ⟨w.heap.size, 0, none⟩ = some (.int .i64 2) := N8.out.cell rfl
  have t1 : w8.cell? ⟨w.heap.size, 1, none⟩ = some (.slice (some ⟨W0.heap.size, 0, none⟩) 2 2) := N8.out.cell rfl
  refine bodyPost_ret (v := .agg #[.int .i64 2, .slice (some ⟨W0.heap.size, 0, none⟩) 2 2]) (by simp [results, Tryz.results25, go_sem, t0, t1]) rfl ?_
  have hs1 : (W0.alloc (.cells #[.int .i64 0, .int .i64 1, .int .i64 2, .int .i64 1, .int .i64 0, .int .i64 1, .int .i64 0, .int .i64 1, .int .i64 2, .int .i64 2] 53)).heap.size = W0.heap.size + 1 := World.size_alloc _ _
  exact ⟨_, rfl, H1.out.keep fun x hx => by cases hx; exact U8.out.block _ (by show W0.heap.size < _; omega) (by show W0.heap.size ≠ w.heap.size; omega), B0.out.trans ((A1.out.mono B0.out.size).trans (U8.out.below (Nat.le_refl _) (Nat.le_trans B0.out.size A1.out.size)))⟩
theorem atGn_two (U : World) (p0 p1 p2 p3 : Int) : AtGn (U.alloc (.cells #[.int .i64 p0, .int .i64 p1, .int .i64 p2, .int .i64 p3] 47)) (some ⟨U.heap.size, 0, none⟩) [(p0, p1), (p2, p3)] := by
  refine .inr ⟨U.heap.size, 0, rfl, fun k hk => ?_⟩
  have b := blkA_new 47 U #[.int .i64 p0, .int .i64 p1, .int .i64 p2, .int .i64 p3]
  match k, hk with
  | 0, _ => exact ⟨b.cell rfl, b.cell rfl⟩
  | 1, _ => exact ⟨b.cell rfl, b.cell rfl⟩
set_option maxRecDepth 100000 in
set_option maxHeartbeats 4000000 in
theorem plan_anyX (p0 p1 p2 p3 p4 : Int) (w : World) : Calls Tryz.prog 26 #[.int .i64 p0, .int .i64 p1, .int .i64 p2, .int .i64 p3, .int .i64 p4] w fun e w' => ∃ x, e = .returned (.agg #[.slice (some x) 2 2, .int .i64 p4]) ∧ AtGn w' (some x) [(p0, p1), (p2, p3)] ∧ Below w.heap.size w w' := by
  have b0 := (Below.refl w.heap.size w).alloc (Nat.le_refl _) (.cells #[.slice none 0 0, .int .i64 0] 41)
  have G0 := hiddenN (blkA_new 41 w #[.slice none 0 0, .int .i64 0])
  have B0 := hiddenN b0
  clear b0
  go_enter Tryz.func26, Tryz.ntmps26
  go_upto_region 1 with fail
  generalize w.alloc (.cells #[.slice none 0 0, .int .i64 0] 41) = W0 at *
  have a1 := (Below.refl W0.heap.size W0).alloc (Nat.le_refl _) (.cells #[.int .i64 p0, .int .i64 p1, .int .i64 p2, .int .i64 p3] 47)
  have H1 := hiddenN (atGn_two W0 p0 p1 p2 p3)
  have A1 := hiddenN a1
  have G1 := hiddenN (G0.out.below a1)
  clear a1
  have hlt := G0.out.lt
  go_wp2_with (refine wpList_storeW _ rfl 41 (.tmp 10) (.tmp 19) rfl rfl w.heap.size 41 _ _ rfl rfl G1.out Tryz.sizPl rfl rfl ?_; intro w8 hN hU; have N8 := hiddenN hN; have U8 := hiddenN hU; clear hN hU)
  have t0 : w8.cell? ⟨w.heap.size, 0, none⟩ = some (.slice (some ⟨W0.heap.size, 0, none⟩) 2 2) := N8.out.cell rfl
  have t1 : w8.cell? ⟨w.heap.size, 1, none⟩ = some (.int .i64 p4) := N8.out.cell rfl
  refine bodyPost_ret (v := .agg #[.slice (some ⟨W0.heap.size, 0, none⟩) 2 2, .int .i64 p4]) (by simp [results, Tryz.results26, go_sem, t0, t1]) rfl ?_
  have hs1 : (W0.alloc (.cells #[.int .i64 p0, .int .i64 p1, .int .i64 p2, .int .i64 p3] 47)).heap.size = W0.heap.size + 1 := World.size_alloc _ _
  have hk : w8.heap[W0.heap.size]? = (W0.alloc (.cells #[.int .i64 p0, .int .i64 p1, .int .i64 p2, .int .i64 p3] 47)).heap[W0.heap.size]? := U8.out.block _ (by omega) (by omega)
  refine ⟨_, rfl, ?_, B0.out.trans ((A1.out.mono B0.out.size).trans (U8.out.below (Nat.le_refl _) (Nat.le_trans B0.out.size A1.out.size)))⟩
  rcases H1.out with e | ⟨b, off, e, hc⟩
  · cases e
  · cases e
    exact .inr ⟨_, _, rfl, fun k hkk => ⟨(World.cell?_of_block hk).trans (hc k hkk).1, (World.cell?_of_block hk).trans (hc k hkk).2⟩⟩
set_option maxRecDepth 100000 in
set_option maxHeartbeats 4000000 in
theorem same_planX (a b : Option Addr) (n c d : Nat) (L : List (Int × Int)) (t : Int) (W : World) (h1 : AtGn W a L) (h2 : AtGn W b L) (hN : L.length = n) (hn : n ≤ 1000000) :
    Calls Tryz.prog 16 #[.agg #[.slice a n c, .int .i64 t], .agg #[.slice b n d, .int .i64 t]] W fun e w' => e = .returned (.bool true) ∧ Below W.heap.size W w' := by
  have y1 : Hid (Below W.heap.size W (W.alloc (.cells #[.slice a n c, .int .i64 t] 41))) := (Below.refl _ _).alloc (Nat.le_refl _) _
  have hs1 : (W.alloc (.cells #[.slice a n c, .int .i64 t] 41)).heap.size = W.heap.size + 1 := World.size_alloc ..
  have y2 : Hid (Below (W.alloc (.cells #[.slice a n c, .int .i64 t] 41)).heap.size (W.alloc (.cells #[.slice a n c, .int .i64 t] 41)) ((W.alloc (.cells #[.slice a n c, .int .i64 t] 41)).alloc (.cells #[.slice b n d, .int .i64 t] 41))) := (Below.refl _ _).alloc (Nat.le_refl _) _
  have G0 := hiddenN ((blkA_new 41 W #[.slice a n c, .int .i64 t]).below y2.out)
  have D0 := hiddenN (blkA_new 41 (W.alloc (.cells #[.slice a n c, .int .i64 t] 41)) #[.slice b n d, .int .i64 t])
  have B0 := hiddenN (y1.out.trans (y2.out.mono (by rw [hs1]; omega)))
  have H1 := hiddenN ((h1.below y1.out).below y2.out)
  have H2 := hiddenN ((h2.below y1.out).below y2.out)
  have HN := hiddenN hN
  rw [hs1] at D0
  clear h1 h2 hN y1 y2 hs1
  have qt : (t != t) = false := by simp
  have qn : ((n : Int) != (n : Int)) = false := by simp
  go_enter Tryz.func16, Tryz.ntmps16
  go_upto_region 1 with fail
  generalize (W.alloc (.cells #[.slice a n c, .int .i64 t] 41)).alloc (.cells #[.slice b n d, .int .i64 t] 41) = W1 at *
  have g0 := G0.out.cell (k := 0) rfl
  have g1 := G0.out.cell (k := 1) rfl
  have d0 := D0.out.cell (k := 0) rfl
  have d1 := D0.out.cell (k := 1) rfl
  simp only [List.getElem_toArray, List.getElem_cons_zero, List.getElem_cons_succ] at g0 g1 d0 d1
  go_wp2
  clear qt qn g1 d1 g0 d0
  go_loopg [5] n (fun gk u wr => ∃ (k m : Nat), k ≤ n ∧ gk = n - k ∧ u = .int .i64 (k : Int) ∧ wr = W1.drewN m)
  case atStart => exact ⟨0, 0, Nat.zero_le _, rfl, rfl, rfl⟩
  case round =>
    obtain ⟨k, m, hk, rfl, rfl, rfl⟩ := hrel
    have g0 := G0.out.cell (k := 0) rfl
    have d0 := D0.out.cell (k := 0) rfl
    simp only [List.getElem_toArray, List.getElem_cons_zero] at g0 d0
    by_cases hlt : k < n
    · have hki : (k : Int) < (n : Int) := by omega
      have hkL : k < L.length := by rw [HN.out]; exact hlt
      rcases H1.out with e1 | ⟨ab, off, rfl, hc⟩
      · rw [e1] at hkL; exact absurd hkL (Nat.not_lt_zero _)
      rcases H2.out with e1 | ⟨bb, of2, rfl, hd⟩
      · rw [e1] at hkL; exact absurd hkL (Nat.not_lt_zero _)
      obtain ⟨c0, c1⟩ := hc k hkL
      obtain ⟨e0, e1⟩ := hd k hkL
      obtain ⟨x1, hx1⟩ : ∃ x, (nthX L k).1 = x := ⟨_, rfl⟩
      obtain ⟨x2, hx2⟩ : ∃ x, (nthX L k).2 = x := ⟨_, rfl⟩
      rw [hx1] at c0 e0
      rw [hx2] at c1 e1
      have hgd : ∀ (op : BinOp) (a b : Operand) (xs ys : Array Value) (w : World), Sem.run Tryz.prog (eqGuard op 47 a b (.agg xs) (.agg ys)) w = .ok () w := Tryz.eqgGn
      have heq : ∀ w, Sem.run Tryz.prog (binOp .neq 47 (.agg #[.int .i64 x1, .int .i64 x2]) (.agg #[.int .i64 x1, .int .i64 x2])) w = .ok (.bool false) w := fun w => by rw [Tryz.neqGn]; simp
      clear hc hd hkL hx1 hx2
      go_upto_region 6 with fail
      go_quiet (fail)
      go_wp2
      go_roundg (n - (k + 1))
      case measure => omega
      case rel => exact ⟨k + 1, m + nq, by omega, rfl, by go_num, by simp⟩
    · have hki : ¬ (k : Int) < (n : Int) := by omega
      go_wp2
      go_ret
      exact ⟨rfl, drewB B0.out _⟩
/-- The plan that the document tells. -/
def PlX (u : World) (z : Value) : Prop := ∃ x, z = .agg #[.slice (some x) 2 2, .int .i64 4] ∧ AtGn u (some x) [(0, 2), (2, 2)]
theorem PlX.later {u u' : World} {z : Value} (h : PlX u z) (hb : Below u.heap.size u u') : PlX u' z := by
  obtain ⟨x, h1, h2⟩ := h
  exact ⟨x, h1, h2.below hb⟩
theorem clashW (w : World) (x y : Addr) (h : AtN w (some x) netX.arcs) (hz : At w (some y) [0, 1, 1]) : Calls Tryz.prog 8 #[.agg #[.int .i64 2, .slice (some x) 2 2], .slice (some y) 3 3] w fun e w' => ∃ d c', e = .returned (.tuple #[.slice d 1 c', .int .i64 0]) ∧ AtPp w' d [(0, 1)] ∧ Below w.heap.size w w' :=
  (clashes_anyX netX (some x) 2 w h (by decide) (fun e => by cases e) (some y) 3 [0, 1, 1] hz (by decide)).mono fun e w' hh => by
    obtain ⟨d, c', e1, q1, q2⟩ := hh
    rw [wakeX1.2.1, wakeX1.1] at e1
    rw [wakeX1.2.1] at q1
    exact ⟨d, c', e1, q1.at, q2⟩
theorem placeW (w : World) (x y : Addr) (h : AtN w (some x) netX.arcs) (hz : At w (some y) [0, 1, 1]) : Calls Tryz.prog 14 #[.agg #[.int .i64 2, .slice (some x) 2 2], .slice (some y) 3 3] w fun e w' => ∃ d c', e = .returned (.tuple #[.agg #[.slice d 2 c', .int .i64 4], .int .i64 0]) ∧ AtGn w' d [(0, 2), (2, 2)] ∧ Below w.heap.size w w' :=
  (place_anyX netX (some x) 2 w h (by decide) (fun e => by cases e) (some y) 3 [0, 1, 1] hz (by decide)).mono fun e w' hh => by
    obtain ⟨d, c', e1, q1, q2⟩ := hh
    rw [wakeX1.2.2.2.1, wakeX1.2.2.2.2, wakeX1.2.2.1] at e1
    rw [wakeX1.2.2.2.1] at q1
    exact ⟨d, c', e1, q1.at, q2⟩
theorem placeW2 (w : World) (x y : Addr) (h : AtN w (some x) netX.arcs) (hz : At w (some y) [0, 1]) : Calls Tryz.prog 14 #[.agg #[.int .i64 2, .slice (some x) 2 2], .slice (some y) 2 2] w fun e w' => ∃ d c', e = .returned (.tuple #[.agg #[.slice d 0 c', .int .i64 0], .int .i64 181]) ∧ Below w.heap.size w w' :=
  (place_anyX netX (some x) 2 w h (by decide) (fun e => by cases e) (some y) 2 [0, 1] hz (by decide)).mono fun e w' hh => by
    obtain ⟨d, c', e1, q1, q2⟩ := hh
    rw [wakeX2.2.1, wakeX2.2.2.1, wakeX2.1] at e1
    exact ⟨d, c', e1, q2⟩
theorem checkW (w : World) (x y : Addr) (h : AtN w (some x) netX.arcs) (hz : At w (some y) [0, 1, 1]) (p : Addr) (hp : AtGn w (some p) [(0, 2), (1, 2)]) : Calls Tryz.prog 17 #[.agg #[.int .i64 2, .slice (some x) 2 2], .agg #[.slice (some p) 2 2, .int .i64 3], .slice (some y) 3 3] w fun e w' => e = .returned (.int .i64 192) ∧ Below w.heap.size w w' :=
  (check_anyX netX (some x) 2 w h (by decide) (fun e => by cases e) (some y) 3 [0, 1, 1] hz (by decide) (some p) 2 2 [(0, 2), (1, 2)] 3 hp rfl).mono fun e w' ⟨e1, q⟩ => ⟨by rw [wakeX2.2.2.2.1] at e1; exact e1, q⟩
theorem checkW2 (w : World) (x y : Addr) (h : AtN w (some x) netX.arcs) (hz : At w (some y) [0, 1, 1]) (p : Addr) (hp : AtGn w (some p) [(3, 2), (0, 3)]) : Calls Tryz.prog 17 #[.agg #[.int .i64 2, .slice (some x) 2 2], .agg #[.slice (some p) 2 2, .int .i64 5], .slice (some y) 3 3] w fun e w' => e = .returned (.int .i64 0) ∧ Below w.heap.size w w' :=
  (check_anyX netX (some x) 2 w h (by decide) (fun e => by cases e) (some y) 3 [0, 1, 1] hz (by decide) (some p) 2 2 [(3, 2), (0, 3)] 5 hp rfl).mono fun e w' ⟨e1, q⟩ => ⟨by rw [wakeX2.2.2.2.2] at e1; exact e1, q⟩
set_option maxRecDepth 100000 in
set_option maxHeartbeats 16000000 in
theorem awakeX (w : World) : Calls Tryz.prog 11 #[] w fun e w' => e = .returned (.bool true) ∧ Below w.heap.size w w' := by
  have mixed : Tryz.prog.follows .mixedOrders = true := by kernel_rfl
  have LW0 := hiddenN (Below.refl w.heap.size w)
  go_enter Tryz.func11, Tryz.ntmps11
  go_upto_region 2 with (first
    | (go_at_call 25; (with_reducible refine (two_anyX w).mono ?_); rintro e X1 ⟨x1, rfl, h, b⟩; have HH := hiddenN h; have LB := hiddenN b; have aA := (Below.refl X1.heap.size X1).alloc (Nat.le_refl _) (.cells #[.int .i64 0, .int .i64 1, .int .i64 1] 3); have CC := hiddenN (clashW (X1.alloc (.cells #[.int .i64 0, .int .i64 1, .int .i64 1] 3)) x1 ⟨X1.heap.size, 0, none⟩ (h.below aA) (at_allocV3 X1 0 1 1)); have LL := hiddenN (b.trans (aA.mono b.size)); clear aA; clear h b)
    | (go_at_call 8; (with_reducible refine CC.out.mono ?_); rintro e W1 ⟨pd, pc, rfl, q1, b⟩; have MW1 := hiddenN (LL.out.trans (b.mono LL.out.size)); have PD := hiddenN q1; have LW1 := hiddenN (LW0.out.trans (MW1.out.mono LW0.out.size)); clear q1; clear b CC LL HH LB))
  go_upto_region 3 with (first
    | (go_at_call 25; (with_reducible refine (two_anyX W1).mono ?_); rintro e X2 ⟨x2, rfl, h, b⟩; have HH := hiddenN h; have LB := hiddenN b; have aA := (Below.refl X2.heap.size X2).alloc (Nat.le_refl _) (.cells #[.int .i64 0, .int .i64 1, .int .i64 1] 3); have CC := hiddenN (placeW (X2.alloc (.cells #[.int .i64 0, .int .i64 1, .int .i64 1] 3)) x2 ⟨X2.heap.size, 0, none⟩ (h.below aA) (at_allocV3 X2 0 1 1)); have LL := hiddenN (b.trans (aA.mono b.size)); clear aA; clear h b)
    | (go_at_call 14; (with_reducible refine CC.out.mono ?_); rintro e W2 ⟨dp, cp, rfl, q1, b⟩; have MW2 := hiddenN (LL.out.trans (b.mono LL.out.size)); have PA2 := hiddenN q1; have PD2 := hiddenN (PD.out.below MW2.out); have LW2 := hiddenN (LW1.out.trans (MW2.out.mono LW1.out.size)); clear q1; clear b CC LL HH LB))
  have XA := (Below.refl W2.heap.size W2).alloc (Nat.le_refl _) (.cells #[.slice dp 2 cp, .int .i64 4] 41)
  have BX := hiddenN (blkA_new 41 W2 #[.slice dp 2 cp, .int .i64 4])
  have PA2' := hiddenN (PA2.out.below XA)
  have PD2' := hiddenN (PD2.out.below XA)
  have LW2' := hiddenN (LW2.out.trans (XA.mono LW2.out.size))
  clear XA PA2 PD2
  obtain ⟨xb, hxb⟩ : ∃ q, W2.heap.size = q := ⟨_, rfl⟩
  generalize W2.alloc (.cells #[.slice dp 2 cp, .int .i64 4] 41) = W2a at *
  rw [hxb] at BX ⊢
  clear hxb
  go_upto_region 4 with (first
    | (go_at_call 25; (with_reducible refine (two_anyX W2a).mono ?_); rintro e X3 ⟨x3, rfl, h, b⟩; have HH := hiddenN h; have LB := hiddenN b; have aA := (Below.refl X3.heap.size X3).alloc (Nat.le_refl _) (.cells #[.int .i64 0, .int .i64 1] 3); have CC := hiddenN (placeW2 (X3.alloc (.cells #[.int .i64 0, .int .i64 1] 3)) x3 ⟨X3.heap.size, 0, none⟩ (h.below aA) (at_alloc2 X3 0 1)); have LL := hiddenN (b.trans (aA.mono b.size)); clear aA; clear h b)
    | (go_at_call 14; (with_reducible refine CC.out.mono ?_); rintro e W3 ⟨dp3, cp3, rfl, b⟩; have MW3 := hiddenN (LL.out.trans (b.mono LL.out.size)); have PA3 := hiddenN (PA2'.out.below MW3.out); have PD3 := hiddenN (PD2'.out.below MW3.out); have BX3 := hiddenN (BX.out.below MW3.out); have LW3 := hiddenN (LW2'.out.trans (MW3.out.mono LW2'.out.size)); clear b CC LL HH LB))
  have XA := (Below.refl W3.heap.size W3).alloc (Nat.le_refl _) (.cells #[.slice dp3 0 cp3, .int .i64 0] 41)
  have PA3' := hiddenN (PA3.out.below XA)
  have PD3' := hiddenN (PD3.out.below XA)
  have BX3' := hiddenN (BX3.out.below XA)
  have LW3' := hiddenN (LW3.out.trans (XA.mono LW3.out.size))
  clear XA PA3 PD3 BX3
  generalize W3.alloc (.cells #[.slice dp3 0 cp3, .int .i64 0] 41) = W3a at *
  go_upto_region 5 with (first
    | (go_at_call 25; (with_reducible refine (two_anyX W3a).mono ?_); rintro e X4 ⟨x4, rfl, h, b⟩; have HH := hiddenN h; have LB := hiddenN b; clear h b)
    | (go_at_call 26; (with_reducible refine (plan_anyX 0 2 1 2 3 X4).mono ?_); rintro e Y4 ⟨y4, rfl, q1, b⟩; have aA := (Below.refl Y4.heap.size Y4).alloc (Nat.le_refl _) (.cells #[.int .i64 0, .int .i64 1, .int .i64 1] 3); have CC := hiddenN (checkW (Y4.alloc (.cells #[.int .i64 0, .int .i64 1, .int .i64 1] 3)) x4 ⟨Y4.heap.size, 0, none⟩ ((HH.out.below b).below aA) (at_allocV3 Y4 0 1 1) y4 (q1.below aA)); have LL := hiddenN (LB.out.trans ((b.trans (aA.mono b.size)).mono LB.out.size)); clear b q1 aA)
    | (go_at_call 17; (with_reducible refine CC.out.mono ?_); rintro e W4 ⟨rfl, b⟩; have MW4 := hiddenN (LL.out.trans (b.mono LL.out.size)); have PA4 := hiddenN (PA3'.out.below MW4.out); have PD4 := hiddenN (PD3'.out.below MW4.out); have BX4 := hiddenN (BX3'.out.below MW4.out); have LW4 := hiddenN (LW3'.out.trans (MW4.out.mono LW3'.out.size)); clear b CC LL HH LB))
  go_upto_region 6 with (first
    | (go_at_call 25; (with_reducible refine (two_anyX W4).mono ?_); rintro e X5 ⟨x5, rfl, h, b⟩; have HH := hiddenN h; have LB := hiddenN b; clear h b)
    | (go_at_call 26; (with_reducible refine (plan_anyX 3 2 0 3 5 X5).mono ?_); rintro e Y5 ⟨y5, rfl, q1, b⟩; have aA := (Below.refl Y5.heap.size Y5).alloc (Nat.le_refl _) (.cells #[.int .i64 0, .int .i64 1, .int .i64 1] 3); have CC := hiddenN (checkW2 (Y5.alloc (.cells #[.int .i64 0, .int .i64 1, .int .i64 1] 3)) x5 ⟨Y5.heap.size, 0, none⟩ ((HH.out.below b).below aA) (at_allocV3 Y5 0 1 1) y5 (q1.below aA)); have LL := hiddenN (LB.out.trans ((b.trans (aA.mono b.size)).mono LB.out.size)); clear b q1 aA)
    | (go_at_call 17; (with_reducible refine CC.out.mono ?_); rintro e W5 ⟨rfl, b⟩; have MW5 := hiddenN (LL.out.trans (b.mono LL.out.size)); have PA := hiddenN (PA4.out.below MW5.out); have PD5 := hiddenN (PD4.out.below MW5.out); have BX5 := hiddenN (BX4.out.below MW5.out); have LW5 := hiddenN (LW4.out.trans (MW5.out.mono LW4.out.size)); clear b CC LL HH LB))
  obtain ⟨pb, po, hpd, hc⟩ : ∃ b off, pd = some ⟨b, off, none⟩ ∧ ∀ k, k < 1 → W5.cell? ⟨b, off + k * 2, none⟩ = some (.int .i64 (nthX [(0, 1)] k).1) ∧ W5.cell? ⟨b, off + k * 2 + 1, none⟩ = some (.int .i64 (nthX [(0, 1)] k).2) := by
    rcases PD5.out with e | ⟨b, off, e, hc⟩
    · cases e
    · exact ⟨b, off, e, hc⟩
  subst hpd
  have l0 : W5.cell? ⟨pb, po, none⟩ = some (.int .i64 0) := (hc 0 (by decide)).1
  have l1 : W5.cell? ⟨pb, po + 1, none⟩ = some (.int .i64 1) := (hc 0 (by decide)).2
  have u0 : W5.cell? ⟨xb, 0, none⟩ = some (.slice dp 2 cp) := BX5.out.cell rfl
  have u1 : W5.cell? ⟨xb, 1, none⟩ = some (.int .i64 4) := BX5.out.cell rfl
  have hgd : ∀ (op : BinOp) (a b : Operand) (xs ys : Array Value) (w : World), Sem.run Tryz.prog (eqGuard op 34 a b (.agg xs) (.agg ys)) w = .ok () w := Tryz.eqgPp
  have heq : ∀ w, Sem.run Tryz.prog (binOp .eql 34 (.agg #[.int .i64 0, .int .i64 1]) (.agg #[.int .i64 0, .int .i64 1])) w = .ok (.bool true) w := fun w => by rw [Tryz.eqlPp]; rfl
  clear LW0 LW1 LW2 LW2' LW3 LW3' LW4 MW1 MW2 MW3 MW4 MW5 PD PA2' PD2' PA3' PD3' BX3' BX BX4 PA4 PD4 PD5 BX5 hc
  refine wp_region_gen [] (fun d i u z => match i with
      | 0 => z = .slice (some ⟨pb, po, none⟩) 1 pc
      | 1 => z = .int .i64 1
      | 2 => z = .bool true
      | 3 => z = .bool true
      | 4 => z = .slice (some ⟨pb, po, none⟩) 1 pc
      | 5 => z = .pointer (some ⟨pb, po, none⟩)
      | 6 => z = .agg #[.int .i64 0, .int .i64 1]
      | 7 => z = .agg #[.int .i64 0, .int .i64 1]
      | 8 => z = .bool true
      | 9 => z = .bool true
      | 10 => z = .bool true
      | 11 => z = .agg #[.slice dp 2 cp, .int .i64 4]
      | 12 => PlX u z
      | 13 => z = .bool true
      | 14 => z = .bool true
      | 15 => z = .bool true
      | _ => True) (fun _ u => Below W5.heap.size W5 u) (by kernel_rfl) (by kernel_rfl) (by kernel_rfl) ?_ ?_ ?_ ?_ ?_ ?_ (by kernel_rfl)
  · intro d i w v w' h hb
    match i, h with
    | 0, h => exact h
    | 1, h => exact h
    | 2, h => exact h
    | 3, h => exact h
    | 4, h => exact h
    | 5, h => exact h
    | 6, h => exact h
    | 7, h => exact h
    | 8, h => exact h
    | 9, h => exact h
    | 10, h => exact h
    | 11, h => exact h
    | 12, h => exact h.later hb
    | 13, h => exact h
    | 14, h => exact h
    | 15, h => exact h
    | _ + 16, _ => trivial
  · intro d u u' h hb
    exact h.trans (hb.mono h.size)
  · exact Below.refl _ _
  · intro d i o ρ w' hm ho hf hg hC hcs hfs hfr hdep
    match i, hm, ho, hf, hg, hfr, hdep with
    | 0, _, ho, hf, hg, hfr, hdep =>
      simp only [gTA, gCZ, gSI] at ho
      subst ho
      refine ⟨fun _ => ?_, fun hw => absurd (show true = false from hw) (by decide)⟩
      have ts : ρ (.tmp 1) = .slice (some ⟨pb, po, none⟩) 1 pc := hfr 1 (by kernel_rfl)
      simp [go_sem, ts]
      exact ⟨Below.refl _ _, rfl⟩
    | 1, _, ho, hf, hg, hfr, hdep =>
      simp only [gTA, gCZ, gCS, gSI] at ho
      subst ho
      refine ⟨fun _ => ?_, fun hw => absurd (show true = false from hw) (by decide)⟩
      have d0 : ρ (.tmp 36) = .slice (some ⟨pb, po, none⟩) 1 pc := hdep 0 36 (by kernel_rfl) (by kernel_rfl)
      simp [go_sem, d0]
      exact ⟨Below.refl _ _, rfl⟩
    | 2, _, ho, hf, hg, hfr, hdep =>
      simp only [gTA, gCZ, gCS, gSI] at ho
      subst ho
      refine ⟨fun _ => ?_, fun hw => absurd (show true = false from hw) (by decide)⟩
      have d0 : ρ (.tmp 37) = .int .i64 1 := hdep 1 37 (by kernel_rfl) (by kernel_rfl)
      simp [go_sem, d0, hcs]
      exact ⟨Below.refl _ _, rfl⟩
    | 3, _, ho, hf, hg, hfr, hdep =>
      simp only [gTA, gCZ, gCS, gSI] at ho
      subst ho
      refine ⟨fun _ => ?_, fun hw => absurd (show true = false from hw) (by decide)⟩
      have d0 : ρ (.tmp 38) = .bool true := hdep 2 38 (by kernel_rfl) (by kernel_rfl)
      simp [go_sem, d0]
      exact ⟨Below.refl _ _, rfl⟩
    | 4, _, ho, hf, hg, hfr, hdep =>
      simp only [gTA, gCZ, gCS, gSI] at ho
      subst ho
      have gd : ρ (.tmp 39) = .bool true := hdep 3 39 (by kernel_rfl) (by kernel_rfl)
      refine ⟨fun _ => ?_, fun hw => absurd (show (match ρ (.tmp 39) with | .bool c => c == true | _ => false) = false from hw) (by rw [gd]; decide)⟩
      clear gd
      have ts : ρ (.tmp 1) = .slice (some ⟨pb, po, none⟩) 1 pc := hfr 1 (by kernel_rfl)
      simp [go_sem, ts]
      exact ⟨Below.refl _ _, rfl⟩
    | 5, _, ho, hf, hg, hfr, hdep =>
      simp only [gTA, gCZ, gCS, gSI] at ho
      subst ho
      have gd : ρ (.tmp 39) = .bool true := hdep 3 39 (by kernel_rfl) (by kernel_rfl)
      refine ⟨fun _ => ?_, fun hw => absurd (show (match ρ (.tmp 39) with | .bool c => c == true | _ => false) = false from hw) (by rw [gd]; decide)⟩
      clear gd
      have d0 : ρ (.tmp 40) = .slice (some ⟨pb, po, none⟩) 1 pc := hdep 4 40 (by kernel_rfl) (by kernel_rfl)
      simp [go_sem, d0, hcs]
      exact ⟨Below.refl _ _, rfl⟩
    | 6, _, ho, hf, hg, hfr, hdep =>
      simp only [gTA, gCZ, gCS, gSI] at ho
      subst ho
      have gd : ρ (.tmp 39) = .bool true := hdep 3 39 (by kernel_rfl) (by kernel_rfl)
      refine ⟨fun _ => ?_, fun hw => absurd (show (match ρ (.tmp 39) with | .bool c => c == true | _ => false) = false from hw) (by rw [gd]; decide)⟩
      clear gd
      have k0 := cellN_later hC l0
      have k1 := cellN_later hC l1
      have d0 : ρ (.tmp 41) = .pointer (some ⟨pb, po, none⟩) := hdep 5 41 (by kernel_rfl) (by kernel_rfl)
      simp [go_sem, d0, k0, k1]
      exact ⟨Below.refl _ _, rfl⟩
    | 7, _, ho, hf, hg, hfr, hdep =>
      simp only [gTA, gCZ, gCS, gSI] at ho
      subst ho
      have gd : ρ (.tmp 39) = .bool true := hdep 3 39 (by kernel_rfl) (by kernel_rfl)
      refine ⟨fun _ => ?_, fun hw => absurd (show (match ρ (.tmp 39) with | .bool c => c == true | _ => false) = false from hw) (by rw [gd]; decide)⟩
      clear gd
      simp [go_sem, hcs]
      exact ⟨Below.refl _ _, rfl⟩
    | 8, _, ho, hf, hg, hfr, hdep =>
      simp only [gTA, gCZ, gCS, gSI] at ho
      subst ho
      have gd : ρ (.tmp 39) = .bool true := hdep 3 39 (by kernel_rfl) (by kernel_rfl)
      refine ⟨fun _ => ?_, fun hw => absurd (show (match ρ (.tmp 39) with | .bool c => c == true | _ => false) = false from hw) (by rw [gd]; decide)⟩
      clear gd
      have t0 : ρ (.tmp 42) = .agg #[.int .i64 0, .int .i64 1] := hdep 6 42 (by kernel_rfl) (by kernel_rfl)
      have t1 : ρ (.tmp 43) = .agg #[.int .i64 0, .int .i64 1] := hdep 7 43 (by kernel_rfl) (by kernel_rfl)
      simp [go_sem, t0, t1, heq, hgd]
      exact ⟨Below.refl _ _, rfl⟩
    | 9, _, ho, hf, hg, hfr, hdep =>
      simp only [gTA, gCZ, gCS, gSI] at ho
      subst ho
      refine ⟨fun _ => ?_, fun hw => absurd (show true = false from hw) (by decide)⟩
      have d0 : ρ (.tmp 39) = .bool true := hdep 3 39 (by kernel_rfl) (by kernel_rfl)
      have d1 : ρ (.tmp 44) = .bool true := hdep 8 44 (by kernel_rfl) (by kernel_rfl)
      simp [go_sem, d0, d1]
      exact ⟨Below.refl _ _, rfl⟩
    | 10, _, ho, hf, hg, hfr, hdep =>
      simp only [gTA, gCZ, gCS, gSI] at ho
      subst ho
      refine ⟨fun _ => ?_, fun hw => absurd (show true = false from hw) (by decide)⟩
      have d0 : ρ (.tmp 45) = .bool true := hdep 9 45 (by kernel_rfl) (by kernel_rfl)
      simp [go_sem, d0]
      exact ⟨Below.refl _ _, rfl⟩
    | 11, _, ho, hf, hg, hfr, hdep =>
      simp only [gTA, gCZ, gCS, gSI] at ho
      subst ho
      have gd : ρ (.tmp 46) = .bool true := hdep 10 46 (by kernel_rfl) (by kernel_rfl)
      refine ⟨fun _ => ?_, fun hw => absurd (show (match ρ (.tmp 46) with | .bool c => c == true | _ => false) = false from hw) (by rw [gd]; decide)⟩
      clear gd
      have ts : ρ (.tmp 3) = .pointer (some ⟨xb, 0, none⟩) := hfr 3 (by kernel_rfl)
      have k0 := cellN_later hC u0
      have k1 := cellN_later hC u1
      simp [go_sem, ts, k0, k1]
      exact ⟨Below.refl _ _, rfl⟩
    | 12, _, ho, hf, hg, hfr, hdep =>
      simp only [gTA, gCZ, gCS, gSI] at ho
      subst ho
      have gd : ρ (.tmp 46) = .bool true := hdep 10 46 (by kernel_rfl) (by kernel_rfl)
      refine ⟨fun _ => ?_, fun hw => absurd (show (match ρ (.tmp 46) with | .bool c => c == true | _ => false) = false from hw) (by rw [gd]; decide)⟩
      clear gd
      simp [go_sem, hcs, hfs]
      exact ⟨rfl, (plan_anyX 0 2 2 2 4 w').mono fun e w'' ⟨x, e1, q1, q2⟩ => ⟨_, e1, q2, x, rfl, q1⟩⟩
    | 13, _, ho, hf, hg, hfr, hdep =>
      simp only [gTA, gCZ, gCS, gSI] at ho
      subst ho
      have gd : ρ (.tmp 46) = .bool true := hdep 10 46 (by kernel_rfl) (by kernel_rfl)
      refine ⟨fun _ => ?_, fun hw => absurd (show (match ρ (.tmp 46) with | .bool c => c == true | _ => false) = false from hw) (by rw [gd]; decide)⟩
      clear gd
      have t0 : ρ (.tmp 47) = .agg #[.slice dp 2 cp, .int .i64 4] := hdep 11 47 (by kernel_rfl) (by kernel_rfl)
      obtain ⟨x, t1, q1⟩ : PlX w' (ρ (.tmp 48)) := hdep 12 48 (by kernel_rfl) (by kernel_rfl)
      simp [go_sem, t0, t1, hfs]
      exact ⟨rfl, (same_planX dp (some x) 2 cp 2 [(0, 2), (2, 2)] 4 w' (PA.out.below hC) q1 rfl (by decide)).mono fun e w'' ⟨e1, b⟩ => ⟨_, e1, b, rfl⟩⟩
    | 14, _, ho, hf, hg, hfr, hdep =>
      simp only [gTA, gCZ, gCS, gSI] at ho
      subst ho
      refine ⟨fun _ => ?_, fun hw => absurd (show true = false from hw) (by decide)⟩
      have d0 : ρ (.tmp 46) = .bool true := hdep 10 46 (by kernel_rfl) (by kernel_rfl)
      have d1 : ρ (.tmp 49) = .bool true := hdep 13 49 (by kernel_rfl) (by kernel_rfl)
      simp [go_sem, d0, d1]
      exact ⟨Below.refl _ _, rfl⟩
    | 15, _, ho, hf, hg, hfr, hdep =>
      simp only [gTA, gCZ, gCS, gSI] at ho
      subst ho
      refine ⟨fun _ => ?_, fun hw => absurd (show true = false from hw) (by decide)⟩
      have d0 : ρ (.tmp 50) = .bool true := hdep 14 50 (by kernel_rfl) (by kernel_rfl)
      simp [go_sem, d0]
      exact ⟨Below.refl _ _, rfl⟩
    | n + 16, _, ho, _, _, _, _ => simp at ho
  · intro d i o ρ w' hm ho h0 hf hg hC hcs hfs hfr hdep
    exact absurd hm (by simp)
  · intro V w9 hC9 hS
    have e15 : V 15 = .bool true := hS 15 (by decide) (by intro h; cases h)
    simp only [puts, e15]
    simp only [Act.put, List.setIfInBounds_toArray, List.set_cons_zero, List.set_cons_succ]
    clear hS e15
    have LF := hiddenN (LW5.out.trans (hC9.mono LW5.out.size))
    clear hC9
    go_wp2
    go_ret
    exact ⟨by first | rfl | simp, LF.out⟩
set_option maxRecDepth 100000 in
set_option maxHeartbeats 4000000 in
theorem rclash_anyX (i j N : Nat) (v : Value) (R : List (List Int)) (W : World) (hLS : LsV W v R) (hRL : ∀ k, k < R.length → (nthLV R k).length = N) (hi : i < N) (hj : j < N) (hR6 : R.length ≤ 1000000) :
    Calls Tryz.prog 24 #[v, .int .i64 (i : Int), .int .i64 (j : Int)] W fun e w' => e = .returned (.bool (cloV R i j)) ∧ w' = W := by
  obtain ⟨x, c, rfl, hx⟩ := hLS
  have ER : Hid (cloV R i j = R.any (fun r : List Int => decide (0 < nth r i) && decide (0 < nth r j))) := rfl
  obtain ⟨r, hr⟩ : ∃ q, cloV R i j = q := ⟨_, rfl⟩
  rw [hr] at ER ⊢
  obtain ⟨M, hM⟩ : ∃ q, R.length = q := ⟨_, rfl⟩
  have HM := hiddenN hM
  rw [hM] at hR6 ⊢
  have HX := hiddenN hx
  have HRL := hiddenN hRL
  have hii : (i : Int) < (N : Int) := by omega
  have hjj : (j : Int) < (N : Int) := by omega
  clear hr hM hx hRL
  go_enter Tryz.func24, Tryz.ntmps24
  go_wp2
  go_loopg [7] M (fun gk u7 wr => ∃ k : Nat, k ≤ M ∧ gk = M - k ∧ u7 = .int .i64 (k : Int) ∧ (R.drop k).any (fun r : List Int => decide (0 < nth r i) && decide (0 < nth r j)) = r ∧ wr = W)
  case atStart => exact ⟨0, Nat.zero_le _, rfl, rfl, ER.out.symm, rfl⟩
  case round =>
    obtain ⟨k, hk, rfl, rfl, hr, rfl⟩ := hrel
    have HR := hiddenN hr
    clear hr ER
    by_cases hlt : k < M
    · have hki : (k : Int) < (M : Int) := by omega
      have hkL : k < R.length := by rw [HM.out]; exact hlt
      have hcut := HR.out
      rw [drop_nthLV hkL, List.any_cons] at hcut
      have hl := HRL.out k hkL
      rcases HX.out with e | ⟨b, off, rfl, hc⟩
      · rw [e] at hkL; exact absurd hkL (Nat.not_lt_zero _)
      obtain ⟨y, yc, c0, c1⟩ := hc k hkL
      rw [hl] at c0
      rcases c1 with e | ⟨yb, yo, rfl, hd⟩
      · rw [e] at hl; simp at hl; omega
      have ci := hd i (by rw [hl]; exact hi)
      have cj := hd j (by rw [hl]; exact hj)
      obtain ⟨ri, hri⟩ : ∃ q, nth (nthLV R k) i = q := ⟨_, rfl⟩
      obtain ⟨rj, hrj⟩ : ∃ q, nth (nthLV R k) j = q := ⟨_, rfl⟩
      rw [hri] at ci hcut
      rw [hrj] at cj hcut
      have HC := hiddenN hcut
      clear hc hd hl hri hrj hcut hkL
      by_cases h1 : ri > 0
      · by_cases h2 : rj > 0
        · have HN : Hid (r = true) := by show _ = _; rw [← HC.out, decide_eq_true (show 0 < ri from h1), decide_eq_true (show 0 < rj from h2)]; rfl
          go_wp2
          go_ret
          exact ⟨by (rw [HN.out]; try rfl), rfl⟩
        · have HN : Hid ((R.drop (k + 1)).any (fun r : List Int => decide (0 < nth r i) && decide (0 < nth r j)) = r) := by show _ = _; rw [← HC.out, decide_eq_false (show ¬ 0 < rj from h2), Bool.and_false, Bool.false_or]
          go_wp2
          go_roundg (M - (k + 1))
          case measure => omega
          case rel => exact ⟨k + 1, by omega, rfl, by go_num, HN.out, rfl⟩
      · have HN : Hid ((R.drop (k + 1)).any (fun r : List Int => decide (0 < nth r i) && decide (0 < nth r j)) = r) := by show _ = _; rw [← HC.out, decide_eq_false (show ¬ 0 < ri from h1), Bool.false_and, Bool.false_or]
        go_wp2
        go_roundg (M - (k + 1))
        case measure => omega
        case rel => exact ⟨k + 1, by omega, rfl, by go_num, HN.out, rfl⟩
    · have hki : ¬ (k : Int) < (M : Int) := by omega
      have HN : Hid (r = false) := by show _ = _; rw [← HR.out, List.drop_eq_nil_of_le (by rw [HM.out]; omega)]; rfl
      go_wp2
      go_ret
      exact ⟨by (rw [HN.out]; try rfl), rfl⟩
set_option maxRecDepth 100000 in
set_option maxHeartbeats 16000000 in
theorem rclashes_anyX (n : NN) (a : Option Addr) (c : Nat) (W : World) (h : AtN W a n.arcs) (hroom : n.arcs.length ≤ 4611686018427387904) (al : Option Addr) (cl : Nat) (zs : List Int) (hz : At W al zs) (hzl : zs.length ≤ 4611686018427387904) :
    Calls Tryz.prog 9 #[.agg #[.int .i64 n.nodes, .slice a n.arcs.length c], .slice al zs.length cl] W (CloE n zs W) := by
  obtain ⟨PE, hPE⟩ : ∃ Q, CloE n zs W = Q := ⟨_, rfl⟩
  rw [hPE]
  have HPE := hiddenN hPE
  have b0 := (Below.refl W.heap.size W).alloc (Nat.le_refl _) (.cells #[.int .i64 n.nodes, .slice a n.arcs.length c] 24)
  have B0 := hiddenN b0
  have G0 := hiddenN (blkA_new 24 W #[.int .i64 n.nodes, .slice a n.arcs.length c])
  have AL := hiddenN (ralong_any n a c _ (h.below b0) hroom al cl zs (hz.below b0) hzl)
  have z0 := G0.out.cell (k := 0) rfl
  have z1 := G0.out.cell (k := 1) rfl
  simp only [List.getElem_toArray, List.getElem_cons_zero, List.getElem_cons_succ] at z0 z1
  clear hPE b0 h hz
  by_cases hc : codeV n zs = 0
  · have hl := (code_zero hc).2.1
    have AY : Hid (Calls Tryz.prog 23 #[.agg #[.int .i64 n.nodes, .slice a n.arcs.length c], .slice al zs.length cl] (W.alloc (.cells #[.int .i64 n.nodes, .slice a n.arcs.length c] 24)) fun e w' => ∃ v, e = .returned (.tuple #[v, .int .i64 0]) ∧ LsV w' v (rowsV n (startT n) zs) ∧ Below (W.alloc (.cells #[.int .i64 n.nodes, .slice a n.arcs.length c] 24)).heap.size (W.alloc (.cells #[.int .i64 n.nodes, .slice a n.arcs.length c] 24)) w') := AL.out.mono fun e w' hh => by
      rcases hh with ⟨-, B, v, e1, -, -, q1, q2⟩ | ⟨k1, -⟩
      · exact ⟨v, e1, q1.ls, q2⟩
      · exact absurd hc k1
    have HRL : Hid (∀ k, k < (rowsV n (startT n) zs).length → (nthLV (rowsV n (startT n) zs) k).length = n.arcs.length) := fun k hk => by
      rw [rows_len] at hk
      rw [row_lenV (by omega), start_len]
    have HR6 : Hid ((rowsV n (startT n) zs).length ≤ 1000000) := by show _ ≤ _; rw [rows_len]; omega
    have HT : Hid (cloL n zs = lefK (cloV (rowsV n (startT n) zs)) n.arcs.length 0) := by show _ = _; unfold cloL; rw [if_pos hc, lefK_zero]
    have HFW := hiddenN (cloL_few hc)
    have HEND : Hid (∀ (wz : World) d c', CapPp W.heap.size wz d c' (cloL n zs) → Below W.heap.size W wz → PE (.returned (.tuple #[.slice d (cloL n zs).length c', .int .i64 0])) wz) := fun wz d c' q1 q2 => by
      rw [← HPE.out]
      exact ⟨d, c', by rw [hc], q1, q2⟩
    clear AL hc HPE
    generalize rowsV n (startT n) zs = R at *
    generalize cloL n zs = T at *
    obtain ⟨N, hN⟩ : ∃ N, n.arcs.length = N := ⟨_, rfl⟩
    rw [hN] at HRL HT AY z0 z1 hroom G0 B0 ⊢
    clear hN
    go_enter Tryz.func9, Tryz.ntmps9
    go_upto_region 1 with fail
    generalize W.alloc (.cells #[.int .i64 n.nodes, .slice a N c] 24) = W1 at *
    go_upto_region 5 with (go_at_call 23; (with_reducible refine AY.out.mono ?_); rintro e W2 ⟨v, rfl, q1, q2⟩; have LS := hiddenN q1; have B2 := hiddenN (B0.out.trans (q2.mono B0.out.size)); have G2 := hiddenN (G0.out.below q2); clear q1 q2)
    clear z0 z1 AY G0
    have HQ2 := hiddenN B2.out.size
    go_wp2
    go_loopg [8, 9] N (fun gk u8 u9 wr => ∃ (k : Nat) (d : Option Addr) (c' : Nat) (L : List (Int × Int)), k ≤ N ∧ gk = N - k ∧ u9 = .int .i64 (k : Int) ∧ u8 = .slice d L.length c' ∧ CapPp W2.heap.size wr d c' L ∧ Below W2.heap.size W2 wr ∧ L ++ lefK (cloV R) N k = T)
    case atStart => exact ⟨0, none, 0, [], Nat.zero_le _, rfl, rfl, rfl, CapPp.nil _ _, Below.refl _ _, by rw [List.nil_append]; exact HT.out.symm⟩
    case round =>
      obtain ⟨k, d, c', L, hk, rfl, rfl, rfl, hC, hB, hL⟩ := hrel
      have HCp := hiddenN hC
      have HB := hiddenN hB
      have HLL := hiddenN hL
      have z1 := (G2.out.below hB).cell (k := 1) rfl
      simp only [List.getElem_toArray, List.getElem_cons_zero, List.getElem_cons_succ] at z1
      clear hC hB hL
      by_cases hlt : k < N
      · have hki : (k : Int) < (N : Int) := by omega
        have HLJ : Hid (L ++ lefJ (cloV R) N k (k + 1) = T) := by show _ = _; rw [← lefK_cut hlt]; exact HLL.out
        have w1 : IntKind.i64.wrap ((k : Int) + 1) = (k : Int) + 1 := by rw [IntKind.wrap_i64]; omega
        clear HLL
        go_wp2
        go_loopg [8, 10] (N - (k + 1)) (fun gk u8 u10 wq => ∃ (j : Nat) (d : Option Addr) (c' : Nat) (L : List (Int × Int)), k < j ∧ j ≤ N ∧ gk = N - j ∧ u10 = .int .i64 (j : Int) ∧ u8 = .slice d L.length c' ∧ CapPp W2.heap.size wq d c' L ∧ Below W2.heap.size W2 wq ∧ L ++ lefJ (cloV R) N k j = T)
        case atStart => exact ⟨k + 1, d, c', L, Nat.lt_succ_self _, hlt, rfl, by go_num, rfl, HCp.out, HB.out, HLJ.out⟩
        case round =>
          clear HCp HB HLJ w1 z1
          obtain ⟨j, d, c', L, hkj, hj, rfl, rfl, rfl, hC, hB, hL⟩ := hrel
          have HCp := hiddenN hC
          have HB := hiddenN hB
          have HLL := hiddenN hL
          have z1 := (G2.out.below hB).cell (k := 1) rfl
          simp only [List.getElem_toArray, List.getElem_cons_zero, List.getElem_cons_succ] at z1
          clear hC hB hL
          by_cases hlj : j < N
          · have hji : (j : Int) < (N : Int) := by omega
            have w2 : IntKind.i64.wrap ((j : Int) + 1) = (j : Int) + 1 := by rw [IntKind.wrap_i64]; omega
            have CF := hiddenN (rclash_anyX k j N v R wr (LS.out.below HB.out) HRL.out hlt hlj HR6.out)
            have HLC : Hid (L ++ (if cloV R k j = true then ((k : Int), (j : Int)) :: lefJ (cloV R) N k (j + 1) else lefJ (cloV R) N k (j + 1)) = T) := by
              show _ = _
              rw [← lefJ_cut hlj]
              exact HLL.out
            generalize cloV R k j = r at *
            clear HLL
            cases r with
            | true =>
              have HLT : Hid ((L ++ [((k : Int), (j : Int))]) ++ lefJ (cloV R) N k (j + 1) = T) := by have q := HLC.out; rw [if_pos rfl] at q; rw [List.append_assoc]; exact q
              have HFL : Hid (L.length ≤ 1000000) := HFW.out L _ HLC.out
              clear HLC
              have hGy := hiddenN (blkA_new 34 wr #[.int .i64 (k : Int), .int .i64 (j : Int)])
              have v0 := hGy.out.cell (k := 0) rfl
              have v1 := hGy.out.cell (k := 1) rfl
              simp only [List.getElem_toArray, List.getElem_cons_zero, List.getElem_cons_succ] at v0 v1
              have y4 : Hid (Below wr.heap.size wr (wr.alloc (.cells #[.int .i64 (k : Int), .int .i64 (j : Int)] 34))) := (Below.refl _ _).alloc (Nat.le_refl _) _
              have C4 := hiddenN (HCp.out.later y4.out)
              have B4 := hiddenN (HB.out.trans (y4.out.mono HB.out.size))
              have S4 := hiddenN B4.out.size
              obtain ⟨ln, hln⟩ : ∃ q, L.length = q := ⟨_, rfl⟩
              have HLN := hiddenN hln
              have hfl : ln ≤ 1000000 := by rw [← hln]; exact HFL.out
              rw [hln]
              clear hln
              go_wp2_with (first
                | (at_builtin; refine wpList_appPp1 rfl _ _ rfl W2.heap.size d c' L ln HLN.out rfl C4.out wr.heap.size ((k : Int), (j : Int)) rfl v0 v1 (by omega) S4.out ?_; intro d2 c2 w5 hg; have HG := hiddenN hg; clear hg v0 v1)
                | (go_at_call 24; (with_reducible refine CF.out.mono ?_); rintro e w9 ⟨rfl, h9⟩; obtain rfl : wr = w9 := h9.symm))
              have HB5 := hiddenN (B4.out.trans (HG.out.below S4.out (fun y hy => (C4.out.lt y hy).1)))
              have HL5 : Hid ((L ++ [((k : Int), (j : Int))]).length = ln + 1) := by show _ = _; rw [List.length_append, HLN.out]; rfl
              go_roundg (N - (j + 1))
              case measure => omega
              case rel => exact ⟨j + 1, d2, c2, _, by omega, by omega, rfl, by go_num, by rw [HL5.out], HG.out.own, HB5.out, HLT.out⟩
            | false =>
              have HLT : Hid (L ++ lefJ (cloV R) N k (j + 1) = T) := by have q := HLC.out; rw [if_neg (by decide)] at q; exact q
              clear HLC
              go_wp2_with (go_at_call 24; (with_reducible refine CF.out.mono ?_); rintro e w9 ⟨rfl, h9⟩; obtain rfl : wr = w9 := h9.symm)
              go_roundg (N - (j + 1))
              case measure => omega
              case rel => exact ⟨j + 1, d, c', L, by omega, by omega, rfl, by go_num, rfl, HCp.out, HB.out, HLT.out⟩
          · have hji : ¬ (j : Int) < (N : Int) := by omega
            have HLT : Hid (L ++ lefK (cloV R) N (k + 1) = T) := by show _ = _; rw [← lefJ_end (c := cloV R) (k := k) (show N ≤ j by omega)]; exact HLL.out
            go_wp2
            go_roundg (N - (k + 1))
            case measure => omega
            case rel => exact ⟨k + 1, d, c', L, by omega, rfl, by go_num, rfl, HCp.out, HB.out, HLT.out⟩
      · have hki : ¬ (k : Int) < (N : Int) := by omega
        have HLT : Hid (L = T) := by have q := HLL.out; rw [lefK_end (by omega), List.append_nil] at q; exact q
        have q := HEND.out wr d c' (by rw [← HLT.out]; exact HCp.out.mono HQ2.out) (B2.out.trans (HB.out.mono B2.out.size))
        rw [← HLT.out] at q
        have HF := hiddenN q
        clear q
        go_wp2
        exact HF.out
  · have AY : Hid (Calls Tryz.prog 23 #[.agg #[.int .i64 n.nodes, .slice a n.arcs.length c], .slice al zs.length cl] (W.alloc (.cells #[.int .i64 n.nodes, .slice a n.arcs.length c] 24)) fun e w' => e = .returned (.tuple #[.slice none 0 0, .int .i64 (codeV n zs)]) ∧ Below (W.alloc (.cells #[.int .i64 n.nodes, .slice a n.arcs.length c] 24)).heap.size (W.alloc (.cells #[.int .i64 n.nodes, .slice a n.arcs.length c] 24)) w') := AL.out.mono fun e w' hh => by
      rcases hh with ⟨k1, -⟩ | ⟨-, e1, q⟩
      · exact absurd k1 hc
      · exact ⟨e1, q⟩
    have HEND : Hid (∀ (wz : World), Below W.heap.size W wz → PE (.returned (.tuple #[.slice none 0 0, .int .i64 (codeV n zs)])) wz) := fun wz q2 => by
      rw [← HPE.out]
      have e : cloL n zs = [] := by unfold cloL; rw [if_neg hc]
      refine ⟨none, 0, by rw [e]; rfl, ?_, q2⟩
      rw [e]; exact CapPp.nil _ _
    have qe : (codeV n zs != 0) = true := by simpa using hc
    clear AL hc HPE
    generalize codeV n zs = cv at *
    go_enter Tryz.func9, Tryz.ntmps9
    go_upto_region 1 with fail
    generalize W.alloc (.cells #[.int .i64 n.nodes, .slice a n.arcs.length c] 24) = W1 at *
    go_wp2_with (go_at_call 23; (with_reducible refine AY.out.mono ?_); rintro e W2 ⟨rfl, q2⟩; have B2 := hiddenN (B0.out.trans (q2.mono B0.out.size)); clear q2)
    exact HEND.out _ B2.out
set_option maxRecDepth 100000 in
set_option maxHeartbeats 4000000 in
theorem rcells_anyX (ar : Option Addr) (n cr : Nat) (L : List (Int × Int)) (W : World) (hL : AtGn W ar L) (hl : L.length = n) (hb : ∀ x ∈ L, 0 ≤ x.1 ∧ x.1 ≤ 1024 ∧ 0 ≤ x.2 ∧ x.2 ≤ 1024) (hn : n ≤ 1000000) :
    Calls Tryz.prog 38 #[.slice ar n cr] W fun e w' => e = .returned (.int .i64 (celP L)) ∧ Below W.heap.size W w' := by
  have EC : Hid (L.foldl (fun m x => max m (x.1 + x.2)) 0 = celP L) := rfl
  obtain ⟨s, hs⟩ : ∃ s, celP L = s := ⟨_, rfl⟩
  rw [hs] at EC ⊢
  have HL := hiddenN hL
  have HLN := hiddenN hl
  have HBD := hiddenN hb
  clear hs hL hl hb
  go_enter Tryz.func38, Tryz.ntmps38
  go_wp2
  go_loopg [3, 4] n (fun gk u3 u4 wr => ∃ (k : Nat) (m : Int), k ≤ n ∧ gk = n - k ∧ u3 = .int .i64 m ∧ u4 = .int .i64 (k : Int) ∧ (0 ≤ m ∧ m ≤ 2048) ∧ (L.drop k).foldl (fun m x => max m (x.1 + x.2)) m = s ∧ Below W.heap.size W wr)
  case atStart => exact ⟨0, 0, Nat.zero_le _, rfl, rfl, rfl, by decide, EC.out, Below.refl _ _⟩
  case round =>
    obtain ⟨k, m, hk, rfl, rfl, rfl, hm, hf, hB⟩ := hrel
    have HF := hiddenN hf
    have HB := hiddenN hB
    clear hf hB
    by_cases hlt : k < n
    · have hki : (k : Int) < (n : Int) := by omega
      have hkL : k < L.length := by rw [HLN.out]; exact hlt
      have hd : L.drop k = nthX L k :: L.drop (k + 1) := by
        rw [List.drop_eq_getElem_cons hkL]
        congr 1
        unfold nthX
        rw [List.getElem?_eq_getElem hkL]; rfl
      have hq := HBD.out (nthX L k) (by unfold nthX; rw [List.getElem?_eq_getElem hkL]; exact List.getElem_mem hkL)
      have HF2 := HF.out
      rw [hd, List.foldl_cons] at HF2
      rcases HL.out.below HB.out with e | ⟨b, off, rfl, hc⟩
      · rw [e] at hkL; exact absurd hkL (Nat.not_lt_zero _)
      obtain ⟨c0, c1⟩ := hc k hkL
      obtain ⟨x, hx⟩ : ∃ x, nthX L k = x := ⟨_, rfl⟩
      rw [hx] at c0 c1 HF2 hq
      obtain ⟨xb, xs⟩ := x
      simp only at c0 c1 HF2 hq
      have HF3 := hiddenN HF2
      have wr1 : IntKind.i64.wrap (xb + xs) = xb + xs := by rw [IntKind.wrap_i64]; omega
      clear hc hx hd HF HF2 hkL
      go_upto_region 5 with fail
      try dsimp only [List.append_eq, List.cons_append, List.nil_append]
      go_quiet (fail)
      go_wp2
      go_roundg (n - (k + 1))
      case measure => omega
      case rel => exact ⟨k + 1, max m (xb + xs), by omega, rfl, by go_num, by go_num, by omega, HF3.out, drewB HB.out _⟩
    · have hki : ¬ (k : Int) < (n : Int) := by omega
      have HS : Hid (m = s) := by have q := HF.out; rw [List.drop_eq_nil_of_le (by rw [HLN.out]; omega)] at q; exact q
      go_wp2
      go_ret
      exact ⟨by (rw [HS.out]; try rfl), HB.out⟩
set_option maxRecDepth 100000 in
set_option maxHeartbeats 4000000 in
theorem sameRegions_anyX (a1 a2 : Option Addr) (n c1 c2 : Nat) (L : List (Int × Int)) (W : World) (h1 : AtGn W a1 L) (h2 : AtGn W a2 L) (hl : L.length = n) (hn : n ≤ 4611686018427387904) :
    Calls Tryz.prog 18 #[.slice a1 n c1, .slice a2 n c2] W fun e w' => e = .returned (.bool true) ∧ Below W.heap.size W w' := by
  have H1 := hiddenN h1
  have H2 := hiddenN h2
  have HLN := hiddenN hl
  have q0 : ((n : Int) != (n : Int)) = false := by simp
  clear h1 h2 hl
  go_enter Tryz.func18, Tryz.ntmps18
  go_wp2
  clear q0
  go_loopg [5] n (fun gk u wr => ∃ k : Nat, k ≤ n ∧ gk = n - k ∧ u = .int .i64 (k : Int) ∧ Below W.heap.size W wr)
  case atStart => exact ⟨0, Nat.zero_le _, rfl, rfl, Below.refl _ _⟩
  case round =>
    obtain ⟨k, hk, rfl, rfl, hB⟩ := hrel
    have HB := hiddenN hB
    clear hB
    by_cases hlt : k < n
    · have hki : (k : Int) < (n : Int) := by omega
      have hkL : k < L.length := by rw [HLN.out]; exact hlt
      rcases H1.out.below HB.out with e | ⟨b, off, rfl, hc⟩
      · rw [e] at hkL; exact absurd hkL (Nat.not_lt_zero _)
      rcases H2.out.below HB.out with e | ⟨b2, off2, rfl, hd⟩
      · rw [e] at hkL; exact absurd hkL (Nat.not_lt_zero _)
      obtain ⟨c0, c1⟩ := hc k hkL
      obtain ⟨d0, d1⟩ := hd k hkL
      generalize nthX L k = x at *
      obtain ⟨xb, xs⟩ := x
      simp only at c0 c1 d0 d1
      clear hc hd hkL
      go_upto_region 6 with fail
      try dsimp only [List.append_eq, List.cons_append, List.nil_append]
      go_quiet (fail)
      go_wp2
      go_roundg (n - (k + 1))
      case measure => omega
      case rel => exact ⟨k + 1, by omega, rfl, by go_num, drewB HB.out _⟩
    · have hki : ¬ (k : Int) < (n : Int) := by omega
      go_wp2
      go_ret
      exact ⟨rfl, HB.out⟩
theorem share_refX (b s b2 s2 : Int) (h : IntKind.i64.wrap (b + s) = b + s) (h2 : IntKind.i64.wrap (b2 + s2) = b2 + s2) (W : World) : Calls Tryz.prog 41 #[.agg #[.int .i64 b, .int .i64 s], .agg #[.int .i64 b2, .int .i64 s2]] W fun e w' => e = .returned (.bool (shrB (b, s) (b2, s2))) ∧ ∃ q os, w' = Go.Sort.grow (W.drewN q) os := by
  have ER : Hid (shrB (b, s) (b2, s2) = (decide (0 < s) && (decide (0 < s2) && (decide (b < b2 + s2) && decide (b2 < b + s))))) := rfl
  generalize shrB (b, s) (b2, s2) = r at *
  have G1 := hiddenN (blkA_new 47 W #[.int .i64 b, .int .i64 s])
  have G2 := hiddenN (blkA_new 47 (W.alloc (.cells #[.int .i64 b, .int .i64 s] 47)) #[.int .i64 b2, .int .i64 s2])
  have G1' := hiddenN (G1.out.below ((Below.refl _ _).alloc (Nat.le_refl _) (.cells #[.int .i64 b2, .int .i64 s2] 47)))
  have HW : Hid ((W.alloc (.cells #[.int .i64 b, .int .i64 s] 47)).alloc (.cells #[.int .i64 b2, .int .i64 s2] 47) = Go.Sort.grow W #[.cells #[.int .i64 b, .int .i64 s] 47, .cells #[.int .i64 b2, .int .i64 s2] 47]) := by
    show _ = _
    rw [Go.Sort.alloc_eq_grow, Go.Sort.alloc_eq_grow, Go.Sort.grow_grow]; rfl
  have HEND : Hid (∀ v : Bool, v = r → ∃ q os, (W.alloc (.cells #[.int .i64 b, .int .i64 s] 47)).alloc (.cells #[.int .i64 b2, .int .i64 s2] 47) = Go.Sort.grow (W.drewN q) os) := fun _ _ => ⟨0, _, HW.out⟩
  go_enter Tryz.func41, Tryz.ntmps41
  go_upto_region 1 with fail
  generalize (W.alloc (.cells #[.int .i64 b, .int .i64 s] 47)).alloc (.cells #[.int .i64 b2, .int .i64 s2] 47) = W2 at *
  have hs2 : (W.alloc (.cells #[.int .i64 b, .int .i64 s] 47)).heap.size = W.heap.size + 1 := World.size_alloc ..
  rw [hs2] at G2
  have z0 := G1'.out.cell (k := 0) rfl
  have z1 := G1'.out.cell (k := 1) rfl
  have y0 := G2.out.cell (k := 0) rfl
  have y1 := G2.out.cell (k := 1) rfl
  simp only [List.getElem_toArray, List.getElem_cons_zero, List.getElem_cons_succ] at z0 z1 y0 y1
  clear hs2 G1 G2 G1' HW
  by_cases c1 : s > 0
  · by_cases c2 : s2 > 0
    · by_cases c3 : b < b2 + s2
      · have e : Hid (r = decide (b2 < b + s)) := by
          show _ = _
          rw [ER.out, decide_eq_true (show 0 < s from c1), decide_eq_true (show 0 < s2 from c2), decide_eq_true c3]; rfl
        go_wp2
        go_ret
        exact ⟨by rw [e.out]; rfl, HEND.out _ rfl⟩
      · have e : Hid (r = false) := by
          show _ = _
          rw [ER.out, decide_eq_false c3]; simp
        go_wp2
        go_ret
        exact ⟨by rw [e.out]; rfl, HEND.out _ rfl⟩
    · have e : Hid (r = false) := by
        show _ = _
        rw [ER.out, decide_eq_false (show ¬ 0 < s2 from c2)]; simp
      go_wp2
      go_ret
      exact ⟨by rw [e.out]; rfl, HEND.out _ rfl⟩
  · have e : Hid (r = false) := by
      show _ = _
      rw [ER.out, decide_eq_false (show ¬ 0 < s from c1)]; simp
    go_wp2
    go_ret
    exact ⟨by rw [e.out]; rfl, HEND.out _ rfl⟩
theorem regE_cons (p : Int) (S : List Int) (x : Int × Int) (L : List (Int × Int)) : regE (p :: S) (x :: L) = if x.1 < 0 ∨ 1024 < x.1 ∨ x.2 < 0 ∨ 1024 < x.2 then 1 else if x.2 < p then 190 else regE S L := rfl
set_option maxRecDepth 100000 in
set_option maxHeartbeats 16000000 in
theorem rcheck19_any (n : NN) (a : Option Addr) (c : Nat) (W : World) (h : AtN W a n.arcs) (hroom : n.arcs.length ≤ 4611686018427387904) (al : Option Addr) (cl : Nat) (zs : List Int) (hz : At W al zs) (hzl : zs.length ≤ 4611686018427387904) (ar : Option Addr) (nr cr : Nat) (L : List (Int × Int)) (tot : Int) (hL : AtGn W ar L) (hLl : L.length = nr) :
    Calls Tryz.prog 19 #[.agg #[.int .i64 n.nodes, .slice a n.arcs.length c], .agg #[.slice ar nr cr, .int .i64 tot], .slice al zs.length cl] W fun e w' => e = .returned (.int .i64 (chkC n L tot zs)) ∧ Below W.heap.size W w' := by
  have y1 : Hid (Below W.heap.size W (W.alloc (.cells #[.int .i64 n.nodes, .slice a n.arcs.length c] 24))) := (Below.refl _ _).alloc (Nat.le_refl _) _
  have hs1 : (W.alloc (.cells #[.int .i64 n.nodes, .slice a n.arcs.length c] 24)).heap.size = W.heap.size + 1 := World.size_alloc ..
  have y2 : Hid (Below (W.alloc (.cells #[.int .i64 n.nodes, .slice a n.arcs.length c] 24)).heap.size (W.alloc (.cells #[.int .i64 n.nodes, .slice a n.arcs.length c] 24)) ((W.alloc (.cells #[.int .i64 n.nodes, .slice a n.arcs.length c] 24)).alloc (.cells #[.slice ar nr cr, .int .i64 tot] 41))) := (Below.refl _ _).alloc (Nat.le_refl _) _
  have G0 := hiddenN ((blkA_new 24 W #[.int .i64 n.nodes, .slice a n.arcs.length c]).below y2.out)
  have D0 := hiddenN (blkA_new 41 (W.alloc (.cells #[.int .i64 n.nodes, .slice a n.arcs.length c] 24)) #[.slice ar nr cr, .int .i64 tot])
  have B0 := hiddenN (y1.out.trans (y2.out.mono (by rw [hs1]; omega)))
  rw [hs1] at D0
  have HA := hiddenN h
  have HZ := hiddenN hz
  have HL0 := hiddenN hL
  have HLl := hiddenN hLl
  have CLE := hiddenN (fun U (hb : Below W.heap.size W U) => rclashes_anyX n a c U (h.below hb) hroom al cl zs (hz.below hb) hzl)
  have HOE := hiddenN (fun U (hb : Below W.heap.size W U) => rhome_any n a c U (h.below hb) hroom al cl zs (hz.below hb) hzl)
  have MOE := hiddenN (fun U (hb : Below W.heap.size W U) => rmost_any n a c U (h.below hb) hroom al cl zs (hz.below hb) hzl)
  have HEND : Hid (∀ (x : Int) (wz : World), chkC n L tot zs = x → Below W.heap.size W wz → ((Ending.returned (.int .i64 x)) = .returned (.int .i64 (chkC n L tot zs)) ∧ Below W.heap.size W wz)) := fun x wz q1 q2 => ⟨by rw [q1], q2⟩
  obtain ⟨PE, hPE⟩ : ∃ Q : Ending → World → Prop, (fun e w' => e = .returned (.int .i64 (chkC n L tot zs)) ∧ Below W.heap.size W w') = Q := ⟨_, rfl⟩
  have HEND : Hid (∀ (x : Int) (wz : World), chkC n L tot zs = x → Below W.heap.size W wz → PE (.returned (.int .i64 x)) wz) := fun x wz q1 q2 => by
    rw [← hPE]
    exact ⟨by rw [q1], q2⟩
  rw [hPE]
  clear hPE h hz y1 y2 hs1 hL hLl
  go_enter Tryz.func19, Tryz.ntmps19
  go_upto_region 1 with fail
  generalize ((W.alloc (.cells #[.int .i64 n.nodes, .slice a n.arcs.length c] 24)).alloc (.cells #[.slice ar nr cr, .int .i64 tot] 41)) = W1 at *
  have z0 := G0.out.cell (k := 0) rfl
  have z1 := G0.out.cell (k := 1) rfl
  simp only [List.getElem_toArray, List.getElem_cons_zero, List.getElem_cons_succ] at z0 z1
  by_cases hc : codeV n zs = 0
  · have CL1 : Hid (Calls Tryz.prog 9 #[.agg #[.int .i64 n.nodes, .slice a n.arcs.length c], .slice al zs.length cl] W1 fun e w' => ∃ dp cp, e = .returned (.tuple #[.slice dp (cloL n zs).length cp, .int .i64 0]) ∧ AtPp w' dp (cloL n zs) ∧ Below W1.heap.size W1 w') := (CLE.out _ B0.out).mono fun e w' ⟨dp, cp, e1, q1, q2⟩ => ⟨dp, cp, by rw [hc] at e1; exact e1, q1.at, q2⟩
    have HO1 : Hid (∀ U, Below W.heap.size W U → Calls Tryz.prog 34 #[.agg #[.int .i64 n.nodes, .slice a n.arcs.length c], .slice al zs.length cl] U fun e w' => e = .returned (.tuple #[.bool (homeB n zs), .int .i64 0]) ∧ Below U.heap.size U w') := fun U hb => by
      have q := HOE.out U hb
      rw [hc] at q
      exact q
    have MO1 : Hid (∀ U, Below W.heap.size W U → Calls Tryz.prog 35 #[.agg #[.int .i64 n.nodes, .slice a n.arcs.length c], .slice al zs.length cl] U fun e w' => ∃ am cm, e = .returned (.tuple #[.slice am n.arcs.length cm, .int .i64 0]) ∧ At w' am (mostM n zs) ∧ Below U.heap.size U w') := fun U hb => (MOE.out U hb).mono fun e w' hh => by
      rcases hh with ⟨-, B, am, cm, e1, -, -, q3, q⟩ | ⟨k1, -⟩
      · exact ⟨am, cm, e1, q3.at, q⟩
      · exact absurd hc k1
    have HPL6 : Hid ((cloL n zs).length ≤ 1000000) := cloL_few hc (cloL n zs) [] (List.append_nil _)
    have HCL : Hid (cloL n zs = (prsV (cloV (rowsV n (startT n) zs)) n.arcs.length).map prI) := if_pos hc
    have hmost := (check_sound (code_zero hc).1).most
    have HML := hiddenN (mostM_len n zs)
    have HDM : Hid (dmC n zs = if homeB n zs = true then 0 else 181) := by show _ = _; unfold dmC; rw [if_pos hc]
    have HCH : Hid (chkC n L tot zs = if dmC n zs = 0 then chkP (mostM n zs) (rowsV n (startT n) zs) L tot else dmC n zs) := rfl
    clear CLE HOE MOE hc
    obtain ⟨ch, hch⟩ : ∃ q, chkC n L tot zs = q := ⟨_, rfl⟩
    rw [hch] at HEND HCH
    obtain ⟨np, hnp⟩ : ∃ np, (cloL n zs).length = np := ⟨_, rfl⟩
    have HNP := hiddenN hnp
    rw [hnp] at CL1 HPL6
    go_upto_region 2 with (go_at_call 9; (with_reducible refine CL1.out.mono ?_); rintro e w2 ⟨dp, cp, rfl, q1, q2⟩; have P2 := hiddenN q1; have B2 := hiddenN (B0.out.trans (q2.mono B0.out.size)); have G2 := hiddenN (G0.out.below q2); have D2 := hiddenN (D0.out.below q2); clear q1 q2)
    clear z0 z1 hch hnp G0 D0
    have z0 := G2.out.cell (k := 0) rfl
    have z1 := G2.out.cell (k := 1) rfl
    simp only [List.getElem_toArray, List.getElem_cons_zero, List.getElem_cons_succ] at z0 z1
    go_upto_region 5 with (go_at_call 34; (with_reducible refine (HO1.out _ B2.out).mono ?_); rintro e w3 ⟨rfl, q2⟩; have P3 := hiddenN (P2.out.below q2); have B3 := hiddenN (B2.out.trans (q2.mono B2.out.size)); have G3 := hiddenN (G2.out.below q2); have D3 := hiddenN (D2.out.below q2); clear q2)
    clear z0 z1 G2 D2 P2 HO1
    cases hh : homeB n zs with
    | false =>
      have HS : Hid (ch = 181) := by show _ = _; rw [HCH.out, HDM.out, hh]; rfl
      clear hh
      go_wp2
      exact HEND.out 181 _ HS.out B3.out
    | true =>
      have HS : Hid (ch = chkP (mostM n zs) (rowsV n (startT n) zs) L tot) := by show _ = _; rw [HCH.out, HDM.out, hh]; rfl
      clear hh HCH HDM
      generalize rowsV n (startT n) zs = R at *
      generalize mostM n zs = pk at *
      generalize cloL n zs = PL at *
      have z0 := G3.out.cell (k := 0) rfl
      have z1 := G3.out.cell (k := 1) rfl
      simp only [List.getElem_toArray, List.getElem_cons_zero, List.getElem_cons_succ] at z0 z1
      go_upto_region 8 with (go_at_call 35; (with_reducible refine (MO1.out _ B3.out).mono ?_); rintro e w4 ⟨am, cm, rfl, q1, q2⟩; have M4 := hiddenN q1; have P4 := hiddenN (P3.out.below q2); have B4 := hiddenN (B3.out.trans (q2.mono B3.out.size)); have D4 := hiddenN (D3.out.below q2); clear q1 q2)
      clear z0 z1 G3 D3 P3 MO1
      obtain ⟨m, hm⟩ : ∃ m, n.arcs.length = m := ⟨_, rfl⟩
      rw [hm] at HML hmost HCL ⊢
      have L4 := hiddenN (HL0.out.below B4.out)
      clear hm
      have d0 := D4.out.cell (k := 0) rfl
      have d1 := D4.out.cell (k := 1) rfl
      simp only [List.getElem_toArray, List.getElem_cons_zero, List.getElem_cons_succ] at d0 d1
      by_cases hln : nr = m
      · have q0 : ((nr : Int) != (m : Int)) = false := by simp [hln]
        have HNM := hiddenN hln
        have SZE : Hid (szE pk L = regE pk L) := by show _ = _; unfold szE; rw [if_neg (fun h => h (by rw [HLl.out, HML.out, hln]))]
        clear hln
        go_wp2
        go_loopg [13] m (fun gk u13 wr => ∃ kx : Nat, kx ≤ m ∧ gk = m - kx ∧ u13 = .int .i64 (kx : Int) ∧ regE (pk.drop kx) (L.drop kx) = regE pk L ∧ Below w4.heap.size w4 wr)
        case atStart => exact ⟨0, Nat.zero_le _, rfl, rfl, rfl, Below.refl _ _⟩
        case round =>
          obtain ⟨kx, hk, rfl, rfl, hr, hB⟩ := hrel
          have HR := hiddenN hr
          have HB := hiddenN hB
          have D5 := hiddenN (D4.out.below hB)
          have BW5 := hiddenN (B4.out.trans (hB.mono B4.out.size))
          clear hr hB d0 d1
          have d0 := D5.out.cell (k := 0) rfl
          have d1 := D5.out.cell (k := 1) rfl
          simp only [List.getElem_toArray, List.getElem_cons_zero, List.getElem_cons_succ] at d0 d1
          by_cases hlt : kx < m
          · have hki : (kx : Int) < (m : Int) := by omega
            have hki2 : (kx : Int) < (nr : Int) := by have := HNM.out; omega
            have hkL : kx < L.length := by rw [HLl.out, HNM.out]; exact hlt
            have hkp : kx < pk.length := by rw [HML.out]; exact hlt
            have hcut := HR.out
            rw [List.drop_eq_getElem_cons hkL, List.drop_eq_getElem_cons hkp] at hcut
            rw [regE_cons] at hcut
            have e1 : L[kx] = nthX L kx := (nthX_at (List.getElem?_eq_getElem hkL)).symm
            have e2 : pk[kx] = nth pk kx := by unfold nth; rw [List.getD_eq_getElem?_getD, List.getElem?_eq_getElem hkp]; rfl
            rw [e1, e2] at hcut
            rcases L4.out.below HB.out with e | ⟨lb, lo, har, hc⟩
            · rw [e] at hkL; exact absurd hkL (Nat.not_lt_zero _)
            rcases M4.out.below HB.out with e | ⟨mb, mo, ham, hd⟩
            · rw [e] at hkp; exact absurd hkp (Nat.not_lt_zero _)
            obtain ⟨c0, c1⟩ := hc kx hkL
            have cm0 := hd kx hkp
            obtain ⟨x, hx⟩ : ∃ x, nthX L kx = x := ⟨_, rfl⟩
            obtain ⟨mv, hmv⟩ : ∃ x, nth pk kx = x := ⟨_, rfl⟩
            rw [hx] at c0 c1 hcut
            rw [hmv] at cm0 hcut
            obtain ⟨xb, xs⟩ := x
            simp only at c0 c1 hcut
            have HC := hiddenN hcut
            have bX := (Below.refl wr.heap.size wr).alloc (Nat.le_refl _) (.cells #[.int .i64 xb, .int .i64 xs] 47)
            have X6 := hiddenN (blkA_new 47 wr #[.int .i64 xb, .int .i64 xs])
            have HB6 := hiddenN (HB.out.trans (bX.mono HB.out.size))
            have D6 := hiddenN (D5.out.below bX)
            have cm0 := cellN_later bX cm0
            have BW6 := hiddenN (BW5.out.trans (bX.mono BW5.out.size))
            clear hc hd hx hmv hcut e1 e2 hkL hkp
            subst har
            subst ham
            go_upto_region 14 with fail
            generalize wr.alloc (.cells #[.int .i64 xb, .int .i64 xs] 47) = W6 at *
            obtain ⟨rb, hrb⟩ : ∃ q, wr.heap.size = q := ⟨_, rfl⟩
            rw [hrb] at X6 ⊢
            clear hrb bX c0 c1 d0 d1
            have x0 := X6.out.cell (k := 0) rfl
            have x1 := X6.out.cell (k := 1) rfl
            simp only [List.getElem_toArray, List.getElem_cons_zero, List.getElem_cons_succ] at x0 x1
            have d0 := D6.out.cell (k := 0) rfl
            have d1 := D6.out.cell (k := 1) rfl
            simp only [List.getElem_toArray, List.getElem_cons_zero, List.getElem_cons_succ] at d0 d1
            by_cases s1 : xb < 0
            · have HX : Hid (ch = 1) := by
                show _ = _
                have e : regE pk L = 1 := by rw [← HC.out]; rw [if_pos (by omega)]
                rw [HS.out, chk_sizes (by rw [SZE.out, e]; decide), SZE.out, e]
              go_wp2
              exact HEND.out 1 _ HX.out BW6.out
            · by_cases s2 : xb > 1024
              · have HX : Hid (ch = 1) := by
                  show _ = _
                  have e : regE pk L = 1 := by rw [← HC.out]; rw [if_pos (by omega)]
                  rw [HS.out, chk_sizes (by rw [SZE.out, e]; decide), SZE.out, e]
                go_wp2
                exact HEND.out 1 _ HX.out BW6.out
              · by_cases s3 : xs < 0
                · have HX : Hid (ch = 1) := by
                    show _ = _
                    have e : regE pk L = 1 := by rw [← HC.out]; rw [if_pos (by omega)]
                    rw [HS.out, chk_sizes (by rw [SZE.out, e]; decide), SZE.out, e]
                  go_wp2
                  exact HEND.out 1 _ HX.out BW6.out
                · by_cases s4 : xs > 1024
                  · have HX : Hid (ch = 1) := by
                      show _ = _
                      have e : regE pk L = 1 := by rw [← HC.out]; rw [if_pos (by omega)]
                      rw [HS.out, chk_sizes (by rw [SZE.out, e]; decide), SZE.out, e]
                    go_wp2
                    exact HEND.out 1 _ HX.out BW6.out
                  · go_upto_region 16 with fail
                    by_cases s5 : xs < mv
                    · have HX : Hid (ch = 190) := by
                        show _ = _
                        have e : regE pk L = 190 := by rw [← HC.out]; rw [if_neg (by omega), if_pos s5]
                        rw [HS.out, chk_sizes (by rw [SZE.out, e]; decide), SZE.out, e]
                      have s6 : decide (xs < mv) = true := decide_eq_true s5
                      try dsimp only [List.append_eq, List.cons_append, List.nil_append]
                      go_quiet (fail)
                      have BW7 := hiddenN (drewB BW6.out nq)
                      go_wp2
                      exact HEND.out 190 _ HX.out BW7.out
                    · have HN : Hid (regE (pk.drop (kx + 1)) (L.drop (kx + 1)) = regE pk L) := by show _ = _; rw [← HC.out, if_neg (by omega), if_neg s5]
                      have s6 : decide (xs < mv) = false := decide_eq_false s5
                      try dsimp only [List.append_eq, List.cons_append, List.nil_append]
                      go_quiet (fail)
                      have HB7 := hiddenN (drewB HB6.out nq)
                      go_wp2
                      go_roundg (m - (kx + 1))
                      case measure => omega
                      case rel => exact ⟨kx + 1, by omega, rfl, by go_num, HN.out, HB7.out⟩
          · have hki : ¬ (kx : Int) < (m : Int) := by omega
            have HZE : Hid (szE pk L = 0) := by
              show _ = _
              rw [SZE.out, ← HR.out, List.drop_eq_nil_of_le (show pk.length ≤ kx by rw [HML.out]; omega)]
              rfl
            clear HR
            obtain ⟨t1, t2, t3⟩ := chk_tail (R := R) (tot := tot) HZE.out
            have T1 : Hid (ch = _) := HS.out.trans t1
            have T3 := hiddenN t3
            have HLM : Hid (L.length = m) := by show _ = _; rw [t2, HML.out]
            have hpm : pk.length = m := HML.out
            have CE : Hid (∀ U, Below wr.heap.size wr U → Calls Tryz.prog 38 #[.slice ar nr cr] U fun e w' => e = .returned (.int .i64 (celP L)) ∧ Below U.heap.size U w') := fun U hb => rcells_anyX ar nr cr L U ((L4.out.below HB.out).below hb) HLl.out T3.out (by have := HNM.out; omega)
            have nrm := HNM.out
            clear t1 t2 t3 HZE HS SZE
            generalize celP L = ce at *
            go_upto_region 18 with fail
            try dsimp only [List.append_eq, List.cons_append, List.nil_append]
            refine wp_region_gen [] (fun d i u z => match i with
                | 0 => z = .pointer (some ⟨W.heap.size + 1, 1, none⟩)
                | 1 => z = .int .i64 tot
                | 2 => z = .pointer (some ⟨W.heap.size + 1, 0, none⟩)
                | 3 => z = .slice ar nr cr
                | 4 => z = .int .i64 ce
                | 5 => z = .bool (tot != ce)
                | _ => True) (fun _ u => Below wr.heap.size wr u) (by kernel_rfl) (by kernel_rfl) (by kernel_rfl) ?_ ?_ ?_ ?_ ?_ ?_ (by kernel_rfl)
            · intro d i w v w' h hb
              match i, h with
              | 0, h => exact h
              | 1, h => exact h
              | 2, h => exact h
              | 3, h => exact h
              | 4, h => exact h
              | 5, h => exact h
              | _ + 6, _ => trivial
            · intro d u u' h hb
              exact h.trans (hb.mono h.size)
            · exact Below.refl _ _
            · intro d i o ρ w' hm ho hf hg hC hcs hfs hfr hdep
              match i, hm, ho, hf, hg, hfr, hdep with
              | 0, _, ho, hf, hg, hfr, hdep =>
                simp only [gTA, gCZ, gSI] at ho
                subst ho
                refine ⟨fun _ => ?_, fun hw => absurd (show true = false from hw) (by decide)⟩
                have ts : ρ (.tmp 4) = .pointer (some ⟨W.heap.size + 1, 0, none⟩) := hfr 4 (by kernel_rfl)
                simp [go_sem, ts]
                exact ⟨Below.refl _ _, rfl⟩
              | 1, _, ho, hf, hg, hfr, hdep =>
                simp only [gTA, gCZ, gCS, gSI] at ho
                subst ho
                refine ⟨fun _ => ?_, fun hw => absurd (show true = false from hw) (by decide)⟩
                have k0 := cellN_later hC d1
                have d0 : ρ (.tmp 81) = .pointer (some ⟨W.heap.size + 1, 1, none⟩) := hdep 0 81 (by kernel_rfl) (by kernel_rfl)
                simp [go_sem, d0, k0]
                exact ⟨Below.refl _ _, rfl⟩
              | 2, _, ho, hf, hg, hfr, hdep =>
                simp only [gTA, gCZ, gCS, gSI] at ho
                subst ho
                refine ⟨fun _ => ?_, fun hw => absurd (show true = false from hw) (by decide)⟩
                have ts : ρ (.tmp 4) = .pointer (some ⟨W.heap.size + 1, 0, none⟩) := hfr 4 (by kernel_rfl)
                simp [go_sem, ts]
                exact ⟨Below.refl _ _, rfl⟩
              | 3, _, ho, hf, hg, hfr, hdep =>
                simp only [gTA, gCZ, gCS, gSI] at ho
                subst ho
                refine ⟨fun _ => ?_, fun hw => absurd (show true = false from hw) (by decide)⟩
                have k0 := cellN_later hC d0
                have d0 : ρ (.tmp 83) = .pointer (some ⟨W.heap.size + 1, 0, none⟩) := hdep 2 83 (by kernel_rfl) (by kernel_rfl)
                simp [go_sem, d0, k0]
                exact ⟨Below.refl _ _, rfl⟩
              | 4, _, ho, hf, hg, hfr, hdep =>
                simp only [gTA, gCZ, gCS, gSI] at ho
                subst ho
                refine ⟨fun _ => ?_, fun hw => absurd (show true = false from hw) (by decide)⟩
                have t0 : ρ (.tmp 84) = .slice ar nr cr := hdep 3 84 (by kernel_rfl) (by kernel_rfl)
                simp [go_sem, t0, hfs]
                exact ⟨rfl, (CE.out w' hC).mono fun e w'' ⟨e1, q⟩ => ⟨_, e1, q, rfl⟩⟩
              | 5, _, ho, hf, hg, hfr, hdep =>
                simp only [gTA, gCZ, gCS, gSI] at ho
                subst ho
                refine ⟨fun _ => ?_, fun hw => absurd (show true = false from hw) (by decide)⟩
                have d0 : ρ (.tmp 82) = .int .i64 tot := hdep 1 82 (by kernel_rfl) (by kernel_rfl)
                have d1 : ρ (.tmp 85) = .int .i64 ce := hdep 4 85 (by kernel_rfl) (by kernel_rfl)
                simp [go_sem, d0, d1]
                exact ⟨Below.refl _ _, rfl⟩
              | n + 6, _, ho, _, _, _, _ => simp at ho
            · intro d i o ρ w' hm ho h0 hf hg hC hcs hfs hfr hdep
              exact absurd hm (by simp)
            · intro V w9 hC9 hS
              have e5 : V 5 = .bool (tot != ce) := hS 5 (by decide) (by intro h; cases h)
              simp only [puts, e5]
              simp only [Act.put, List.setIfInBounds_toArray, List.set_cons_zero, List.set_cons_succ]
              clear hS e5
              have HB6 := hiddenN (HB.out.trans (hC9.mono HB.out.size))
              have BW6 := hiddenN (BW5.out.trans (hC9.mono BW5.out.size))
              have D6 := hiddenN (D5.out.below hC9)
              clear hC9 d0 d1
              have d0 := D6.out.cell (k := 0) rfl
              have d1 := D6.out.cell (k := 1) rfl
              simp only [List.getElem_toArray, List.getElem_cons_zero, List.getElem_cons_succ] at d0 d1
              by_cases htc : tot = ce
              · have qt : (tot != ce) = false := by rw [htc]; simp
                have T2 : Hid (ch = if 1024 < tot then 5 else if (prsV (cloV R) pk.length).any (fun p => shrB (nthX L p.1) (nthX L p.2)) = true then 192 else 0) := by
                  have q := T1.out
                  rw [if_neg (fun q => q htc)] at q
                  exact q
                clear htc T1
                by_cases hgt : 1024 < tot
                · have hgt' : tot > 1024 := hgt
                  have T4 : Hid (ch = 5) := by have q := T2.out; rw [if_pos hgt] at q; exact q
                  clear hgt
                  go_wp2
                  exact HEND.out 5 _ T4.out BW6.out
                · have hgt' : ¬ tot > 1024 := hgt
                  have T4 : Hid (ch = if ((prsV (cloV R) m).drop 0).any (fun p => shrB (nthX L p.1) (nthX L p.2)) = true then 192 else 0) := by have q := T2.out; rw [if_neg hgt, hpm] at q; rw [List.drop_zero]; exact q
                  clear hgt T2
                  go_wp2
                  clear d0 d1
                  go_loopg [15] np (fun gk u wr => ∃ kx : Nat, kx ≤ np ∧ gk = np - kx ∧ u = .int .i64 (kx : Int) ∧ (ch = if ((prsV (cloV R) m).drop kx).any (fun p => shrB (nthX L p.1) (nthX L p.2)) = true then 192 else 0) ∧ Below w4.heap.size w4 wr)
                  case atStart => exact ⟨0, Nat.zero_le _, rfl, rfl, T4.out, HB6.out⟩
                  case round =>
                    clear T4 HB6 BW6 D6 HB BW5 D5
                    obtain ⟨kx, hk, rfl, rfl, hch, hB⟩ := hrel
                    have HC := hiddenN hch
                    have HB := hiddenN hB
                    have D5 := hiddenN (D4.out.below hB)
                    have BW5 := hiddenN (B4.out.trans (hB.mono B4.out.size))
                    clear hch hB
                    have d0 := D5.out.cell (k := 0) rfl
                    have d1 := D5.out.cell (k := 1) rfl
                    simp only [List.getElem_toArray, List.getElem_cons_zero, List.getElem_cons_succ] at d0 d1
                    have hpl : (prsV (cloV R) m).length = np := by have e := HNP.out; rw [HCL.out, List.length_map] at e; exact e
                    by_cases hlt : kx < np
                    · have hki : (kx : Int) < (np : Int) := by omega
                      have hnp6 : np ≤ 1000000 := HPL6.out
                      have hwk : IntKind.i64.wrap ((kx : Int) + 1) = (kx : Int) + 1 := by rw [IntKind.wrap_i64]; omega
                      obtain ⟨p, hp⟩ : ∃ p, (prsV (cloV R) m)[kx]? = some p := ⟨_, List.getElem?_eq_getElem (by rw [hpl]; exact hlt)⟩
                      have hpm2 := mem_prsV.1 (List.mem_of_getElem? hp)
                      have hkP : kx < PL.length := by rw [HNP.out]; exact hlt
                      have hnx : nthX PL kx = prI p := nthX_at (by rw [HCL.out, List.getElem?_map, hp]; rfl)
                      rcases (P4.out.below HB.out) with e1 | ⟨qb, qo, hap, hc⟩
                      · rw [e1] at hkP; exact absurd hkP (Nat.not_lt_zero _)
                      obtain ⟨c0, c1⟩ := hc kx hkP
                      rw [hnx] at c0 c1
                      obtain ⟨p1, p2⟩ := p
                      simp only [prI] at c0 c1
                      rcases L4.out.below HB.out with e1 | ⟨lb, lo, har, hcl⟩
                      · have := HLM.out; rw [e1] at this; have := hpm2.2.1; simp at *; omega
                      have h1m : p1 < L.length := by have := HLM.out; have := hpm2.1; have := hpm2.2.1; simp only at *; omega
                      have h2m : p2 < L.length := by have := HLM.out; have := hpm2.2.1; simp only at *; omega
                      have HC2 := HC.out
                      rw [any_cut hp] at HC2
                      have w1 := T3.out _ (List.getElem_mem h1m)
                      have w2 := T3.out _ (List.getElem_mem h2m)
                      rw [← nthX_at (List.getElem?_eq_getElem h1m)] at w1
                      rw [← nthX_at (List.getElem?_eq_getElem h2m)] at w2
                      obtain ⟨a0, a1⟩ := hcl p1 h1m
                      obtain ⟨b0, b1⟩ := hcl p2 h2m
                      simp only at HC2
                      obtain ⟨r1, hr1⟩ : ∃ r, nthX L p1 = r := ⟨_, rfl⟩
                      obtain ⟨r2, hr2⟩ : ∃ r, nthX L p2 = r := ⟨_, rfl⟩
                      rw [hr1] at a0 a1 w1 HC2
                      rw [hr2] at b0 b1 w2 HC2
                      obtain ⟨s1, s2⟩ := r1
                      obtain ⟨s3, s4⟩ := r2
                      simp only at a0 a1 b0 b1 w1 w2
                      have HC3 := hiddenN HC2
                      have hip1 : (p1 : Int) < (nr : Int) := by have := HLl.out; omega
                      have hip2 : (p2 : Int) < (nr : Int) := by have := HLl.out; omega
                      have SH : Hid (∀ U, Calls Tryz.prog 41 #[.agg #[.int .i64 s1, .int .i64 s2], .agg #[.int .i64 s3, .int .i64 s4]] U fun e w' => e = .returned (.bool (shrB (s1, s2) (s3, s4))) ∧ Below U.heap.size U w') := fun U => (share_refX s1 s2 s3 s4 (by rw [IntKind.wrap_i64]; omega) (by rw [IntKind.wrap_i64]; omega) U).mono fun e w' ⟨e1, q⟩ => ⟨e1, grn_below q (Nat.le_refl _)⟩
                      generalize shrB (s1, s2) (s3, s4) = sh at *
                      subst hap
                      subst har
                      clear hc hcl hkP hnx hpl hp hpm2 HC2 HC w1 w2 hr1 hr2 h1m h2m
                      go_upto_region 25 with fail
                      try dsimp only [List.append_eq, List.cons_append, List.nil_append]
                      refine wp_region_gen [] (fun d i u z => match i with
                          | 0 => z = .pointer (some ⟨W.heap.size + 1, 0, none⟩)
                          | 1 => z = .slice (some ⟨lb, lo, none⟩) nr cr
                          | 2 => z = .slice (some ⟨qb, qo, none⟩) np cp
                          | 3 => z = .int .i64 (kx : Int)
                          | 4 => z = .pointer (some ⟨qb, qo + kx * 2, none⟩)
                          | 5 => z = .pointer (some ⟨qb, qo + kx * 2, none⟩)
                          | 6 => z = .int .i64 (p1 : Int)
                          | 7 => z = .pointer (some ⟨lb, lo + p1 * 2, none⟩)
                          | 8 => z = .agg #[.int .i64 s1, .int .i64 s2]
                          | 9 => z = .pointer (some ⟨W.heap.size + 1, 0, none⟩)
                          | 10 => z = .slice (some ⟨lb, lo, none⟩) nr cr
                          | 11 => z = .slice (some ⟨qb, qo, none⟩) np cp
                          | 12 => z = .int .i64 (kx : Int)
                          | 13 => z = .pointer (some ⟨qb, qo + kx * 2, none⟩)
                          | 14 => z = .pointer (some ⟨qb, qo + kx * 2 + 1, none⟩)
                          | 15 => z = .int .i64 (p2 : Int)
                          | 16 => z = .pointer (some ⟨lb, lo + p2 * 2, none⟩)
                          | 17 => z = .agg #[.int .i64 s3, .int .i64 s4]
                          | 18 => z = .bool sh
                          | _ => True) (fun _ u => Below wr.heap.size wr u) (by kernel_rfl) (by kernel_rfl) (by kernel_rfl) ?_ ?_ ?_ ?_ ?_ ?_ (by kernel_rfl)
                      · intro d i w v w' h hb
                        match i, h with
                        | 0, h => exact h
                        | 1, h => exact h
                        | 2, h => exact h
                        | 3, h => exact h
                        | 4, h => exact h
                        | 5, h => exact h
                        | 6, h => exact h
                        | 7, h => exact h
                        | 8, h => exact h
                        | 9, h => exact h
                        | 10, h => exact h
                        | 11, h => exact h
                        | 12, h => exact h
                        | 13, h => exact h
                        | 14, h => exact h
                        | 15, h => exact h
                        | 16, h => exact h
                        | 17, h => exact h
                        | 18, h => exact h
                        | _ + 19, _ => trivial
                      · intro d u u' h hb
                        exact h.trans (hb.mono h.size)
                      · exact Below.refl _ _
                      · intro d i o ρ w' hm ho hf hg hC hcs hfs hfr hdep
                        match i, hm, ho, hf, hg, hfr, hdep with
                        | 0, _, ho, hf, hg, hfr, hdep =>
                          simp only [gTA, gCZ, gSI] at ho
                          subst ho
                          refine ⟨fun _ => ?_, fun hw => absurd (show true = false from hw) (by decide)⟩
                          have ts : ρ (.tmp 4) = .pointer (some ⟨W.heap.size + 1, 0, none⟩) := hfr 4 (by kernel_rfl)
                          simp [go_sem, ts]
                          exact ⟨Below.refl _ _, rfl⟩
                        | 1, _, ho, hf, hg, hfr, hdep =>
                          simp only [gTA, gCZ, gCS, gSI] at ho
                          subst ho
                          refine ⟨fun _ => ?_, fun hw => absurd (show true = false from hw) (by decide)⟩
                          have k0 := cellN_later hC d0
                          have d0 : ρ (.tmp 96) = .pointer (some ⟨W.heap.size + 1, 0, none⟩) := hdep 0 96 (by kernel_rfl) (by kernel_rfl)
                          simp [go_sem, d0, k0]
                          exact ⟨Below.refl _ _, rfl⟩
                        | 2, _, ho, hf, hg, hfr, hdep =>
                          simp only [gTA, gCZ, gCS, gSI] at ho
                          subst ho
                          refine ⟨fun _ => ?_, fun hw => absurd (show true = false from hw) (by decide)⟩
                          have ts : ρ (.tmp 7) = .slice (some ⟨qb, qo, none⟩) np cp := hfr 7 (by kernel_rfl)
                          simp [go_sem, ts]
                          exact ⟨Below.refl _ _, rfl⟩
                        | 3, _, ho, hf, hg, hfr, hdep =>
                          simp only [gTA, gCZ, gCS, gSI] at ho
                          subst ho
                          refine ⟨fun _ => ?_, fun hw => absurd (show true = false from hw) (by decide)⟩
                          have ts : ρ (.tmp 15) = .int .i64 (kx : Int) := hfr 15 (by kernel_rfl)
                          simp [go_sem, ts]
                          exact ⟨Below.refl _ _, rfl⟩
                        | 4, _, ho, hf, hg, hfr, hdep =>
                          simp only [gTA, gCZ, gCS, gSI] at ho
                          subst ho
                          refine ⟨fun _ => ?_, fun hw => absurd (show true = false from hw) (by decide)⟩
                          have d0 : ρ (.tmp 98) = .slice (some ⟨qb, qo, none⟩) np cp := hdep 2 98 (by kernel_rfl) (by kernel_rfl)
                          have d1 : ρ (.tmp 99) = .int .i64 (kx : Int) := hdep 3 99 (by kernel_rfl) (by kernel_rfl)
                          simp [go_sem, d0, d1, hki]
                          exact ⟨Below.refl _ _, rfl⟩
                        | 5, _, ho, hf, hg, hfr, hdep =>
                          simp only [gTA, gCZ, gCS, gSI] at ho
                          subst ho
                          refine ⟨fun _ => ?_, fun hw => absurd (show true = false from hw) (by decide)⟩
                          have d0 : ρ (.tmp 100) = .pointer (some ⟨qb, qo + kx * 2, none⟩) := hdep 4 100 (by kernel_rfl) (by kernel_rfl)
                          simp [go_sem, d0, hcs]
                          exact ⟨Below.refl _ _, rfl⟩
                        | 6, _, ho, hf, hg, hfr, hdep =>
                          simp only [gTA, gCZ, gCS, gSI] at ho
                          subst ho
                          refine ⟨fun _ => ?_, fun hw => absurd (show true = false from hw) (by decide)⟩
                          have k0 := cellN_later hC c0
                          have d0 : ρ (.tmp 101) = .pointer (some ⟨qb, qo + kx * 2, none⟩) := hdep 5 101 (by kernel_rfl) (by kernel_rfl)
                          simp [go_sem, d0, k0]
                          exact ⟨Below.refl _ _, rfl⟩
                        | 7, _, ho, hf, hg, hfr, hdep =>
                          simp only [gTA, gCZ, gCS, gSI] at ho
                          subst ho
                          refine ⟨fun _ => ?_, fun hw => absurd (show true = false from hw) (by decide)⟩
                          have d0 : ρ (.tmp 97) = .slice (some ⟨lb, lo, none⟩) nr cr := hdep 1 97 (by kernel_rfl) (by kernel_rfl)
                          have d1 : ρ (.tmp 102) = .int .i64 (p1 : Int) := hdep 6 102 (by kernel_rfl) (by kernel_rfl)
                          simp [go_sem, d0, d1, hip1]
                          exact ⟨Below.refl _ _, rfl⟩
                        | 8, _, ho, hf, hg, hfr, hdep =>
                          simp only [gTA, gCZ, gCS, gSI] at ho
                          subst ho
                          refine ⟨fun _ => ?_, fun hw => absurd (show true = false from hw) (by decide)⟩
                          have k0 := cellN_later hC a0
                          have k1 := cellN_later hC a1
                          have d0 : ρ (.tmp 103) = .pointer (some ⟨lb, lo + p1 * 2, none⟩) := hdep 7 103 (by kernel_rfl) (by kernel_rfl)
                          simp [go_sem, d0, k0, k1]
                          exact ⟨Below.refl _ _, rfl⟩
                        | 9, _, ho, hf, hg, hfr, hdep =>
                          simp only [gTA, gCZ, gCS, gSI] at ho
                          subst ho
                          refine ⟨fun _ => ?_, fun hw => absurd (show true = false from hw) (by decide)⟩
                          have ts : ρ (.tmp 4) = .pointer (some ⟨W.heap.size + 1, 0, none⟩) := hfr 4 (by kernel_rfl)
                          simp [go_sem, ts]
                          exact ⟨Below.refl _ _, rfl⟩
                        | 10, _, ho, hf, hg, hfr, hdep =>
                          simp only [gTA, gCZ, gCS, gSI] at ho
                          subst ho
                          refine ⟨fun _ => ?_, fun hw => absurd (show true = false from hw) (by decide)⟩
                          have k0 := cellN_later hC d0
                          have d0 : ρ (.tmp 105) = .pointer (some ⟨W.heap.size + 1, 0, none⟩) := hdep 9 105 (by kernel_rfl) (by kernel_rfl)
                          simp [go_sem, d0, k0]
                          exact ⟨Below.refl _ _, rfl⟩
                        | 11, _, ho, hf, hg, hfr, hdep =>
                          simp only [gTA, gCZ, gCS, gSI] at ho
                          subst ho
                          refine ⟨fun _ => ?_, fun hw => absurd (show true = false from hw) (by decide)⟩
                          have ts : ρ (.tmp 7) = .slice (some ⟨qb, qo, none⟩) np cp := hfr 7 (by kernel_rfl)
                          simp [go_sem, ts]
                          exact ⟨Below.refl _ _, rfl⟩
                        | 12, _, ho, hf, hg, hfr, hdep =>
                          simp only [gTA, gCZ, gCS, gSI] at ho
                          subst ho
                          refine ⟨fun _ => ?_, fun hw => absurd (show true = false from hw) (by decide)⟩
                          have ts : ρ (.tmp 15) = .int .i64 (kx : Int) := hfr 15 (by kernel_rfl)
                          simp [go_sem, ts]
                          exact ⟨Below.refl _ _, rfl⟩
                        | 13, _, ho, hf, hg, hfr, hdep =>
                          simp only [gTA, gCZ, gCS, gSI] at ho
                          subst ho
                          refine ⟨fun _ => ?_, fun hw => absurd (show true = false from hw) (by decide)⟩
                          have d0 : ρ (.tmp 107) = .slice (some ⟨qb, qo, none⟩) np cp := hdep 11 107 (by kernel_rfl) (by kernel_rfl)
                          have d1 : ρ (.tmp 108) = .int .i64 (kx : Int) := hdep 12 108 (by kernel_rfl) (by kernel_rfl)
                          simp [go_sem, d0, d1, hki]
                          exact ⟨Below.refl _ _, rfl⟩
                        | 14, _, ho, hf, hg, hfr, hdep =>
                          simp only [gTA, gCZ, gCS, gSI] at ho
                          subst ho
                          refine ⟨fun _ => ?_, fun hw => absurd (show true = false from hw) (by decide)⟩
                          have d0 : ρ (.tmp 109) = .pointer (some ⟨qb, qo + kx * 2, none⟩) := hdep 13 109 (by kernel_rfl) (by kernel_rfl)
                          simp [go_sem, d0, hcs]
                          exact ⟨Below.refl _ _, rfl⟩
                        | 15, _, ho, hf, hg, hfr, hdep =>
                          simp only [gTA, gCZ, gCS, gSI] at ho
                          subst ho
                          refine ⟨fun _ => ?_, fun hw => absurd (show true = false from hw) (by decide)⟩
                          have k0 := cellN_later hC c1
                          have d0 : ρ (.tmp 110) = .pointer (some ⟨qb, qo + kx * 2 + 1, none⟩) := hdep 14 110 (by kernel_rfl) (by kernel_rfl)
                          simp [go_sem, d0, k0]
                          exact ⟨Below.refl _ _, rfl⟩
                        | 16, _, ho, hf, hg, hfr, hdep =>
                          simp only [gTA, gCZ, gCS, gSI] at ho
                          subst ho
                          refine ⟨fun _ => ?_, fun hw => absurd (show true = false from hw) (by decide)⟩
                          have d0 : ρ (.tmp 106) = .slice (some ⟨lb, lo, none⟩) nr cr := hdep 10 106 (by kernel_rfl) (by kernel_rfl)
                          have d1 : ρ (.tmp 111) = .int .i64 (p2 : Int) := hdep 15 111 (by kernel_rfl) (by kernel_rfl)
                          simp [go_sem, d0, d1, hip2]
                          exact ⟨Below.refl _ _, rfl⟩
                        | 17, _, ho, hf, hg, hfr, hdep =>
                          simp only [gTA, gCZ, gCS, gSI] at ho
                          subst ho
                          refine ⟨fun _ => ?_, fun hw => absurd (show true = false from hw) (by decide)⟩
                          have k0 := cellN_later hC b0
                          have k1 := cellN_later hC b1
                          have d0 : ρ (.tmp 112) = .pointer (some ⟨lb, lo + p2 * 2, none⟩) := hdep 16 112 (by kernel_rfl) (by kernel_rfl)
                          simp [go_sem, d0, k0, k1]
                          exact ⟨Below.refl _ _, rfl⟩
                        | 18, _, ho, hf, hg, hfr, hdep =>
                          simp only [gTA, gCZ, gCS, gSI] at ho
                          subst ho
                          refine ⟨fun _ => ?_, fun hw => absurd (show true = false from hw) (by decide)⟩
                          have t0 : ρ (.tmp 104) = .agg #[.int .i64 s1, .int .i64 s2] := hdep 8 104 (by kernel_rfl) (by kernel_rfl)
                          have t1 : ρ (.tmp 113) = .agg #[.int .i64 s3, .int .i64 s4] := hdep 17 113 (by kernel_rfl) (by kernel_rfl)
                          simp [go_sem, t0, t1, hfs]
                          exact ⟨rfl, (SH.out w').mono fun e w'' ⟨e1, q⟩ => ⟨_, e1, q, rfl⟩⟩
                        | n + 19, _, ho, _, _, _, _ => simp at ho
                      · intro d i o ρ w' hm ho h0 hf hg hC hcs hfs hfr hdep
                        exact absurd hm (by simp)
                      · intro V w9 hC9 hS
                        have e18 : V 18 = .bool sh := hS 18 (by decide) (by intro h; cases h)
                        simp only [puts, e18]
                        simp only [Act.put, List.setIfInBounds_toArray, List.set_cons_zero, List.set_cons_succ]
                        clear hS e18
                        have HB7 := hiddenN (HB.out.trans (hC9.mono HB.out.size))
                        have BW7 := hiddenN (BW5.out.trans (hC9.mono BW5.out.size))
                        clear hC9
                        cases sh with
                        | true =>
                          have T5 : Hid (ch = 192) := by have q := HC3.out; rw [Bool.true_or, if_pos rfl] at q; exact q
                          go_wp2
                          exact HEND.out 192 _ T5.out BW7.out
                        | false =>
                          have T5 : Hid (ch = if ((prsV (cloV R) m).drop (kx + 1)).any (fun p => shrB (nthX L p.1) (nthX L p.2)) = true then 192 else 0) := by have q := HC3.out; rw [Bool.false_or] at q; exact q
                          go_wp2
                          go_roundg (np - (kx + 1))
                          case measure => omega
                          case rel => exact ⟨kx + 1, by omega, rfl, by go_num, T5.out, HB7.out⟩
                    · have hki : ¬ (kx : Int) < (np : Int) := by omega
                      have T5 : Hid (ch = 0) := by have q := HC.out; rw [List.drop_eq_nil_of_le (by omega)] at q; exact q
                      go_wp2
                      exact HEND.out 0 _ T5.out BW5.out
              · have qt : (tot != ce) = true := by simpa using htc
                have T2 : Hid (ch = 191) := by have q := T1.out; rw [if_pos htc] at q; exact q
                clear htc T1
                go_wp2
                exact HEND.out 191 _ T2.out BW6.out
      · have q0 : ((nr : Int) != (m : Int)) = true := by simp; omega
        have HX : Hid (ch = 1) := by
          show _ = _
          have e : ¬ L.length = pk.length := by rw [HLl.out, HML.out]; exact hln
          rw [HS.out]
          unfold chkP
          rw [if_pos e]
        clear hln
        go_wp2
        exact HEND.out 1 _ HX.out B4.out
  · have CL1 : Hid (Calls Tryz.prog 9 #[.agg #[.int .i64 n.nodes, .slice a n.arcs.length c], .slice al zs.length cl] W1 fun e w' => ∃ dp lp cp, e = .returned (.tuple #[.slice dp lp cp, .int .i64 (codeV n zs)]) ∧ Below W1.heap.size W1 w') := (CLE.out _ B0.out).mono fun e w' ⟨dp, cp, e1, q1, q2⟩ => ⟨dp, _, cp, e1, q2⟩
    have HS : Hid (chkC n L tot zs = codeV n zs) := by
      show _ = _
      have e : dmC n zs = codeV n zs := by unfold dmC; rw [if_neg hc]
      unfold chkC
      rw [e, if_neg hc]
    have qe : (codeV n zs != 0) = true := by simpa using hc
    generalize codeV n zs = cv at *
    clear CLE HOE MOE hc
    go_wp2_with (go_at_call 9; (with_reducible refine CL1.out.mono ?_); rintro e w2 ⟨dp, lp, cp, rfl, q2⟩; have B2 := hiddenN (B0.out.trans (q2.mono B0.out.size)); clear q2)
    exact HEND.out cv _ HS.out B2.out
end Go.Proofs.YtimioiaoefhabaaGreat

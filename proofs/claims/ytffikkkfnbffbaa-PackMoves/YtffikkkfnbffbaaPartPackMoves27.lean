/- Texts of one chain, laid one behind the other. -/
import Derived.Test.YtffikkkfnbffbaaPartPackMoves26
import Derived.Test.YtffikkkfnbffbaaPartPackMoves20
import Derived.Test.YtffikkkfnbffbaaPartPackMoves15
namespace Go.Proofs.Ytffikkkfnbffbaa
open Go.ChangeShapes Go.WideShapes Go.ChangeAt Go.RowKit
def netX : NN := ⟨2, [⟨0, 1, 2, 1, 0⟩, ⟨1, 0, 1, 2, 2⟩]⟩
theorem wakeX1 : codeV netX [0, 1, 1] = 0 ∧ cloL netX [0, 1, 1] = [(0, 1)] ∧ plaC netX [0, 1, 1] = 0 ∧ plaL netX [0, 1, 1] = [(0, 2), (2, 2)] ∧ plaT netX [0, 1, 1] = 4 := by decide +kernel
theorem wakeX2 : plaC netX [0, 1] = 181 ∧ plaL netX [0, 1] = [] ∧ plaT netX [0, 1] = 0 ∧ chkC netX [(0, 2), (1, 2)] 3 [0, 1, 1] = 192 ∧ chkC netX [(3, 2), (0, 3)] 5 [0, 1, 1] = 0 := by decide +kernel
theorem atN_alloc2X (U : World) : AtN (U.alloc (.cells #[.int .i64 0, .int .i64 1, .int .i64 2, .int .i64 1, .int .i64 0, .int .i64 1, .int .i64 0, .int .i64 1, .int .i64 2, .int .i64 2] 58)) (some ⟨U.heap.size, 0, none⟩) netX.arcs := by
  refine .inr ⟨U.heap.size, 0, rfl, fun k hk => ?_⟩
  have b := blkA_new 58 U #[.int .i64 0, .int .i64 1, .int .i64 2, .int .i64 1, .int .i64 0, .int .i64 1, .int .i64 0, .int .i64 1, .int .i64 2, .int .i64 2]
  match k, hk with
  | 0, _ => exact ⟨b.cell rfl, b.cell rfl, b.cell rfl, b.cell rfl, b.cell rfl⟩
  | 1, _ => exact ⟨b.cell rfl, b.cell rfl, b.cell rfl, b.cell rfl, b.cell rfl⟩
set_option maxRecDepth 100000 in
set_option maxHeartbeats 4000000 in
theorem two_anyX (w : World) : Calls Try.prog 26 #[] w fun e w' => ∃ x, e = .returned (.agg #[.int .i64 2, .slice (some x) 2 2]) ∧ AtN w' (some x) netX.arcs ∧ Below w.heap.size w w' := by
  have b0 := (Below.refl w.heap.size w).alloc (Nat.le_refl _) (.cells #[.int .i64 0, .slice none 0 0] 24)
  have G0 := hiddenN (blkA_new 24 w #[.int .i64 0, .slice none 0 0])
  have B0 := hiddenN b0
  clear b0
  go_enter Try.func26, Try.ntmps26
  go_upto_region 1 with fail
  generalize w.alloc (.cells #[.int .i64 0, .slice none 0 0] 24) = W0 at *
  have a1 := (Below.refl W0.heap.size W0).alloc (Nat.le_refl _) (.cells #[.int .i64 0, .int .i64 1, .int .i64 2, .int .i64 1, .int .i64 0, .int .i64 1, .int .i64 0, .int .i64 1, .int .i64 2, .int .i64 2] 58)
  have H1 := hiddenN (atN_alloc2X W0)
  have A1 := hiddenN a1
  have G1 := hiddenN (G0.out.below a1)
  clear a1
  have hlt := G0.out.lt
  go_wp2_with (refine wpList_storeW _ rfl 24 (.tmp 0) (.tmp 4) rfl rfl w.heap.size 24 _ _ rfl rfl G1.out sizNet rfl rfl ?_; intro w8 hN hU; have N8 := hiddenN hN; have U8 := hiddenN hU; clear hN hU)
  have t0 : w8.cell? ⟨w.heap.size, 0, none⟩ = some (.int .i64 2) := N8.out.cell rfl
  have t1 : w8.cell? ⟨w.heap.size, 1, none⟩ = some (.slice (some ⟨W0.heap.size, 0, none⟩) 2 2) := N8.out.cell rfl
  refine bodyPost_ret (v := .agg #[.int .i64 2, .slice (some ⟨W0.heap.size, 0, none⟩) 2 2]) (by simp [results, Try.results26, go_sem, t0, t1]) rfl ?_
  have hs1 : (W0.alloc (.cells #[.int .i64 0, .int .i64 1, .int .i64 2, .int .i64 1, .int .i64 0, .int .i64 1, .int .i64 0, .int .i64 1, .int .i64 2, .int .i64 2] 58)).heap.size = W0.heap.size + 1 := World.size_alloc _ _
  exact ⟨_, rfl, H1.out.keep fun x hx => by cases hx; exact U8.out.block _ (by show W0.heap.size < _; omega) (by show W0.heap.size ≠ w.heap.size; omega), B0.out.trans ((A1.out.mono B0.out.size).trans (U8.out.below (Nat.le_refl _) (Nat.le_trans B0.out.size A1.out.size)))⟩
theorem atGn_two (U : World) (p0 p1 p2 p3 : Int) : AtGn (U.alloc (.cells #[.int .i64 p0, .int .i64 p1, .int .i64 p2, .int .i64 p3] 41)) (some ⟨U.heap.size, 0, none⟩) [(p0, p1), (p2, p3)] := by
  refine .inr ⟨U.heap.size, 0, rfl, fun k hk => ?_⟩
  have b := blkA_new 41 U #[.int .i64 p0, .int .i64 p1, .int .i64 p2, .int .i64 p3]
  match k, hk with
  | 0, _ => exact ⟨b.cell rfl, b.cell rfl⟩
  | 1, _ => exact ⟨b.cell rfl, b.cell rfl⟩
set_option maxRecDepth 100000 in
set_option maxHeartbeats 4000000 in
theorem plan_anyX (p0 p1 p2 p3 p4 : Int) (w : World) : Calls Try.prog 27 #[.int .i64 p0, .int .i64 p1, .int .i64 p2, .int .i64 p3, .int .i64 p4] w fun e w' => ∃ x, e = .returned (.agg #[.slice (some x) 2 2, .int .i64 p4]) ∧ AtGn w' (some x) [(p0, p1), (p2, p3)] ∧ Below w.heap.size w w' := by
  have b0 := (Below.refl w.heap.size w).alloc (Nat.le_refl _) (.cells #[.slice none 0 0, .int .i64 0] 28)
  have G0 := hiddenN (blkA_new 28 w #[.slice none 0 0, .int .i64 0])
  have B0 := hiddenN b0
  clear b0
  go_enter Try.func27, Try.ntmps27
  go_upto_region 1 with fail
  generalize w.alloc (.cells #[.slice none 0 0, .int .i64 0] 28) = W0 at *
  have a1 := (Below.refl W0.heap.size W0).alloc (Nat.le_refl _) (.cells #[.int .i64 p0, .int .i64 p1, .int .i64 p2, .int .i64 p3] 41)
  have H1 := hiddenN (atGn_two W0 p0 p1 p2 p3)
  have A1 := hiddenN a1
  have G1 := hiddenN (G0.out.below a1)
  clear a1
  have hlt := G0.out.lt
  go_wp2_with (refine wpList_storeW _ rfl 28 (.tmp 10) (.tmp 19) rfl rfl w.heap.size 28 _ _ rfl rfl G1.out Try.sizPl rfl rfl ?_; intro w8 hN hU; have N8 := hiddenN hN; have U8 := hiddenN hU; clear hN hU)
  have t0 : w8.cell? ⟨w.heap.size, 0, none⟩ = some (.slice (some ⟨W0.heap.size, 0, none⟩) 2 2) := N8.out.cell rfl
  have t1 : w8.cell? ⟨w.heap.size, 1, none⟩ = some (.int .i64 p4) := N8.out.cell rfl
  refine bodyPost_ret (v := .agg #[.slice (some ⟨W0.heap.size, 0, none⟩) 2 2, .int .i64 p4]) (by simp [results, Try.results27, go_sem, t0, t1]) rfl ?_
  have hs1 : (W0.alloc (.cells #[.int .i64 p0, .int .i64 p1, .int .i64 p2, .int .i64 p3] 41)).heap.size = W0.heap.size + 1 := World.size_alloc _ _
  have hk : w8.heap[W0.heap.size]? = (W0.alloc (.cells #[.int .i64 p0, .int .i64 p1, .int .i64 p2, .int .i64 p3] 41)).heap[W0.heap.size]? := U8.out.block _ (by omega) (by omega)
  refine ⟨_, rfl, ?_, B0.out.trans ((A1.out.mono B0.out.size).trans (U8.out.below (Nat.le_refl _) (Nat.le_trans B0.out.size A1.out.size)))⟩
  rcases H1.out with e | ⟨b, off, e, hc⟩
  · cases e
  · cases e
    exact .inr ⟨_, _, rfl, fun k hkk => ⟨(World.cell?_of_block hk).trans (hc k hkk).1, (World.cell?_of_block hk).trans (hc k hkk).2⟩⟩
set_option maxRecDepth 100000 in
set_option maxHeartbeats 4000000 in
theorem same_planX (a b : Option Addr) (n c d : Nat) (L : List (Int × Int)) (t : Int) (W : World) (h1 : AtGn W a L) (h2 : AtGn W b L) (hN : L.length = n) (hn : n ≤ 1000000) :
    Calls Try.prog 28 #[.agg #[.slice a n c, .int .i64 t], .agg #[.slice b n d, .int .i64 t]] W fun e w' => e = .returned (.bool true) ∧ Below W.heap.size W w' := by
  have y1 : Hid (Below W.heap.size W (W.alloc (.cells #[.slice a n c, .int .i64 t] 28))) := (Below.refl _ _).alloc (Nat.le_refl _) _
  have hs1 : (W.alloc (.cells #[.slice a n c, .int .i64 t] 28)).heap.size = W.heap.size + 1 := World.size_alloc ..
  have y2 : Hid (Below (W.alloc (.cells #[.slice a n c, .int .i64 t] 28)).heap.size (W.alloc (.cells #[.slice a n c, .int .i64 t] 28)) ((W.alloc (.cells #[.slice a n c, .int .i64 t] 28)).alloc (.cells #[.slice b n d, .int .i64 t] 28))) := (Below.refl _ _).alloc (Nat.le_refl _) _
  have G0 := hiddenN ((blkA_new 28 W #[.slice a n c, .int .i64 t]).below y2.out)
  have D0 := hiddenN (blkA_new 28 (W.alloc (.cells #[.slice a n c, .int .i64 t] 28)) #[.slice b n d, .int .i64 t])
  have B0 := hiddenN (y1.out.trans (y2.out.mono (by rw [hs1]; omega)))
  have H1 := hiddenN ((h1.below y1.out).below y2.out)
  have H2 := hiddenN ((h2.below y1.out).below y2.out)
  have HN := hiddenN hN
  rw [hs1] at D0
  clear h1 h2 hN y1 y2 hs1
  have qt : (t != t) = false := by simp
  have qn : ((n : Int) != (n : Int)) = false := by simp
  go_enter Try.func28, Try.ntmps28
  go_upto_region 1 with fail
  generalize (W.alloc (.cells #[.slice a n c, .int .i64 t] 28)).alloc (.cells #[.slice b n d, .int .i64 t] 28) = W1 at *
  have g0 := G0.out.cell (k := 0) rfl
  have g1 := G0.out.cell (k := 1) rfl
  have d0 := D0.out.cell (k := 0) rfl
  have d1 := D0.out.cell (k := 1) rfl
  simp only [List.getElem_toArray, List.getElem_cons_zero, List.getElem_cons_succ] at g0 g1 d0 d1
  go_wp2
  clear qt qn g1 d1 g0 d0
  go_loopg [5] n (fun gk u wr => ∃ (k m : Nat), k ≤ n ∧ gk = n - k ∧ u = .int .i64 (k : Int) ∧ wr = W1.drewN m)
  case atStart => exact ⟨0, 0, Nat.zero_le _, rfl, rfl, rfl⟩
  case round =>
    obtain ⟨k, m, hk, rfl, rfl, rfl⟩ := hrel
    have g0 := G0.out.cell (k := 0) rfl
    have d0 := D0.out.cell (k := 0) rfl
    simp only [List.getElem_toArray, List.getElem_cons_zero] at g0 d0
    by_cases hlt : k < n
    · have hki : (k : Int) < (n : Int) := by omega
      have hkL : k < L.length := by rw [HN.out]; exact hlt
      rcases H1.out with e1 | ⟨ab, off, rfl, hc⟩
      · rw [e1] at hkL; exact absurd hkL (Nat.not_lt_zero _)
      rcases H2.out with e1 | ⟨bb, of2, rfl, hd⟩
      · rw [e1] at hkL; exact absurd hkL (Nat.not_lt_zero _)
      obtain ⟨c0, c1⟩ := hc k hkL
      obtain ⟨e0, e1⟩ := hd k hkL
      obtain ⟨x1, hx1⟩ : ∃ x, (nthX L k).1 = x := ⟨_, rfl⟩
      obtain ⟨x2, hx2⟩ : ∃ x, (nthX L k).2 = x := ⟨_, rfl⟩
      rw [hx1] at c0 e0
      rw [hx2] at c1 e1
      have hgd : ∀ (op : BinOp) (a b : Operand) (xs ys : Array Value) (w : World), Sem.run Try.prog (eqGuard op 41 a b (.agg xs) (.agg ys)) w = .ok () w := Try.eqgGn
      have heq : ∀ w, Sem.run Try.prog (binOp .neq 41 (.agg #[.int .i64 x1, .int .i64 x2]) (.agg #[.int .i64 x1, .int .i64 x2])) w = .ok (.bool false) w := fun w => by rw [Try.neqGn]; simp
      clear hc hd hkL hx1 hx2
      go_upto_region 6 with fail
      go_quiet (fail)
      go_wp2
      go_roundg (n - (k + 1))
      case measure => omega
      case rel => exact ⟨k + 1, m + nq, by omega, rfl, by go_num, by simp⟩
    · have hki : ¬ (k : Int) < (n : Int) := by omega
      go_wp2
      go_ret
      exact ⟨rfl, drewB B0.out _⟩
/-- The plan that the document tells. -/
def PlX (u : World) (z : Value) : Prop := ∃ x, z = .agg #[.slice (some x) 2 2, .int .i64 4] ∧ AtGn u (some x) [(0, 2), (2, 2)]
theorem PlX.later {u u' : World} {z : Value} (h : PlX u z) (hb : Below u.heap.size u u') : PlX u' z := by
  obtain ⟨x, h1, h2⟩ := h
  exact ⟨x, h1, h2.below hb⟩
theorem clashW (w : World) (x y : Addr) (h : AtN w (some x) netX.arcs) (hz : At w (some y) [0, 1, 1]) : Calls Try.prog 25 #[.agg #[.int .i64 2, .slice (some x) 2 2], .slice (some y) 3 3] w fun e w' => ∃ d c', e = .returned (.tuple #[.slice d 1 c', .int .i64 0]) ∧ AtPp w' d [(0, 1)] ∧ Below w.heap.size w w' :=
  (clashes_anyX netX (some x) 2 w h (by decide) (fun e => by cases e) (some y) 3 [0, 1, 1] hz (by decide)).mono fun e w' hh => by
    obtain ⟨d, c', e1, q1, q2⟩ := hh
    rw [wakeX1.2.1, wakeX1.1] at e1
    rw [wakeX1.2.1] at q1
    exact ⟨d, c', e1, q1.at, q2⟩
theorem placeW (w : World) (x y : Addr) (h : AtN w (some x) netX.arcs) (hz : At w (some y) [0, 1, 1]) : Calls Try.prog 5 #[.agg #[.int .i64 2, .slice (some x) 2 2], .slice (some y) 3 3] w fun e w' => ∃ d c', e = .returned (.tuple #[.agg #[.slice d 2 c', .int .i64 4], .int .i64 0]) ∧ AtGn w' d [(0, 2), (2, 2)] ∧ Below w.heap.size w w' :=
  (place_anyX netX (some x) 2 w h (by decide) (fun e => by cases e) (some y) 3 [0, 1, 1] hz (by decide)).mono fun e w' hh => by
    obtain ⟨d, c', e1, q1, q2⟩ := hh
    rw [wakeX1.2.2.2.1, wakeX1.2.2.2.2, wakeX1.2.2.1] at e1
    rw [wakeX1.2.2.2.1] at q1
    exact ⟨d, c', e1, q1.at, q2⟩
theorem placeW2 (w : World) (x y : Addr) (h : AtN w (some x) netX.arcs) (hz : At w (some y) [0, 1]) : Calls Try.prog 5 #[.agg #[.int .i64 2, .slice (some x) 2 2], .slice (some y) 2 2] w fun e w' => ∃ d c', e = .returned (.tuple #[.agg #[.slice d 0 c', .int .i64 0], .int .i64 181]) ∧ Below w.heap.size w w' :=
  (place_anyX netX (some x) 2 w h (by decide) (fun e => by cases e) (some y) 2 [0, 1] hz (by decide)).mono fun e w' hh => by
    obtain ⟨d, c', e1, q1, q2⟩ := hh
    rw [wakeX2.2.1, wakeX2.2.2.1, wakeX2.1] at e1
    exact ⟨d, c', e1, q2⟩
theorem checkW (w : World) (x y : Addr) (h : AtN w (some x) netX.arcs) (hz : At w (some y) [0, 1, 1]) (p : Addr) (hp : AtGn w (some p) [(0, 2), (1, 2)]) : Calls Try.prog 12 #[.agg #[.int .i64 2, .slice (some x) 2 2], .agg #[.slice (some p) 2 2, .int .i64 3], .slice (some y) 3 3] w fun e w' => e = .returned (.int .i64 192) ∧ Below w.heap.size w w' :=
  (check_anyX netX (some x) 2 w h (by decide) (fun e => by cases e) (some y) 3 [0, 1, 1] hz (by decide) (some p) 2 2 [(0, 2), (1, 2)] 3 hp rfl).mono fun e w' ⟨e1, q⟩ => ⟨by rw [wakeX2.2.2.2.1] at e1; exact e1, q⟩
theorem checkW2 (w : World) (x y : Addr) (h : AtN w (some x) netX.arcs) (hz : At w (some y) [0, 1, 1]) (p : Addr) (hp : AtGn w (some p) [(3, 2), (0, 3)]) : Calls Try.prog 12 #[.agg #[.int .i64 2, .slice (some x) 2 2], .agg #[.slice (some p) 2 2, .int .i64 5], .slice (some y) 3 3] w fun e w' => e = .returned (.int .i64 0) ∧ Below w.heap.size w w' :=
  (check_anyX netX (some x) 2 w h (by decide) (fun e => by cases e) (some y) 3 [0, 1, 1] hz (by decide) (some p) 2 2 [(3, 2), (0, 3)] 5 hp rfl).mono fun e w' ⟨e1, q⟩ => ⟨by rw [wakeX2.2.2.2.2] at e1; exact e1, q⟩
set_option maxRecDepth 100000 in
set_option maxHeartbeats 16000000 in
theorem awakeX (w : World) : Calls Try.prog 10 #[] w fun e w' => e = .returned (.bool true) ∧ Below w.heap.size w w' := by
  have mixed : Try.prog.follows .mixedOrders = true := by kernel_rfl
  have LW0 := hiddenN (Below.refl w.heap.size w)
  go_enter Try.func10, Try.ntmps10
  go_upto_region 2 with (first
    | (go_at_call 26; (with_reducible refine (two_anyX w).mono ?_); rintro e X1 ⟨x1, rfl, h, b⟩; have HH := hiddenN h; have LB := hiddenN b; have aA := (Below.refl X1.heap.size X1).alloc (Nat.le_refl _) (.cells #[.int .i64 0, .int .i64 1, .int .i64 1] 3); have CC := hiddenN (clashW (X1.alloc (.cells #[.int .i64 0, .int .i64 1, .int .i64 1] 3)) x1 ⟨X1.heap.size, 0, none⟩ (h.below aA) (at_allocV3 X1 0 1 1)); have LL := hiddenN (b.trans (aA.mono b.size)); clear aA; clear h b)
    | (go_at_call 25; (with_reducible refine CC.out.mono ?_); rintro e W1 ⟨pd, pc, rfl, q1, b⟩; have MW1 := hiddenN (LL.out.trans (b.mono LL.out.size)); have PD := hiddenN q1; have LW1 := hiddenN (LW0.out.trans (MW1.out.mono LW0.out.size)); clear q1; clear b CC LL HH LB))
  go_upto_region 3 with (first
    | (go_at_call 26; (with_reducible refine (two_anyX W1).mono ?_); rintro e X2 ⟨x2, rfl, h, b⟩; have HH := hiddenN h; have LB := hiddenN b; have aA := (Below.refl X2.heap.size X2).alloc (Nat.le_refl _) (.cells #[.int .i64 0, .int .i64 1, .int .i64 1] 3); have CC := hiddenN (placeW (X2.alloc (.cells #[.int .i64 0, .int .i64 1, .int .i64 1] 3)) x2 ⟨X2.heap.size, 0, none⟩ (h.below aA) (at_allocV3 X2 0 1 1)); have LL := hiddenN (b.trans (aA.mono b.size)); clear aA; clear h b)
    | (go_at_call 5; (with_reducible refine CC.out.mono ?_); rintro e W2 ⟨dp, cp, rfl, q1, b⟩; have MW2 := hiddenN (LL.out.trans (b.mono LL.out.size)); have PA2 := hiddenN q1; have PD2 := hiddenN (PD.out.below MW2.out); have LW2 := hiddenN (LW1.out.trans (MW2.out.mono LW1.out.size)); clear q1; clear b CC LL HH LB))
  have XA := (Below.refl W2.heap.size W2).alloc (Nat.le_refl _) (.cells #[.slice dp 2 cp, .int .i64 4] 28)
  have BX := hiddenN (blkA_new 28 W2 #[.slice dp 2 cp, .int .i64 4])
  have PA2' := hiddenN (PA2.out.below XA)
  have PD2' := hiddenN (PD2.out.below XA)
  have LW2' := hiddenN (LW2.out.trans (XA.mono LW2.out.size))
  clear XA PA2 PD2
  obtain ⟨xb, hxb⟩ : ∃ q, W2.heap.size = q := ⟨_, rfl⟩
  generalize W2.alloc (.cells #[.slice dp 2 cp, .int .i64 4] 28) = W2a at *
  rw [hxb] at BX ⊢
  clear hxb
  go_upto_region 4 with (first
    | (go_at_call 26; (with_reducible refine (two_anyX W2a).mono ?_); rintro e X3 ⟨x3, rfl, h, b⟩; have HH := hiddenN h; have LB := hiddenN b; have aA := (Below.refl X3.heap.size X3).alloc (Nat.le_refl _) (.cells #[.int .i64 0, .int .i64 1] 3); have CC := hiddenN (placeW2 (X3.alloc (.cells #[.int .i64 0, .int .i64 1] 3)) x3 ⟨X3.heap.size, 0, none⟩ (h.below aA) (at_alloc2 X3 0 1)); have LL := hiddenN (b.trans (aA.mono b.size)); clear aA; clear h b)
    | (go_at_call 5; (with_reducible refine CC.out.mono ?_); rintro e W3 ⟨dp3, cp3, rfl, b⟩; have MW3 := hiddenN (LL.out.trans (b.mono LL.out.size)); have PA3 := hiddenN (PA2'.out.below MW3.out); have PD3 := hiddenN (PD2'.out.below MW3.out); have BX3 := hiddenN (BX.out.below MW3.out); have LW3 := hiddenN (LW2'.out.trans (MW3.out.mono LW2'.out.size)); clear b CC LL HH LB))
  have XA := (Below.refl W3.heap.size W3).alloc (Nat.le_refl _) (.cells #[.slice dp3 0 cp3, .int .i64 0] 28)
  have PA3' := hiddenN (PA3.out.below XA)
  have PD3' := hiddenN (PD3.out.below XA)
  have BX3' := hiddenN (BX3.out.below XA)
  have LW3' := hiddenN (LW3.out.trans (XA.mono LW3.out.size))
  clear XA PA3 PD3 BX3
  generalize W3.alloc (.cells #[.slice dp3 0 cp3, .int .i64 0] 28) = W3a at *
  go_upto_region 5 with (first
    | (go_at_call 26; (with_reducible refine (two_anyX W3a).mono ?_); rintro e X4 ⟨x4, rfl, h, b⟩; have HH := hiddenN h; have LB := hiddenN b; clear h b)
    | (go_at_call 27; (with_reducible refine (plan_anyX 0 2 1 2 3 X4).mono ?_); rintro e Y4 ⟨y4, rfl, q1, b⟩; have aA := (Below.refl Y4.heap.size Y4).alloc (Nat.le_refl _) (.cells #[.int .i64 0, .int .i64 1, .int .i64 1] 3); have CC := hiddenN (checkW (Y4.alloc (.cells #[.int .i64 0, .int .i64 1, .int .i64 1] 3)) x4 ⟨Y4.heap.size, 0, none⟩ ((HH.out.below b).below aA) (at_allocV3 Y4 0 1 1) y4 (q1.below aA)); have LL := hiddenN (LB.out.trans ((b.trans (aA.mono b.size)).mono LB.out.size)); clear b q1 aA)
    | (go_at_call 12; (with_reducible refine CC.out.mono ?_); rintro e W4 ⟨rfl, b⟩; have MW4 := hiddenN (LL.out.trans (b.mono LL.out.size)); have PA4 := hiddenN (PA3'.out.below MW4.out); have PD4 := hiddenN (PD3'.out.below MW4.out); have BX4 := hiddenN (BX3'.out.below MW4.out); have LW4 := hiddenN (LW3'.out.trans (MW4.out.mono LW3'.out.size)); clear b CC LL HH LB))
  go_upto_region 6 with (first
    | (go_at_call 26; (with_reducible refine (two_anyX W4).mono ?_); rintro e X5 ⟨x5, rfl, h, b⟩; have HH := hiddenN h; have LB := hiddenN b; clear h b)
    | (go_at_call 27; (with_reducible refine (plan_anyX 3 2 0 3 5 X5).mono ?_); rintro e Y5 ⟨y5, rfl, q1, b⟩; have aA := (Below.refl Y5.heap.size Y5).alloc (Nat.le_refl _) (.cells #[.int .i64 0, .int .i64 1, .int .i64 1] 3); have CC := hiddenN (checkW2 (Y5.alloc (.cells #[.int .i64 0, .int .i64 1, .int .i64 1] 3)) x5 ⟨Y5.heap.size, 0, none⟩ ((HH.out.below b).below aA) (at_allocV3 Y5 0 1 1) y5 (q1.below aA)); have LL := hiddenN (LB.out.trans ((b.trans (aA.mono b.size)).mono LB.out.size)); clear b q1 aA)
    | (go_at_call 12; (with_reducible refine CC.out.mono ?_); rintro e W5 ⟨rfl, b⟩; have MW5 := hiddenN (LL.out.trans (b.mono LL.out.size)); have PA := hiddenN (PA4.out.below MW5.out); have PD5 := hiddenN (PD4.out.below MW5.out); have BX5 := hiddenN (BX4.out.below MW5.out); have LW5 := hiddenN (LW4.out.trans (MW5.out.mono LW4.out.size)); clear b CC LL HH LB))
  obtain ⟨pb, po, hpd, hc⟩ : ∃ b off, pd = some ⟨b, off, none⟩ ∧ ∀ k, k < 1 → W5.cell? ⟨b, off + k * 2, none⟩ = some (.int .i64 (nthX [(0, 1)] k).1) ∧ W5.cell? ⟨b, off + k * 2 + 1, none⟩ = some (.int .i64 (nthX [(0, 1)] k).2) := by
    rcases PD5.out with e | ⟨b, off, e, hc⟩
    · cases e
    · exact ⟨b, off, e, hc⟩
  subst hpd
  have l0 : W5.cell? ⟨pb, po, none⟩ = some (.int .i64 0) := (hc 0 (by decide)).1
  have l1 : W5.cell? ⟨pb, po + 1, none⟩ = some (.int .i64 1) := (hc 0 (by decide)).2
  have u0 : W5.cell? ⟨xb, 0, none⟩ = some (.slice dp 2 cp) := BX5.out.cell rfl
  have u1 : W5.cell? ⟨xb, 1, none⟩ = some (.int .i64 4) := BX5.out.cell rfl
  have hgd : ∀ (op : BinOp) (a b : Operand) (xs ys : Array Value) (w : World), Sem.run Try.prog (eqGuard op 73 a b (.agg xs) (.agg ys)) w = .ok () w := Try.eqgPp
  have heq : ∀ w, Sem.run Try.prog (binOp .eql 73 (.agg #[.int .i64 0, .int .i64 1]) (.agg #[.int .i64 0, .int .i64 1])) w = .ok (.bool true) w := fun w => by rw [Try.eqlPp]; rfl
  clear LW0 LW1 LW2 LW2' LW3 LW3' LW4 MW1 MW2 MW3 MW4 MW5 PD PA2' PD2' PA3' PD3' BX3' BX BX4 PA4 PD4 PD5 BX5 hc
  refine wp_region_gen [] (fun d i u z => match i with
      | 0 => z = .slice (some ⟨pb, po, none⟩) 1 pc
      | 1 => z = .int .i64 1
      | 2 => z = .bool true
      | 3 => z = .bool true
      | 4 => z = .slice (some ⟨pb, po, none⟩) 1 pc
      | 5 => z = .pointer (some ⟨pb, po, none⟩)
      | 6 => z = .agg #[.int .i64 0, .int .i64 1]
      | 7 => z = .agg #[.int .i64 0, .int .i64 1]
      | 8 => z = .bool true
      | 9 => z = .bool true
      | 10 => z = .bool true
      | 11 => z = .agg #[.slice dp 2 cp, .int .i64 4]
      | 12 => PlX u z
      | 13 => z = .bool true
      | 14 => z = .bool true
      | 15 => z = .bool true
      | _ => True) (fun _ u => Below W5.heap.size W5 u) (by kernel_rfl) (by kernel_rfl) (by kernel_rfl) ?_ ?_ ?_ ?_ ?_ ?_ (by kernel_rfl)
  · intro d i w v w' h hb
    match i, h with
    | 0, h => exact h
    | 1, h => exact h
    | 2, h => exact h
    | 3, h => exact h
    | 4, h => exact h
    | 5, h => exact h
    | 6, h => exact h
    | 7, h => exact h
    | 8, h => exact h
    | 9, h => exact h
    | 10, h => exact h
    | 11, h => exact h
    | 12, h => exact h.later hb
    | 13, h => exact h
    | 14, h => exact h
    | 15, h => exact h
    | _ + 16, _ => trivial
  · intro d u u' h hb
    exact h.trans (hb.mono h.size)
  · exact Below.refl _ _
  · intro d i o ρ w' hm ho hf hg hC hcs hfs hfr hdep
    match i, hm, ho, hf, hg, hfr, hdep with
    | 0, _, ho, hf, hg, hfr, hdep =>
      simp only [gTA, gCZ, gSI] at ho
      subst ho
      refine ⟨fun _ => ?_, fun hw => absurd (show true = false from hw) (by decide)⟩
      have ts : ρ (.tmp 1) = .slice (some ⟨pb, po, none⟩) 1 pc := hfr 1 (by kernel_rfl)
      simp [go_sem, ts]
      exact ⟨Below.refl _ _, rfl⟩
    | 1, _, ho, hf, hg, hfr, hdep =>
      simp only [gTA, gCZ, gCS, gSI] at ho
      subst ho
      refine ⟨fun _ => ?_, fun hw => absurd (show true = false from hw) (by decide)⟩
      have d0 : ρ (.tmp 36) = .slice (some ⟨pb, po, none⟩) 1 pc := hdep 0 36 (by kernel_rfl) (by kernel_rfl)
      simp [go_sem, d0]
      exact ⟨Below.refl _ _, rfl⟩
    | 2, _, ho, hf, hg, hfr, hdep =>
      simp only [gTA, gCZ, gCS, gSI] at ho
      subst ho
      refine ⟨fun _ => ?_, fun hw => absurd (show true = false from hw) (by decide)⟩
      have d0 : ρ (.tmp 37) = .int .i64 1 := hdep 1 37 (by kernel_rfl) (by kernel_rfl)
      simp [go_sem, d0, hcs]
      exact ⟨Below.refl _ _, rfl⟩
    | 3, _, ho, hf, hg, hfr, hdep =>
      simp only [gTA, gCZ, gCS, gSI] at ho
      subst ho
      refine ⟨fun _ => ?_, fun hw => absurd (show true = false from hw) (by decide)⟩
      have d0 : ρ (.tmp 38) = .bool true := hdep 2 38 (by kernel_rfl) (by kernel_rfl)
      simp [go_sem, d0]
      exact ⟨Below.refl _ _, rfl⟩
    | 4, _, ho, hf, hg, hfr, hdep =>
      simp only [gTA, gCZ, gCS, gSI] at ho
      subst ho
      have gd : ρ (.tmp 39) = .bool true := hdep 3 39 (by kernel_rfl) (by kernel_rfl)
      refine ⟨fun _ => ?_, fun hw => absurd (show (match ρ (.tmp 39) with | .bool c => c == true | _ => false) = false from hw) (by rw [gd]; decide)⟩
      clear gd
      have ts : ρ (.tmp 1) = .slice (some ⟨pb, po, none⟩) 1 pc := hfr 1 (by kernel_rfl)
      simp [go_sem, ts]
      exact ⟨Below.refl _ _, rfl⟩
    | 5, _, ho, hf, hg, hfr, hdep =>
      simp only [gTA, gCZ, gCS, gSI] at ho
      subst ho
      have gd : ρ (.tmp 39) = .bool true := hdep 3 39 (by kernel_rfl) (by kernel_rfl)
      refine ⟨fun _ => ?_, fun hw => absurd (show (match ρ (.tmp 39) with | .bool c => c == true | _ => false) = false from hw) (by rw [gd]; decide)⟩
      clear gd
      have d0 : ρ (.tmp 40) = .slice (some ⟨pb, po, none⟩) 1 pc := hdep 4 40 (by kernel_rfl) (by kernel_rfl)
      simp [go_sem, d0, hcs]
      exact ⟨Below.refl _ _, rfl⟩
    | 6, _, ho, hf, hg, hfr, hdep =>
      simp only [gTA, gCZ, gCS, gSI] at ho
      subst ho
      have gd : ρ (.tmp 39) = .bool true := hdep 3 39 (by kernel_rfl) (by kernel_rfl)
      refine ⟨fun _ => ?_, fun hw => absurd (show (match ρ (.tmp 39) with | .bool c => c == true | _ => false) = false from hw) (by rw [gd]; decide)⟩
      clear gd
      have k0 := cellN_later hC l0
      have k1 := cellN_later hC l1
      have d0 : ρ (.tmp 41) = .pointer (some ⟨pb, po, none⟩) := hdep 5 41 (by kernel_rfl) (by kernel_rfl)
      simp [go_sem, d0, k0, k1]
      exact ⟨Below.refl _ _, rfl⟩
    | 7, _, ho, hf, hg, hfr, hdep =>
      simp only [gTA, gCZ, gCS, gSI] at ho
      subst ho
      have gd : ρ (.tmp 39) = .bool true := hdep 3 39 (by kernel_rfl) (by kernel_rfl)
      refine ⟨fun _ => ?_, fun hw => absurd (show (match ρ (.tmp 39) with | .bool c => c == true | _ => false) = false from hw) (by rw [gd]; decide)⟩
      clear gd
      simp [go_sem, hcs]
      exact ⟨Below.refl _ _, rfl⟩
    | 8, _, ho, hf, hg, hfr, hdep =>
      simp only [gTA, gCZ, gCS, gSI] at ho
      subst ho
      have gd : ρ (.tmp 39) = .bool true := hdep 3 39 (by kernel_rfl) (by kernel_rfl)
      refine ⟨fun _ => ?_, fun hw => absurd (show (match ρ (.tmp 39) with | .bool c => c == true | _ => false) = false from hw) (by rw [gd]; decide)⟩
      clear gd
      have t0 : ρ (.tmp 42) = .agg #[.int .i64 0, .int .i64 1] := hdep 6 42 (by kernel_rfl) (by kernel_rfl)
      have t1 : ρ (.tmp 43) = .agg #[.int .i64 0, .int .i64 1] := hdep 7 43 (by kernel_rfl) (by kernel_rfl)
      simp [go_sem, t0, t1, heq, hgd]
      exact ⟨Below.refl _ _, rfl⟩
    | 9, _, ho, hf, hg, hfr, hdep =>
      simp only [gTA, gCZ, gCS, gSI] at ho
      subst ho
      refine ⟨fun _ => ?_, fun hw => absurd (show true = false from hw) (by decide)⟩
      have d0 : ρ (.tmp 39) = .bool true := hdep 3 39 (by kernel_rfl) (by kernel_rfl)
      have d1 : ρ (.tmp 44) = .bool true := hdep 8 44 (by kernel_rfl) (by kernel_rfl)
      simp [go_sem, d0, d1]
      exact ⟨Below.refl _ _, rfl⟩
    | 10, _, ho, hf, hg, hfr, hdep =>
      simp only [gTA, gCZ, gCS, gSI] at ho
      subst ho
      refine ⟨fun _ => ?_, fun hw => absurd (show true = false from hw) (by decide)⟩
      have d0 : ρ (.tmp 45) = .bool true := hdep 9 45 (by kernel_rfl) (by kernel_rfl)
      simp [go_sem, d0]
      exact ⟨Below.refl _ _, rfl⟩
    | 11, _, ho, hf, hg, hfr, hdep =>
      simp only [gTA, gCZ, gCS, gSI] at ho
      subst ho
      have gd : ρ (.tmp 46) = .bool true := hdep 10 46 (by kernel_rfl) (by kernel_rfl)
      refine ⟨fun _ => ?_, fun hw => absurd (show (match ρ (.tmp 46) with | .bool c => c == true | _ => false) = false from hw) (by rw [gd]; decide)⟩
      clear gd
      have ts : ρ (.tmp 3) = .pointer (some ⟨xb, 0, none⟩) := hfr 3 (by kernel_rfl)
      have k0 := cellN_later hC u0
      have k1 := cellN_later hC u1
      simp [go_sem, ts, k0, k1]
      exact ⟨Below.refl _ _, rfl⟩
    | 12, _, ho, hf, hg, hfr, hdep =>
      simp only [gTA, gCZ, gCS, gSI] at ho
      subst ho
      have gd : ρ (.tmp 46) = .bool true := hdep 10 46 (by kernel_rfl) (by kernel_rfl)
      refine ⟨fun _ => ?_, fun hw => absurd (show (match ρ (.tmp 46) with | .bool c => c == true | _ => false) = false from hw) (by rw [gd]; decide)⟩
      clear gd
      simp [go_sem, hcs, hfs]
      exact ⟨rfl, (plan_anyX 0 2 2 2 4 w').mono fun e w'' ⟨x, e1, q1, q2⟩ => ⟨_, e1, q2, x, rfl, q1⟩⟩
    | 13, _, ho, hf, hg, hfr, hdep =>
      simp only [gTA, gCZ, gCS, gSI] at ho
      subst ho
      have gd : ρ (.tmp 46) = .bool true := hdep 10 46 (by kernel_rfl) (by kernel_rfl)
      refine ⟨fun _ => ?_, fun hw => absurd (show (match ρ (.tmp 46) with | .bool c => c == true | _ => false) = false from hw) (by rw [gd]; decide)⟩
      clear gd
      have t0 : ρ (.tmp 47) = .agg #[.slice dp 2 cp, .int .i64 4] := hdep 11 47 (by kernel_rfl) (by kernel_rfl)
      obtain ⟨x, t1, q1⟩ : PlX w' (ρ (.tmp 48)) := hdep 12 48 (by kernel_rfl) (by kernel_rfl)
      simp [go_sem, t0, t1, hfs]
      exact ⟨rfl, (same_planX dp (some x) 2 cp 2 [(0, 2), (2, 2)] 4 w' (PA.out.below hC) q1 rfl (by decide)).mono fun e w'' ⟨e1, b⟩ => ⟨_, e1, b, rfl⟩⟩
    | 14, _, ho, hf, hg, hfr, hdep =>
      simp only [gTA, gCZ, gCS, gSI] at ho
      subst ho
      refine ⟨fun _ => ?_, fun hw => absurd (show true = false from hw) (by decide)⟩
      have d0 : ρ (.tmp 46) = .bool true := hdep 10 46 (by kernel_rfl) (by kernel_rfl)
      have d1 : ρ (.tmp 49) = .bool true := hdep 13 49 (by kernel_rfl) (by kernel_rfl)
      simp [go_sem, d0, d1]
      exact ⟨Below.refl _ _, rfl⟩
    | 15, _, ho, hf, hg, hfr, hdep =>
      simp only [gTA, gCZ, gCS, gSI] at ho
      subst ho
      refine ⟨fun _ => ?_, fun hw => absurd (show true = false from hw) (by decide)⟩
      have d0 : ρ (.tmp 50) = .bool true := hdep 14 50 (by kernel_rfl) (by kernel_rfl)
      simp [go_sem, d0]
      exact ⟨Below.refl _ _, rfl⟩
    | n + 16, _, ho, _, _, _, _ => simp at ho
  · intro d i o ρ w' hm ho h0 hf hg hC hcs hfs hfr hdep
    exact absurd hm (by simp)
  · intro V w9 hC9 hS
    have e15 : V 15 = .bool true := hS 15 (by decide) (by intro h; cases h)
    simp only [puts, e15]
    simp only [Act.put, List.setIfInBounds_toArray, List.set_cons_zero, List.set_cons_succ]
    clear hS e15
    have LF := hiddenN (LW5.out.trans (hC9.mono LW5.out.size))
    clear hC9
    go_wp2
    go_ret
    exact ⟨by first | rfl | simp, LF.out⟩
/-- A lent net; a copied row; an answer of Along, as values. -/
def LnS (n : NN) (u : World) (z : Value) : Prop := ∃ g gc, z = .agg #[.int .i64 n.nodes, .slice (some ⟨g, 0, none⟩) n.arcs.length gc] ∧ AtN u (some ⟨g, 0, none⟩) n.arcs
theorem LnS.later {n : NN} {u u' : World} {z : Value} (h : LnS n u z) (hb : Below u.heap.size u u') : LnS n u' z := by
  obtain ⟨g, gc, h1, h2⟩ := h
  exact ⟨g, gc, h1, h2.below hb⟩
/-- A row of regions of a call's own. -/
def RwS (L : List (Int × Int)) (u : World) (z : Value) : Prop := ∃ d c, z = .slice d L.length c ∧ AtGn u d L
def PlvS (L : List (Int × Int)) (tot : Int) (u : World) (z : Value) : Prop := ∃ d c, z = .agg #[.slice d L.length c, .int .i64 tot] ∧ AtGn u d L
theorem RwS.later {L : List (Int × Int)} {u u' : World} {z : Value} (h : RwS L u z) (hb : Below u.heap.size u u') : RwS L u' z := by
  obtain ⟨d, c, e, q⟩ := h
  exact ⟨d, c, e, q.below hb⟩
theorem PlvS.later {L : List (Int × Int)} {tot : Int} {u u' : World} {z : Value} (h : PlvS L tot u z) (hb : Below u.heap.size u u') : PlvS L tot u' z := by
  obtain ⟨d, c, e, q⟩ := h
  exact ⟨d, c, e, q.below hb⟩
theorem step_appGnA {w : World} {o : Oper} {ρ : Operand → Value} (s x : Operand) (ho : o.op = .call { callee := .builtin .append, args := #[s, x], argTypes := #[26, 26] }) {a : Option Addr} {c : Nat} {L : List (Int × Int)} (hs : ρ s = .slice none 0 0) (hx : ρ x = .slice a L.length c) (hL : AtGn w a L) (hr : L.length * 16 ≤ 140737488351232) : stepUpon Try.prog w (RwS L) ((execOp ρ o).run Try.prog w) := by
  obtain ⟨i1, hi1, hy0, hy1, hy2⟩ := info_parts Try.infoGn
  by_cases h0 : L = []
  · subst h0
    have hr := run_append_zeroV (P := Try.prog) (w := w) w.heap.size 26 o.type 41 i1 2 Try.underlying26 hi1 (.slice none 0 0) 0 [] (World.ownsRow_nil _ _ _ _) a c
    unfold execOp
    simp only [ho, resolve, invoke, builtin, Sem.run_bind, Sem.run_pure, Result.andThen_ok, List.map_toArray, List.map_cons, List.map_nil, hs, hx, List.length_nil, hr]
    exact ⟨Below.refl _ _, none, 0, rfl, .inl rfl⟩
  · have hL2 := hL
    rcases hL2 with e | ⟨b, off, rfl, -⟩
    · exact absurd e h0
    obtain ⟨v', w', hr, h2, h3⟩ := run_append_told (P := Try.prog) w w.heap.size 26 o.type 41 i1 _ 2 16 Try.underlying26 hi1 hy0 hy1 hy2 rfl (by decide) (.slice none 0 0) 0 [] (World.ownsRow_nil _ _ _ _) ⟨b, off, none⟩ L.length c (List.length_pos_iff.2 h0) (flatGn L) (flatGn_len L) hL.flat (flatGn_one L) (by unfold maxLen; omega) (by omega) (Nat.le_refl _)
    unfold execOp
    simp only [ho, resolve, invoke, builtin, Sem.run_bind, Sem.run_pure, Result.andThen_ok, List.map_toArray, List.map_cons, List.map_nil, hs, hx, hr]
    rcases h3 with ⟨g1, cap, e1, -, -⟩ | ⟨cap, rfl, hg⟩
    · cases e1
    · rw [Nat.zero_add, List.nil_append] at h2
      refine ⟨(Below.refl _ _).grown hg (Nat.le_refl _) (fun k h => by cases h), some ⟨w.heap.size, 0, none⟩, cap, by rw [Nat.zero_add], ?_⟩
      exact CapGn.at (B := w.heap.size) h2
theorem rnV_len (x : Int × Int) : (rnV x).length = 2 := rfl
theorem rnV_one (x : Int × Int) : ∀ u ∈ rnV x, u.oneCell' = true := by
  intro u hu
  simp only [rnV, List.mem_cons, List.not_mem_nil, or_false] at hu
  rcases hu with rfl | rfl <;> rfl
theorem atGn_of {w : World} {a : Option Addr} {L : List (Int × Int)} (h : AtV rnV 2 w a L) : AtGn w a L := by
  rcases h with h | ⟨b, off, e, hc⟩
  · exact .inl h
  · refine .inr ⟨b, off, e, fun k hk => ?_⟩
    have e2 : L[k]? = some (nthX L k) := by rw [nthX_getR hk, List.getElem?_eq_getElem hk]
    exact ⟨hc k _ e2 0 _ rfl, hc k _ e2 1 _ rfl⟩
theorem movP_take {k : Int} {L : List (Int × Int)} {i : Nat} (h : i < L.length) : (movP k L).take (i + 1) = (movP k L).take i ++ [((nthX L i).1 + k, (nthX L i).2)] := by
  have hg : (movP k L)[i]? = some ((nthX L i).1 + k, (nthX L i).2) := by unfold movP; rw [List.getElem?_map, List.getElem?_eq_getElem h, nthX_getR h]; rfl
  rw [List.take_add_one, hg]; rfl
set_option maxRecDepth 100000 in
set_option maxHeartbeats 16000000 in
theorem packMoves_walk (n : NN) (a : Option Addr) (c : Nat) (ga : Option Addr) (ca : Nat) (L : List (Int × Int)) (tot by_ : Int) (a1 : Option Addr) (len1 cap1 : Nat) (zs : List Int) (w : World) (h : ArgN w a c n) (hm : ArgR w ga L.length ca L) (ht : -9223372036854775808 ≤ tot ∧ tot ≤ 9223372036854775807) (hb : -9223372036854775808 ≤ by_ ∧ by_ ≤ 9223372036854775807) (h1 : Arg w a1 len1 cap1 zs) : Calls Try.prog 4 #[.agg #[.int .i64 n.nodes, .slice a n.arcs.length c], .agg #[.slice ga L.length ca, .int .i64 tot, .int .i64 by_], .slice a1 len1 cap1] w fun e w' => e = .returned (.bool true) ∧ Below w.heap.size w w' := by
  obtain rfl := h1.size
  have y1 : Hid (Below w.heap.size w (w.alloc (.cells #[.int .i64 n.nodes, .slice a n.arcs.length c] 24))) := (Below.refl _ _).alloc (Nat.le_refl _) _
  have hs1 : (w.alloc (.cells #[.int .i64 n.nodes, .slice a n.arcs.length c] 24)).heap.size = w.heap.size + 1 := World.size_alloc ..
  have y2 : Hid (Below (w.alloc (.cells #[.int .i64 n.nodes, .slice a n.arcs.length c] 24)).heap.size (w.alloc (.cells #[.int .i64 n.nodes, .slice a n.arcs.length c] 24)) ((w.alloc (.cells #[.int .i64 n.nodes, .slice a n.arcs.length c] 24)).alloc (.cells #[.slice ga L.length ca, .int .i64 tot, .int .i64 by_] 46))) := (Below.refl _ _).alloc (Nat.le_refl _) _
  have G0 := hiddenN ((blkA_new 24 w #[.int .i64 n.nodes, .slice a n.arcs.length c]).below y2.out)
  have D0 := hiddenN (blkA_new 46 (w.alloc (.cells #[.int .i64 n.nodes, .slice a n.arcs.length c] 24)) #[.slice ga L.length ca, .int .i64 tot, .int .i64 by_])
  have B0 := hiddenN (y1.out.trans (y2.out.mono (by rw [hs1]; omega)))
  rw [hs1] at D0
  have HA := hiddenN h
  have HM := hiddenN hm
  have H1 := hiddenN h1
  have HTB := hiddenN ht
  have HBB := hiddenN hb
  have hroom : n.arcs.length ≤ 4611686018427387904 := by have := h.room; omega
  have hzl : zs.length ≤ 4611686018427387904 := by have := h1.reach; omega
  have LN : Hid (∀ U, Below w.heap.size w U → Calls Try.prog 6 #[.agg #[.int .i64 n.nodes, .slice a n.arcs.length c]] U (LentE n U)) := fun U hb => lentNet_any n a c U (HA.out.below hb)
  have IN : Hid (∀ U, Below w.heap.size w U → Calls Try.prog 7 #[.slice a1 zs.length cap1] U (CopiedC U zs.length zs)) := fun U hb => ints_own a1 zs zs.length cap1 U (H1.out.below hb)
  have AW : Hid (∀ U, Calls Try.prog 10 #[] U fun e w' => e = .returned (.bool true) ∧ Below U.heap.size U w') := fun U => awakeX U
  have CK : Hid (∀ (L2 : List (Int × Int)) (t2 : Int) U x y cx cy ar cr, AtN U (some x) n.arcs → At U y zs → AtGn U ar L2 → Calls Try.prog 12 #[.agg #[.int .i64 n.nodes, .slice (some x) n.arcs.length cx], .agg #[.slice ar L2.length cr, .int .i64 t2], .slice y zs.length cy] U fun e w' => e = .returned (.int .i64 (chkC n L2 t2 zs)) ∧ Below U.heap.size U w') := fun L2 t2 U x y cx cy ar cr q1 q2 q3 => check_anyX n (some x) cx U q1 hroom (fun e => by cases e) y cy zs q2 hzl ar L2.length cr L2 t2 q3 rfl
  have HE : Hid (chkC n L tot zs = 0 → (L.length = n.arcs.length ∧ n.arcs.length ≤ 96) ∧ (0 ≤ tot ∧ tot ≤ 1024) ∧ (∀ i, i < L.length → 0 ≤ (nthX L i).1 ∧ (nthX L i).1 ≤ 1024) ∧ ∀ k, ¬ n.arcs.length = 0 → 0 ≤ k → k ≤ 1024 - tot → chkC n (movP k L) (tot + k) zs = 0) := fun e => by
    unfold chkC at e
    by_cases hd : dmC n zs = 0
    · rw [if_pos hd] at e
      have q := chk_zero.1 e
      have hl := mostM_len n zs
      refine ⟨⟨by rw [q.1, hl], (check_sound (code_zero (dm_zero hd).1).1).most⟩, ⟨by rw [q.2.2.1]; exact celP_nonneg L, q.2.2.2.1⟩, fun i hi => ?_, fun k k1 k2 k3 => ?_⟩
      · have q2 := q.2.1 i _ _ (List.getElem?_eq_getElem (by rw [← q.1]; exact hi)) (List.getElem?_eq_getElem hi)
        rw [nthX_getR hi]; omega
      · unfold chkC
        rw [if_pos hd]
        exact chk_move e (by rw [hl]; exact k1) k2 k3
    · rw [if_neg hd] at e; exact absurd e hd
  obtain ⟨E1, hE1⟩ : ∃ q, chkC n L tot zs = q := ⟨_, rfl⟩
  have CK1 := hiddenN (CK.out L tot)
  rw [hE1] at HE CK1
  clear y1 y2 hs1 h hm ht hb h1 hE1
  go_enter Try.func4, Try.ntmps4
  go_upto_region 1 with fail
  generalize ((w.alloc (.cells #[.int .i64 n.nodes, .slice a n.arcs.length c] 24)).alloc (.cells #[.slice ga L.length ca, .int .i64 tot, .int .i64 by_] 46)) = W0 at *
  have z0 := G0.out.cell (k := 0) rfl; have z1 := G0.out.cell (k := 1) rfl; simp only [List.getElem_toArray, List.getElem_cons_zero, List.getElem_cons_succ] at z0 z1
  have d0 := D0.out.cell (k := 0) rfl
  have d1 := D0.out.cell (k := 1) rfl
  have d2 := D0.out.cell (k := 2) rfl
  simp only [List.getElem_toArray, List.getElem_cons_zero, List.getElem_cons_succ] at d0 d1 d2
  refine wp_region_gen [] (fun d i u z => match i with
      | 0 => z = .agg #[.int .i64 n.nodes, .slice a n.arcs.length c]
      | 1 => LnS n u z
      | 2 => z = .pointer (some ⟨w.heap.size + 1, 0, none⟩)
      | 3 => z = .pointer (some ⟨w.heap.size + 1, 0, none⟩)
      | 4 => z = .slice ga L.length ca
      | 5 => RwS L u z
      | 6 => z = .pointer (some ⟨w.heap.size + 1, 0, none⟩)
      | 7 => z = .pointer (some ⟨w.heap.size + 1, 1, none⟩)
      | 8 => z = .int .i64 tot
      | 9 => PlvS L tot u z
      | 10 => z = .slice a1 zs.length cap1
      | 11 => CnS zs.length u zs z
      | 12 => z = .int .i64 E1
      | 13 => z = .int .i64 E1
      | _ => True) (fun _ u => Below W0.heap.size W0 u) (by kernel_rfl) (by kernel_rfl) (by kernel_rfl) ?_ ?_ ?_ ?_ ?_ ?_ (by kernel_rfl)
  · intro d i w v w' h hb
    match i, h with
    | 0, h => exact h
    | 1, h => exact LnS.later h hb
    | 2, h => exact h
    | 3, h => exact h
    | 4, h => exact h
    | 5, h => exact RwS.later h hb
    | 6, h => exact h
    | 7, h => exact h
    | 8, h => exact h
    | 9, h => exact PlvS.later h hb
    | 10, h => exact h
    | 11, h => exact CnS.later h hb
    | 12, h => exact h
    | 13, h => exact h
    | _ + 14, _ => trivial
  · intro d u u' h hb
    exact h.trans (hb.mono h.size)
  · exact Below.refl _ _
  · intro d i o ρ w' hm ho hf hg hC hcs hfs hfr hdep
    match i, hm, ho, hf, hg, hfr, hdep with
    | 0, _, ho, hf, hg, hfr, hdep =>
      simp only [gTA, gCZ, gSI] at ho
      subst ho
      refine ⟨fun _ => ?_, fun hw => absurd (show true = false from hw) (by decide)⟩
      have ts : ρ (.tmp 3) = .pointer (some ⟨w.heap.size, 0, none⟩) := hfr 3 (by kernel_rfl)
      have k0 := cellN_later hC z0
      have k1 := cellN_later hC z1
      simp [go_sem, ts, k0, k1]
      exact ⟨Below.refl _ _, rfl⟩
    | 1, _, ho, hf, hg, hfr, hdep =>
      simp only [gTA, gCZ, gCS, gSI] at ho
      subst ho
      refine ⟨fun _ => ?_, fun hw => absurd (show true = false from hw) (by decide)⟩
      have t0 : ρ (.tmp 10) = .agg #[.int .i64 n.nodes, .slice a n.arcs.length c] := hdep 0 10 (by kernel_rfl) (by kernel_rfl)
      simp [go_sem, t0, hfs]
      exact ⟨rfl, (LN.out w' (B0.out.trans (hC.mono B0.out.size))).mono fun e w'' ⟨g, gc, e1, q1, q2⟩ => ⟨_, e1, q2, g, gc, rfl, q1.at⟩⟩
    | 2, _, ho, hf, hg, hfr, hdep =>
      simp only [gTA, gCZ, gCS, gSI] at ho
      subst ho
      refine ⟨fun _ => ?_, fun hw => absurd (show true = false from hw) (by decide)⟩
      have ts : ρ (.tmp 4) = .pointer (some ⟨w.heap.size + 1, 0, none⟩) := hfr 4 (by kernel_rfl)
      simp [go_sem, ts]
      exact ⟨Below.refl _ _, rfl⟩
    | 3, _, ho, hf, hg, hfr, hdep =>
      simp only [gTA, gCZ, gCS, gSI] at ho
      subst ho
      refine ⟨fun _ => ?_, fun hw => absurd (show true = false from hw) (by decide)⟩
      have d0 : ρ (.tmp 12) = .pointer (some ⟨w.heap.size + 1, 0, none⟩) := hdep 2 12 (by kernel_rfl) (by kernel_rfl)
      simp [go_sem, d0]
      exact ⟨Below.refl _ _, rfl⟩
    | 4, _, ho, hf, hg, hfr, hdep =>
      simp only [gTA, gCZ, gCS, gSI] at ho
      subst ho
      refine ⟨fun _ => ?_, fun hw => absurd (show true = false from hw) (by decide)⟩
      have kc := cellN_later hC d0
      have d0 : ρ (.tmp 13) = .pointer (some ⟨w.heap.size + 1, 0, none⟩) := hdep 3 13 (by kernel_rfl) (by kernel_rfl)
      simp [go_sem, d0, kc]
      exact ⟨Below.refl _ _, rfl⟩
    | 5, _, ho, hf, hg, hfr, hdep =>
      simp only [gTA, gCZ, gCS, gSI] at ho
      subst ho
      refine ⟨fun _ => ?_, fun hw => absurd (show true = false from hw) (by decide)⟩
      have t0 : ρ (.tmp 14) = .slice ga L.length ca := hdep 4 14 (by kernel_rfl) (by kernel_rfl)
      exact step_appGnA _ (.tmp 14) rfl (hcs _) t0 (HM.out.lies.below (B0.out.trans (hC.mono B0.out.size))) HM.out.room
    | 6, _, ho, hf, hg, hfr, hdep =>
      simp only [gTA, gCZ, gCS, gSI] at ho
      subst ho
      refine ⟨fun _ => ?_, fun hw => absurd (show true = false from hw) (by decide)⟩
      have ts : ρ (.tmp 4) = .pointer (some ⟨w.heap.size + 1, 0, none⟩) := hfr 4 (by kernel_rfl)
      simp [go_sem, ts]
      exact ⟨Below.refl _ _, rfl⟩
    | 7, _, ho, hf, hg, hfr, hdep =>
      simp only [gTA, gCZ, gCS, gSI] at ho
      subst ho
      refine ⟨fun _ => ?_, fun hw => absurd (show true = false from hw) (by decide)⟩
      have d0 : ρ (.tmp 16) = .pointer (some ⟨w.heap.size + 1, 0, none⟩) := hdep 6 16 (by kernel_rfl) (by kernel_rfl)
      simp [go_sem, d0]
      exact ⟨Below.refl _ _, rfl⟩
    | 8, _, ho, hf, hg, hfr, hdep =>
      simp only [gTA, gCZ, gCS, gSI] at ho
      subst ho
      refine ⟨fun _ => ?_, fun hw => absurd (show true = false from hw) (by decide)⟩
      have kc := cellN_later hC d1
      have d0 : ρ (.tmp 17) = .pointer (some ⟨w.heap.size + 1, 1, none⟩) := hdep 7 17 (by kernel_rfl) (by kernel_rfl)
      simp [go_sem, d0, kc]
      exact ⟨Below.refl _ _, rfl⟩
    | 9, _, ho, hf, hg, hfr, hdep =>
      simp only [gTA, gCZ, gCS, gSI] at ho
      subst ho
      refine ⟨fun _ => ?_, fun hw => absurd (show true = false from hw) (by decide)⟩
      obtain ⟨d9, c9, t0, q1⟩ : RwS L w' (ρ (.tmp 15)) := hdep 5 15 (by kernel_rfl) (by kernel_rfl)
      have t1 : ρ (.tmp 18) = .int .i64 tot := hdep 8 18 (by kernel_rfl) (by kernel_rfl)
      simp [go_sem, t0, t1]
      exact ⟨Below.refl _ _, d9, c9, rfl, q1⟩
    | 10, _, ho, hf, hg, hfr, hdep =>
      simp only [gTA, gCZ, gCS, gSI] at ho
      subst ho
      refine ⟨fun _ => ?_, fun hw => absurd (show true = false from hw) (by decide)⟩
      have ts : ρ (.tmp 2) = .slice a1 zs.length cap1 := hfr 2 (by kernel_rfl)
      simp [go_sem, ts]
      exact ⟨Below.refl _ _, rfl⟩
    | 11, _, ho, hf, hg, hfr, hdep =>
      simp only [gTA, gCZ, gCS, gSI] at ho
      subst ho
      refine ⟨fun _ => ?_, fun hw => absurd (show true = false from hw) (by decide)⟩
      have t0 : ρ (.tmp 20) = .slice a1 zs.length cap1 := hdep 10 20 (by kernel_rfl) (by kernel_rfl)
      simp [go_sem, t0, hfs]
      exact ⟨rfl, (IN.out w' (B0.out.trans (hC.mono B0.out.size))).mono fun e w'' ⟨p, pc, e1, q1, q2⟩ => ⟨_, e1, q2, p, pc, rfl, q1.at⟩⟩
    | 12, _, ho, hf, hg, hfr, hdep =>
      simp only [gTA, gCZ, gCS, gSI] at ho
      subst ho
      refine ⟨fun _ => ?_, fun hw => absurd (show true = false from hw) (by decide)⟩
      obtain ⟨g, gc, t0, q1⟩ : LnS n w' (ρ (.tmp 11)) := hdep 1 11 (by kernel_rfl) (by kernel_rfl)
      obtain ⟨d9, c9, t1, q3⟩ : PlvS L tot w' (ρ (.tmp 19)) := hdep 9 19 (by kernel_rfl) (by kernel_rfl)
      obtain ⟨p, pc, t2, q2⟩ : CnS zs.length w' zs (ρ (.tmp 21)) := hdep 11 21 (by kernel_rfl) (by kernel_rfl)
      simp [go_sem, t0, t1, t2, hfs]
      exact ⟨rfl, (CK1.out w' _ p gc pc d9 c9 q1 q2 q3).mono fun e w'' ⟨e1, q⟩ => ⟨_, e1, q, rfl⟩⟩
    | 13, _, ho, hf, hg, hfr, hdep =>
      simp only [gTA, gCZ, gCS, gSI] at ho
      subst ho
      refine ⟨fun _ => ?_, fun hw => absurd (show true = false from hw) (by decide)⟩
      have d0 : ρ (.tmp 22) = .int .i64 E1 := hdep 12 22 (by kernel_rfl) (by kernel_rfl)
      simp [go_sem, d0]
      exact ⟨Below.refl _ _, rfl⟩
    | n + 14, _, ho, _, _, _, _ => simp at ho
  · intro d i o ρ w' hm ho h0 hf hg hC hcs hfs hfr hdep
    exact absurd hm (by simp)
  · intro V w9 hC9 hS
    have e13 : V 13 = .int .i64 E1 := hS 13 (by decide) (by intro h; cases h)
    simp only [puts, e13]
    simp only [Act.put, List.setIfInBounds_toArray, List.set_cons_zero, List.set_cons_succ]
    clear hS e13
    have L1 := hiddenN (B0.out.trans (hC9.mono B0.out.size))
    have G1 := hiddenN (G0.out.below hC9)
    have D1 := hiddenN (D0.out.below hC9)
    clear z0 z1 d0 d1 d2 hC9 G0 D0 B0
    generalize w9 = W1 at *
    have z0 := G1.out.cell (k := 0) rfl; have z1 := G1.out.cell (k := 1) rfl; simp only [List.getElem_toArray, List.getElem_cons_zero, List.getElem_cons_succ] at z0 z1
    have d0 := D1.out.cell (k := 0) rfl
    have d1 := D1.out.cell (k := 1) rfl
    have d2 := D1.out.cell (k := 2) rfl
    simp only [List.getElem_toArray, List.getElem_cons_zero, List.getElem_cons_succ] at d0 d1 d2
    by_cases hp : E1 = 0
    · obtain ⟨⟨hl, hfew⟩, ht, hre, hmv⟩ := HE.out hp
      have qe : (E1 != 0) = false := by simpa using hp
      have HRE := hiddenN hre
      have HMV := hiddenN hmv
      have hbb := HBB.out
      clear hp hre hmv HE
      have w1 : IntKind.i64.wrap (1024 - tot) = 1024 - tot := by rw [IntKind.wrap_i64]; omega
      by_cases hn0 : n.arcs.length = 0
      · have q0 : ((n.arcs.length : Int) == 0) = true := by simpa using (by omega : (n.arcs.length : Int) = 0)
        go_wp2_with (go_at_call 10; (with_reducible refine (AW.out _).mono ?_); rintro e VV ⟨rfl, q2⟩; have LF := hiddenN (L1.out.trans (q2.mono L1.out.size)); clear q2)
        go_ret
        exact ⟨by first | rfl | simp, LF.out⟩
      · have q0 : ((n.arcs.length : Int) == 0) = false := by simpa using (by omega : ¬ (n.arcs.length : Int) = 0)
        by_cases hb0 : by_ < 0
        · have q1 : decide (by_ < 0) = true := decide_eq_true hb0
          go_wp2_with (go_at_call 10; (with_reducible refine (AW.out _).mono ?_); rintro e VV ⟨rfl, q2⟩; have LF := hiddenN (L1.out.trans (q2.mono L1.out.size)); clear q2)
          go_ret
          exact ⟨by first | rfl | simp, LF.out⟩
        · have q1 : decide (by_ < 0) = false := decide_eq_false hb0
          by_cases hb1 : 1024 - tot < by_
          · have q2 : decide (1024 - tot < by_) = true := decide_eq_true hb1
            have hb1' : by_ > 1024 - tot := hb1
            go_wp2_with (go_at_call 10; (with_reducible refine (AW.out _).mono ?_); rintro e VV ⟨rfl, q2⟩; have LF := hiddenN (L1.out.trans (q2.mono L1.out.size)); clear q2)
            go_ret
            exact ⟨by first | rfl | simp, LF.out⟩
          · have q2 : decide (1024 - tot < by_) = false := decide_eq_false hb1
            have hb1' : ¬ by_ > 1024 - tot := hb1
            have w2 : IntKind.i64.wrap (tot + by_) = tot + by_ := by rw [IntKind.wrap_i64]; omega
            have w3 : IntKind.i64.wrap (by_ + tot) = tot + by_ := by rw [IntKind.wrap_i64]; omega
            have bX := (Below.refl W1.heap.size W1).alloc (Nat.le_refl _) (.cells #[.slice none 0 0, .int .i64 (tot + by_)] 28)
            have X2 := hiddenN (blkA_new 28 W1 #[.slice none 0 0, .int .i64 (tot + by_)])
            have L2 := hiddenN (L1.out.trans (bX.mono L1.out.size))
            have G2 := hiddenN (G1.out.below bX)
            have D2 := hiddenN (D1.out.below bX)
            have ltM := hiddenN D1.out.lt
            have ltW := hiddenN L1.out.size
            go_upto_region 5 with fail
            obtain ⟨T, hT⟩ : ∃ q, tot + by_ = q := ⟨_, rfl⟩
            rw [hT] at X2 L2 G2 D2 ⊢
            have HT := hiddenN hT
            obtain ⟨K, hK⟩ : ∃ q, W1.heap.size = q := ⟨_, rfl⟩
            have HK := hiddenN hK
            rw [hK] at X2 ltM ltW ⊢
            generalize W1.alloc (.cells #[.slice none 0 0, .int .i64 T] 28) = W2 at *
            have HMV2 : Hid (chkC n (movP by_ L) T zs = 0) := by show _ = _; rw [← hT]; exact HMV.out by_ hn0 (by omega) (by omega)
            clear bX z0 z1 d0 d1 d2 hT hK HMV w1 w2 w3 G1 D1 L1
            have NEM : Hid (w.heap.size + 1 ≠ K) := by show _ ≠ _; have := ltM.out; omega
            have BK : Hid (K ≤ W2.heap.size) := Nat.le_of_lt X2.out.lt
            have ltK : Hid (w.heap.size < K) := by show _ < _; have := ltM.out; omega
            obtain ⟨m, hm⟩ : ∃ q, L.length = q := ⟨_, rfl⟩
            have HML := hiddenN hm
            have hroomL : m ≤ 96 := by omega
            go_wp2
            go_loopg [9] m (fun gk u9 wr => ∃ (ix : Nat) (dr : Option Addr) (cp : Nat) (Z : List (Int × Int)), ix ≤ m ∧ gk = m - ix ∧ u9 = .int .i64 (ix : Int) ∧ Z = (movP by_ L).take ix ∧ BlkA 28 K wr #[.slice dr Z.length cp, .int .i64 T] ∧ CapV 41 rnV 2 K wr dr cp Z ∧ (∀ y, dr = some y → y.block ≠ K) ∧ Below K W2 wr)
            case atStart => exact ⟨0, none, 0, [], Nat.zero_le _, rfl, rfl, rfl, X2.out, CapV.nil _ _, (fun y hy => by cases hy), Below.refl _ _⟩
            case round =>
              obtain ⟨ix, dr, cp, Z, hi, rfl, rfl, hZ, hbx, hrow, hap, hbl⟩ := hrel
              have HZ := hiddenN hZ
              have BOX := hiddenN hbx
              have ROW := hiddenN hrow
              have AP := hiddenN hap
              have HB := hiddenN hbl
              have WS := hiddenN (Nat.le_trans BK.out hbl.size)
              have G3 := hiddenN (G2.out.keep (hbl.block _ ltK.out))
              have D3 := hiddenN (D2.out.keep (hbl.block _ ltM.out))
              clear hZ hbx hrow hap hbl
              have z0 := G3.out.cell (k := 0) rfl; have z1 := G3.out.cell (k := 1) rfl; simp only [List.getElem_toArray, List.getElem_cons_zero, List.getElem_cons_succ] at z0 z1
              have m0 := D3.out.cell (k := 0) rfl
              have m1 := D3.out.cell (k := 1) rfl
              have m2 := D3.out.cell (k := 2) rfl
              simp only [List.getElem_toArray, List.getElem_cons_zero, List.getElem_cons_succ] at m0 m1 m2
              have x0 := BOX.out.cell (k := 0) rfl
              have x1 := BOX.out.cell (k := 1) rfl
              simp only [List.getElem_toArray, List.getElem_cons_zero, List.getElem_cons_succ] at x0 x1
              by_cases hlt : ix < m
              · have hii : (ix : Int) < (m : Int) := by omega
                have hiL : (ix : Int) < (L.length : Int) := by rw [HML.out]; exact hii
                have hil : ix < L.length := by rw [HML.out]; exact hlt
                have HLT := hiddenN hil
                have q := HRE.out ix hil
                have hb2 := HBB.out
                rcases HM.out.lies with e0 | ⟨gb, go, rfl, hc⟩
                · rw [e0] at hil; exact absurd hil (Nat.not_lt_zero _)
                obtain ⟨e1, e2⟩ := hc ix hil
                obtain ⟨bi, hbi⟩ : ∃ q, (nthX L ix).1 = q := ⟨_, rfl⟩
                obtain ⟨si, hsi⟩ : ∃ q, (nthX L ix).2 = q := ⟨_, rfl⟩
                rw [hbi] at e1 q
                rw [hsi] at e2
                have ZT : Hid ((movP by_ L).take (ix + 1) = Z ++ [((bi + by_, si) : Int × Int)]) := by show _ = _; rw [movP_take HLT.out, HZ.out, hbi, hsi]
                have NEG : Hid (gb ≠ K) := by show gb ≠ K; have h9 : gb < w.heap.size := World.block_lt_of_cell? _ _ e1; have := ltK.out; omega
                have ND1 : Hid (∀ y, dr = some y → y.block ≠ w.heap.size + 1) := fun y hy => by have := (ROW.out.lt y hy).1; have := ltM.out; omega
                have ND2 : Hid (∀ y, dr = some y → y.block ≠ gb) := fun y hy => by have := (ROW.out.lt y hy).1; have h9 : gb < w.heap.size := World.block_lt_of_cell? _ _ e1; have := ltK.out; omega
                have lw : Below w.heap.size w wr := L2.out.trans (HB.out.mono (by have := ltK.out; omega))
                have e1 := cellN_later lw e1
                have e2 := cellN_later lw e2
                have ZL : Hid (Z.length ≤ 100000000) := by show _ ≤ _; rw [HZ.out, List.length_take]; omega
                have wr1 : IntKind.i64.wrap (bi + by_) = bi + by_ := by rw [IntKind.wrap_i64]; omega
                have BW := WS
                clear hc hbi hsi q lw z0 z1 x0 x1 m1
                go_upto_region 8 with fail
                try dsimp only [List.append_eq, List.cons_append, List.nil_append]
                refine wp_region_gen [21, 23] (fun d_ i u z => match i with
                    | 0 => z = .pointer (some ⟨K, 0, none⟩)
                    | 1 => z = .slice dr Z.length cp
                    | 2 => z = .pointer (some ⟨w.heap.size + 1, 0, none⟩)
                    | 3 => z = .pointer (some ⟨w.heap.size + 1, 0, none⟩)
                    | 4 => z = .slice (some ⟨gb, go, none⟩) L.length ca
                    | 5 => z = .int .i64 (ix : Int)
                    | 6 => z = .pointer (some ⟨gb, go + ix * 2, none⟩)
                    | 7 => z = .pointer (some ⟨gb, go + ix * 2, none⟩)
                    | 8 => z = .int .i64 bi
                    | 9 => z = .pointer (some ⟨w.heap.size + 1, 2, none⟩)
                    | 10 => z = .int .i64 by_
                    | 11 => z = .int .i64 (bi + by_)
                    | 12 => z = .pointer (some ⟨w.heap.size + 1, 0, none⟩)
                    | 13 => z = .pointer (some ⟨w.heap.size + 1, 0, none⟩)
                    | 14 => z = .slice (some ⟨gb, go, none⟩) L.length ca
                    | 15 => z = .int .i64 (ix : Int)
                    | 16 => z = .pointer (some ⟨gb, go + ix * 2, none⟩)
                    | 17 => z = .pointer (some ⟨gb, go + ix * 2 + 1, none⟩)
                    | 18 => z = .int .i64 si
                    | 19 => z = .agg #[.int .i64 (bi + by_), .int .i64 si]
                    | 20 => (d_ 21 = false → ElV rnV ((bi + by_, si) : Int × Int) u z)
                    | 21 => (d_ 21 = true ∧ (d_ 23 = false → SlV 41 rnV 2 K K dr wr.heap.size (Z ++ [((bi + by_, si) : Int × Int)]) u z))
                    | 22 => z = .pointer (some ⟨K, 0, none⟩)
                    | 23 => True
                    | _ => True) (fun d_ u => GoV 28 K 0 #[.slice dr Z.length cp, .int .i64 T] 41 rnV 2 K dr cp Z ((bi + by_, si) : Int × Int) wr 21 23 d_ u) (by kernel_rfl) (by kernel_rfl) (by kernel_rfl) ?_ ?_ ?_ ?_ ?_ ?_ (by kernel_rfl)
                · intro d_ i w_ v_ w' h hb_
                  match i, h with
                  | 0, h => exact h
                  | 1, h => exact h
                  | 2, h => exact h
                  | 3, h => exact h
                  | 4, h => exact h
                  | 5, h => exact h
                  | 6, h => exact h
                  | 7, h => exact h
                  | 8, h => exact h
                  | 9, h => exact h
                  | 10, h => exact h
                  | 11, h => exact h
                  | 12, h => exact h
                  | 13, h => exact h
                  | 14, h => exact h
                  | 15, h => exact h
                  | 16, h => exact h
                  | 17, h => exact h
                  | 18, h => exact h
                  | 19, h => exact h
                  | 20, h => exact fun e => (h e).later hb_
                  | 21, h => exact ⟨h.1, fun e => (h.2 e).later hb_⟩
                  | 22, h => exact h
                  | 23, h => exact h
                  | _ + 24, _ => trivial
                · intro d_ u u' h hb_
                  exact h.later hb_
                · exact GoV.start ROW.out BOX.out
                · intro d_ i o ρ w' hm ho hf hg hC hcs hfs hfr hdep
                  match i, hm, ho, hf, hg, hfr, hdep with
                  | 0, _, ho, hf, hg, hfr, hdep =>
                    simp only [gTA, gCZ, gSI] at ho
                    subst ho
                    refine ⟨fun _ => ?_, fun hw => absurd (show true = false from hw) (by decide)⟩
                    have ts : ρ (.tmp 8) = .pointer (some ⟨K, 0, none⟩) := hfr 8 (by kernel_rfl)
                    simp [go_sem, ts]
                    exact ⟨Below.refl _ _, rfl⟩
                  | 1, _, ho, hf, hg, hfr, hdep =>
                    simp only [gTA, gCZ, gCS, gSI] at ho
                    subst ho
                    refine ⟨fun _ => ?_, fun hw => absurd (show true = false from hw) (by decide)⟩
                    have hs_ : d_ 23 = false := hf 23 (by decide) (by kernel_rfl)
                    have cc : w'.cell? ⟨K, 0, none⟩ = some (.slice dr Z.length cp) := (hC.box hs_).cell rfl
                    have d0 : ρ (.tmp 61) = .pointer (some ⟨K, 0, none⟩) := hdep 0 61 (by kernel_rfl) (by kernel_rfl)
                    simp [go_sem, d0, cc]
                    exact ⟨Below.refl _ _, rfl⟩
                  | 2, _, ho, hf, hg, hfr, hdep =>
                    simp only [gTA, gCZ, gCS, gSI] at ho
                    subst ho
                    refine ⟨fun _ => ?_, fun hw => absurd (show true = false from hw) (by decide)⟩
                    have ts : ρ (.tmp 4) = .pointer (some ⟨w.heap.size + 1, 0, none⟩) := hfr 4 (by kernel_rfl)
                    simp [go_sem, ts]
                    exact ⟨Below.refl _ _, rfl⟩
                  | 3, _, ho, hf, hg, hfr, hdep =>
                    simp only [gTA, gCZ, gCS, gSI] at ho
                    subst ho
                    refine ⟨fun _ => ?_, fun hw => absurd (show true = false from hw) (by decide)⟩
                    have d0 : ρ (.tmp 63) = .pointer (some ⟨w.heap.size + 1, 0, none⟩) := hdep 2 63 (by kernel_rfl) (by kernel_rfl)
                    simp [go_sem, d0]
                    exact ⟨Below.refl _ _, rfl⟩
                  | 4, _, ho, hf, hg, hfr, hdep =>
                    simp only [gTA, gCZ, gCS, gSI] at ho
                    subst ho
                    refine ⟨fun _ => ?_, fun hw => absurd (show true = false from hw) (by decide)⟩
                    have kc := hC.sta.cell m0 NEM.out ND1.out
                    have d0 : ρ (.tmp 64) = .pointer (some ⟨w.heap.size + 1, 0, none⟩) := hdep 3 64 (by kernel_rfl) (by kernel_rfl)
                    simp [go_sem, d0, kc]
                    exact ⟨Below.refl _ _, rfl⟩
                  | 5, _, ho, hf, hg, hfr, hdep =>
                    simp only [gTA, gCZ, gCS, gSI] at ho
                    subst ho
                    refine ⟨fun _ => ?_, fun hw => absurd (show true = false from hw) (by decide)⟩
                    have ts : ρ (.tmp 9) = .int .i64 (ix : Int) := hfr 9 (by kernel_rfl)
                    simp [go_sem, ts]
                    exact ⟨Below.refl _ _, rfl⟩
                  | 6, _, ho, hf, hg, hfr, hdep =>
                    simp only [gTA, gCZ, gCS, gSI] at ho
                    subst ho
                    refine ⟨fun _ => ?_, fun hw => absurd (show true = false from hw) (by decide)⟩
                    have d0 : ρ (.tmp 65) = .slice (some ⟨gb, go, none⟩) L.length ca := hdep 4 65 (by kernel_rfl) (by kernel_rfl)
                    have d1 : ρ (.tmp 66) = .int .i64 (ix : Int) := hdep 5 66 (by kernel_rfl) (by kernel_rfl)
                    simp [go_sem, d0, d1, hiL]
                    exact ⟨Below.refl _ _, rfl⟩
                  | 7, _, ho, hf, hg, hfr, hdep =>
                    simp only [gTA, gCZ, gCS, gSI] at ho
                    subst ho
                    refine ⟨fun _ => ?_, fun hw => absurd (show true = false from hw) (by decide)⟩
                    have d0 : ρ (.tmp 67) = .pointer (some ⟨gb, go + ix * 2, none⟩) := hdep 6 67 (by kernel_rfl) (by kernel_rfl)
                    simp [go_sem, d0]
                    exact ⟨Below.refl _ _, rfl⟩
                  | 8, _, ho, hf, hg, hfr, hdep =>
                    simp only [gTA, gCZ, gCS, gSI] at ho
                    subst ho
                    refine ⟨fun _ => ?_, fun hw => absurd (show true = false from hw) (by decide)⟩
                    have kc := hC.sta.cell e1 NEG.out ND2.out
                    have d0 : ρ (.tmp 68) = .pointer (some ⟨gb, go + ix * 2, none⟩) := hdep 7 68 (by kernel_rfl) (by kernel_rfl)
                    simp [go_sem, d0, kc]
                    exact ⟨Below.refl _ _, rfl⟩
                  | 9, _, ho, hf, hg, hfr, hdep =>
                    simp only [gTA, gCZ, gCS, gSI] at ho
                    subst ho
                    refine ⟨fun _ => ?_, fun hw => absurd (show true = false from hw) (by decide)⟩
                    have ts : ρ (.tmp 4) = .pointer (some ⟨w.heap.size + 1, 0, none⟩) := hfr 4 (by kernel_rfl)
                    simp [go_sem, ts]
                    exact ⟨Below.refl _ _, rfl⟩
                  | 10, _, ho, hf, hg, hfr, hdep =>
                    simp only [gTA, gCZ, gCS, gSI] at ho
                    subst ho
                    refine ⟨fun _ => ?_, fun hw => absurd (show true = false from hw) (by decide)⟩
                    have kc := hC.sta.cell m2 NEM.out ND1.out
                    have d0 : ρ (.tmp 70) = .pointer (some ⟨w.heap.size + 1, 2, none⟩) := hdep 9 70 (by kernel_rfl) (by kernel_rfl)
                    simp [go_sem, d0, kc]
                    exact ⟨Below.refl _ _, rfl⟩
                  | 11, _, ho, hf, hg, hfr, hdep =>
                    simp only [gTA, gCZ, gCS, gSI] at ho
                    subst ho
                    refine ⟨fun _ => ?_, fun hw => absurd (show true = false from hw) (by decide)⟩
                    have d0 : ρ (.tmp 69) = .int .i64 bi := hdep 8 69 (by kernel_rfl) (by kernel_rfl)
                    have d1 : ρ (.tmp 71) = .int .i64 by_ := hdep 10 71 (by kernel_rfl) (by kernel_rfl)
                    simp [go_sem, d0, d1, wr1]
                    exact ⟨Below.refl _ _, rfl⟩
                  | 12, _, ho, hf, hg, hfr, hdep =>
                    simp only [gTA, gCZ, gCS, gSI] at ho
                    subst ho
                    refine ⟨fun _ => ?_, fun hw => absurd (show true = false from hw) (by decide)⟩
                    have ts : ρ (.tmp 4) = .pointer (some ⟨w.heap.size + 1, 0, none⟩) := hfr 4 (by kernel_rfl)
                    simp [go_sem, ts]
                    exact ⟨Below.refl _ _, rfl⟩
                  | 13, _, ho, hf, hg, hfr, hdep =>
                    simp only [gTA, gCZ, gCS, gSI] at ho
                    subst ho
                    refine ⟨fun _ => ?_, fun hw => absurd (show true = false from hw) (by decide)⟩
                    have d0 : ρ (.tmp 73) = .pointer (some ⟨w.heap.size + 1, 0, none⟩) := hdep 12 73 (by kernel_rfl) (by kernel_rfl)
                    simp [go_sem, d0]
                    exact ⟨Below.refl _ _, rfl⟩
                  | 14, _, ho, hf, hg, hfr, hdep =>
                    simp only [gTA, gCZ, gCS, gSI] at ho
                    subst ho
                    refine ⟨fun _ => ?_, fun hw => absurd (show true = false from hw) (by decide)⟩
                    have kc := hC.sta.cell m0 NEM.out ND1.out
                    have d0 : ρ (.tmp 74) = .pointer (some ⟨w.heap.size + 1, 0, none⟩) := hdep 13 74 (by kernel_rfl) (by kernel_rfl)
                    simp [go_sem, d0, kc]
                    exact ⟨Below.refl _ _, rfl⟩
                  | 15, _, ho, hf, hg, hfr, hdep =>
                    simp only [gTA, gCZ, gCS, gSI] at ho
                    subst ho
                    refine ⟨fun _ => ?_, fun hw => absurd (show true = false from hw) (by decide)⟩
                    have ts : ρ (.tmp 9) = .int .i64 (ix : Int) := hfr 9 (by kernel_rfl)
                    simp [go_sem, ts]
                    exact ⟨Below.refl _ _, rfl⟩
                  | 16, _, ho, hf, hg, hfr, hdep =>
                    simp only [gTA, gCZ, gCS, gSI] at ho
                    subst ho
                    refine ⟨fun _ => ?_, fun hw => absurd (show true = false from hw) (by decide)⟩
                    have d0 : ρ (.tmp 75) = .slice (some ⟨gb, go, none⟩) L.length ca := hdep 14 75 (by kernel_rfl) (by kernel_rfl)
                    have d1 : ρ (.tmp 76) = .int .i64 (ix : Int) := hdep 15 76 (by kernel_rfl) (by kernel_rfl)
                    simp [go_sem, d0, d1, hiL]
                    exact ⟨Below.refl _ _, rfl⟩
                  | 17, _, ho, hf, hg, hfr, hdep =>
                    simp only [gTA, gCZ, gCS, gSI] at ho
                    subst ho
                    refine ⟨fun _ => ?_, fun hw => absurd (show true = false from hw) (by decide)⟩
                    have d0 : ρ (.tmp 77) = .pointer (some ⟨gb, go + ix * 2, none⟩) := hdep 16 77 (by kernel_rfl) (by kernel_rfl)
                    simp [go_sem, d0]
                    exact ⟨Below.refl _ _, rfl⟩
                  | 18, _, ho, hf, hg, hfr, hdep =>
                    simp only [gTA, gCZ, gCS, gSI] at ho
                    subst ho
                    refine ⟨fun _ => ?_, fun hw => absurd (show true = false from hw) (by decide)⟩
                    have kc := hC.sta.cell e2 NEG.out ND2.out
                    have d0 : ρ (.tmp 78) = .pointer (some ⟨gb, go + ix * 2 + 1, none⟩) := hdep 17 78 (by kernel_rfl) (by kernel_rfl)
                    simp [go_sem, d0, kc]
                    exact ⟨Below.refl _ _, rfl⟩
                  | 19, _, ho, hf, hg, hfr, hdep =>
                    simp only [gTA, gCZ, gCS, gSI] at ho
                    subst ho
                    refine ⟨fun _ => ?_, fun hw => absurd (show true = false from hw) (by decide)⟩
                    have d0 : ρ (.tmp 72) = .int .i64 (bi + by_) := hdep 11 72 (by kernel_rfl) (by kernel_rfl)
                    have d1 : ρ (.tmp 79) = .int .i64 si := hdep 18 79 (by kernel_rfl) (by kernel_rfl)
                    simp [go_sem, d0, d1]
                    exact ⟨Below.refl _ _, rfl⟩
                  | 20, _, ho, hf, hg, hfr, hdep =>
                    simp only [gTA, gCZ, gCS, gSI] at ho
                    subst ho
                    refine ⟨fun _ => ?_, fun hw => absurd (show true = false from hw) (by decide)⟩
                    have t0 : ρ (.tmp 80) = .agg #[.int .i64 (bi + by_), .int .i64 si] := hdep 19 80 (by kernel_rfl) (by kernel_rfl)
                    simp [go_sem, t0]
                    exact ⟨(Below.refl _ _).alloc (Nat.le_refl _) _, fun _ => elV_new w' 41 #[.int .i64 (bi + by_), .int .i64 si] rfl⟩
                  | 21, hm, _, _, _, _, _ => exact absurd hm (by decide)
                  | 22, _, ho, hf, hg, hfr, hdep =>
                    simp only [gTA, gCZ, gCS, gSI] at ho
                    subst ho
                    refine ⟨fun _ => ?_, fun hw => absurd (show true = false from hw) (by decide)⟩
                    have ts : ρ (.tmp 8) = .pointer (some ⟨K, 0, none⟩) := hfr 8 (by kernel_rfl)
                    simp [go_sem, ts]
                    exact ⟨Below.refl _ _, rfl⟩
                  | 23, hm, _, _, _, _, _ => exact absurd hm (by decide)
                  | n + 24, _, ho, _, _, _, _ => simp at ho
                · intro d_ i o ρ w' hm ho h0 hf hg hC hcs hfs hfr hdep
                  match i, hm, ho, h0, hf, hg, hfr, hdep with
                  | 0, hm, _, _, _, _, _, _ => exact absurd hm (by decide)
                  | 1, hm, _, _, _, _, _, _ => exact absurd hm (by decide)
                  | 2, hm, _, _, _, _, _, _ => exact absurd hm (by decide)
                  | 3, hm, _, _, _, _, _, _ => exact absurd hm (by decide)
                  | 4, hm, _, _, _, _, _, _ => exact absurd hm (by decide)
                  | 5, hm, _, _, _, _, _, _ => exact absurd hm (by decide)
                  | 6, hm, _, _, _, _, _, _ => exact absurd hm (by decide)
                  | 7, hm, _, _, _, _, _, _ => exact absurd hm (by decide)
                  | 8, hm, _, _, _, _, _, _ => exact absurd hm (by decide)
                  | 9, hm, _, _, _, _, _, _ => exact absurd hm (by decide)
                  | 10, hm, _, _, _, _, _, _ => exact absurd hm (by decide)
                  | 11, hm, _, _, _, _, _, _ => exact absurd hm (by decide)
                  | 12, hm, _, _, _, _, _, _ => exact absurd hm (by decide)
                  | 13, hm, _, _, _, _, _, _ => exact absurd hm (by decide)
                  | 14, hm, _, _, _, _, _, _ => exact absurd hm (by decide)
                  | 15, hm, _, _, _, _, _, _ => exact absurd hm (by decide)
                  | 16, hm, _, _, _, _, _, _ => exact absurd hm (by decide)
                  | 17, hm, _, _, _, _, _, _ => exact absurd hm (by decide)
                  | 18, hm, _, _, _, _, _, _ => exact absurd hm (by decide)
                  | 19, hm, _, _, _, _, _, _ => exact absurd hm (by decide)
                  | 20, hm, _, _, _, _, _, _ => exact absurd hm (by decide)
                  | 21, _, ho, h0, hf, hg, hfr, hdep =>
                    simp only [gTA, gCZ, gCS, gSI] at ho
                    subst ho
                    have t0 : ρ (.tmp 62) = .slice dr Z.length cp := hdep 1 62 (by kernel_rfl) (by kernel_rfl)
                    have t5 : ElV rnV ((bi + by_, si) : Int × Int) w' (ρ (.tmp 81)) := hdep 20 81 (by kernel_rfl) (by kernel_rfl) h0
                    have hs_ : d_ 23 = false := hf 23 (by decide) (by kernel_rfl)
                    refine ⟨rfl, mark_appV (.tmp 62) (.tmp 81) 26 rfl Try.underlying26 _ 16 Try.infoGn rfl (by decide) (by decide) rnV_len rnV_one t0 (hC.row h0) AP.out (hC.box hs_).lt hC.sta t5 (by have := ZL.out; omega) (Nat.le_trans BW.out hC.sta.size) ?_⟩
                    intro u9 v9 hS9 hT9 hK9
                    refine ⟨hC.app (by decide) hs_ hT9 hK9, fun _ => ⟨doneC_eq _ _, fun _ => hS9⟩, ?_⟩
                    intro j t hj hs
                    match j, hs with
                    | 0, hs => exact hs
                    | 1, hs => exact hs
                    | 2, hs => exact hs
                    | 3, hs => exact hs
                    | 4, hs => exact hs
                    | 5, hs => exact hs
                    | 6, hs => exact hs
                    | 7, hs => exact hs
                    | 8, hs => exact hs
                    | 9, hs => exact hs
                    | 10, hs => exact hs
                    | 11, hs => exact hs
                    | 12, hs => exact hs
                    | 13, hs => exact hs
                    | 14, hs => exact hs
                    | 15, hs => exact hs
                    | 16, hs => exact hs
                    | 17, hs => exact hs
                    | 18, hs => exact hs
                    | 19, hs => exact hs
                    | 20, hs => exact fun e => absurd e (by rw [doneC_eq]; decide)
                    | 21, hs => exact absurd hs.1 (by rw [h0]; decide)
                    | 22, hs => exact hs
                    | 23, hs => trivial
                    | _ + 24, _ => trivial
                  | 22, hm, _, _, _, _, _, _ => exact absurd hm (by decide)
                  | 23, _, ho, h0, hf, hg, hfr, hdep =>
                    simp only [gTA, gCZ, gCS, gSI] at ho
                    subst ho
                    have t0 : ρ (.tmp 83) = .pointer (some ⟨K, 0, none⟩) := hdep 22 83 (by kernel_rfl) (by kernel_rfl)
                    have t9 : d_ 21 = true ∧ (d_ 23 = false → SlV 41 rnV 2 K K dr wr.heap.size (Z ++ [((bi + by_, si) : Int × Int)]) w' (ρ (.tmp 82))) := hdep 21 82 (by kernel_rfl) (by kernel_rfl)
                    have hZ := t9.2 h0
                    have hZ2 := hZ
                    obtain ⟨qd, qk, e9, -, -, -⟩ := hZ
                    rw [e9] at hZ2
                    have hF := hC.store (by decide) t9.1 h0 hZ2
                    have c1_ := (hC.box h0).cell (k := 0) rfl
                    have f1 := (hC.box h0).frozen 0
                    refine ⟨rfl, markUpon_skip (w' := w'.setCell ⟨K, 0, none⟩ (.slice qd (Z ++ [((bi + by_, si) : Int × Int)]).length qk)) (by simp [go_sem, t0, e9, c1_, f1]) ?_⟩
                    refine ⟨hF, fun h => absurd rfl h, ?_⟩
                    intro j t hj hs
                    match j, hs with
                    | 0, hs => exact hs
                    | 1, hs => exact hs
                    | 2, hs => exact hs
                    | 3, hs => exact hs
                    | 4, hs => exact hs
                    | 5, hs => exact hs
                    | 6, hs => exact hs
                    | 7, hs => exact hs
                    | 8, hs => exact hs
                    | 9, hs => exact hs
                    | 10, hs => exact hs
                    | 11, hs => exact hs
                    | 12, hs => exact hs
                    | 13, hs => exact hs
                    | 14, hs => exact hs
                    | 15, hs => exact hs
                    | 16, hs => exact hs
                    | 17, hs => exact hs
                    | 18, hs => exact hs
                    | 19, hs => exact hs
                    | 20, hs => exact fun e => absurd ((doneC_ne d_ (by decide)).symm.trans e) (by rw [t9.1]; decide)
                    | 21, hs => exact ⟨(doneC_ne d_ (by decide)).trans hs.1, fun e => absurd e (by rw [doneC_eq]; decide)⟩
                    | 22, hs => exact hs
                    | 23, hs => trivial
                    | _ + 24, _ => trivial
                  | n + 24, _, ho, _, _, _, _, _ => simp at ho
                · intro U8 V8x hC8 hS
                  simp only [puts, put_none]
                  simp only [Act.put, List.setIfInBounds_toArray, List.set_cons_zero, List.set_cons_succ]
                  clear hS 
                  obtain ⟨d2, c2, q1, q2, q3, q4⟩ := hC8.fin rfl
                  have q1 : BlkA 28 K V8x #[.slice d2 (Z ++ [((bi + by_, si) : Int × Int)]).length c2, .int .i64 T] := q1
                  rw [← ZT.out] at q1 q2
                  have bel := hC8.sta.below (B := K) (Nat.le_refl _) (fun y hy => (ROW.out.lt y hy).1) BW.out
                  have BOX2 := hiddenN q1
                  have ROW2 := hiddenN q2
                  have AP2 := hiddenN q3
                  have HB2 := hiddenN (HB.out.trans bel)
                  clear q1 q2 q3 q4 bel hC8
                  go_wp2
                  go_roundg (m - (ix + 1))
                  case measure => omega
                  case rel => exact ⟨ix + 1, d2, c2, _, by omega, rfl, by go_num, rfl, BOX2.out, ROW2.out, AP2.out, HB2.out⟩
              · have hii : ¬ (ix : Int) < (m : Int) := by omega
                have him : ix = m := by omega
                have LF := hiddenN (L2.out.trans (HB.out.mono (by have := ltK.out; omega)))
                have EF : Hid (Z = movP by_ L) := by show _ = _; rw [HZ.out, List.take_of_length_le]; unfold movP; rw [List.length_map, HML.out]; omega
                have RW : Hid (AtGn wr dr (movP by_ L)) := by show AtGn _ _ _; rw [← EF.out]; exact atGn_of (ROW.out.at rnV_len)
                have XL : Hid (Z.length = (movP by_ L).length) := by show _ = _; rw [EF.out]
                go_upto_region 9 with fail
                refine wp_region_gen [] (fun d i u z => match i with
                    | 0 => z = .bool true
                    | 1 => z = .bool true
                    | 2 => z = .agg #[.int .i64 n.nodes, .slice a n.arcs.length c]
                    | 3 => LnS n u z
                    | 4 => z = .agg #[.slice dr Z.length cp, .int .i64 T]
                    | 5 => z = .slice a1 zs.length cap1
                    | 6 => CnS zs.length u zs z
                    | 7 => z = .int .i64 0
                    | 8 => z = .bool true
                    | 9 => z = .bool true
                    | 10 => z = .bool true
                    | _ => True) (fun _ u => Below wr.heap.size wr u) (by kernel_rfl) (by kernel_rfl) (by kernel_rfl) ?_ ?_ ?_ ?_ ?_ ?_ (by kernel_rfl)
                · intro d i w v w' h hb
                  match i, h with
                  | 0, h => exact h
                  | 1, h => exact h
                  | 2, h => exact h
                  | 3, h => exact LnS.later h hb
                  | 4, h => exact h
                  | 5, h => exact h
                  | 6, h => exact CnS.later h hb
                  | 7, h => exact h
                  | 8, h => exact h
                  | 9, h => exact h
                  | 10, h => exact h
                  | _ + 11, _ => trivial
                · intro d u u' h hb
                  exact h.trans (hb.mono h.size)
                · exact Below.refl _ _
                · intro d i o ρ w' hm ho hf hg hC hcs hfs hfr hdep
                  match i, hm, ho, hf, hg, hfr, hdep with
                  | 0, _, ho, hf, hg, hfr, hdep =>
                    simp only [gTA, gCZ, gSI] at ho
                    subst ho
                    refine ⟨fun _ => ?_, fun hw => absurd (show true = false from hw) (by decide)⟩
                    simp [go_sem, hfs]
                    exact ⟨rfl, (AW.out w').mono fun e w'' ⟨e1, q2⟩ => ⟨_, e1, q2, rfl⟩⟩
                  | 1, _, ho, hf, hg, hfr, hdep =>
                    simp only [gTA, gCZ, gCS, gSI] at ho
                    subst ho
                    refine ⟨fun _ => ?_, fun hw => absurd (show true = false from hw) (by decide)⟩
                    have d0 : ρ (.tmp 84) = .bool true := hdep 0 84 (by kernel_rfl) (by kernel_rfl)
                    simp [go_sem, d0]
                    exact ⟨Below.refl _ _, rfl⟩
                  | 2, _, ho, hf, hg, hfr, hdep =>
                    simp only [gTA, gCZ, gCS, gSI] at ho
                    subst ho
                    have gd : ρ (.tmp 85) = .bool true := hdep 1 85 (by kernel_rfl) (by kernel_rfl)
                    refine ⟨fun _ => ?_, fun hw => absurd (show (match ρ (.tmp 85) with | .bool c => c == true | _ => false) = false from hw) (by rw [gd]; decide)⟩
                    clear gd
                    have ts : ρ (.tmp 3) = .pointer (some ⟨w.heap.size, 0, none⟩) := hfr 3 (by kernel_rfl)
                    have k0 := cellN_later hC z0
                    have k1 := cellN_later hC z1
                    simp [go_sem, ts, k0, k1]
                    exact ⟨Below.refl _ _, rfl⟩
                  | 3, _, ho, hf, hg, hfr, hdep =>
                    simp only [gTA, gCZ, gCS, gSI] at ho
                    subst ho
                    have gd : ρ (.tmp 85) = .bool true := hdep 1 85 (by kernel_rfl) (by kernel_rfl)
                    refine ⟨fun _ => ?_, fun hw => absurd (show (match ρ (.tmp 85) with | .bool c => c == true | _ => false) = false from hw) (by rw [gd]; decide)⟩
                    clear gd
                    have t0 : ρ (.tmp 86) = .agg #[.int .i64 n.nodes, .slice a n.arcs.length c] := hdep 2 86 (by kernel_rfl) (by kernel_rfl)
                    simp [go_sem, t0, hfs]
                    exact ⟨rfl, (LN.out w' (LF.out.trans (hC.mono LF.out.size))).mono fun e w'' ⟨g, gc, e1, q1, q2⟩ => ⟨_, e1, q2, g, gc, rfl, q1.at⟩⟩
                  | 4, _, ho, hf, hg, hfr, hdep =>
                    simp only [gTA, gCZ, gCS, gSI] at ho
                    subst ho
                    have gd : ρ (.tmp 85) = .bool true := hdep 1 85 (by kernel_rfl) (by kernel_rfl)
                    refine ⟨fun _ => ?_, fun hw => absurd (show (match ρ (.tmp 85) with | .bool c => c == true | _ => false) = false from hw) (by rw [gd]; decide)⟩
                    clear gd
                    have ts : ρ (.tmp 8) = .pointer (some ⟨K, 0, none⟩) := hfr 8 (by kernel_rfl)
                    have k0 := cellN_later hC x0
                    have k1 := cellN_later hC x1
                    simp [go_sem, ts, k0, k1]
                    exact ⟨Below.refl _ _, rfl⟩
                  | 5, _, ho, hf, hg, hfr, hdep =>
                    simp only [gTA, gCZ, gCS, gSI] at ho
                    subst ho
                    have gd : ρ (.tmp 85) = .bool true := hdep 1 85 (by kernel_rfl) (by kernel_rfl)
                    refine ⟨fun _ => ?_, fun hw => absurd (show (match ρ (.tmp 85) with | .bool c => c == true | _ => false) = false from hw) (by rw [gd]; decide)⟩
                    clear gd
                    have ts : ρ (.tmp 2) = .slice a1 zs.length cap1 := hfr 2 (by kernel_rfl)
                    simp [go_sem, ts]
                    exact ⟨Below.refl _ _, rfl⟩
                  | 6, _, ho, hf, hg, hfr, hdep =>
                    simp only [gTA, gCZ, gCS, gSI] at ho
                    subst ho
                    have gd : ρ (.tmp 85) = .bool true := hdep 1 85 (by kernel_rfl) (by kernel_rfl)
                    refine ⟨fun _ => ?_, fun hw => absurd (show (match ρ (.tmp 85) with | .bool c => c == true | _ => false) = false from hw) (by rw [gd]; decide)⟩
                    clear gd
                    have t0 : ρ (.tmp 89) = .slice a1 zs.length cap1 := hdep 5 89 (by kernel_rfl) (by kernel_rfl)
                    simp [go_sem, t0, hfs]
                    exact ⟨rfl, (IN.out w' (LF.out.trans (hC.mono LF.out.size))).mono fun e w'' ⟨p, pc, e1, q1, q2⟩ => ⟨_, e1, q2, p, pc, rfl, q1.at⟩⟩
                  | 7, _, ho, hf, hg, hfr, hdep =>
                    simp only [gTA, gCZ, gCS, gSI] at ho
                    subst ho
                    have gd : ρ (.tmp 85) = .bool true := hdep 1 85 (by kernel_rfl) (by kernel_rfl)
                    refine ⟨fun _ => ?_, fun hw => absurd (show (match ρ (.tmp 85) with | .bool c => c == true | _ => false) = false from hw) (by rw [gd]; decide)⟩
                    clear gd
                    obtain ⟨g, gc, t0, q1⟩ : LnS n w' (ρ (.tmp 87)) := hdep 3 87 (by kernel_rfl) (by kernel_rfl)
                    have t1 : ρ (.tmp 88) = .agg #[.slice dr Z.length cp, .int .i64 T] := hdep 4 88 (by kernel_rfl) (by kernel_rfl)
                    obtain ⟨p, pc, t2, q2⟩ : CnS zs.length w' zs (ρ (.tmp 90)) := hdep 6 90 (by kernel_rfl) (by kernel_rfl)
                    rw [XL.out] at t1
                    simp [go_sem, t0, t1, t2, hfs]
                    have q := CK.out (movP by_ L) T w' _ p gc pc dr cp q1 q2 (RW.out.below hC)
                    rw [HMV2.out] at q
                    exact ⟨rfl, q.mono fun e w'' ⟨e1, q⟩ => ⟨_, e1, q, rfl⟩⟩
                  | 8, _, ho, hf, hg, hfr, hdep =>
                    simp only [gTA, gCZ, gCS, gSI] at ho
                    subst ho
                    have gd : ρ (.tmp 85) = .bool true := hdep 1 85 (by kernel_rfl) (by kernel_rfl)
                    refine ⟨fun _ => ?_, fun hw => absurd (show (match ρ (.tmp 85) with | .bool c => c == true | _ => false) = false from hw) (by rw [gd]; decide)⟩
                    clear gd
                    have d0 : ρ (.tmp 91) = .int .i64 0 := hdep 7 91 (by kernel_rfl) (by kernel_rfl)
                    simp [go_sem, d0, hcs]
                    exact ⟨Below.refl _ _, rfl⟩
                  | 9, _, ho, hf, hg, hfr, hdep =>
                    simp only [gTA, gCZ, gCS, gSI] at ho
                    subst ho
                    refine ⟨fun _ => ?_, fun hw => absurd (show true = false from hw) (by decide)⟩
                    have d0 : ρ (.tmp 85) = .bool true := hdep 1 85 (by kernel_rfl) (by kernel_rfl)
                    have d1 : ρ (.tmp 92) = .bool true := hdep 8 92 (by kernel_rfl) (by kernel_rfl)
                    simp [go_sem, d0, d1, hcs]
                    exact ⟨Below.refl _ _, rfl⟩
                  | 10, _, ho, hf, hg, hfr, hdep =>
                    simp only [gTA, gCZ, gCS, gSI] at ho
                    subst ho
                    refine ⟨fun _ => ?_, fun hw => absurd (show true = false from hw) (by decide)⟩
                    have d0 : ρ (.tmp 93) = .bool true := hdep 9 93 (by kernel_rfl) (by kernel_rfl)
                    simp [go_sem, d0]
                    exact ⟨Below.refl _ _, rfl⟩
                  | n + 11, _, ho, _, _, _, _ => simp at ho
                · intro d i o ρ w' hm ho h0 hf hg hC hcs hfs hfr hdep
                  exact absurd hm (by simp)
                · intro V w9 hC9 hS
                  have e10 : V 10 = .bool true := hS 10 (by decide) (by intro h; cases h)
                  simp only [puts, e10]
                  simp only [Act.put, List.setIfInBounds_toArray, List.set_cons_zero, List.set_cons_succ]
                  clear hS e10
                  go_wp2
                  go_ret
                  exact ⟨by first | rfl | simp, LF.out.trans (hC9.mono LF.out.size)⟩
    · have qe : (E1 != 0) = true := by simpa using hp
      go_wp2_with (go_at_call 10; (with_reducible refine (AW.out _).mono ?_); rintro e VV ⟨rfl, q2⟩; have LF := hiddenN (L1.out.trans (q2.mono L1.out.size)); clear q2)
      go_ret
      exact ⟨by first | rfl | simp, LF.out⟩
end Go.Proofs.Ytffikkkfnbffbaa

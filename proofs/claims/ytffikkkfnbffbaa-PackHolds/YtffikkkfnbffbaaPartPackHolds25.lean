/- Texts of one chain, laid one behind the other. -/
import Derived.Test.YtffikkkfnbffbaaPartPackHolds24
namespace Go.Proofs.Ytffikkkfnbffbaa
open Go.ChangeShapes Go.WideShapes Go.ChangeAt Go.RowKit
def netX : NN := ⟨2, [⟨0, 1, 2, 1, 0⟩, ⟨1, 0, 1, 2, 2⟩]⟩
theorem wakeX1 : codeV netX [0, 1, 1] = 0 ∧ cloL netX [0, 1, 1] = [(0, 1)] ∧ plaC netX [0, 1, 1] = 0 ∧ plaL netX [0, 1, 1] = [(0, 2), (2, 2)] ∧ plaT netX [0, 1, 1] = 4 := by decide +kernel
theorem wakeX2 : plaC netX [0, 1] = 181 ∧ plaL netX [0, 1] = [] ∧ plaT netX [0, 1] = 0 ∧ chkC netX [(0, 2), (1, 2)] 3 [0, 1, 1] = 192 ∧ chkC netX [(3, 2), (0, 3)] 5 [0, 1, 1] = 0 := by decide +kernel
theorem atN_alloc2X (U : World) : AtN (U.alloc (.cells #[.int .i64 0, .int .i64 1, .int .i64 2, .int .i64 1, .int .i64 0, .int .i64 1, .int .i64 0, .int .i64 1, .int .i64 2, .int .i64 2] 58)) (some ⟨U.heap.size, 0, none⟩) netX.arcs := by
  refine .inr ⟨U.heap.size, 0, rfl, fun k hk => ?_⟩
  have b := blkA_new 58 U #[.int .i64 0, .int .i64 1, .int .i64 2, .int .i64 1, .int .i64 0, .int .i64 1, .int .i64 0, .int .i64 1, .int .i64 2, .int .i64 2]
  match k, hk with
  | 0, _ => exact ⟨b.cell rfl, b.cell rfl, b.cell rfl, b.cell rfl, b.cell rfl⟩
  | 1, _ => exact ⟨b.cell rfl, b.cell rfl, b.cell rfl, b.cell rfl, b.cell rfl⟩
set_option maxRecDepth 100000 in
set_option maxHeartbeats 4000000 in
theorem two_anyX (w : World) : Calls Try.prog 26 #[] w fun e w' => ∃ x, e = .returned (.agg #[.int .i64 2, .slice (some x) 2 2]) ∧ AtN w' (some x) netX.arcs ∧ Below w.heap.size w w' := by
  have b0 := (Below.refl w.heap.size w).alloc (Nat.le_refl _) (.cells #[.int .i64 0, .slice none 0 0] 24)
  have G0 := hiddenN (blkA_new 24 w #[.int .i64 0, .slice none 0 0])
  have B0 := hiddenN b0
  clear b0
  go_enter Try.func26, Try.ntmps26
  go_upto_region 1 with fail
  generalize w.alloc (.cells #[.int .i64 0, .slice none 0 0] 24) = W0 at *
  have a1 := (Below.refl W0.heap.size W0).alloc (Nat.le_refl _) (.cells #[.int .i64 0, .int .i64 1, .int .i64 2, .int .i64 1, .int .i64 0, .int .i64 1, .int .i64 0, .int .i64 1, .int .i64 2, .int .i64 2] 58)
  have H1 := hiddenN (atN_alloc2X W0)
  have A1 := hiddenN a1
  have G1 := hiddenN (G0.out.below a1)
  clear a1
  have hlt := G0.out.lt
  go_wp2_with (refine wpList_storeW _ rfl 24 (.tmp 0) (.tmp 4) rfl rfl w.heap.size 24 _ _ rfl rfl G1.out sizNet rfl rfl ?_; intro w8 hN hU; have N8 := hiddenN hN; have U8 := hiddenN hU; clear hN hU)
  have t0 : w8.cell? ⟨w.heap.size, 0, none⟩ = some (.int .i64 2) := N8.out.cell rfl
  have t1 : w8.cell? ⟨w.heap.size, 1, none⟩ = some (.slice (some ⟨W0.heap.size, 0, none⟩) 2 2) := N8.out.cell rfl
  refine bodyPost_ret (v := .agg #[.int .i64 2, .slice (some ⟨W0.heap.size, 0, none⟩) 2 2]) (by simp [results, Try.results26, go_sem, t0, t1]) rfl ?_
  have hs1 : (W0.alloc (.cells #[.int .i64 0, .int .i64 1, .int .i64 2, .int .i64 1, .int .i64 0, .int .i64 1, .int .i64 0, .int .i64 1, .int .i64 2, .int .i64 2] 58)).heap.size = W0.heap.size + 1 := World.size_alloc _ _
  exact ⟨_, rfl, H1.out.keep fun x hx => by cases hx; exact U8.out.block _ (by show W0.heap.size < _; omega) (by show W0.heap.size ≠ w.heap.size; omega), B0.out.trans ((A1.out.mono B0.out.size).trans (U8.out.below (Nat.le_refl _) (Nat.le_trans B0.out.size A1.out.size)))⟩
theorem atGn_two (U : World) (p0 p1 p2 p3 : Int) : AtGn (U.alloc (.cells #[.int .i64 p0, .int .i64 p1, .int .i64 p2, .int .i64 p3] 41)) (some ⟨U.heap.size, 0, none⟩) [(p0, p1), (p2, p3)] := by
  refine .inr ⟨U.heap.size, 0, rfl, fun k hk => ?_⟩
  have b := blkA_new 41 U #[.int .i64 p0, .int .i64 p1, .int .i64 p2, .int .i64 p3]
  match k, hk with
  | 0, _ => exact ⟨b.cell rfl, b.cell rfl⟩
  | 1, _ => exact ⟨b.cell rfl, b.cell rfl⟩
set_option maxRecDepth 100000 in
set_option maxHeartbeats 4000000 in
theorem plan_anyX (p0 p1 p2 p3 p4 : Int) (w : World) : Calls Try.prog 27 #[.int .i64 p0, .int .i64 p1, .int .i64 p2, .int .i64 p3, .int .i64 p4] w fun e w' => ∃ x, e = .returned (.agg #[.slice (some x) 2 2, .int .i64 p4]) ∧ AtGn w' (some x) [(p0, p1), (p2, p3)] ∧ Below w.heap.size w w' := by
  have b0 := (Below.refl w.heap.size w).alloc (Nat.le_refl _) (.cells #[.slice none 0 0, .int .i64 0] 28)
  have G0 := hiddenN (blkA_new 28 w #[.slice none 0 0, .int .i64 0])
  have B0 := hiddenN b0
  clear b0
  go_enter Try.func27, Try.ntmps27
  go_upto_region 1 with fail
  generalize w.alloc (.cells #[.slice none 0 0, .int .i64 0] 28) = W0 at *
  have a1 := (Below.refl W0.heap.size W0).alloc (Nat.le_refl _) (.cells #[.int .i64 p0, .int .i64 p1, .int .i64 p2, .int .i64 p3] 41)
  have H1 := hiddenN (atGn_two W0 p0 p1 p2 p3)
  have A1 := hiddenN a1
  have G1 := hiddenN (G0.out.below a1)
  clear a1
  have hlt := G0.out.lt
  go_wp2_with (refine wpList_storeW _ rfl 28 (.tmp 10) (.tmp 19) rfl rfl w.heap.size 28 _ _ rfl rfl G1.out Try.sizPl rfl rfl ?_; intro w8 hN hU; have N8 := hiddenN hN; have U8 := hiddenN hU; clear hN hU)
  have t0 : w8.cell? ⟨w.heap.size, 0, none⟩ = some (.slice (some ⟨W0.heap.size, 0, none⟩) 2 2) := N8.out.cell rfl
  have t1 : w8.cell? ⟨w.heap.size, 1, none⟩ = some (.int .i64 p4) := N8.out.cell rfl
  refine bodyPost_ret (v := .agg #[.slice (some ⟨W0.heap.size, 0, none⟩) 2 2, .int .i64 p4]) (by simp [results, Try.results27, go_sem, t0, t1]) rfl ?_
  have hs1 : (W0.alloc (.cells #[.int .i64 p0, .int .i64 p1, .int .i64 p2, .int .i64 p3] 41)).heap.size = W0.heap.size + 1 := World.size_alloc _ _
  have hk : w8.heap[W0.heap.size]? = (W0.alloc (.cells #[.int .i64 p0, .int .i64 p1, .int .i64 p2, .int .i64 p3] 41)).heap[W0.heap.size]? := U8.out.block _ (by omega) (by omega)
  refine ⟨_, rfl, ?_, B0.out.trans ((A1.out.mono B0.out.size).trans (U8.out.below (Nat.le_refl _) (Nat.le_trans B0.out.size A1.out.size)))⟩
  rcases H1.out with e | ⟨b, off, e, hc⟩
  · cases e
  · cases e
    exact .inr ⟨_, _, rfl, fun k hkk => ⟨(World.cell?_of_block hk).trans (hc k hkk).1, (World.cell?_of_block hk).trans (hc k hkk).2⟩⟩
set_option maxRecDepth 100000 in
set_option maxHeartbeats 4000000 in
theorem same_planX (a b : Option Addr) (n c d : Nat) (L : List (Int × Int)) (t : Int) (W : World) (h1 : AtGn W a L) (h2 : AtGn W b L) (hN : L.length = n) (hn : n ≤ 1000000) :
    Calls Try.prog 28 #[.agg #[.slice a n c, .int .i64 t], .agg #[.slice b n d, .int .i64 t]] W fun e w' => e = .returned (.bool true) ∧ Below W.heap.size W w' := by
  have y1 : Hid (Below W.heap.size W (W.alloc (.cells #[.slice a n c, .int .i64 t] 28))) := (Below.refl _ _).alloc (Nat.le_refl _) _
  have hs1 : (W.alloc (.cells #[.slice a n c, .int .i64 t] 28)).heap.size = W.heap.size + 1 := World.size_alloc ..
  have y2 : Hid (Below (W.alloc (.cells #[.slice a n c, .int .i64 t] 28)).heap.size (W.alloc (.cells #[.slice a n c, .int .i64 t] 28)) ((W.alloc (.cells #[.slice a n c, .int .i64 t] 28)).alloc (.cells #[.slice b n d, .int .i64 t] 28))) := (Below.refl _ _).alloc (Nat.le_refl _) _
  have G0 := hiddenN ((blkA_new 28 W #[.slice a n c, .int .i64 t]).below y2.out)
  have D0 := hiddenN (blkA_new 28 (W.alloc (.cells #[.slice a n c, .int .i64 t] 28)) #[.slice b n d, .int .i64 t])
  have B0 := hiddenN (y1.out.trans (y2.out.mono (by rw [hs1]; omega)))
  have H1 := hiddenN ((h1.below y1.out).below y2.out)
  have H2 := hiddenN ((h2.below y1.out).below y2.out)
  have HN := hiddenN hN
  rw [hs1] at D0
  clear h1 h2 hN y1 y2 hs1
  have qt : (t != t) = false := by simp
  have qn : ((n : Int) != (n : Int)) = false := by simp
  go_enter Try.func28, Try.ntmps28
  go_upto_region 1 with fail
  generalize (W.alloc (.cells #[.slice a n c, .int .i64 t] 28)).alloc (.cells #[.slice b n d, .int .i64 t] 28) = W1 at *
  have g0 := G0.out.cell (k := 0) rfl
  have g1 := G0.out.cell (k := 1) rfl
  have d0 := D0.out.cell (k := 0) rfl
  have d1 := D0.out.cell (k := 1) rfl
  simp only [List.getElem_toArray, List.getElem_cons_zero, List.getElem_cons_succ] at g0 g1 d0 d1
  go_wp2
  clear qt qn g1 d1 g0 d0
  go_loopg [5] n (fun gk u wr => ∃ (k m : Nat), k ≤ n ∧ gk = n - k ∧ u = .int .i64 (k : Int) ∧ wr = W1.drewN m)
  case atStart => exact ⟨0, 0, Nat.zero_le _, rfl, rfl, rfl⟩
  case round =>
    obtain ⟨k, m, hk, rfl, rfl, rfl⟩ := hrel
    have g0 := G0.out.cell (k := 0) rfl
    have d0 := D0.out.cell (k := 0) rfl
    simp only [List.getElem_toArray, List.getElem_cons_zero] at g0 d0
    by_cases hlt : k < n
    · have hki : (k : Int) < (n : Int) := by omega
      have hkL : k < L.length := by rw [HN.out]; exact hlt
      rcases H1.out with e1 | ⟨ab, off, rfl, hc⟩
      · rw [e1] at hkL; exact absurd hkL (Nat.not_lt_zero _)
      rcases H2.out with e1 | ⟨bb, of2, rfl, hd⟩
      · rw [e1] at hkL; exact absurd hkL (Nat.not_lt_zero _)
      obtain ⟨c0, c1⟩ := hc k hkL
      obtain ⟨e0, e1⟩ := hd k hkL
      obtain ⟨x1, hx1⟩ : ∃ x, (nthX L k).1 = x := ⟨_, rfl⟩
      obtain ⟨x2, hx2⟩ : ∃ x, (nthX L k).2 = x := ⟨_, rfl⟩
      rw [hx1] at c0 e0
      rw [hx2] at c1 e1
      have hgd : ∀ (op : BinOp) (a b : Operand) (xs ys : Array Value) (w : World), Sem.run Try.prog (eqGuard op 41 a b (.agg xs) (.agg ys)) w = .ok () w := Try.eqgGn
      have heq : ∀ w, Sem.run Try.prog (binOp .neq 41 (.agg #[.int .i64 x1, .int .i64 x2]) (.agg #[.int .i64 x1, .int .i64 x2])) w = .ok (.bool false) w := fun w => by rw [Try.neqGn]; simp
      clear hc hd hkL hx1 hx2
      go_upto_region 6 with fail
      go_quiet (fail)
      go_wp2
      go_roundg (n - (k + 1))
      case measure => omega
      case rel => exact ⟨k + 1, m + nq, by omega, rfl, by go_num, by simp⟩
    · have hki : ¬ (k : Int) < (n : Int) := by omega
      go_wp2
      go_ret
      exact ⟨rfl, drewB B0.out _⟩
/-- The plan that the document tells. -/
def PlX (u : World) (z : Value) : Prop := ∃ x, z = .agg #[.slice (some x) 2 2, .int .i64 4] ∧ AtGn u (some x) [(0, 2), (2, 2)]
theorem PlX.later {u u' : World} {z : Value} (h : PlX u z) (hb : Below u.heap.size u u') : PlX u' z := by
  obtain ⟨x, h1, h2⟩ := h
  exact ⟨x, h1, h2.below hb⟩
theorem clashW (w : World) (x y : Addr) (h : AtN w (some x) netX.arcs) (hz : At w (some y) [0, 1, 1]) : Calls Try.prog 25 #[.agg #[.int .i64 2, .slice (some x) 2 2], .slice (some y) 3 3] w fun e w' => ∃ d c', e = .returned (.tuple #[.slice d 1 c', .int .i64 0]) ∧ AtPp w' d [(0, 1)] ∧ Below w.heap.size w w' :=
  (clashes_anyX netX (some x) 2 w h (by decide) (fun e => by cases e) (some y) 3 [0, 1, 1] hz (by decide)).mono fun e w' hh => by
    obtain ⟨d, c', e1, q1, q2⟩ := hh
    rw [wakeX1.2.1, wakeX1.1] at e1
    rw [wakeX1.2.1] at q1
    exact ⟨d, c', e1, q1.at, q2⟩
theorem placeW (w : World) (x y : Addr) (h : AtN w (some x) netX.arcs) (hz : At w (some y) [0, 1, 1]) : Calls Try.prog 5 #[.agg #[.int .i64 2, .slice (some x) 2 2], .slice (some y) 3 3] w fun e w' => ∃ d c', e = .returned (.tuple #[.agg #[.slice d 2 c', .int .i64 4], .int .i64 0]) ∧ AtGn w' d [(0, 2), (2, 2)] ∧ Below w.heap.size w w' :=
  (place_anyX netX (some x) 2 w h (by decide) (fun e => by cases e) (some y) 3 [0, 1, 1] hz (by decide)).mono fun e w' hh => by
    obtain ⟨d, c', e1, q1, q2⟩ := hh
    rw [wakeX1.2.2.2.1, wakeX1.2.2.2.2, wakeX1.2.2.1] at e1
    rw [wakeX1.2.2.2.1] at q1
    exact ⟨d, c', e1, q1.at, q2⟩
theorem placeW2 (w : World) (x y : Addr) (h : AtN w (some x) netX.arcs) (hz : At w (some y) [0, 1]) : Calls Try.prog 5 #[.agg #[.int .i64 2, .slice (some x) 2 2], .slice (some y) 2 2] w fun e w' => ∃ d c', e = .returned (.tuple #[.agg #[.slice d 0 c', .int .i64 0], .int .i64 181]) ∧ Below w.heap.size w w' :=
  (place_anyX netX (some x) 2 w h (by decide) (fun e => by cases e) (some y) 2 [0, 1] hz (by decide)).mono fun e w' hh => by
    obtain ⟨d, c', e1, q1, q2⟩ := hh
    rw [wakeX2.2.1, wakeX2.2.2.1, wakeX2.1] at e1
    exact ⟨d, c', e1, q2⟩
theorem checkW (w : World) (x y : Addr) (h : AtN w (some x) netX.arcs) (hz : At w (some y) [0, 1, 1]) (p : Addr) (hp : AtGn w (some p) [(0, 2), (1, 2)]) : Calls Try.prog 12 #[.agg #[.int .i64 2, .slice (some x) 2 2], .agg #[.slice (some p) 2 2, .int .i64 3], .slice (some y) 3 3] w fun e w' => e = .returned (.int .i64 192) ∧ Below w.heap.size w w' :=
  (check_anyX netX (some x) 2 w h (by decide) (fun e => by cases e) (some y) 3 [0, 1, 1] hz (by decide) (some p) 2 2 [(0, 2), (1, 2)] 3 hp rfl).mono fun e w' ⟨e1, q⟩ => ⟨by rw [wakeX2.2.2.2.1] at e1; exact e1, q⟩
theorem checkW2 (w : World) (x y : Addr) (h : AtN w (some x) netX.arcs) (hz : At w (some y) [0, 1, 1]) (p : Addr) (hp : AtGn w (some p) [(3, 2), (0, 3)]) : Calls Try.prog 12 #[.agg #[.int .i64 2, .slice (some x) 2 2], .agg #[.slice (some p) 2 2, .int .i64 5], .slice (some y) 3 3] w fun e w' => e = .returned (.int .i64 0) ∧ Below w.heap.size w w' :=
  (check_anyX netX (some x) 2 w h (by decide) (fun e => by cases e) (some y) 3 [0, 1, 1] hz (by decide) (some p) 2 2 [(3, 2), (0, 3)] 5 hp rfl).mono fun e w' ⟨e1, q⟩ => ⟨by rw [wakeX2.2.2.2.2] at e1; exact e1, q⟩
set_option maxRecDepth 100000 in
set_option maxHeartbeats 16000000 in
theorem awakeX (w : World) : Calls Try.prog 10 #[] w fun e w' => e = .returned (.bool true) ∧ Below w.heap.size w w' := by
  have mixed : Try.prog.follows .mixedOrders = true := by kernel_rfl
  have LW0 := hiddenN (Below.refl w.heap.size w)
  go_enter Try.func10, Try.ntmps10
  go_upto_region 2 with (first
    | (go_at_call 26; (with_reducible refine (two_anyX w).mono ?_); rintro e X1 ⟨x1, rfl, h, b⟩; have HH := hiddenN h; have LB := hiddenN b; have aA := (Below.refl X1.heap.size X1).alloc (Nat.le_refl _) (.cells #[.int .i64 0, .int .i64 1, .int .i64 1] 3); have CC := hiddenN (clashW (X1.alloc (.cells #[.int .i64 0, .int .i64 1, .int .i64 1] 3)) x1 ⟨X1.heap.size, 0, none⟩ (h.below aA) (at_allocV3 X1 0 1 1)); have LL := hiddenN (b.trans (aA.mono b.size)); clear aA; clear h b)
    | (go_at_call 25; (with_reducible refine CC.out.mono ?_); rintro e W1 ⟨pd, pc, rfl, q1, b⟩; have MW1 := hiddenN (LL.out.trans (b.mono LL.out.size)); have PD := hiddenN q1; have LW1 := hiddenN (LW0.out.trans (MW1.out.mono LW0.out.size)); clear q1; clear b CC LL HH LB))
  go_upto_region 3 with (first
    | (go_at_call 26; (with_reducible refine (two_anyX W1).mono ?_); rintro e X2 ⟨x2, rfl, h, b⟩; have HH := hiddenN h; have LB := hiddenN b; have aA := (Below.refl X2.heap.size X2).alloc (Nat.le_refl _) (.cells #[.int .i64 0, .int .i64 1, .int .i64 1] 3); have CC := hiddenN (placeW (X2.alloc (.cells #[.int .i64 0, .int .i64 1, .int .i64 1] 3)) x2 ⟨X2.heap.size, 0, none⟩ (h.below aA) (at_allocV3 X2 0 1 1)); have LL := hiddenN (b.trans (aA.mono b.size)); clear aA; clear h b)
    | (go_at_call 5; (with_reducible refine CC.out.mono ?_); rintro e W2 ⟨dp, cp, rfl, q1, b⟩; have MW2 := hiddenN (LL.out.trans (b.mono LL.out.size)); have PA2 := hiddenN q1; have PD2 := hiddenN (PD.out.below MW2.out); have LW2 := hiddenN (LW1.out.trans (MW2.out.mono LW1.out.size)); clear q1; clear b CC LL HH LB))
  have XA := (Below.refl W2.heap.size W2).alloc (Nat.le_refl _) (.cells #[.slice dp 2 cp, .int .i64 4] 28)
  have BX := hiddenN (blkA_new 28 W2 #[.slice dp 2 cp, .int .i64 4])
  have PA2' := hiddenN (PA2.out.below XA)
  have PD2' := hiddenN (PD2.out.below XA)
  have LW2' := hiddenN (LW2.out.trans (XA.mono LW2.out.size))
  clear XA PA2 PD2
  obtain ⟨xb, hxb⟩ : ∃ q, W2.heap.size = q := ⟨_, rfl⟩
  generalize W2.alloc (.cells #[.slice dp 2 cp, .int .i64 4] 28) = W2a at *
  rw [hxb] at BX ⊢
  clear hxb
  go_upto_region 4 with (first
    | (go_at_call 26; (with_reducible refine (two_anyX W2a).mono ?_); rintro e X3 ⟨x3, rfl, h, b⟩; have HH := hiddenN h; have LB := hiddenN b; have aA := (Below.refl X3.heap.size X3).alloc (Nat.le_refl _) (.cells #[.int .i64 0, .int .i64 1] 3); have CC := hiddenN (placeW2 (X3.alloc (.cells #[.int .i64 0, .int .i64 1] 3)) x3 ⟨X3.heap.size, 0, none⟩ (h.below aA) (at_alloc2 X3 0 1)); have LL := hiddenN (b.trans (aA.mono b.size)); clear aA; clear h b)
    | (go_at_call 5; (with_reducible refine CC.out.mono ?_); rintro e W3 ⟨dp3, cp3, rfl, b⟩; have MW3 := hiddenN (LL.out.trans (b.mono LL.out.size)); have PA3 := hiddenN (PA2'.out.below MW3.out); have PD3 := hiddenN (PD2'.out.below MW3.out); have BX3 := hiddenN (BX.out.below MW3.out); have LW3 := hiddenN (LW2'.out.trans (MW3.out.mono LW2'.out.size)); clear b CC LL HH LB))
  have XA := (Below.refl W3.heap.size W3).alloc (Nat.le_refl _) (.cells #[.slice dp3 0 cp3, .int .i64 0] 28)
  have PA3' := hiddenN (PA3.out.below XA)
  have PD3' := hiddenN (PD3.out.below XA)
  have BX3' := hiddenN (BX3.out.below XA)
  have LW3' := hiddenN (LW3.out.trans (XA.mono LW3.out.size))
  clear XA PA3 PD3 BX3
  generalize W3.alloc (.cells #[.slice dp3 0 cp3, .int .i64 0] 28) = W3a at *
  go_upto_region 5 with (first
    | (go_at_call 26; (with_reducible refine (two_anyX W3a).mono ?_); rintro e X4 ⟨x4, rfl, h, b⟩; have HH := hiddenN h; have LB := hiddenN b; clear h b)
    | (go_at_call 27; (with_reducible refine (plan_anyX 0 2 1 2 3 X4).mono ?_); rintro e Y4 ⟨y4, rfl, q1, b⟩; have aA := (Below.refl Y4.heap.size Y4).alloc (Nat.le_refl _) (.cells #[.int .i64 0, .int .i64 1, .int .i64 1] 3); have CC := hiddenN (checkW (Y4.alloc (.cells #[.int .i64 0, .int .i64 1, .int .i64 1] 3)) x4 ⟨Y4.heap.size, 0, none⟩ ((HH.out.below b).below aA) (at_allocV3 Y4 0 1 1) y4 (q1.below aA)); have LL := hiddenN (LB.out.trans ((b.trans (aA.mono b.size)).mono LB.out.size)); clear b q1 aA)
    | (go_at_call 12; (with_reducible refine CC.out.mono ?_); rintro e W4 ⟨rfl, b⟩; have MW4 := hiddenN (LL.out.trans (b.mono LL.out.size)); have PA4 := hiddenN (PA3'.out.below MW4.out); have PD4 := hiddenN (PD3'.out.below MW4.out); have BX4 := hiddenN (BX3'.out.below MW4.out); have LW4 := hiddenN (LW3'.out.trans (MW4.out.mono LW3'.out.size)); clear b CC LL HH LB))
  go_upto_region 6 with (first
    | (go_at_call 26; (with_reducible refine (two_anyX W4).mono ?_); rintro e X5 ⟨x5, rfl, h, b⟩; have HH := hiddenN h; have LB := hiddenN b; clear h b)
    | (go_at_call 27; (with_reducible refine (plan_anyX 3 2 0 3 5 X5).mono ?_); rintro e Y5 ⟨y5, rfl, q1, b⟩; have aA := (Below.refl Y5.heap.size Y5).alloc (Nat.le_refl _) (.cells #[.int .i64 0, .int .i64 1, .int .i64 1] 3); have CC := hiddenN (checkW2 (Y5.alloc (.cells #[.int .i64 0, .int .i64 1, .int .i64 1] 3)) x5 ⟨Y5.heap.size, 0, none⟩ ((HH.out.below b).below aA) (at_allocV3 Y5 0 1 1) y5 (q1.below aA)); have LL := hiddenN (LB.out.trans ((b.trans (aA.mono b.size)).mono LB.out.size)); clear b q1 aA)
    | (go_at_call 12; (with_reducible refine CC.out.mono ?_); rintro e W5 ⟨rfl, b⟩; have MW5 := hiddenN (LL.out.trans (b.mono LL.out.size)); have PA := hiddenN (PA4.out.below MW5.out); have PD5 := hiddenN (PD4.out.below MW5.out); have BX5 := hiddenN (BX4.out.below MW5.out); have LW5 := hiddenN (LW4.out.trans (MW5.out.mono LW4.out.size)); clear b CC LL HH LB))
  obtain ⟨pb, po, hpd, hc⟩ : ∃ b off, pd = some ⟨b, off, none⟩ ∧ ∀ k, k < 1 → W5.cell? ⟨b, off + k * 2, none⟩ = some (.int .i64 (nthX [(0, 1)] k).1) ∧ W5.cell? ⟨b, off + k * 2 + 1, none⟩ = some (.int .i64 (nthX [(0, 1)] k).2) := by
    rcases PD5.out with e | ⟨b, off, e, hc⟩
    · cases e
    · exact ⟨b, off, e, hc⟩
  subst hpd
  have l0 : W5.cell? ⟨pb, po, none⟩ = some (.int .i64 0) := (hc 0 (by decide)).1
  have l1 : W5.cell? ⟨pb, po + 1, none⟩ = some (.int .i64 1) := (hc 0 (by decide)).2
  have u0 : W5.cell? ⟨xb, 0, none⟩ = some (.slice dp 2 cp) := BX5.out.cell rfl
  have u1 : W5.cell? ⟨xb, 1, none⟩ = some (.int .i64 4) := BX5.out.cell rfl
  have hgd : ∀ (op : BinOp) (a b : Operand) (xs ys : Array Value) (w : World), Sem.run Try.prog (eqGuard op 73 a b (.agg xs) (.agg ys)) w = .ok () w := Try.eqgPp
  have heq : ∀ w, Sem.run Try.prog (binOp .eql 73 (.agg #[.int .i64 0, .int .i64 1]) (.agg #[.int .i64 0, .int .i64 1])) w = .ok (.bool true) w := fun w => by rw [Try.eqlPp]; rfl
  clear LW0 LW1 LW2 LW2' LW3 LW3' LW4 MW1 MW2 MW3 MW4 MW5 PD PA2' PD2' PA3' PD3' BX3' BX BX4 PA4 PD4 PD5 BX5 hc
  refine wp_region_gen [] (fun d i u z => match i with
      | 0 => z = .slice (some ⟨pb, po, none⟩) 1 pc
      | 1 => z = .int .i64 1
      | 2 => z = .bool true
      | 3 => z = .bool true
      | 4 => z = .slice (some ⟨pb, po, none⟩) 1 pc
      | 5 => z = .pointer (some ⟨pb, po, none⟩)
      | 6 => z = .agg #[.int .i64 0, .int .i64 1]
      | 7 => z = .agg #[.int .i64 0, .int .i64 1]
      | 8 => z = .bool true
      | 9 => z = .bool true
      | 10 => z = .bool true
      | 11 => z = .agg #[.slice dp 2 cp, .int .i64 4]
      | 12 => PlX u z
      | 13 => z = .bool true
      | 14 => z = .bool true
      | 15 => z = .bool true
      | _ => True) (fun _ u => Below W5.heap.size W5 u) (by kernel_rfl) (by kernel_rfl) (by kernel_rfl) ?_ ?_ ?_ ?_ ?_ ?_ (by kernel_rfl)
  · intro d i w v w' h hb
    match i, h with
    | 0, h => exact h
    | 1, h => exact h
    | 2, h => exact h
    | 3, h => exact h
    | 4, h => exact h
    | 5, h => exact h
    | 6, h => exact h
    | 7, h => exact h
    | 8, h => exact h
    | 9, h => exact h
    | 10, h => exact h
    | 11, h => exact h
    | 12, h => exact h.later hb
    | 13, h => exact h
    | 14, h => exact h
    | 15, h => exact h
    | _ + 16, _ => trivial
  · intro d u u' h hb
    exact h.trans (hb.mono h.size)
  · exact Below.refl _ _
  · intro d i o ρ w' hm ho hf hg hC hcs hfs hfr hdep
    match i, hm, ho, hf, hg, hfr, hdep with
    | 0, _, ho, hf, hg, hfr, hdep =>
      simp only [gTA, gCZ, gSI] at ho
      subst ho
      refine ⟨fun _ => ?_, fun hw => absurd (show true = false from hw) (by decide)⟩
      have ts : ρ (.tmp 1) = .slice (some ⟨pb, po, none⟩) 1 pc := hfr 1 (by kernel_rfl)
      simp [go_sem, ts]
      exact ⟨Below.refl _ _, rfl⟩
    | 1, _, ho, hf, hg, hfr, hdep =>
      simp only [gTA, gCZ, gCS, gSI] at ho
      subst ho
      refine ⟨fun _ => ?_, fun hw => absurd (show true = false from hw) (by decide)⟩
      have d0 : ρ (.tmp 36) = .slice (some ⟨pb, po, none⟩) 1 pc := hdep 0 36 (by kernel_rfl) (by kernel_rfl)
      simp [go_sem, d0]
      exact ⟨Below.refl _ _, rfl⟩
    | 2, _, ho, hf, hg, hfr, hdep =>
      simp only [gTA, gCZ, gCS, gSI] at ho
      subst ho
      refine ⟨fun _ => ?_, fun hw => absurd (show true = false from hw) (by decide)⟩
      have d0 : ρ (.tmp 37) = .int .i64 1 := hdep 1 37 (by kernel_rfl) (by kernel_rfl)
      simp [go_sem, d0, hcs]
      exact ⟨Below.refl _ _, rfl⟩
    | 3, _, ho, hf, hg, hfr, hdep =>
      simp only [gTA, gCZ, gCS, gSI] at ho
      subst ho
      refine ⟨fun _ => ?_, fun hw => absurd (show true = false from hw) (by decide)⟩
      have d0 : ρ (.tmp 38) = .bool true := hdep 2 38 (by kernel_rfl) (by kernel_rfl)
      simp [go_sem, d0]
      exact ⟨Below.refl _ _, rfl⟩
    | 4, _, ho, hf, hg, hfr, hdep =>
      simp only [gTA, gCZ, gCS, gSI] at ho
      subst ho
      have gd : ρ (.tmp 39) = .bool true := hdep 3 39 (by kernel_rfl) (by kernel_rfl)
      refine ⟨fun _ => ?_, fun hw => absurd (show (match ρ (.tmp 39) with | .bool c => c == true | _ => false) = false from hw) (by rw [gd]; decide)⟩
      clear gd
      have ts : ρ (.tmp 1) = .slice (some ⟨pb, po, none⟩) 1 pc := hfr 1 (by kernel_rfl)
      simp [go_sem, ts]
      exact ⟨Below.refl _ _, rfl⟩
    | 5, _, ho, hf, hg, hfr, hdep =>
      simp only [gTA, gCZ, gCS, gSI] at ho
      subst ho
      have gd : ρ (.tmp 39) = .bool true := hdep 3 39 (by kernel_rfl) (by kernel_rfl)
      refine ⟨fun _ => ?_, fun hw => absurd (show (match ρ (.tmp 39) with | .bool c => c == true | _ => false) = false from hw) (by rw [gd]; decide)⟩
      clear gd
      have d0 : ρ (.tmp 40) = .slice (some ⟨pb, po, none⟩) 1 pc := hdep 4 40 (by kernel_rfl) (by kernel_rfl)
      simp [go_sem, d0, hcs]
      exact ⟨Below.refl _ _, rfl⟩
    | 6, _, ho, hf, hg, hfr, hdep =>
      simp only [gTA, gCZ, gCS, gSI] at ho
      subst ho
      have gd : ρ (.tmp 39) = .bool true := hdep 3 39 (by kernel_rfl) (by kernel_rfl)
      refine ⟨fun _ => ?_, fun hw => absurd (show (match ρ (.tmp 39) with | .bool c => c == true | _ => false) = false from hw) (by rw [gd]; decide)⟩
      clear gd
      have k0 := cellN_later hC l0
      have k1 := cellN_later hC l1
      have d0 : ρ (.tmp 41) = .pointer (some ⟨pb, po, none⟩) := hdep 5 41 (by kernel_rfl) (by kernel_rfl)
      simp [go_sem, d0, k0, k1]
      exact ⟨Below.refl _ _, rfl⟩
    | 7, _, ho, hf, hg, hfr, hdep =>
      simp only [gTA, gCZ, gCS, gSI] at ho
      subst ho
      have gd : ρ (.tmp 39) = .bool true := hdep 3 39 (by kernel_rfl) (by kernel_rfl)
      refine ⟨fun _ => ?_, fun hw => absurd (show (match ρ (.tmp 39) with | .bool c => c == true | _ => false) = false from hw) (by rw [gd]; decide)⟩
      clear gd
      simp [go_sem, hcs]
      exact ⟨Below.refl _ _, rfl⟩
    | 8, _, ho, hf, hg, hfr, hdep =>
      simp only [gTA, gCZ, gCS, gSI] at ho
      subst ho
      have gd : ρ (.tmp 39) = .bool true := hdep 3 39 (by kernel_rfl) (by kernel_rfl)
      refine ⟨fun _ => ?_, fun hw => absurd (show (match ρ (.tmp 39) with | .bool c => c == true | _ => false) = false from hw) (by rw [gd]; decide)⟩
      clear gd
      have t0 : ρ (.tmp 42) = .agg #[.int .i64 0, .int .i64 1] := hdep 6 42 (by kernel_rfl) (by kernel_rfl)
      have t1 : ρ (.tmp 43) = .agg #[.int .i64 0, .int .i64 1] := hdep 7 43 (by kernel_rfl) (by kernel_rfl)
      simp [go_sem, t0, t1, heq, hgd]
      exact ⟨Below.refl _ _, rfl⟩
    | 9, _, ho, hf, hg, hfr, hdep =>
      simp only [gTA, gCZ, gCS, gSI] at ho
      subst ho
      refine ⟨fun _ => ?_, fun hw => absurd (show true = false from hw) (by decide)⟩
      have d0 : ρ (.tmp 39) = .bool true := hdep 3 39 (by kernel_rfl) (by kernel_rfl)
      have d1 : ρ (.tmp 44) = .bool true := hdep 8 44 (by kernel_rfl) (by kernel_rfl)
      simp [go_sem, d0, d1]
      exact ⟨Below.refl _ _, rfl⟩
    | 10, _, ho, hf, hg, hfr, hdep =>
      simp only [gTA, gCZ, gCS, gSI] at ho
      subst ho
      refine ⟨fun _ => ?_, fun hw => absurd (show true = false from hw) (by decide)⟩
      have d0 : ρ (.tmp 45) = .bool true := hdep 9 45 (by kernel_rfl) (by kernel_rfl)
      simp [go_sem, d0]
      exact ⟨Below.refl _ _, rfl⟩
    | 11, _, ho, hf, hg, hfr, hdep =>
      simp only [gTA, gCZ, gCS, gSI] at ho
      subst ho
      have gd : ρ (.tmp 46) = .bool true := hdep 10 46 (by kernel_rfl) (by kernel_rfl)
      refine ⟨fun _ => ?_, fun hw => absurd (show (match ρ (.tmp 46) with | .bool c => c == true | _ => false) = false from hw) (by rw [gd]; decide)⟩
      clear gd
      have ts : ρ (.tmp 3) = .pointer (some ⟨xb, 0, none⟩) := hfr 3 (by kernel_rfl)
      have k0 := cellN_later hC u0
      have k1 := cellN_later hC u1
      simp [go_sem, ts, k0, k1]
      exact ⟨Below.refl _ _, rfl⟩
    | 12, _, ho, hf, hg, hfr, hdep =>
      simp only [gTA, gCZ, gCS, gSI] at ho
      subst ho
      have gd : ρ (.tmp 46) = .bool true := hdep 10 46 (by kernel_rfl) (by kernel_rfl)
      refine ⟨fun _ => ?_, fun hw => absurd (show (match ρ (.tmp 46) with | .bool c => c == true | _ => false) = false from hw) (by rw [gd]; decide)⟩
      clear gd
      simp [go_sem, hcs, hfs]
      exact ⟨rfl, (plan_anyX 0 2 2 2 4 w').mono fun e w'' ⟨x, e1, q1, q2⟩ => ⟨_, e1, q2, x, rfl, q1⟩⟩
    | 13, _, ho, hf, hg, hfr, hdep =>
      simp only [gTA, gCZ, gCS, gSI] at ho
      subst ho
      have gd : ρ (.tmp 46) = .bool true := hdep 10 46 (by kernel_rfl) (by kernel_rfl)
      refine ⟨fun _ => ?_, fun hw => absurd (show (match ρ (.tmp 46) with | .bool c => c == true | _ => false) = false from hw) (by rw [gd]; decide)⟩
      clear gd
      have t0 : ρ (.tmp 47) = .agg #[.slice dp 2 cp, .int .i64 4] := hdep 11 47 (by kernel_rfl) (by kernel_rfl)
      obtain ⟨x, t1, q1⟩ : PlX w' (ρ (.tmp 48)) := hdep 12 48 (by kernel_rfl) (by kernel_rfl)
      simp [go_sem, t0, t1, hfs]
      exact ⟨rfl, (same_planX dp (some x) 2 cp 2 [(0, 2), (2, 2)] 4 w' (PA.out.below hC) q1 rfl (by decide)).mono fun e w'' ⟨e1, b⟩ => ⟨_, e1, b, rfl⟩⟩
    | 14, _, ho, hf, hg, hfr, hdep =>
      simp only [gTA, gCZ, gCS, gSI] at ho
      subst ho
      refine ⟨fun _ => ?_, fun hw => absurd (show true = false from hw) (by decide)⟩
      have d0 : ρ (.tmp 46) = .bool true := hdep 10 46 (by kernel_rfl) (by kernel_rfl)
      have d1 : ρ (.tmp 49) = .bool true := hdep 13 49 (by kernel_rfl) (by kernel_rfl)
      simp [go_sem, d0, d1]
      exact ⟨Below.refl _ _, rfl⟩
    | 15, _, ho, hf, hg, hfr, hdep =>
      simp only [gTA, gCZ, gCS, gSI] at ho
      subst ho
      refine ⟨fun _ => ?_, fun hw => absurd (show true = false from hw) (by decide)⟩
      have d0 : ρ (.tmp 50) = .bool true := hdep 14 50 (by kernel_rfl) (by kernel_rfl)
      simp [go_sem, d0]
      exact ⟨Below.refl _ _, rfl⟩
    | n + 16, _, ho, _, _, _, _ => simp at ho
  · intro d i o ρ w' hm ho h0 hf hg hC hcs hfs hfr hdep
    exact absurd hm (by simp)
  · intro V w9 hC9 hS
    have e15 : V 15 = .bool true := hS 15 (by decide) (by intro h; cases h)
    simp only [puts, e15]
    simp only [Act.put, List.setIfInBounds_toArray, List.set_cons_zero, List.set_cons_succ]
    clear hS e15
    have LF := hiddenN (LW5.out.trans (hC9.mono LW5.out.size))
    clear hC9
    go_wp2
    go_ret
    exact ⟨by first | rfl | simp, LF.out⟩
theorem sumR_fewT {S : Nat → Int} (h : ∀ i, 0 ≤ S i ∧ S i ≤ 1000000) : ∀ m : Nat, 0 ≤ sumR S m ∧ sumR S m ≤ 1000000 * (m : Int)
  | 0 => ⟨Int.le_refl _, Int.le_refl _⟩
  | m + 1 => by obtain ⟨h1, h2⟩ := sumR_fewT h m; have := h m; rw [sumR]; omega
def cntT (S : Nat → Int) (m : Nat) : Nat := ((List.range m).filter fun i => decide (0 < S i)).length
theorem plaE_zero {n : NN} {zs : List Int} (h : plaC n zs = 0) : dmC n zs = 0 ∧ codeV n zs = 0 ∧ homeB n zs = true ∧ celP (plnV (mostM n zs) (rowsV n (startT n) zs)) ≤ 1024 := by
  have q := h
  unfold plaC at q
  by_cases h0 : dmC n zs = 0
  · rw [if_pos h0] at q
    obtain ⟨h1, h2⟩ := dm_zero h0
    by_cases h3 : 1024 < celP (plnV (mostM n zs) (rowsV n (startT n) zs))
    · rw [if_pos h3] at q; cases q
    · exact ⟨h0, h1, h2, by omega⟩
  · rw [if_neg h0] at q; exact absurd q h0
/-- One pair of clashing arcs says that the base of arc i is an end. -/
def HitT (CL L : List (Int × Int)) (i k : Nat) : Prop := ∃ p1 p2 : Nat, nthX CL k = ((p1 : Int), (p2 : Int)) ∧ (p1 = i ∧ (nthX L p2).1 + (nthX L p2).2 = (nthX L i).1 ∨ p2 = i ∧ (nthX L p1).1 + (nthX L p1).2 = (nthX L i).1)
structure PlnT (m q : Nat) (S B : Nat → Int) (CL L : List (Int × Int)) (tot : Int) : Prop where
  fewM : m ≤ 96
  fewQ : q ≤ 1000000
  lenL : L.length = m
  lenC : CL.length = q
  totL : tot ≤ 1024
  size : ∀ i, 0 ≤ S i ∧ S i ≤ 1000000
  reg : ∀ i, i < m → nthX L i = (B i, S i) ∧ 0 ≤ B i ∧ B i + S i ≤ tot
  prs : ∀ k, k < q → ∃ p1 p2 : Nat, nthX CL k = ((p1 : Int), (p2 : Int)) ∧ p1 < p2 ∧ p2 < m
  tight : ∀ i, i < m → B i = 0 ∨ ∃ k, k < q ∧ HitT CL L i k
  hit : tot = 0 ∨ ∃ i, i < m ∧ tot = B i + S i
  sum : tot ≤ sumR S m
  none : q = 0 → tot = 0 ∨ ∃ i, i < m ∧ tot = S i
  full : 2 * q + cntT S m = cntT S m * cntT S m → tot = sumR S m
theorem max_pos {R : List (List Int)} {r : List Int} {i : Nat} (hr : r ∈ R) (h : 0 < nth r i) : 0 < maxV R i := by
  have := (maxV_from i R 0).2.1 r hr
  unfold maxV; omega
theorem row_inT {n : NN} {zs : List Int} {r : List Int} (hr : r ∈ rowsV n (startT n) zs) : r.length = n.arcs.length := by
  obtain ⟨k, hk, e⟩ := List.getElem_of_mem hr
  rw [rows_len] at hk
  have q := row_lenV (n := n) (T := startT n) (zs := zs) (k := k) (by omega)
  have e2 : nthLV (rowsV n (startT n) zs) k = r := by
    unfold nthLV
    rw [List.getD_eq_getElem?_getD, List.getElem?_eq_getElem (by rw [rows_len]; omega), e]
    rfl
  rw [e2, start_len] at q
  exact q
theorem nth_inT {r : List Int} {i : Nat} (h : 0 < nth r i) : i < r.length := by
  by_cases q : i < r.length
  · exact q
  · unfold nth at h
    rw [List.getD_eq_getElem?_getD, List.getElem?_eq_none (by omega)] at h
    exact absurd h (by decide)
theorem DonP.likeT {S : Nat → Int} {near near' : Nat → Nat → Bool} {m : Nat} {P : List (Nat × Int)} (h : DonP S near m P) (hn : ∀ i j, i ≠ j → near i j = near' i j) : DonP S near' m P := ⟨h.1.like h.2.1 fun i _ j _ hij => hn i j hij, h.2.1, h.2.2.1, h.2.2.2⟩
theorem plnT_of {n : NN} {zs : List Int} (h : plaC n zs = 0) : PlnT n.arcs.length (cloL n zs).length (nth (mostM n zs)) (basP (plcA (mostM n zs) (rowsV n (startT n) zs))) (cloL n zs) (plaL n zs) (plaT n zs) := by
  obtain ⟨h0, hc, hh, ht⟩ := plaE_zero h
  have hS0 : ∀ i, 0 ≤ nth (mostM n zs) i := fun i => (peaks_few hc i).1
  have hD := plnV_don hS0 (rowsV n (startT n) zs)
  have hml := mostM_len n zs
  have eL : plaL n zs = plnP (nth (mostM n zs)) (plcA (mostM n zs) (rowsV n (startT n) zs)) (mostM n zs).length := by unfold plaL; rw [if_pos h]; rfl
  have eT : plaT n zs = celP (plnP (nth (mostM n zs)) (plcA (mostM n zs) (rowsV n (startT n) zs)) (mostM n zs).length) := by unfold plaT; rw [if_pos h]; rfl
  have eC : cloL n zs = (prsV (cloV (rowsV n (startT n) zs)) n.arcs.length).map prI := if_pos hc
  have eq : (cloL n zs).length = (prsV (cloV (rowsV n (startT n) zs)) n.arcs.length).length := by rw [eC, List.length_map]
  have hpos : ∀ i j, cloV (rowsV n (startT n) zs) i j = true → 0 < nth (mostM n zs) i ∧ 0 < nth (mostM n zs) j := fun i j hij => by
    obtain ⟨r, hr, h1, h2⟩ := cloV_iff.1 hij
    have hl := row_inT hr
    have l1 := nth_inT h1
    have l2 := nth_inT h2
    rw [mostM_nth (by omega), mostM_nth (by omega)]
    exact ⟨max_pos hr h1, max_pos hr h2⟩
  have hD2 := hD.likeT (near' := fun i j => cloV (rowsV n (startT n) zs) i j && decide (i ≠ j)) fun i j hij => by simp [hij]
  have hm96 := (check_sound (code_zero hc).1).most
  have hreg : ∀ i, i < n.arcs.length → nthX (plaL n zs) i = (basP (plcA (mostM n zs) (rowsV n (startT n) zs)) i, nth (mostM n zs) i) := fun i hi => by
    rw [eL]; exact nthX_at (plnP_at (by rw [hml]; exact hi))
  have hprs : ∀ k p, (prsV (cloV (rowsV n (startT n) zs)) n.arcs.length)[k]? = some p → nthX (cloL n zs) k = ((p.1 : Int), (p.2 : Int)) := fun k p hp => nthX_at (by rw [eC, List.getElem?_map, hp]; rfl)
  have hidx : ∀ i j, i < j → j < n.arcs.length → cloV (rowsV n (startT n) zs) i j = true → ∃ k, k < (cloL n zs).length ∧ nthX (cloL n zs) k = ((i : Int), (j : Int)) := fun i j hij hj hcl => by
    obtain ⟨k, hk, e⟩ := List.getElem_of_mem ((mem_prsV (p := (i, j))).2 ⟨hij, hj, hcl⟩)
    exact ⟨k, by rw [eq]; exact hk, hprs k (i, j) (by rw [List.getElem?_eq_getElem hk, e])⟩
  refine ⟨hm96, cloL_few hc (cloL n zs) [] (List.append_nil _), by rw [eL, plnP_len, hml], rfl, by rw [eT]; exact ht, peaks_few hc, fun i hi => ⟨hreg i hi, ?_⟩, fun k hk => ?_, fun i hi => ?_, ?_, ?_, fun hq => ?_, fun hq => ?_⟩
  · rw [eT]; exact hD.ge (by rw [hml]; exact hi)
  · rw [eq] at hk
    have hp := List.getElem?_eq_getElem hk
    have hm := mem_prsV.1 (List.mem_of_getElem? hp)
    exact ⟨_, _, hprs k _ hp, hm.1, hm.2.1⟩
  · rcases hD.tight (by rw [hml]; exact hi) with e | ⟨j, hj, hn, e⟩
    · exact .inl e
    · rw [hml] at hj
      have hp := hpos i j hn
      have hne : i ≠ j := fun q => by subst q; omega
      refine .inr ?_
      by_cases hij : i < j
      · obtain ⟨k, hk, ek⟩ := hidx i j hij hj hn
        refine ⟨k, hk, i, j, ek, .inl ⟨rfl, ?_⟩⟩
        rw [hreg i hi, hreg j hj]; exact e.symm
      · obtain ⟨k, hk, ek⟩ := hidx j i (by omega) hi (by rw [cloV_swap]; exact hn)
        refine ⟨k, hk, j, i, ek, .inr ⟨rfl, ?_⟩⟩
        rw [hreg i hi, hreg j hj]; exact e.symm
  · rw [eT]
    rcases celP_hit (plnP (nth (mostM n zs)) (plcA (mostM n zs) (rowsV n (startT n) zs)) (mostM n zs).length) with e | ⟨x, hx, e⟩
    · exact .inl e
    · obtain ⟨i, hi, e2⟩ := List.getElem_of_mem hx
      rw [plnP_len] at hi
      have q := plnP_at (S := nth (mostM n zs)) (P := plcA (mostM n zs) (rowsV n (startT n) zs)) hi
      rw [List.getElem?_eq_getElem (by rw [plnP_len]; exact hi), e2] at q
      cases q
      exact .inr ⟨i, by rw [← hml]; exact hi, e⟩
  · rw [eT, ← hml]; exact hD.le hS0
  · rw [eq] at hq
    have hnil := List.eq_nil_of_length_eq_zero hq
    have hno : ∀ i j, i < (mostM n zs).length → j < (mostM n zs).length → (cloV (rowsV n (startT n) zs) i j && decide (i ≠ j)) = false := fun i j hi hj => by
      rw [hml] at hi hj
      cases hb : cloV (rowsV n (startT n) zs) i j with
      | false => rfl
      | true =>
        by_cases hij : i < j
        · have := (mem_prsV (p := (i, j))).2 ⟨hij, hj, hb⟩
          rw [hnil] at this; cases this
        · by_cases hji : j < i
          · have := (mem_prsV (c := cloV (rowsV n (startT n) zs)) (p := (j, i))).2 ⟨hji, hi, (cloV_swap _ _ _).trans hb⟩
            rw [hnil] at this; cases this
          · have e : i = j := by omega
            simp [e]
    rw [eT, ← hml]; exact hD2.none hno
  · rw [eq] at hq
    have hf := prs_full (c := cloV (rowsV n (startT n) zs)) (f := fun i => decide (0 < nth (mostM n zs) i)) (fun i j hij => ⟨decide_eq_true (hpos i j hij).1, decide_eq_true (hpos i j hij).2⟩) n.arcs.length hq
    rw [eT]
    have q := hD.full hS0 (fun i j hi hj hne h1 h2 => by
      rw [hml] at hi hj
      by_cases hij : i < j
      · exact hf i j hij hj (decide_eq_true h1) (decide_eq_true h2)
      · rw [cloV_swap]
        exact hf j i (by omega) hi (decide_eq_true h2) (decide_eq_true h1))
    rw [hml] at q
    rw [hml]
    exact q
theorem nthLV_inO {R : List (List Int)} {k : Nat} (h : k < R.length) : nthLV R k ∈ R := by
  unfold nthLV
  rw [List.getD_eq_getElem?_getD, List.getElem?_eq_getElem h]
  exact List.getElem_mem h
theorem sumR_eqO {S T : Nat → Int} : ∀ {m : Nat}, (∀ i, i < m → S i = T i) → sumR S m = sumR T m
  | 0, _ => rfl
  | m + 1, h => by rw [sumR, sumR, sumR_eqO fun i hi => h i (Nat.lt_succ_of_lt hi), h m (Nat.lt_succ_self _)]
structure HldT (n : NN) (zs : List Int) (L : List (Int × Int)) (tot : Int) : Prop where
  rows : ∀ k, k ≤ zs.length → ∀ i, i < n.arcs.length → 0 ≤ nth (nthLV (rowsV n (startT n) zs) k) i ∧ nth (nthLV (rowsV n (startT n) zs) k) i ≤ (nthX L i).2
  apart : ∀ k, k ≤ zs.length → ∀ i j, i < n.arcs.length → j < i → 0 < nth (nthLV (rowsV n (startT n) zs) k) i → 0 < nth (nthLV (rowsV n (startT n) zs) k) j → shrB (nthX L i) (nthX L j) = false
  room : ∀ k, k ≤ zs.length → sumR (fun i => if decide (0 < nth (nthLV (rowsV n (startT n) zs) k) i) = true then (nthX L i).2 else 0) n.arcs.length ≤ tot
  chk : chkC n L tot zs = 0
theorem hldT_of {n : NN} {zs : List Int} (h : plaC n zs = 0) : HldT n zs (plaL n zs) (plaT n zs) := by
  obtain ⟨h0, hc, hh, ht⟩ := plaE_zero h
  have hS0 : ∀ i, 0 ≤ nth (mostM n zs) i := fun i => (peaks_few hc i).1
  have hD := plnV_don hS0 (rowsV n (startT n) zs)
  have hml := mostM_len n zs
  have eL : plaL n zs = plnP (nth (mostM n zs)) (plcA (mostM n zs) (rowsV n (startT n) zs)) (mostM n zs).length := by unfold plaL; rw [if_pos h]; rfl
  have eT : plaT n zs = celP (plnP (nth (mostM n zs)) (plcA (mostM n zs) (rowsV n (startT n) zs)) (mostM n zs).length) := by unfold plaT; rw [if_pos h]; rfl
  have hreg : ∀ i, i < n.arcs.length → nthX (plaL n zs) i = (basP (plcA (mostM n zs) (rowsV n (startT n) zs)) i, nth (mostM n zs) i) := fun i hi => by
    rw [eL]; exact nthX_at (plnP_at (by rw [hml]; exact hi))
  have hin : ∀ k, k ≤ zs.length → nthLV (rowsV n (startT n) zs) k ∈ rowsV n (startT n) zs := fun k hk => nthLV_inO (by rw [rows_len]; omega)
  have hclo : ∀ k, k ≤ zs.length → ∀ i j, 0 < nth (nthLV (rowsV n (startT n) zs) k) i → 0 < nth (nthLV (rowsV n (startT n) zs) k) j → cloV (rowsV n (startT n) zs) i j = true := fun k hk i j h1 h2 => cloV_iff.2 ⟨_, hin k hk, h1, h2⟩
  refine ⟨fun k hk i hi => ?_, fun k hk i j hi hj h1 h2 => ?_, fun k hk => ?_, ?_⟩
  · have q := row_few hc (k := k) hk hi
    refine ⟨q.1, ?_⟩
    rw [hreg i hi, mostM_nth hi]
    exact (maxV_from i (rowsV n (startT n) zs) 0).2.1 _ (hin k hk)
  · have hj' : j < n.arcs.length := Nat.lt_trans hj hi
    have hcl := hclo k hk i j h1 h2
    obtain ⟨p, hp, p1, p2⟩ := hD.at (i := i) (by rw [hml]; exact hi)
    obtain ⟨q, hq, q1, q2⟩ := hD.at (i := j) (by rw [hml]; exact hj')
    have hne : p ≠ q := fun e => by rw [e, q1] at p1; omega
    apply Bool.eq_false_iff.2
    intro hs
    have hs' := shrB_iff.1 hs
    rw [hreg i hi, hreg j hj', p2, q2] at hs'
    rcases pair_or hD.1.apart p hp q hq hne with e | e
    · have e2 := e (by rw [p1, q1]; exact hcl)
      rw [p1, q1] at e2
      exact e2 hs'.swap
    · have e2 := e (by rw [p1, q1, cloV_swap]; exact hcl)
      rw [p1, q1] at e2
      exact e2 hs'
  · have q := hD.room hS0 (fun i => decide (0 < nth (nthLV (rowsV n (startT n) zs) k) i)) (fun i j _ _ _ h1 h2 => hclo k hk i j (of_decide_eq_true h1) (of_decide_eq_true h2))
    rw [hml] at q
    rw [eT, hml]
    refine Int.le_trans (Int.le_of_eq (sumR_eqO fun i hi => ?_)) q
    rw [hreg i hi]
  · unfold chkC
    rw [if_pos h0, eL, eT]
    exact chk_place hD.1 hS0 hD.2.1 hD.2.2.2 (by rw [← eT]; unfold plaT; rw [if_pos h]; exact ht)
theorem share_refX (b s b2 s2 : Int) (h : IntKind.i64.wrap (b + s) = b + s) (h2 : IntKind.i64.wrap (b2 + s2) = b2 + s2) (W : World) : Calls Try.prog 11 #[.agg #[.int .i64 b, .int .i64 s], .agg #[.int .i64 b2, .int .i64 s2]] W fun e w' => e = .returned (.bool (shrB (b, s) (b2, s2))) ∧ ∃ q os, w' = Go.Sort.grow (W.drewN q) os := by
  have ER : Hid (shrB (b, s) (b2, s2) = (decide (0 < s) && (decide (0 < s2) && (decide (b < b2 + s2) && decide (b2 < b + s))))) := rfl
  generalize shrB (b, s) (b2, s2) = r at *
  have G1 := hiddenN (blkA_new 41 W #[.int .i64 b, .int .i64 s])
  have G2 := hiddenN (blkA_new 41 (W.alloc (.cells #[.int .i64 b, .int .i64 s] 41)) #[.int .i64 b2, .int .i64 s2])
  have G1' := hiddenN (G1.out.below ((Below.refl _ _).alloc (Nat.le_refl _) (.cells #[.int .i64 b2, .int .i64 s2] 41)))
  have HW : Hid ((W.alloc (.cells #[.int .i64 b, .int .i64 s] 41)).alloc (.cells #[.int .i64 b2, .int .i64 s2] 41) = Go.Sort.grow W #[.cells #[.int .i64 b, .int .i64 s] 41, .cells #[.int .i64 b2, .int .i64 s2] 41]) := by
    show _ = _
    rw [Go.Sort.alloc_eq_grow, Go.Sort.alloc_eq_grow, Go.Sort.grow_grow]; rfl
  have HEND : Hid (∀ v : Bool, v = r → ∃ q os, (W.alloc (.cells #[.int .i64 b, .int .i64 s] 41)).alloc (.cells #[.int .i64 b2, .int .i64 s2] 41) = Go.Sort.grow (W.drewN q) os) := fun _ _ => ⟨0, _, HW.out⟩
  go_enter Try.func11, Try.ntmps11
  go_upto_region 1 with fail
  generalize (W.alloc (.cells #[.int .i64 b, .int .i64 s] 41)).alloc (.cells #[.int .i64 b2, .int .i64 s2] 41) = W2 at *
  have hs2 : (W.alloc (.cells #[.int .i64 b, .int .i64 s] 41)).heap.size = W.heap.size + 1 := World.size_alloc ..
  rw [hs2] at G2
  have z0 := G1'.out.cell (k := 0) rfl
  have z1 := G1'.out.cell (k := 1) rfl
  have y0 := G2.out.cell (k := 0) rfl
  have y1 := G2.out.cell (k := 1) rfl
  simp only [List.getElem_toArray, List.getElem_cons_zero, List.getElem_cons_succ] at z0 z1 y0 y1
  clear hs2 G1 G2 G1' HW
  by_cases c1 : s > 0
  · by_cases c2 : s2 > 0
    · by_cases c3 : b < b2 + s2
      · have e : Hid (r = decide (b2 < b + s)) := by
          show _ = _
          rw [ER.out, decide_eq_true (show 0 < s from c1), decide_eq_true (show 0 < s2 from c2), decide_eq_true c3]; rfl
        go_wp2
        go_ret
        exact ⟨by rw [e.out]; rfl, HEND.out _ rfl⟩
      · have e : Hid (r = false) := by
          show _ = _
          rw [ER.out, decide_eq_false c3]; simp
        go_wp2
        go_ret
        exact ⟨by rw [e.out]; rfl, HEND.out _ rfl⟩
    · have e : Hid (r = false) := by
        show _ = _
        rw [ER.out, decide_eq_false (show ¬ 0 < s2 from c2)]; simp
      go_wp2
      go_ret
      exact ⟨by rw [e.out]; rfl, HEND.out _ rfl⟩
  · have e : Hid (r = false) := by
      show _ = _
      rw [ER.out, decide_eq_false (show ¬ 0 < s from c1)]; simp
    go_wp2
    go_ret
    exact ⟨by rw [e.out]; rfl, HEND.out _ rfl⟩
/-- How Along ends where it goes through: rows, with room for them. -/
def AlgE (R : List (List Int)) (m : Nat) (U : World) (e : Ending) (w' : World) : Prop := ∃ b off rc, e = .returned (.tuple #[.slice (some ⟨b, off, none⟩) m rc, .int .i64 0]) ∧ m ≤ rc ∧ (∀ k, k < m → ∃ y yc, w'.cell? ⟨b, off + k, none⟩ = some (.slice y (nthLV R k).length yc) ∧ At w' y (nthLV R k)) ∧ Below U.heap.size U w'
theorem alongG (n : NN) {zs : List Int} (hc : codeV n zs = 0) (U : World) (x : Addr) (y : Option Addr) (cx cy : Nat) (q1 : AtN U (some x) n.arcs) (hroom : n.arcs.length ≤ 4611686018427387904) (q2 : At U y zs) (hzl : zs.length ≤ 4611686018427387904) :
    Calls Try.prog 8 #[.agg #[.int .i64 n.nodes, .slice (some x) n.arcs.length cx], .slice y zs.length cy] U (AlgE (rowsV n (startT n) zs) (zs.length + 1) U) := (along_any n (some x) cx U q1 hroom (fun e => by cases e) y cy zs q2 hzl).mono fun e w' hh => by
  rcases hh with ⟨-, B, v, e1, -, -, ⟨A, C, q1⟩, q2⟩ | ⟨k1, -⟩
  · obtain ⟨x, rc, rfl⟩ := tabG_shapeV q1
    have q3 := q1.out.tab
    have hr := q1.row
    rw [rows_len] at e1
    rcases q3 with q3 | ⟨g, rfl, -, -, h3, -⟩
    · exact absurd q3 (rows_ne _ _ _)
    · refine ⟨g, 0, rc, e1, ?_, fun k hk => ?_, q2⟩
      · rcases hr.2 with ⟨h, -⟩ | ⟨g', cap, cur, hv, -, -, hc', -⟩
        · cases h
        · cases hv; rw [rows_len] at hc'; exact hc'
      · have hk' : k < (rowsV n (startT n) zs).length := by rw [rows_len]; exact hk
        exact ⟨A k, C k, by rw [Nat.zero_add]; exact h3 k hk', (q1.rows k hk').at⟩
  · exact absurd hc k1
/-- A lent net; a copied row; an answer of Along, as values. -/
def LnS (n : NN) (u : World) (z : Value) : Prop := ∃ g gc, z = .agg #[.int .i64 n.nodes, .slice (some ⟨g, 0, none⟩) n.arcs.length gc] ∧ AtN u (some ⟨g, 0, none⟩) n.arcs
theorem LnS.later {n : NN} {u u' : World} {z : Value} (h : LnS n u z) (hb : Below u.heap.size u u') : LnS n u' z := by
  obtain ⟨g, gc, h1, h2⟩ := h
  exact ⟨g, gc, h1, h2.below hb⟩
theorem holds_ways {n : NN} {zs : List Int} (hp : ¬ plaC n zs = 0) : (¬ codeV n zs = 0 ∧ plaC n zs = codeV n zs) ∨ (codeV n zs = 0 ∧ homeB n zs = false ∧ plaC n zs = 181) ∨ (codeV n zs = 0 ∧ homeB n zs = true ∧ plaC n zs = 5) := by
  by_cases hc : codeV n zs = 0
  · by_cases hh : homeB n zs = true
    · have h0 : dmC n zs = 0 := by unfold dmC; rw [if_pos hc, if_pos hh]
      refine .inr (.inr ⟨hc, hh, ?_⟩)
      unfold plaC at hp ⊢
      rw [if_pos h0] at hp ⊢
      by_cases h : 1024 < celP (plnV (mostM n zs) (rowsV n (startT n) zs))
      · rw [if_pos h]
      · rw [if_neg h] at hp; exact absurd rfl hp
    · have h0 : dmC n zs = 181 := by unfold dmC; rw [if_pos hc, if_neg hh]
      refine .inr (.inl ⟨hc, by simpa using hh, ?_⟩)
      unfold plaC
      rw [h0]; rfl
  · have h0 : dmC n zs = codeV n zs := by unfold dmC; rw [if_neg hc]
    refine .inl ⟨hc, ?_⟩
    unfold plaC
    rw [h0, if_neg hc]
set_option maxRecDepth 100000 in
set_option maxHeartbeats 16000000 in
theorem packHolds_walk (n : NN) (a : Option Addr) (c : Nat) (a1 : Option Addr) (len1 cap1 : Nat) (zs : List Int) (w : World) (h : ArgN w a c n) (h1 : Arg w a1 len1 cap1 zs) : Calls Try.prog 3 #[.agg #[.int .i64 n.nodes, .slice a n.arcs.length c], .slice a1 len1 cap1] w fun e w' => e = .returned (.bool true) ∧ Below w.heap.size w w' := by
  obtain rfl := h1.size
  have b0 := (Below.refl w.heap.size w).alloc (Nat.le_refl _) (.cells #[.int .i64 n.nodes, .slice a n.arcs.length c] 24)
  have G0 := hiddenN (blkA_new 24 w #[.int .i64 n.nodes, .slice a n.arcs.length c])
  have B0 := hiddenN b0
  have HA := hiddenN h
  have H1 := hiddenN h1
  have hroom : n.arcs.length ≤ 4611686018427387904 := by have := h.room; omega
  have hzl : zs.length ≤ 4611686018427387904 := by have := h1.reach; omega
  have LN : Hid (∀ U, Below w.heap.size w U → Calls Try.prog 6 #[.agg #[.int .i64 n.nodes, .slice a n.arcs.length c]] U (LentE n U)) := fun U hb => lentNet_any n a c U (HA.out.below hb)
  have AW : Hid (∀ U, Calls Try.prog 10 #[] U fun e w' => e = .returned (.bool true) ∧ Below U.heap.size U w') := fun U => awakeX U
  have z0 := G0.out.cell (k := 0) rfl
  have z1 := G0.out.cell (k := 1) rfl
  simp only [List.getElem_toArray, List.getElem_cons_zero, List.getElem_cons_succ] at z0 z1
  clear b0 h h1
  have IN : Hid (∀ U, Below w.heap.size w U → Calls Try.prog 7 #[.slice a1 zs.length cap1] U (CopiedC U zs.length zs)) := fun U hb => ints_own a1 zs zs.length cap1 U (H1.out.below hb)
  by_cases hp : plaC n zs = 0
  · have hT := plnT_of hp
    have hH := hldT_of hp
    obtain ⟨-, hcc, hhm, -⟩ := plaE_zero hp
    have HZ2 : Hid (zs.length ≤ 2048) := (code_zero hcc).2.1
    have RL : Hid (∀ k, k ≤ zs.length → (nthLV (rowsV n (startT n) zs) k).length = n.arcs.length) := fun k hk => by rw [row_lenV hk, start_len]
    have PP : Hid (∀ U x y cx cy, AtN U (some x) n.arcs → At U y zs → Calls Try.prog 5 #[.agg #[.int .i64 n.nodes, .slice (some x) n.arcs.length cx], .slice y zs.length cy] U fun e w' => ∃ d c', e = .returned (.tuple #[.agg #[.slice d n.arcs.length c', .int .i64 (plaT n zs)], .int .i64 0]) ∧ AtGn w' d (plaL n zs) ∧ Below U.heap.size U w') := fun U x y cx cy q1 q2 => (place_anyX n (some x) cx U q1 hroom (fun e => by cases e) y cy zs q2 hzl).mono fun e w' hh => by
      obtain ⟨d, c', e1, q3, q⟩ := hh
      rw [hT.lenL, hp] at e1
      exact ⟨d, c', e1, q3.at, q⟩
    have PA : Hid (∀ U x y cx cy, AtN U (some x) n.arcs → At U y zs → Calls Try.prog 8 #[.agg #[.int .i64 n.nodes, .slice (some x) n.arcs.length cx], .slice y zs.length cy] U (AlgE (rowsV n (startT n) zs) (zs.length + 1) U)) := fun U x y cx cy q1 q2 => alongG n hcc U x y cx cy q1 hroom q2 hzl
    have PH : Hid (∀ U x y cx cy, AtN U (some x) n.arcs → At U y zs → Calls Try.prog 9 #[.agg #[.int .i64 n.nodes, .slice (some x) n.arcs.length cx], .slice y zs.length cy] U fun e w' => e = .returned (.tuple #[.bool true, .int .i64 0]) ∧ Below U.heap.size U w') := fun U x y cx cy q1 q2 => by
      have q := home_anyV n (some x) cx U q1 hroom (fun e => by cases e) y cy zs q2 hzl
      rw [hcc, hhm] at q
      exact q
    have CK : Hid (∀ U x y cx cy ar cr, AtN U (some x) n.arcs → At U y zs → AtGn U ar (plaL n zs) → Calls Try.prog 12 #[.agg #[.int .i64 n.nodes, .slice (some x) n.arcs.length cx], .agg #[.slice ar n.arcs.length cr, .int .i64 (plaT n zs)], .slice y zs.length cy] U fun e w' => e = .returned (.int .i64 0) ∧ Below U.heap.size U w') := fun U x y cx cy ar cr q1 q2 q3 => by
      have q := check_anyX n (some x) cx U q1 hroom (fun e => by cases e) y cy zs q2 hzl ar n.arcs.length cr (plaL n zs) (plaT n zs) q3 hT.lenL
      rw [hH.chk] at q
      exact q
    have HT := hiddenN hT
    have HH := hiddenN hH
    clear hp hcc hhm hT hH
    generalize basP (plcA (mostM n zs) (rowsV n (startT n) zs)) = B at *
    generalize (cloL n zs).length = q at *
    generalize plaL n zs = L at *
    generalize plaT n zs = tot at *
    generalize cloL n zs = CL at *
    generalize mostM n zs = pk at *
    go_enter Try.func3, Try.ntmps3
    go_upto_region 1 with fail
    generalize w.alloc (.cells #[.int .i64 n.nodes, .slice a n.arcs.length c] 24) = W0 at *
    go_upto_region 2 with (first
      | (go_at_call 6; (with_reducible refine (LN.out W0 B0.out).mono ?_); rintro e U1 ⟨g1, gc1, rfl, q1, q2⟩; have EL := hiddenN q1; have LL := hiddenN (B0.out.trans (q2.mono B0.out.size)); have MM1 := hiddenN q2; clear q1 q2)
      | (go_at_call 7; (with_reducible refine (IN.out U1 LL.out).mono ?_); rintro e Z1 ⟨p1, pc1, rfl, q1, q2⟩; have EZ := hiddenN (EL.out.below q2); have LZ := hiddenN (LL.out.trans (q2.mono LL.out.size)); have MM2 := hiddenN (MM1.out.trans (q2.mono MM1.out.size)); have PZ := hiddenN q1.at; clear q1 q2 LL EL MM1; have CC := hiddenN (PP.out Z1 ⟨g1, 0, none⟩ p1 gc1 pc1 EZ.out.at PZ.out); )
      | (go_at_call 5; (with_reducible refine CC.out.mono ?_); rintro e W1 ⟨dp, cp, rfl, q3, q2⟩; have L1 := hiddenN (LZ.out.trans (q2.mono LZ.out.size)); have M1 := hiddenN (MM2.out.trans (q2.mono MM2.out.size)); have P1 := hiddenN q3; clear q3; have G1 := hiddenN (G0.out.below M1.out); have z0 := G1.out.cell (k := 0) rfl; have z1 := G1.out.cell (k := 1) rfl; simp only [List.getElem_toArray, List.getElem_cons_zero, List.getElem_cons_succ] at z0 z1; clear q2 CC LZ MM2))
    have bX := (Below.refl W1.heap.size W1).alloc (Nat.le_refl _) (.cells #[.slice dp n.arcs.length cp, .int .i64 tot] 28)
    have X2 := hiddenN (blkA_new 28 W1 #[.slice dp n.arcs.length cp, .int .i64 tot])
    have L2 := hiddenN (L1.out.trans (bX.mono L1.out.size))
    have G2 := hiddenN (G1.out.below bX); have P2 := hiddenN (P1.out.below bX); have z0 := G2.out.cell (k := 0) rfl; have z1 := G2.out.cell (k := 1) rfl; simp only [List.getElem_toArray, List.getElem_cons_zero, List.getElem_cons_succ] at z0 z1; clear G1 M1 G0 P1
    clear bX L1
    generalize W1.alloc (.cells #[.slice dp n.arcs.length cp, .int .i64 tot] 28) = W2 at *
    obtain ⟨xb, hxb⟩ : ∃ q, W1.heap.size = q := ⟨_, rfl⟩
    rw [hxb] at X2 ⊢
    clear hxb
    go_upto_region 3 with (first
      | (go_at_call 6; (with_reducible refine (LN.out W2 L2.out).mono ?_); rintro e U3 ⟨g3, gc3, rfl, q1, q2⟩; have EL := hiddenN q1; have LL := hiddenN (L2.out.trans (q2.mono L2.out.size)); have MM1 := hiddenN q2; clear q1 q2)
      | (go_at_call 7; (with_reducible refine (IN.out U3 LL.out).mono ?_); rintro e Z3 ⟨p3, pc3, rfl, q1, q2⟩; have EZ := hiddenN (EL.out.below q2); have LZ := hiddenN (LL.out.trans (q2.mono LL.out.size)); have MM2 := hiddenN (MM1.out.trans (q2.mono MM1.out.size)); have PZ := hiddenN q1.at; clear q1 q2 LL EL MM1; have CC := hiddenN (PA.out Z3 ⟨g3, 0, none⟩ p3 gc3 pc3 EZ.out.at PZ.out); )
      | (go_at_call 8; (with_reducible refine CC.out.mono ?_); rintro e W3 ⟨rb, ro, rc, rfl, hrc, r1, q2⟩; have L3 := hiddenN (LZ.out.trans (q2.mono LZ.out.size)); have M3 := hiddenN (MM2.out.trans (q2.mono MM2.out.size)); have RR3 := hiddenN r1; clear r1 hrc; have G3 := hiddenN (G2.out.below M3.out); have z0 := G3.out.cell (k := 0) rfl; have z1 := G3.out.cell (k := 1) rfl; simp only [List.getElem_toArray, List.getElem_cons_zero, List.getElem_cons_succ] at z0 z1; have X3 := hiddenN (X2.out.below M3.out); have P3 := hiddenN (P2.out.below M3.out); clear q2 CC LZ MM2))
    go_upto_region 4 with (first
      | (go_at_call 6; (with_reducible refine (LN.out W3 L3.out).mono ?_); rintro e U4 ⟨g4, gc4, rfl, q1, q2⟩; have EL := hiddenN q1; have LL := hiddenN (L3.out.trans (q2.mono L3.out.size)); have MM1 := hiddenN q2; clear q1 q2)
      | (go_at_call 7; (with_reducible refine (IN.out U4 LL.out).mono ?_); rintro e Z4 ⟨p4, pc4, rfl, q1, q2⟩; have EZ := hiddenN (EL.out.below q2); have LZ := hiddenN (LL.out.trans (q2.mono LL.out.size)); have MM2 := hiddenN (MM1.out.trans (q2.mono MM1.out.size)); have PZ := hiddenN q1.at; clear q1 q2 LL EL MM1; have CC := hiddenN (PH.out Z4 ⟨g4, 0, none⟩ p4 gc4 pc4 EZ.out.at PZ.out); )
      | (go_at_call 9; (with_reducible refine CC.out.mono ?_); rintro e W4 ⟨rfl, q2⟩; have L4 := hiddenN (LZ.out.trans (q2.mono LZ.out.size)); have M4 := hiddenN (MM2.out.trans (q2.mono MM2.out.size)); have G4 := hiddenN (G3.out.below M4.out); have z0 := G4.out.cell (k := 0) rfl; have z1 := G4.out.cell (k := 1) rfl; simp only [List.getElem_toArray, List.getElem_cons_zero, List.getElem_cons_succ] at z0 z1; have X4 := hiddenN (X3.out.below M4.out); have P4 := hiddenN (P3.out.below M4.out); have RR := hiddenN (fun k hk => (RR3.out k hk).imp fun y h => h.imp fun yc h => (⟨cellN_later M4.out h.1, h.2.below M4.out⟩ : _ ∧ _)); clear q2 CC LZ MM2))
    clear PP PA PH z0 z1 G3 G2 X2 X3 M3 M4 L2 L3 P2 P3 RR3
    have x0 := X4.out.cell (k := 0) rfl; have x1 := X4.out.cell (k := 1) rfl; simp only [List.getElem_toArray, List.getElem_cons_zero, List.getElem_cons_succ] at x0 x1
    have z0 := G4.out.cell (k := 0) rfl; have z1 := G4.out.cell (k := 1) rfl; simp only [List.getElem_toArray, List.getElem_cons_zero, List.getElem_cons_succ] at z0 z1
    have q8 : ((n.arcs.length : Int) != (n.arcs.length : Int)) = false := by simp
    have q9 : ¬ tot > 1024 := by have := HT.out.totL; omega
    go_wp2
    clear x0 x1 z0 z1 q8 q9
    go_loopg [12] (zs.length + 1) (fun gk u12 wr => ∃ k : Nat, k ≤ zs.length + 1 ∧ gk = zs.length + 1 - k ∧ u12 = .int .i64 (k : Int) ∧ Below W4.heap.size W4 wr)
    case atStart => exact ⟨0, Nat.zero_le _, rfl, rfl, Below.refl _ _⟩
    case round =>
      obtain ⟨k, hk, rfl, rfl, hB⟩ := hrel
      have HB := hiddenN hB
      clear hB
      have hz := HZ2.out
      by_cases hlt : k < zs.length + 1
      · have hki : (k : Int) < ((zs.length + 1 : Nat) : Int) := by omega
        have hki' : (k : Int) < (zs.length : Int) + 1 := by omega
        obtain ⟨y, yc, r0, r1⟩ := RR.out k hlt
        rw [RL.out k (by omega)] at r0
        have HR0 := hiddenN r0
        have HR1 := hiddenN r1
        clear r0 r1
        go_wp2
        go_loopg [13, 14] n.arcs.length (fun gk u13 u14 wq => ∃ i : Nat, i ≤ n.arcs.length ∧ gk = n.arcs.length - i ∧ u13 = .int .i64 (sumR (fun i => if decide (0 < nth (nthLV (rowsV n (startT n) zs) k) i) = true then (nthX L i).2 else 0) i) ∧ u14 = .int .i64 (i : Int) ∧ Below W4.heap.size W4 wq)
        case atStart => exact ⟨0, Nat.zero_le _, rfl, rfl, rfl, HB.out⟩
        case round =>
          obtain ⟨i, hi, rfl, rfl, rfl, hBq⟩ := hrel
          have HBq := hiddenN hBq
          clear hBq
          obtain ⟨su, hsu⟩ : ∃ s, sumR (fun i => if decide (0 < nth (nthLV (rowsV n (startT n) zs) k) i) = true then (nthX L i).2 else 0) i = s := ⟨_, rfl⟩
          rw [hsu]
          have HSU := hiddenN hsu
          clear hsu
          have r0q := cellN_later HBq.out HR0.out
          have x0 := (X4.out.below HBq.out).cell (k := 0) rfl
          have x1 := (X4.out.below HBq.out).cell (k := 1) rfl
          simp only [List.getElem_toArray, List.getElem_cons_zero, List.getElem_cons_succ] at x0 x1
          have hfm := HT.out.fewM
          by_cases hin : i < n.arcs.length
          · have hii : (i : Int) < (n.arcs.length : Int) := by omega
            have hlr := RL.out k (by omega)
            rcases HR1.out with e1 | ⟨yb, yo, rfl, hcy⟩
            · rw [e1] at hlr; simp at hlr; omega
            rcases P4.out with e1 | ⟨lb, lo, rfl, hcl⟩
            · have := HT.out.lenL; rw [e1] at this; simp at this; omega
            have HCY : Hid (∀ i, i < n.arcs.length → W4.cell? ⟨yb, yo + i, none⟩ = some (.int .i64 (nth (nthLV (rowsV n (startT n) zs) k) i))) := fun i hi => hcy i (by rw [hlr]; exact hi)
            have HPX : Hid (∀ j, j < n.arcs.length → W4.cell? ⟨lb, lo + j * 2, none⟩ = some (.int .i64 (nthX L j).1) ∧ W4.cell? ⟨lb, lo + j * 2 + 1, none⟩ = some (.int .i64 (nthX L j).2)) := fun j hj => hcl j (by rw [HT.out.lenL]; exact hj)
            clear hcy hcl hlr
            have hrw := HH.out.rows k (by omega) i hin
            have hre := HT.out.reg i hin
            have htl := HT.out.totL
            have hyi := cellN_later HBq.out (HCY.out i hin)
            have hpi := HPX.out i hin
            rw [hre.1] at hpi hrw
            have hsu0 := sumR_fewT (S := (fun i => if decide (0 < nth (nthLV (rowsV n (startT n) zs) k) i) = true then (nthX L i).2 else 0)) (fun j => by
              show 0 ≤ (if decide (0 < nth (nthLV (rowsV n (startT n) zs) k) j) = true then (nthX L j).2 else 0) ∧ (if decide (0 < nth (nthLV (rowsV n (startT n) zs) k) j) = true then (nthX L j).2 else 0) ≤ 1000000
              split
              · by_cases hj : j < n.arcs.length
                · have := HT.out.size j; rw [(HT.out.reg j hj).1]; exact this
                · have e : nthX L j = (0, 0) := by unfold nthX; rw [List.getElem?_eq_none (by rw [HT.out.lenL]; omega)]; rfl
                  rw [e]; decide
              · decide) i
            rw [HSU.out] at hsu0
            have hsn : sumR (fun i => if decide (0 < nth (nthLV (rowsV n (startT n) zs) k) i) = true then (nthX L i).2 else 0) (i + 1) = su + (if decide (0 < nth (nthLV (rowsV n (startT n) zs) k) i) = true then nth pk i else 0) := by
              show sumR _ i + (if decide (0 < nth (nthLV (rowsV n (startT n) zs) k) i) = true then (nthX L i).2 else 0) = _
              rw [HSU.out, hre.1]
            obtain ⟨r, hrv⟩ : ∃ s, nth (nthLV (rowsV n (startT n) zs) k) i = s := ⟨_, rfl⟩
            obtain ⟨si, hsi⟩ : ∃ s, nth pk i = s := ⟨_, rfl⟩
            obtain ⟨bi, hbi⟩ : ∃ s, B i = s := ⟨_, rfl⟩
            rw [hrv] at hrw hyi hsn
            rw [hsi] at hrw hre hpi hsn
            rw [hbi] at hrw hre hpi
            have HRV := hiddenN hrv
            have HSI := hiddenN hsi
            have HBI := hiddenN hbi
            simp only at hpi hrw
            obtain ⟨sn, hsn2⟩ : ∃ s, sumR (fun i => if decide (0 < nth (nthLV (rowsV n (startT n) zs) k) i) = true then (nthX L i).2 else 0) (i + 1) = s := ⟨_, rfl⟩
            have HSN := hiddenN hsn2
            rw [hsn2] at hsn
            clear hrv hsi hbi hsn2
            have b0 := cellN_later HBq.out hpi.1
            have b1 := cellN_later HBq.out hpi.2
            have bY := (Below.refl wr.heap.size wr).alloc (Nat.le_refl _) (.cells #[.int .i64 bi, .int .i64 si] 41)
            have Y5 := hiddenN (blkA_new 41 wr #[.int .i64 bi, .int .i64 si])
            have HB5 := hiddenN (HBq.out.trans (bY.mono HBq.out.size))
            have r0' := cellN_later bY r0q
            have y0' := cellN_later bY hyi
            have X5 := hiddenN (X4.out.below HB5.out)
            clear hpi
            go_upto_region 17 with fail
            generalize wr.alloc (.cells #[.int .i64 bi, .int .i64 si] 41) = W5 at *
            obtain ⟨yb2, hyb⟩ : ∃ q, wr.heap.size = q := ⟨_, rfl⟩
            rw [hyb] at Y5 ⊢
            clear hyb bY b0 b1 x0 x1 r0q hyi
            have y0 := Y5.out.cell (k := 0) rfl
            have y1 := Y5.out.cell (k := 1) rfl
            simp only [List.getElem_toArray, List.getElem_cons_zero, List.getElem_cons_succ] at y0 y1
            have x0 := X5.out.cell (k := 0) rfl
            have x1 := X5.out.cell (k := 1) rfl
            simp only [List.getElem_toArray, List.getElem_cons_zero, List.getElem_cons_succ] at x0 x1
            have e1 : decide (bi < 0) = false := decide_eq_false (by omega)
            have e2 : decide (si < r) = false := decide_eq_false (by omega)
            have e3 : decide (tot - bi < si) = false := decide_eq_false (by omega)
            have e4 : IntKind.i64.wrap (tot - bi) = tot - bi := by rw [IntKind.wrap_i64]; omega
            try dsimp only [List.append_eq, List.cons_append, List.nil_append]
            go_quiet (fail)
            clear e1 e2 e3 e4
            have hcs : IntKind.i64.wrap (su + si) = su + si := by rw [IntKind.wrap_i64]; have := HT.out.fewM; omega
            go_upto_if 160 with fail
            go_cut [13] (fun s13 wx => wx = W5.drewN nq ∧ s13 = .int .i64 sn)
            case first =>
              by_cases hpos : 0 < r
              · have hp0 : r > 0 := hpos
                rw [if_pos (decide_eq_true hpos)] at hsn
                go_wp2
                go_meet
                exact ⟨rfl, by rw [hsn] <;> go_num⟩
              · have hp0 : ¬ r > 0 := by omega
                rw [if_neg (by simpa using hpos)] at hsn
                go_wp2
                go_meet
                exact ⟨rfl, by rw [hsn] <;> go_num⟩
            case rest =>
              obtain ⟨rfl, rfl⟩ := hcut
              have bW := drewB (Below.refl W5.heap.size W5) nq
              have Y7 := hiddenN (Y5.out.below bW)
              have X7 := hiddenN (X5.out.below bW)
              have HB8 := hiddenN (HB5.out.trans (bW.mono HB5.out.size))
              clear Y5 X5 HB5 bW x0 x1 y0 y1 r0' y0' hsn
              generalize W5.drewN nq = W6 at *
              have HB5 := hiddenN HB8.out
              have Y5 := hiddenN Y7.out
              clear HB8 Y7
              go_wp2
              go_loopg [16] i (fun gk u16 wz => ∃ j : Nat, j ≤ i ∧ gk = i - j ∧ u16 = .int .i64 (j : Int) ∧ Below W6.heap.size W6 wz)
              case atStart => exact ⟨0, Nat.zero_le _, rfl, rfl, Below.refl _ _⟩
              case round =>
                obtain ⟨j, hj, rfl, rfl, hBz⟩ := hrel
                have HBz := hiddenN hBz
                clear hBz
                by_cases hji : j < i
                · have hjj : (j : Int) < (i : Int) := by omega
                  have hjm : j < n.arcs.length := by omega
                  have hjn : (j : Int) < (n.arcs.length : Int) := by omega
                  have HB6 := hiddenN (HB5.out.trans (HBz.out.mono HB5.out.size))
                  have c0 := cellN_later HB6.out HR0.out
                  have ci := cellN_later HB6.out (HCY.out i hin)
                  have cj := cellN_later HB6.out (HCY.out j hjm)
                  rw [HRV.out] at ci
                  have HPJ := HPX.out j hjm
                  have hrj := HT.out.reg j hjm
                  have hra := HH.out.apart k (by omega) i j hin hji
                  rw [HRV.out, (HT.out.reg i hin).1, HBI.out, HSI.out, hrj.1] at hra
                  rw [hrj.1] at HPJ
                  have k0 := cellN_later HB6.out HPJ.1
                  have k1 := cellN_later HB6.out HPJ.2
                  obtain ⟨bj, hbj⟩ : ∃ s, B j = s := ⟨_, rfl⟩
                  obtain ⟨sj, hsj⟩ : ∃ s, nth pk j = s := ⟨_, rfl⟩
                  have hsz2 := (HT.out.size j).1
                  rw [hbj, hsj] at hrj hra k0 k1
                  rw [hsj] at hsz2
                  obtain ⟨rj, hrjv⟩ : ∃ s, nth (nthLV (rowsV n (startT n) zs) k) j = s := ⟨_, rfl⟩
                  rw [hrjv] at cj hra
                  have wr1 : IntKind.i64.wrap (bi + si) = bi + si := by rw [IntKind.wrap_i64]; omega
                  have wr2 : IntKind.i64.wrap (bj + sj) = bj + sj := by rw [IntKind.wrap_i64]; omega
                  have SH : Hid (∀ U, Calls Try.prog 11 #[.agg #[.int .i64 bi, .int .i64 si], .agg #[.int .i64 bj, .int .i64 sj]] U fun e w' => e = .returned (.bool (shrB (bi, si) (bj, sj))) ∧ ∃ q os, w' = Go.Sort.grow (U.drewN q) os) := fun U => share_refX bi si bj sj wr1 wr2 U
                  have HRA := hiddenN hra
                  have Y6 := hiddenN (Y5.out.below HBz.out)
                  have X6 := hiddenN (X4.out.below HB6.out)
                  simp only at k0 k1
                  clear HPJ hrj hra hbj hsj hrjv wr1 wr2
                  have v0 := fun q os => Go.cell_grown Y6.out.lt (Y6.out.cell (k := 0) rfl) q os
                  have v1 := fun q os => Go.cell_grown Y6.out.lt (Y6.out.cell (k := 1) rfl) q os
                  have u0 := fun q os => Go.cell_grown X6.out.lt (X6.out.cell (k := 0) rfl) q os
                  simp only [List.getElem_toArray, List.getElem_cons_zero, List.getElem_cons_succ] at v0 v1
                  simp only [List.getElem_toArray, List.getElem_cons_zero] at u0
                  have d0 := fun q os => Go.cell_grown (World.block_lt_of_cell? _ _ c0) c0 q os
                  have d1 := fun q os => Go.cell_grown (World.block_lt_of_cell? _ _ ci) ci q os
                  have d2 := fun q os => Go.cell_grown (World.block_lt_of_cell? _ _ cj) cj q os
                  have d3 := fun q os => Go.cell_grown (World.block_lt_of_cell? _ _ k0) k0 q os
                  have d4 := fun q os => Go.cell_grown (World.block_lt_of_cell? _ _ k1) k1 q os
                  clear c0 ci cj k0 k1
                  go_upto_region 24 with fail
                  by_cases hr0 : 0 < r
                  · have t0 : decide (0 < r) = true := decide_eq_true hr0
                    by_cases hr1 : 0 < rj
                    · have t1 : decide (0 < rj) = true := decide_eq_true hr1
                      have SH2 : Hid (∀ U, Calls Try.prog 11 #[.agg #[.int .i64 bi, .int .i64 si], .agg #[.int .i64 bj, .int .i64 sj]] U fun e w' => e = .returned (.bool false) ∧ ∃ q os, w' = Go.Sort.grow (U.drewN q) os) := fun U => by
                        have q := SH.out U
                        rw [HRA.out hr0 hr1] at q
                        exact q
                      clear SH HRA
                      have mixed : Try.prog.follows .mixedOrders = true := by kernel_rfl
                      try dsimp only [List.append_eq, List.cons_append, List.nil_append]
                      refine wp_region_quiet_grown (by assumption) (by kernel_rfl) ?_
                      repeat (go_big_quiet_step (first | (go_at_call 11; (with_reducible exact Calls.grown_of (SH2.out _)))))
                      refine wpQuiet_nil ?_
                      intro _ hw'
                      obtain ⟨⟨nq, osq⟩, hw''⟩ := hw'
                      subst hw''
                      have b7 := hiddenN (grn_below ⟨nq, osq, rfl⟩ (Nat.le_refl wr.heap.size))
                      have HB7 := hiddenN (HBz.out.trans (b7.out.mono HBz.out.size))
                      generalize Go.Sort.grow (wr.drewN nq) osq = W7 at *
                      clear v0 v1 u0 d0 d1 d2 d3 d4
                      go_wp2
                      go_roundg (i - (j + 1))
                      case measure => omega
                      case rel => exact ⟨j + 1, by omega, rfl, by go_num, HB7.out⟩
                    · have t1 : decide (0 < rj) = false := decide_eq_false hr1
                      clear HRA
                      have mixed : Try.prog.follows .mixedOrders = true := by kernel_rfl
                      try dsimp only [List.append_eq, List.cons_append, List.nil_append]
                      refine wp_region_quiet_grown (by assumption) (by kernel_rfl) ?_
                      repeat (go_big_quiet_step (first | (go_at_call 11; (with_reducible exact Calls.grown_of (SH2.out _)))))
                      refine wpQuiet_nil ?_
                      intro _ hw'
                      obtain ⟨⟨nq, osq⟩, hw''⟩ := hw'
                      subst hw''
                      have b7 := hiddenN (grn_below ⟨nq, osq, rfl⟩ (Nat.le_refl wr.heap.size))
                      have HB7 := hiddenN (HBz.out.trans (b7.out.mono HBz.out.size))
                      generalize Go.Sort.grow (wr.drewN nq) osq = W7 at *
                      clear v0 v1 u0 d0 d1 d2 d3 d4
                      go_wp2
                      go_roundg (i - (j + 1))
                      case measure => omega
                      case rel => exact ⟨j + 1, by omega, rfl, by go_num, HB7.out⟩
                  · have t0 : decide (0 < r) = false := decide_eq_false hr0
                    clear HRA
                    have mixed : Try.prog.follows .mixedOrders = true := by kernel_rfl
                    try dsimp only [List.append_eq, List.cons_append, List.nil_append]
                    refine wp_region_quiet_grown (by assumption) (by kernel_rfl) ?_
                    repeat (go_big_quiet_step (first | (go_at_call 11; (with_reducible exact Calls.grown_of (SH2.out _)))))
                    refine wpQuiet_nil ?_
                    intro _ hw'
                    obtain ⟨⟨nq, osq⟩, hw''⟩ := hw'
                    subst hw''
                    have b7 := hiddenN (grn_below ⟨nq, osq, rfl⟩ (Nat.le_refl wr.heap.size))
                    have HB7 := hiddenN (HBz.out.trans (b7.out.mono HBz.out.size))
                    generalize Go.Sort.grow (wr.drewN nq) osq = W7 at *
                    clear v0 v1 u0 d0 d1 d2 d3 d4
                    go_wp2
                    go_roundg (i - (j + 1))
                    case measure => omega
                    case rel => exact ⟨j + 1, by omega, rfl, by go_num, HB7.out⟩
                · have hjj : ¬ (j : Int) < (i : Int) := by omega
                  go_wp2
                  go_roundg (n.arcs.length - (i + 1))
                  case measure => omega
                  case rel => exact ⟨i + 1, by omega, rfl, by rw [HSN.out], by go_num, HB5.out.trans (HBz.out.mono HB5.out.size)⟩
          · have hii : ¬ (i : Int) < (n.arcs.length : Int) := by omega
            have hni : i = n.arcs.length := by omega
            have hrm := HH.out.room k (by omega)
            rw [← hni, HSU.out] at hrm
            have hgt : ¬ su > tot := by omega
            clear hni hrm
            go_wp2
            go_roundg (zs.length + 1 - (k + 1))
            case measure => omega
            case rel => exact ⟨k + 1, by omega, rfl, by go_num, HBq.out⟩
      · have hki : ¬ (k : Int) < ((zs.length + 1 : Nat) : Int) := by omega
        have hki' : ¬ (k : Int) < (zs.length : Int) + 1 := by omega
        have z0 := (G4.out.below HB.out).cell (k := 0) rfl
        have z1 := (G4.out.below HB.out).cell (k := 1) rfl
        have x0 := (X4.out.below HB.out).cell (k := 0) rfl
        have x1 := (X4.out.below HB.out).cell (k := 1) rfl
        simp only [List.getElem_toArray, List.getElem_cons_zero, List.getElem_cons_succ] at z0 z1 x0 x1
        go_upto_region 28 with fail
        have LF := hiddenN (L4.out.trans (HB.out.mono L4.out.size))
        have P5 := hiddenN (P4.out.below HB.out)
        refine wp_region_gen [] (fun d i u z => match i with
            | 0 => z = .bool true
            | 1 => z = .bool true
            | 2 => z = .agg #[.int .i64 n.nodes, .slice a n.arcs.length c]
            | 3 => LnS n u z
            | 4 => z = .agg #[.slice dp n.arcs.length cp, .int .i64 tot]
            | 5 => z = .slice a1 zs.length cap1
            | 6 => CnS zs.length u zs z
            | 7 => z = .int .i64 0
            | 8 => z = .bool true
            | 9 => z = .bool true
            | 10 => z = .bool true
            | _ => True) (fun _ u => Below wr.heap.size wr u) (by kernel_rfl) (by kernel_rfl) (by kernel_rfl) ?_ ?_ ?_ ?_ ?_ ?_ (by kernel_rfl)
        · intro d i w v w' h hb
          match i, h with
          | 0, h => exact h
          | 1, h => exact h
          | 2, h => exact h
          | 3, h => exact LnS.later h hb
          | 4, h => exact h
          | 5, h => exact h
          | 6, h => exact CnS.later h hb
          | 7, h => exact h
          | 8, h => exact h
          | 9, h => exact h
          | 10, h => exact h
          | _ + 11, _ => trivial
        · intro d u u' h hb
          exact h.trans (hb.mono h.size)
        · exact Below.refl _ _
        · intro d i o ρ w' hm ho hf hg hC hcs hfs hfr hdep
          match i, hm, ho, hf, hg, hfr, hdep with
          | 0, _, ho, hf, hg, hfr, hdep =>
            simp only [gTA, gCZ, gSI] at ho
            subst ho
            refine ⟨fun _ => ?_, fun hw => absurd (show true = false from hw) (by decide)⟩
            simp [go_sem, hfs]
            exact ⟨rfl, (AW.out w').mono fun e w'' ⟨e1, q2⟩ => ⟨_, e1, q2, rfl⟩⟩
          | 1, _, ho, hf, hg, hfr, hdep =>
            simp only [gTA, gCZ, gCS, gSI] at ho
            subst ho
            refine ⟨fun _ => ?_, fun hw => absurd (show true = false from hw) (by decide)⟩
            have d0 : ρ (.tmp 201) = .bool true := hdep 0 201 (by kernel_rfl) (by kernel_rfl)
            simp [go_sem, d0]
            exact ⟨Below.refl _ _, rfl⟩
          | 2, _, ho, hf, hg, hfr, hdep =>
            simp only [gTA, gCZ, gCS, gSI] at ho
            subst ho
            have gd : ρ (.tmp 202) = .bool true := hdep 1 202 (by kernel_rfl) (by kernel_rfl)
            refine ⟨fun _ => ?_, fun hw => absurd (show (match ρ (.tmp 202) with | .bool c => c == true | _ => false) = false from hw) (by rw [gd]; decide)⟩
            clear gd
            have ts : ρ (.tmp 2) = .pointer (some ⟨w.heap.size, 0, none⟩) := hfr 2 (by kernel_rfl)
            have k0 := cellN_later hC z0
            have k1 := cellN_later hC z1
            simp [go_sem, ts, k0, k1]
            exact ⟨Below.refl _ _, rfl⟩
          | 3, _, ho, hf, hg, hfr, hdep =>
            simp only [gTA, gCZ, gCS, gSI] at ho
            subst ho
            have gd : ρ (.tmp 202) = .bool true := hdep 1 202 (by kernel_rfl) (by kernel_rfl)
            refine ⟨fun _ => ?_, fun hw => absurd (show (match ρ (.tmp 202) with | .bool c => c == true | _ => false) = false from hw) (by rw [gd]; decide)⟩
            clear gd
            have t0 : ρ (.tmp 203) = .agg #[.int .i64 n.nodes, .slice a n.arcs.length c] := hdep 2 203 (by kernel_rfl) (by kernel_rfl)
            simp [go_sem, t0, hfs]
            exact ⟨rfl, (LN.out w' (LF.out.trans (hC.mono LF.out.size))).mono fun e w'' ⟨g, gc, e1, q1, q2⟩ => ⟨_, e1, q2, g, gc, rfl, q1.at⟩⟩
          | 4, _, ho, hf, hg, hfr, hdep =>
            simp only [gTA, gCZ, gCS, gSI] at ho
            subst ho
            have gd : ρ (.tmp 202) = .bool true := hdep 1 202 (by kernel_rfl) (by kernel_rfl)
            refine ⟨fun _ => ?_, fun hw => absurd (show (match ρ (.tmp 202) with | .bool c => c == true | _ => false) = false from hw) (by rw [gd]; decide)⟩
            clear gd
            have ts : ρ (.tmp 5) = .pointer (some ⟨xb, 0, none⟩) := hfr 5 (by kernel_rfl)
            have k0 := cellN_later hC x0
            have k1 := cellN_later hC x1
            simp [go_sem, ts, k0, k1]
            exact ⟨Below.refl _ _, rfl⟩
          | 5, _, ho, hf, hg, hfr, hdep =>
            simp only [gTA, gCZ, gCS, gSI] at ho
            subst ho
            have gd : ρ (.tmp 202) = .bool true := hdep 1 202 (by kernel_rfl) (by kernel_rfl)
            refine ⟨fun _ => ?_, fun hw => absurd (show (match ρ (.tmp 202) with | .bool c => c == true | _ => false) = false from hw) (by rw [gd]; decide)⟩
            clear gd
            have ts : ρ (.tmp 1) = .slice a1 zs.length cap1 := hfr 1 (by kernel_rfl)
            simp [go_sem, ts]
            exact ⟨Below.refl _ _, rfl⟩
          | 6, _, ho, hf, hg, hfr, hdep =>
            simp only [gTA, gCZ, gCS, gSI] at ho
            subst ho
            have gd : ρ (.tmp 202) = .bool true := hdep 1 202 (by kernel_rfl) (by kernel_rfl)
            refine ⟨fun _ => ?_, fun hw => absurd (show (match ρ (.tmp 202) with | .bool c => c == true | _ => false) = false from hw) (by rw [gd]; decide)⟩
            clear gd
            have t0 : ρ (.tmp 206) = .slice a1 zs.length cap1 := hdep 5 206 (by kernel_rfl) (by kernel_rfl)
            simp [go_sem, t0, hfs]
            exact ⟨rfl, (IN.out w' (LF.out.trans (hC.mono LF.out.size))).mono fun e w'' ⟨p, pc, e1, q1, q2⟩ => ⟨_, e1, q2, p, pc, rfl, q1.at⟩⟩
          | 7, _, ho, hf, hg, hfr, hdep =>
            simp only [gTA, gCZ, gCS, gSI] at ho
            subst ho
            have gd : ρ (.tmp 202) = .bool true := hdep 1 202 (by kernel_rfl) (by kernel_rfl)
            refine ⟨fun _ => ?_, fun hw => absurd (show (match ρ (.tmp 202) with | .bool c => c == true | _ => false) = false from hw) (by rw [gd]; decide)⟩
            clear gd
            obtain ⟨g, gc, t0, q1⟩ : LnS n w' (ρ (.tmp 204)) := hdep 3 204 (by kernel_rfl) (by kernel_rfl)
            have t1 : ρ (.tmp 205) = .agg #[.slice dp n.arcs.length cp, .int .i64 tot] := hdep 4 205 (by kernel_rfl) (by kernel_rfl)
            obtain ⟨p, pc, t2, q2⟩ : CnS zs.length w' zs (ρ (.tmp 207)) := hdep 6 207 (by kernel_rfl) (by kernel_rfl)
            simp [go_sem, t0, t1, t2, hfs]
            exact ⟨rfl, (CK.out w' _ p gc pc dp cp q1 q2 (P5.out.below hC)).mono fun e w'' ⟨e1, q⟩ => ⟨_, e1, q, rfl⟩⟩
          | 8, _, ho, hf, hg, hfr, hdep =>
            simp only [gTA, gCZ, gCS, gSI] at ho
            subst ho
            have gd : ρ (.tmp 202) = .bool true := hdep 1 202 (by kernel_rfl) (by kernel_rfl)
            refine ⟨fun _ => ?_, fun hw => absurd (show (match ρ (.tmp 202) with | .bool c => c == true | _ => false) = false from hw) (by rw [gd]; decide)⟩
            clear gd
            have d0 : ρ (.tmp 208) = .int .i64 0 := hdep 7 208 (by kernel_rfl) (by kernel_rfl)
            simp [go_sem, d0, hcs]
            exact ⟨Below.refl _ _, rfl⟩
          | 9, _, ho, hf, hg, hfr, hdep =>
            simp only [gTA, gCZ, gCS, gSI] at ho
            subst ho
            refine ⟨fun _ => ?_, fun hw => absurd (show true = false from hw) (by decide)⟩
            have d0 : ρ (.tmp 202) = .bool true := hdep 1 202 (by kernel_rfl) (by kernel_rfl)
            have d1 : ρ (.tmp 209) = .bool true := hdep 8 209 (by kernel_rfl) (by kernel_rfl)
            simp [go_sem, d0, d1, hcs]
            exact ⟨Below.refl _ _, rfl⟩
          | 10, _, ho, hf, hg, hfr, hdep =>
            simp only [gTA, gCZ, gCS, gSI] at ho
            subst ho
            refine ⟨fun _ => ?_, fun hw => absurd (show true = false from hw) (by decide)⟩
            have d0 : ρ (.tmp 210) = .bool true := hdep 9 210 (by kernel_rfl) (by kernel_rfl)
            simp [go_sem, d0]
            exact ⟨Below.refl _ _, rfl⟩
          | n + 11, _, ho, _, _, _, _ => simp at ho
        · intro d i o ρ w' hm ho h0 hf hg hC hcs hfs hfr hdep
          exact absurd hm (by simp)
        · intro V w9 hC9 hS
          have e10 : V 10 = .bool true := hS 10 (by decide) (by intro h; cases h)
          simp only [puts, e10]
          simp only [Act.put, List.setIfInBounds_toArray, List.set_cons_zero, List.set_cons_succ]
          clear hS e10
          go_wp2
          go_ret
          exact ⟨by first | rfl | simp, LF.out.trans (hC9.mono LF.out.size)⟩
  · rcases holds_ways hp with ⟨k1, k2⟩ | ⟨k1, k2, k3⟩ | ⟨k1, k2, k3⟩
    · have PP : Hid (∀ U x y cx cy, AtN U (some x) n.arcs → At U y zs → Calls Try.prog 5 #[.agg #[.int .i64 n.nodes, .slice (some x) n.arcs.length cx], .slice y zs.length cy] U fun e w' => ∃ d c', e = .returned (.tuple #[.agg #[.slice d 0 c', .int .i64 0], .int .i64 (plaC n zs)]) ∧ Below U.heap.size U w') := fun U x y cx cy q1 q2 => (place_anyX n (some x) cx U q1 hroom (fun e => by cases e) y cy zs q2 hzl).mono fun e w' hh => by
        obtain ⟨d, c', e1, -, q⟩ := hh
        rw [show plaL n zs = [] by unfold plaL; rw [if_neg hp], show plaT n zs = 0 by unfold plaT; rw [if_neg hp]] at e1
        exact ⟨d, c', e1, q⟩
      have PA : Hid (∀ U x y cx cy, AtN U (some x) n.arcs → At U y zs → Calls Try.prog 8 #[.agg #[.int .i64 n.nodes, .slice (some x) n.arcs.length cx], .slice y zs.length cy] U fun e w' => ∃ d l c', e = .returned (.tuple #[.slice d l c', .int .i64 (codeV n zs)]) ∧ Below U.heap.size U w') := fun U x y cx cy q1 q2 => (along_any n (some x) cx U q1 hroom (fun e => by cases e) y cy zs q2 hzl).mono fun e w' hh => by
        rcases hh with ⟨k1, B, v, e1, -, -, ⟨A, C, q1⟩, q2⟩ | ⟨-, e1, q⟩
        · obtain ⟨x, rc, rfl⟩ := tabG_shapeV q1
          exact ⟨_, _, _, by rw [k1]; exact e1, q2⟩
        · exact ⟨_, _, _, e1, q⟩
      have PH : Hid (∀ U x y cx cy, AtN U (some x) n.arcs → At U y zs → Calls Try.prog 9 #[.agg #[.int .i64 n.nodes, .slice (some x) n.arcs.length cx], .slice y zs.length cy] U fun e w' => e = .returned (.tuple #[.bool (homeB n zs), .int .i64 (codeV n zs)]) ∧ Below U.heap.size U w') := fun U x y cx cy q1 q2 => home_anyV n (some x) cx U q1 hroom (fun e => by cases e) y cy zs q2 hzl
      rw [k2] at PP
      have qe : (codeV n zs != 0) = true := by simpa using k1
      have qf : (codeV n zs == codeV n zs) = true := by simp
      clear hp k1 k2
      generalize codeV n zs = cv at *
      generalize homeB n zs = hb at *
      go_enter Try.func3, Try.ntmps3
      go_upto_region 1 with fail
      generalize w.alloc (.cells #[.int .i64 n.nodes, .slice a n.arcs.length c] 24) = W0 at *
      go_upto_region 2 with (first
        | (go_at_call 6; (with_reducible refine (LN.out W0 B0.out).mono ?_); rintro e U1 ⟨g1, gc1, rfl, q1, q2⟩; have EL := hiddenN q1; have LL := hiddenN (B0.out.trans (q2.mono B0.out.size)); have MM1 := hiddenN q2; clear q1 q2)
        | (go_at_call 7; (with_reducible refine (IN.out U1 LL.out).mono ?_); rintro e Z1 ⟨p1, pc1, rfl, q1, q2⟩; have EZ := hiddenN (EL.out.below q2); have LZ := hiddenN (LL.out.trans (q2.mono LL.out.size)); have MM2 := hiddenN (MM1.out.trans (q2.mono MM1.out.size)); have PZ := hiddenN q1.at; clear q1 q2 LL EL MM1; have CC := hiddenN (PP.out Z1 ⟨g1, 0, none⟩ p1 gc1 pc1 EZ.out.at PZ.out); )
        | (go_at_call 5; (with_reducible refine CC.out.mono ?_); rintro e W1 ⟨dp, cp, rfl, q2⟩; have L1 := hiddenN (LZ.out.trans (q2.mono LZ.out.size)); have M1 := hiddenN (MM2.out.trans (q2.mono MM2.out.size)); have G1 := hiddenN (G0.out.below M1.out); have z0 := G1.out.cell (k := 0) rfl; have z1 := G1.out.cell (k := 1) rfl; simp only [List.getElem_toArray, List.getElem_cons_zero, List.getElem_cons_succ] at z0 z1; clear q2 CC LZ MM2))
      have bX := (Below.refl W1.heap.size W1).alloc (Nat.le_refl _) (.cells #[.slice dp 0 cp, .int .i64 0] 28)
      have X2 := hiddenN (blkA_new 28 W1 #[.slice dp 0 cp, .int .i64 0])
      have L2 := hiddenN (L1.out.trans (bX.mono L1.out.size))
      have G2 := hiddenN (G1.out.below bX); have z0 := G2.out.cell (k := 0) rfl; have z1 := G2.out.cell (k := 1) rfl; simp only [List.getElem_toArray, List.getElem_cons_zero, List.getElem_cons_succ] at z0 z1; clear G1 M1 G0
      clear bX L1
      generalize W1.alloc (.cells #[.slice dp 0 cp, .int .i64 0] 28) = W2 at *
      obtain ⟨xb, hxb⟩ : ∃ q, W1.heap.size = q := ⟨_, rfl⟩
      rw [hxb] at X2 ⊢
      clear hxb
      go_upto_region 3 with (first
        | (go_at_call 6; (with_reducible refine (LN.out W2 L2.out).mono ?_); rintro e U3 ⟨g3, gc3, rfl, q1, q2⟩; have EL := hiddenN q1; have LL := hiddenN (L2.out.trans (q2.mono L2.out.size)); have MM1 := hiddenN q2; clear q1 q2)
        | (go_at_call 7; (with_reducible refine (IN.out U3 LL.out).mono ?_); rintro e Z3 ⟨p3, pc3, rfl, q1, q2⟩; have EZ := hiddenN (EL.out.below q2); have LZ := hiddenN (LL.out.trans (q2.mono LL.out.size)); have MM2 := hiddenN (MM1.out.trans (q2.mono MM1.out.size)); have PZ := hiddenN q1.at; clear q1 q2 LL EL MM1; have CC := hiddenN (PA.out Z3 ⟨g3, 0, none⟩ p3 gc3 pc3 EZ.out.at PZ.out); )
        | (go_at_call 8; (with_reducible refine CC.out.mono ?_); rintro e W3 ⟨da, la, ca, rfl, q2⟩; have L3 := hiddenN (LZ.out.trans (q2.mono LZ.out.size)); have M3 := hiddenN (MM2.out.trans (q2.mono MM2.out.size)); have G3 := hiddenN (G2.out.below M3.out); have z0 := G3.out.cell (k := 0) rfl; have z1 := G3.out.cell (k := 1) rfl; simp only [List.getElem_toArray, List.getElem_cons_zero, List.getElem_cons_succ] at z0 z1; have X3 := hiddenN (X2.out.below M3.out); clear q2 CC LZ MM2))
      go_upto_region 4 with (first
        | (go_at_call 6; (with_reducible refine (LN.out W3 L3.out).mono ?_); rintro e U4 ⟨g4, gc4, rfl, q1, q2⟩; have EL := hiddenN q1; have LL := hiddenN (L3.out.trans (q2.mono L3.out.size)); have MM1 := hiddenN q2; clear q1 q2)
        | (go_at_call 7; (with_reducible refine (IN.out U4 LL.out).mono ?_); rintro e Z4 ⟨p4, pc4, rfl, q1, q2⟩; have EZ := hiddenN (EL.out.below q2); have LZ := hiddenN (LL.out.trans (q2.mono LL.out.size)); have MM2 := hiddenN (MM1.out.trans (q2.mono MM1.out.size)); have PZ := hiddenN q1.at; clear q1 q2 LL EL MM1; have CC := hiddenN (PH.out Z4 ⟨g4, 0, none⟩ p4 gc4 pc4 EZ.out.at PZ.out); )
        | (go_at_call 9; (with_reducible refine CC.out.mono ?_); rintro e W4 ⟨rfl, q2⟩; have L4 := hiddenN (LZ.out.trans (q2.mono LZ.out.size)); have M4 := hiddenN (MM2.out.trans (q2.mono MM2.out.size)); have X4 := hiddenN (X3.out.below M4.out); clear q2 CC LZ MM2))
      clear PP PA PH z0 z1 G3 X2 X3 M3 M4 L2 L3
      go_wp2_with (go_at_call 10; (with_reducible refine (AW.out _).mono ?_); rintro e VV ⟨rfl, q2⟩; have LF := hiddenN (L4.out.trans (q2.mono L4.out.size)); have x0 := (X4.out.below q2).cell (k := 0) rfl; have x1 := (X4.out.below q2).cell (k := 1) rfl; simp only [List.getElem_toArray, List.getElem_cons_zero, List.getElem_cons_succ] at x0 x1; clear q2)
      go_ret
      exact ⟨by first | rfl | simp, LF.out⟩
    · have PP : Hid (∀ U x y cx cy, AtN U (some x) n.arcs → At U y zs → Calls Try.prog 5 #[.agg #[.int .i64 n.nodes, .slice (some x) n.arcs.length cx], .slice y zs.length cy] U fun e w' => ∃ d c', e = .returned (.tuple #[.agg #[.slice d 0 c', .int .i64 0], .int .i64 (plaC n zs)]) ∧ Below U.heap.size U w') := fun U x y cx cy q1 q2 => (place_anyX n (some x) cx U q1 hroom (fun e => by cases e) y cy zs q2 hzl).mono fun e w' hh => by
        obtain ⟨d, c', e1, -, q⟩ := hh
        rw [show plaL n zs = [] by unfold plaL; rw [if_neg hp], show plaT n zs = 0 by unfold plaT; rw [if_neg hp]] at e1
        exact ⟨d, c', e1, q⟩
      have PA : Hid (∀ U x y cx cy, AtN U (some x) n.arcs → At U y zs → Calls Try.prog 8 #[.agg #[.int .i64 n.nodes, .slice (some x) n.arcs.length cx], .slice y zs.length cy] U fun e w' => ∃ d l c', e = .returned (.tuple #[.slice d l c', .int .i64 (codeV n zs)]) ∧ Below U.heap.size U w') := fun U x y cx cy q1 q2 => (along_any n (some x) cx U q1 hroom (fun e => by cases e) y cy zs q2 hzl).mono fun e w' hh => by
        rcases hh with ⟨k1, B, v, e1, -, -, ⟨A, C, q1⟩, q2⟩ | ⟨-, e1, q⟩
        · obtain ⟨x, rc, rfl⟩ := tabG_shapeV q1
          exact ⟨_, _, _, by rw [k1]; exact e1, q2⟩
        · exact ⟨_, _, _, e1, q⟩
      have PH : Hid (∀ U x y cx cy, AtN U (some x) n.arcs → At U y zs → Calls Try.prog 9 #[.agg #[.int .i64 n.nodes, .slice (some x) n.arcs.length cx], .slice y zs.length cy] U fun e w' => e = .returned (.tuple #[.bool (homeB n zs), .int .i64 (codeV n zs)]) ∧ Below U.heap.size U w') := fun U x y cx cy q1 q2 => home_anyV n (some x) cx U q1 hroom (fun e => by cases e) y cy zs q2 hzl
      rw [k3] at PP
      rw [k1] at PA
      rw [k1, k2] at PH
      clear hp k1 k2 k3
      go_enter Try.func3, Try.ntmps3
      go_upto_region 1 with fail
      generalize w.alloc (.cells #[.int .i64 n.nodes, .slice a n.arcs.length c] 24) = W0 at *
      go_upto_region 2 with (first
        | (go_at_call 6; (with_reducible refine (LN.out W0 B0.out).mono ?_); rintro e U1 ⟨g1, gc1, rfl, q1, q2⟩; have EL := hiddenN q1; have LL := hiddenN (B0.out.trans (q2.mono B0.out.size)); have MM1 := hiddenN q2; clear q1 q2)
        | (go_at_call 7; (with_reducible refine (IN.out U1 LL.out).mono ?_); rintro e Z1 ⟨p1, pc1, rfl, q1, q2⟩; have EZ := hiddenN (EL.out.below q2); have LZ := hiddenN (LL.out.trans (q2.mono LL.out.size)); have MM2 := hiddenN (MM1.out.trans (q2.mono MM1.out.size)); have PZ := hiddenN q1.at; clear q1 q2 LL EL MM1; have CC := hiddenN (PP.out Z1 ⟨g1, 0, none⟩ p1 gc1 pc1 EZ.out.at PZ.out); )
        | (go_at_call 5; (with_reducible refine CC.out.mono ?_); rintro e W1 ⟨dp, cp, rfl, q2⟩; have L1 := hiddenN (LZ.out.trans (q2.mono LZ.out.size)); have M1 := hiddenN (MM2.out.trans (q2.mono MM2.out.size)); have G1 := hiddenN (G0.out.below M1.out); have z0 := G1.out.cell (k := 0) rfl; have z1 := G1.out.cell (k := 1) rfl; simp only [List.getElem_toArray, List.getElem_cons_zero, List.getElem_cons_succ] at z0 z1; clear q2 CC LZ MM2))
      have bX := (Below.refl W1.heap.size W1).alloc (Nat.le_refl _) (.cells #[.slice dp 0 cp, .int .i64 0] 28)
      have X2 := hiddenN (blkA_new 28 W1 #[.slice dp 0 cp, .int .i64 0])
      have L2 := hiddenN (L1.out.trans (bX.mono L1.out.size))
      have G2 := hiddenN (G1.out.below bX); have z0 := G2.out.cell (k := 0) rfl; have z1 := G2.out.cell (k := 1) rfl; simp only [List.getElem_toArray, List.getElem_cons_zero, List.getElem_cons_succ] at z0 z1; clear G1 M1 G0
      clear bX L1
      generalize W1.alloc (.cells #[.slice dp 0 cp, .int .i64 0] 28) = W2 at *
      obtain ⟨xb, hxb⟩ : ∃ q, W1.heap.size = q := ⟨_, rfl⟩
      rw [hxb] at X2 ⊢
      clear hxb
      go_upto_region 3 with (first
        | (go_at_call 6; (with_reducible refine (LN.out W2 L2.out).mono ?_); rintro e U3 ⟨g3, gc3, rfl, q1, q2⟩; have EL := hiddenN q1; have LL := hiddenN (L2.out.trans (q2.mono L2.out.size)); have MM1 := hiddenN q2; clear q1 q2)
        | (go_at_call 7; (with_reducible refine (IN.out U3 LL.out).mono ?_); rintro e Z3 ⟨p3, pc3, rfl, q1, q2⟩; have EZ := hiddenN (EL.out.below q2); have LZ := hiddenN (LL.out.trans (q2.mono LL.out.size)); have MM2 := hiddenN (MM1.out.trans (q2.mono MM1.out.size)); have PZ := hiddenN q1.at; clear q1 q2 LL EL MM1; have CC := hiddenN (PA.out Z3 ⟨g3, 0, none⟩ p3 gc3 pc3 EZ.out.at PZ.out); )
        | (go_at_call 8; (with_reducible refine CC.out.mono ?_); rintro e W3 ⟨da, la, ca, rfl, q2⟩; have L3 := hiddenN (LZ.out.trans (q2.mono LZ.out.size)); have M3 := hiddenN (MM2.out.trans (q2.mono MM2.out.size)); have G3 := hiddenN (G2.out.below M3.out); have z0 := G3.out.cell (k := 0) rfl; have z1 := G3.out.cell (k := 1) rfl; simp only [List.getElem_toArray, List.getElem_cons_zero, List.getElem_cons_succ] at z0 z1; have X3 := hiddenN (X2.out.below M3.out); clear q2 CC LZ MM2))
      go_upto_region 4 with (first
        | (go_at_call 6; (with_reducible refine (LN.out W3 L3.out).mono ?_); rintro e U4 ⟨g4, gc4, rfl, q1, q2⟩; have EL := hiddenN q1; have LL := hiddenN (L3.out.trans (q2.mono L3.out.size)); have MM1 := hiddenN q2; clear q1 q2)
        | (go_at_call 7; (with_reducible refine (IN.out U4 LL.out).mono ?_); rintro e Z4 ⟨p4, pc4, rfl, q1, q2⟩; have EZ := hiddenN (EL.out.below q2); have LZ := hiddenN (LL.out.trans (q2.mono LL.out.size)); have MM2 := hiddenN (MM1.out.trans (q2.mono MM1.out.size)); have PZ := hiddenN q1.at; clear q1 q2 LL EL MM1; have CC := hiddenN (PH.out Z4 ⟨g4, 0, none⟩ p4 gc4 pc4 EZ.out.at PZ.out); )
        | (go_at_call 9; (with_reducible refine CC.out.mono ?_); rintro e W4 ⟨rfl, q2⟩; have L4 := hiddenN (LZ.out.trans (q2.mono LZ.out.size)); have M4 := hiddenN (MM2.out.trans (q2.mono MM2.out.size)); have X4 := hiddenN (X3.out.below M4.out); clear q2 CC LZ MM2))
      clear PP PA PH z0 z1 G3 X2 X3 M3 M4 L2 L3
      go_wp2_with (go_at_call 10; (with_reducible refine (AW.out _).mono ?_); rintro e VV ⟨rfl, q2⟩; have LF := hiddenN (L4.out.trans (q2.mono L4.out.size)); have x0 := (X4.out.below q2).cell (k := 0) rfl; have x1 := (X4.out.below q2).cell (k := 1) rfl; simp only [List.getElem_toArray, List.getElem_cons_zero, List.getElem_cons_succ] at x0 x1; clear q2)
      go_ret
      exact ⟨by first | rfl | simp, LF.out⟩
    · have PP : Hid (∀ U x y cx cy, AtN U (some x) n.arcs → At U y zs → Calls Try.prog 5 #[.agg #[.int .i64 n.nodes, .slice (some x) n.arcs.length cx], .slice y zs.length cy] U fun e w' => ∃ d c', e = .returned (.tuple #[.agg #[.slice d 0 c', .int .i64 0], .int .i64 (plaC n zs)]) ∧ Below U.heap.size U w') := fun U x y cx cy q1 q2 => (place_anyX n (some x) cx U q1 hroom (fun e => by cases e) y cy zs q2 hzl).mono fun e w' hh => by
        obtain ⟨d, c', e1, -, q⟩ := hh
        rw [show plaL n zs = [] by unfold plaL; rw [if_neg hp], show plaT n zs = 0 by unfold plaT; rw [if_neg hp]] at e1
        exact ⟨d, c', e1, q⟩
      have PA : Hid (∀ U x y cx cy, AtN U (some x) n.arcs → At U y zs → Calls Try.prog 8 #[.agg #[.int .i64 n.nodes, .slice (some x) n.arcs.length cx], .slice y zs.length cy] U fun e w' => ∃ d l c', e = .returned (.tuple #[.slice d l c', .int .i64 (codeV n zs)]) ∧ Below U.heap.size U w') := fun U x y cx cy q1 q2 => (along_any n (some x) cx U q1 hroom (fun e => by cases e) y cy zs q2 hzl).mono fun e w' hh => by
        rcases hh with ⟨k1, B, v, e1, -, -, ⟨A, C, q1⟩, q2⟩ | ⟨-, e1, q⟩
        · obtain ⟨x, rc, rfl⟩ := tabG_shapeV q1
          exact ⟨_, _, _, by rw [k1]; exact e1, q2⟩
        · exact ⟨_, _, _, e1, q⟩
      have PH : Hid (∀ U x y cx cy, AtN U (some x) n.arcs → At U y zs → Calls Try.prog 9 #[.agg #[.int .i64 n.nodes, .slice (some x) n.arcs.length cx], .slice y zs.length cy] U fun e w' => e = .returned (.tuple #[.bool (homeB n zs), .int .i64 (codeV n zs)]) ∧ Below U.heap.size U w') := fun U x y cx cy q1 q2 => home_anyV n (some x) cx U q1 hroom (fun e => by cases e) y cy zs q2 hzl
      rw [k3] at PP
      rw [k1] at PA
      rw [k1, k2] at PH
      clear hp k1 k2 k3
      go_enter Try.func3, Try.ntmps3
      go_upto_region 1 with fail
      generalize w.alloc (.cells #[.int .i64 n.nodes, .slice a n.arcs.length c] 24) = W0 at *
      go_upto_region 2 with (first
        | (go_at_call 6; (with_reducible refine (LN.out W0 B0.out).mono ?_); rintro e U1 ⟨g1, gc1, rfl, q1, q2⟩; have EL := hiddenN q1; have LL := hiddenN (B0.out.trans (q2.mono B0.out.size)); have MM1 := hiddenN q2; clear q1 q2)
        | (go_at_call 7; (with_reducible refine (IN.out U1 LL.out).mono ?_); rintro e Z1 ⟨p1, pc1, rfl, q1, q2⟩; have EZ := hiddenN (EL.out.below q2); have LZ := hiddenN (LL.out.trans (q2.mono LL.out.size)); have MM2 := hiddenN (MM1.out.trans (q2.mono MM1.out.size)); have PZ := hiddenN q1.at; clear q1 q2 LL EL MM1; have CC := hiddenN (PP.out Z1 ⟨g1, 0, none⟩ p1 gc1 pc1 EZ.out.at PZ.out); )
        | (go_at_call 5; (with_reducible refine CC.out.mono ?_); rintro e W1 ⟨dp, cp, rfl, q2⟩; have L1 := hiddenN (LZ.out.trans (q2.mono LZ.out.size)); have M1 := hiddenN (MM2.out.trans (q2.mono MM2.out.size)); have G1 := hiddenN (G0.out.below M1.out); have z0 := G1.out.cell (k := 0) rfl; have z1 := G1.out.cell (k := 1) rfl; simp only [List.getElem_toArray, List.getElem_cons_zero, List.getElem_cons_succ] at z0 z1; clear q2 CC LZ MM2))
      have bX := (Below.refl W1.heap.size W1).alloc (Nat.le_refl _) (.cells #[.slice dp 0 cp, .int .i64 0] 28)
      have X2 := hiddenN (blkA_new 28 W1 #[.slice dp 0 cp, .int .i64 0])
      have L2 := hiddenN (L1.out.trans (bX.mono L1.out.size))
      have G2 := hiddenN (G1.out.below bX); have z0 := G2.out.cell (k := 0) rfl; have z1 := G2.out.cell (k := 1) rfl; simp only [List.getElem_toArray, List.getElem_cons_zero, List.getElem_cons_succ] at z0 z1; clear G1 M1 G0
      clear bX L1
      generalize W1.alloc (.cells #[.slice dp 0 cp, .int .i64 0] 28) = W2 at *
      obtain ⟨xb, hxb⟩ : ∃ q, W1.heap.size = q := ⟨_, rfl⟩
      rw [hxb] at X2 ⊢
      clear hxb
      go_upto_region 3 with (first
        | (go_at_call 6; (with_reducible refine (LN.out W2 L2.out).mono ?_); rintro e U3 ⟨g3, gc3, rfl, q1, q2⟩; have EL := hiddenN q1; have LL := hiddenN (L2.out.trans (q2.mono L2.out.size)); have MM1 := hiddenN q2; clear q1 q2)
        | (go_at_call 7; (with_reducible refine (IN.out U3 LL.out).mono ?_); rintro e Z3 ⟨p3, pc3, rfl, q1, q2⟩; have EZ := hiddenN (EL.out.below q2); have LZ := hiddenN (LL.out.trans (q2.mono LL.out.size)); have MM2 := hiddenN (MM1.out.trans (q2.mono MM1.out.size)); have PZ := hiddenN q1.at; clear q1 q2 LL EL MM1; have CC := hiddenN (PA.out Z3 ⟨g3, 0, none⟩ p3 gc3 pc3 EZ.out.at PZ.out); )
        | (go_at_call 8; (with_reducible refine CC.out.mono ?_); rintro e W3 ⟨da, la, ca, rfl, q2⟩; have L3 := hiddenN (LZ.out.trans (q2.mono LZ.out.size)); have M3 := hiddenN (MM2.out.trans (q2.mono MM2.out.size)); have G3 := hiddenN (G2.out.below M3.out); have z0 := G3.out.cell (k := 0) rfl; have z1 := G3.out.cell (k := 1) rfl; simp only [List.getElem_toArray, List.getElem_cons_zero, List.getElem_cons_succ] at z0 z1; have X3 := hiddenN (X2.out.below M3.out); clear q2 CC LZ MM2))
      go_upto_region 4 with (first
        | (go_at_call 6; (with_reducible refine (LN.out W3 L3.out).mono ?_); rintro e U4 ⟨g4, gc4, rfl, q1, q2⟩; have EL := hiddenN q1; have LL := hiddenN (L3.out.trans (q2.mono L3.out.size)); have MM1 := hiddenN q2; clear q1 q2)
        | (go_at_call 7; (with_reducible refine (IN.out U4 LL.out).mono ?_); rintro e Z4 ⟨p4, pc4, rfl, q1, q2⟩; have EZ := hiddenN (EL.out.below q2); have LZ := hiddenN (LL.out.trans (q2.mono LL.out.size)); have MM2 := hiddenN (MM1.out.trans (q2.mono MM1.out.size)); have PZ := hiddenN q1.at; clear q1 q2 LL EL MM1; have CC := hiddenN (PH.out Z4 ⟨g4, 0, none⟩ p4 gc4 pc4 EZ.out.at PZ.out); )
        | (go_at_call 9; (with_reducible refine CC.out.mono ?_); rintro e W4 ⟨rfl, q2⟩; have L4 := hiddenN (LZ.out.trans (q2.mono LZ.out.size)); have M4 := hiddenN (MM2.out.trans (q2.mono MM2.out.size)); have X4 := hiddenN (X3.out.below M4.out); clear q2 CC LZ MM2))
      clear PP PA PH z0 z1 G3 X2 X3 M3 M4 L2 L3
      go_wp2_with (go_at_call 10; (with_reducible refine (AW.out _).mono ?_); rintro e VV ⟨rfl, q2⟩; have LF := hiddenN (L4.out.trans (q2.mono L4.out.size)); have x0 := (X4.out.below q2).cell (k := 0) rfl; have x1 := (X4.out.below q2).cell (k := 1) rfl; simp only [List.getElem_toArray, List.getElem_cons_zero, List.getElem_cons_succ] at x0 x1; clear q2)
      go_ret
      exact ⟨by first | rfl | simp, LF.out⟩
end Go.Proofs.Ytffikkkfnbffbaa

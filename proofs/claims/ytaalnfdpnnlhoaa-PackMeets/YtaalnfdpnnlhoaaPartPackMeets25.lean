/- Texts of one chain, laid one behind the other. -/
import Derived.Test.YtaalnfdpnnlhoaaPartPackMeets24
namespace Go.Proofs.Ytaalnfdpnnlhoaa
open Go.ChangeShapes Go.WideShapes Go.ChangeAt Go.RowKit
def netX : NN := ⟨2, [⟨0, 1, 2, 1, 0⟩, ⟨1, 0, 1, 2, 2⟩]⟩
theorem wakeX1 : codeV netX [0, 1, 1] = 0 ∧ cloL netX [0, 1, 1] = [(0, 1)] ∧ plaC netX [0, 1, 1] = 0 ∧ plaL netX [0, 1, 1] = [(0, 2), (2, 2)] ∧ plaT netX [0, 1, 1] = 4 := by decide +kernel
theorem wakeX2 : plaC netX [0, 1] = 181 ∧ plaL netX [0, 1] = [] ∧ plaT netX [0, 1] = 0 ∧ chkC netX [(0, 2), (1, 2)] 3 [0, 1, 1] = 192 ∧ chkC netX [(3, 2), (0, 3)] 5 [0, 1, 1] = 0 := by decide +kernel
theorem atN_alloc2X (U : World) : AtN (U.alloc (.cells #[.int .i64 0, .int .i64 1, .int .i64 2, .int .i64 1, .int .i64 0, .int .i64 1, .int .i64 0, .int .i64 1, .int .i64 2, .int .i64 2] 63)) (some ⟨U.heap.size, 0, none⟩) netX.arcs := by
  refine .inr ⟨U.heap.size, 0, rfl, fun k hk => ?_⟩
  have b := blkA_new 63 U #[.int .i64 0, .int .i64 1, .int .i64 2, .int .i64 1, .int .i64 0, .int .i64 1, .int .i64 0, .int .i64 1, .int .i64 2, .int .i64 2]
  match k, hk with
  | 0, _ => exact ⟨b.cell rfl, b.cell rfl, b.cell rfl, b.cell rfl, b.cell rfl⟩
  | 1, _ => exact ⟨b.cell rfl, b.cell rfl, b.cell rfl, b.cell rfl, b.cell rfl⟩
set_option maxRecDepth 100000 in
set_option maxHeartbeats 4000000 in
theorem two_anyX (w : World) : Calls Try.prog 28 #[] w fun e w' => ∃ x, e = .returned (.agg #[.int .i64 2, .slice (some x) 2 2]) ∧ AtN w' (some x) netX.arcs ∧ Below w.heap.size w w' := by
  have b0 := (Below.refl w.heap.size w).alloc (Nat.le_refl _) (.cells #[.int .i64 0, .slice none 0 0] 24)
  have G0 := hiddenN (blkA_new 24 w #[.int .i64 0, .slice none 0 0])
  have B0 := hiddenN b0
  clear b0
  go_enter Try.func28, Try.ntmps28
  go_upto_region 1 with fail
  generalize w.alloc (.cells #[.int .i64 0, .slice none 0 0] 24) = W0 at *
  have a1 := (Below.refl W0.heap.size W0).alloc (Nat.le_refl _) (.cells #[.int .i64 0, .int .i64 1, .int .i64 2, .int .i64 1, .int .i64 0, .int .i64 1, .int .i64 0, .int .i64 1, .int .i64 2, .int .i64 2] 63)
  have H1 := hiddenN (atN_alloc2X W0)
  have A1 := hiddenN a1
  have G1 := hiddenN (G0.out.below a1)
  clear a1
  have hlt := G0.out.lt
  go_wp2_with (refine wpList_storeW _ rfl 24 (.tmp 0) (.tmp 4) rfl rfl w.heap.size 24 _ _ rfl rfl G1.out sizNet rfl rfl ?_; intro w8 hN hU; have N8 := hiddenN hN; have U8 := hiddenN hU; clear hN hU)
  have t0 : w8.cell? ⟨w.heap.size, 0, none⟩ = some (.int .i64 2) := N8.out.cell rfl
  have t1 : w8.cell? ⟨w.heap.size, 1, none⟩ = some (.slice (some ⟨W0.heap.size, 0, none⟩) 2 2) := N8.out.cell rfl
  refine bodyPost_ret (v := .agg #[.int .i64 2, .slice (some ⟨W0.heap.size, 0, none⟩) 2 2]) (by simp [results, Try.results28, go_sem, t0, t1]) rfl ?_
  have hs1 : (W0.alloc (.cells #[.int .i64 0, .int .i64 1, .int .i64 2, .int .i64 1, .int .i64 0, .int .i64 1, .int .i64 0, .int .i64 1, .int .i64 2, .int .i64 2] 63)).heap.size = W0.heap.size + 1 := World.size_alloc _ _
  exact ⟨_, rfl, H1.out.keep fun x hx => by cases hx; exact U8.out.block _ (by show W0.heap.size < _; omega) (by show W0.heap.size ≠ w.heap.size; omega), B0.out.trans ((A1.out.mono B0.out.size).trans (U8.out.below (Nat.le_refl _) (Nat.le_trans B0.out.size A1.out.size)))⟩
theorem atGn_two (U : World) (p0 p1 p2 p3 : Int) : AtGn (U.alloc (.cells #[.int .i64 p0, .int .i64 p1, .int .i64 p2, .int .i64 p3] 41)) (some ⟨U.heap.size, 0, none⟩) [(p0, p1), (p2, p3)] := by
  refine .inr ⟨U.heap.size, 0, rfl, fun k hk => ?_⟩
  have b := blkA_new 41 U #[.int .i64 p0, .int .i64 p1, .int .i64 p2, .int .i64 p3]
  match k, hk with
  | 0, _ => exact ⟨b.cell rfl, b.cell rfl⟩
  | 1, _ => exact ⟨b.cell rfl, b.cell rfl⟩
set_option maxRecDepth 100000 in
set_option maxHeartbeats 4000000 in
theorem plan_anyX (p0 p1 p2 p3 p4 : Int) (w : World) : Calls Try.prog 29 #[.int .i64 p0, .int .i64 p1, .int .i64 p2, .int .i64 p3, .int .i64 p4] w fun e w' => ∃ x, e = .returned (.agg #[.slice (some x) 2 2, .int .i64 p4]) ∧ AtGn w' (some x) [(p0, p1), (p2, p3)] ∧ Below w.heap.size w w' := by
  have b0 := (Below.refl w.heap.size w).alloc (Nat.le_refl _) (.cells #[.slice none 0 0, .int .i64 0] 28)
  have G0 := hiddenN (blkA_new 28 w #[.slice none 0 0, .int .i64 0])
  have B0 := hiddenN b0
  clear b0
  go_enter Try.func29, Try.ntmps29
  go_upto_region 1 with fail
  generalize w.alloc (.cells #[.slice none 0 0, .int .i64 0] 28) = W0 at *
  have a1 := (Below.refl W0.heap.size W0).alloc (Nat.le_refl _) (.cells #[.int .i64 p0, .int .i64 p1, .int .i64 p2, .int .i64 p3] 41)
  have H1 := hiddenN (atGn_two W0 p0 p1 p2 p3)
  have A1 := hiddenN a1
  have G1 := hiddenN (G0.out.below a1)
  clear a1
  have hlt := G0.out.lt
  go_wp2_with (refine wpList_storeW _ rfl 28 (.tmp 10) (.tmp 19) rfl rfl w.heap.size 28 _ _ rfl rfl G1.out Try.sizPl rfl rfl ?_; intro w8 hN hU; have N8 := hiddenN hN; have U8 := hiddenN hU; clear hN hU)
  have t0 : w8.cell? ⟨w.heap.size, 0, none⟩ = some (.slice (some ⟨W0.heap.size, 0, none⟩) 2 2) := N8.out.cell rfl
  have t1 : w8.cell? ⟨w.heap.size, 1, none⟩ = some (.int .i64 p4) := N8.out.cell rfl
  refine bodyPost_ret (v := .agg #[.slice (some ⟨W0.heap.size, 0, none⟩) 2 2, .int .i64 p4]) (by simp [results, Try.results29, go_sem, t0, t1]) rfl ?_
  have hs1 : (W0.alloc (.cells #[.int .i64 p0, .int .i64 p1, .int .i64 p2, .int .i64 p3] 41)).heap.size = W0.heap.size + 1 := World.size_alloc _ _
  have hk : w8.heap[W0.heap.size]? = (W0.alloc (.cells #[.int .i64 p0, .int .i64 p1, .int .i64 p2, .int .i64 p3] 41)).heap[W0.heap.size]? := U8.out.block _ (by omega) (by omega)
  refine ⟨_, rfl, ?_, B0.out.trans ((A1.out.mono B0.out.size).trans (U8.out.below (Nat.le_refl _) (Nat.le_trans B0.out.size A1.out.size)))⟩
  rcases H1.out with e | ⟨b, off, e, hc⟩
  · cases e
  · cases e
    exact .inr ⟨_, _, rfl, fun k hkk => ⟨(World.cell?_of_block hk).trans (hc k hkk).1, (World.cell?_of_block hk).trans (hc k hkk).2⟩⟩
set_option maxRecDepth 100000 in
set_option maxHeartbeats 4000000 in
theorem same_planX (a b : Option Addr) (n c d : Nat) (L : List (Int × Int)) (t : Int) (W : World) (h1 : AtGn W a L) (h2 : AtGn W b L) (hN : L.length = n) (hn : n ≤ 1000000) :
    Calls Try.prog 30 #[.agg #[.slice a n c, .int .i64 t], .agg #[.slice b n d, .int .i64 t]] W fun e w' => e = .returned (.bool true) ∧ Below W.heap.size W w' := by
  have y1 : Hid (Below W.heap.size W (W.alloc (.cells #[.slice a n c, .int .i64 t] 28))) := (Below.refl _ _).alloc (Nat.le_refl _) _
  have hs1 : (W.alloc (.cells #[.slice a n c, .int .i64 t] 28)).heap.size = W.heap.size + 1 := World.size_alloc ..
  have y2 : Hid (Below (W.alloc (.cells #[.slice a n c, .int .i64 t] 28)).heap.size (W.alloc (.cells #[.slice a n c, .int .i64 t] 28)) ((W.alloc (.cells #[.slice a n c, .int .i64 t] 28)).alloc (.cells #[.slice b n d, .int .i64 t] 28))) := (Below.refl _ _).alloc (Nat.le_refl _) _
  have G0 := hiddenN ((blkA_new 28 W #[.slice a n c, .int .i64 t]).below y2.out)
  have D0 := hiddenN (blkA_new 28 (W.alloc (.cells #[.slice a n c, .int .i64 t] 28)) #[.slice b n d, .int .i64 t])
  have B0 := hiddenN (y1.out.trans (y2.out.mono (by rw [hs1]; omega)))
  have H1 := hiddenN ((h1.below y1.out).below y2.out)
  have H2 := hiddenN ((h2.below y1.out).below y2.out)
  have HN := hiddenN hN
  rw [hs1] at D0
  clear h1 h2 hN y1 y2 hs1
  have qt : (t != t) = false := by simp
  have qn : ((n : Int) != (n : Int)) = false := by simp
  go_enter Try.func30, Try.ntmps30
  go_upto_region 1 with fail
  generalize (W.alloc (.cells #[.slice a n c, .int .i64 t] 28)).alloc (.cells #[.slice b n d, .int .i64 t] 28) = W1 at *
  have g0 := G0.out.cell (k := 0) rfl
  have g1 := G0.out.cell (k := 1) rfl
  have d0 := D0.out.cell (k := 0) rfl
  have d1 := D0.out.cell (k := 1) rfl
  simp only [List.getElem_toArray, List.getElem_cons_zero, List.getElem_cons_succ] at g0 g1 d0 d1
  go_wp2
  clear qt qn g1 d1 g0 d0
  go_loopg [5] n (fun gk u wr => ∃ (k m : Nat), k ≤ n ∧ gk = n - k ∧ u = .int .i64 (k : Int) ∧ wr = W1.drewN m)
  case atStart => exact ⟨0, 0, Nat.zero_le _, rfl, rfl, rfl⟩
  case round =>
    obtain ⟨k, m, hk, rfl, rfl, rfl⟩ := hrel
    have g0 := G0.out.cell (k := 0) rfl
    have d0 := D0.out.cell (k := 0) rfl
    simp only [List.getElem_toArray, List.getElem_cons_zero] at g0 d0
    by_cases hlt : k < n
    · have hki : (k : Int) < (n : Int) := by omega
      have hkL : k < L.length := by rw [HN.out]; exact hlt
      rcases H1.out with e1 | ⟨ab, off, rfl, hc⟩
      · rw [e1] at hkL; exact absurd hkL (Nat.not_lt_zero _)
      rcases H2.out with e1 | ⟨bb, of2, rfl, hd⟩
      · rw [e1] at hkL; exact absurd hkL (Nat.not_lt_zero _)
      obtain ⟨c0, c1⟩ := hc k hkL
      obtain ⟨e0, e1⟩ := hd k hkL
      obtain ⟨x1, hx1⟩ : ∃ x, (nthX L k).1 = x := ⟨_, rfl⟩
      obtain ⟨x2, hx2⟩ : ∃ x, (nthX L k).2 = x := ⟨_, rfl⟩
      rw [hx1] at c0 e0
      rw [hx2] at c1 e1
      have hgd : ∀ (op : BinOp) (a b : Operand) (xs ys : Array Value) (w : World), Sem.run Try.prog (eqGuard op 41 a b (.agg xs) (.agg ys)) w = .ok () w := Try.eqgGn
      have heq : ∀ w, Sem.run Try.prog (binOp .neq 41 (.agg #[.int .i64 x1, .int .i64 x2]) (.agg #[.int .i64 x1, .int .i64 x2])) w = .ok (.bool false) w := fun w => by rw [Try.neqGn]; simp
      clear hc hd hkL hx1 hx2
      go_upto_region 6 with fail
      go_quiet (fail)
      go_wp2
      go_roundg (n - (k + 1))
      case measure => omega
      case rel => exact ⟨k + 1, m + nq, by omega, rfl, by go_num, by simp⟩
    · have hki : ¬ (k : Int) < (n : Int) := by omega
      go_wp2
      go_ret
      exact ⟨rfl, drewB B0.out _⟩
/-- The plan that the document tells. -/
def PlX (u : World) (z : Value) : Prop := ∃ x, z = .agg #[.slice (some x) 2 2, .int .i64 4] ∧ AtGn u (some x) [(0, 2), (2, 2)]
theorem PlX.later {u u' : World} {z : Value} (h : PlX u z) (hb : Below u.heap.size u u') : PlX u' z := by
  obtain ⟨x, h1, h2⟩ := h
  exact ⟨x, h1, h2.below hb⟩
theorem clashW (w : World) (x y : Addr) (h : AtN w (some x) netX.arcs) (hz : At w (some y) [0, 1, 1]) : Calls Try.prog 14 #[.agg #[.int .i64 2, .slice (some x) 2 2], .slice (some y) 3 3] w fun e w' => ∃ d c', e = .returned (.tuple #[.slice d 1 c', .int .i64 0]) ∧ AtPp w' d [(0, 1)] ∧ Below w.heap.size w w' :=
  (clashes_anyX netX (some x) 2 w h (by decide) (fun e => by cases e) (some y) 3 [0, 1, 1] hz (by decide)).mono fun e w' hh => by
    obtain ⟨d, c', e1, q1, q2⟩ := hh
    rw [wakeX1.2.1, wakeX1.1] at e1
    rw [wakeX1.2.1] at q1
    exact ⟨d, c', e1, q1.at, q2⟩
theorem placeW (w : World) (x y : Addr) (h : AtN w (some x) netX.arcs) (hz : At w (some y) [0, 1, 1]) : Calls Try.prog 6 #[.agg #[.int .i64 2, .slice (some x) 2 2], .slice (some y) 3 3] w fun e w' => ∃ d c', e = .returned (.tuple #[.agg #[.slice d 2 c', .int .i64 4], .int .i64 0]) ∧ AtGn w' d [(0, 2), (2, 2)] ∧ Below w.heap.size w w' :=
  (place_anyX netX (some x) 2 w h (by decide) (fun e => by cases e) (some y) 3 [0, 1, 1] hz (by decide)).mono fun e w' hh => by
    obtain ⟨d, c', e1, q1, q2⟩ := hh
    rw [wakeX1.2.2.2.1, wakeX1.2.2.2.2, wakeX1.2.2.1] at e1
    rw [wakeX1.2.2.2.1] at q1
    exact ⟨d, c', e1, q1.at, q2⟩
theorem placeW2 (w : World) (x y : Addr) (h : AtN w (some x) netX.arcs) (hz : At w (some y) [0, 1]) : Calls Try.prog 6 #[.agg #[.int .i64 2, .slice (some x) 2 2], .slice (some y) 2 2] w fun e w' => ∃ d c', e = .returned (.tuple #[.agg #[.slice d 0 c', .int .i64 0], .int .i64 181]) ∧ Below w.heap.size w w' :=
  (place_anyX netX (some x) 2 w h (by decide) (fun e => by cases e) (some y) 2 [0, 1] hz (by decide)).mono fun e w' hh => by
    obtain ⟨d, c', e1, q1, q2⟩ := hh
    rw [wakeX2.2.1, wakeX2.2.2.1, wakeX2.1] at e1
    exact ⟨d, c', e1, q2⟩
theorem checkW (w : World) (x y : Addr) (h : AtN w (some x) netX.arcs) (hz : At w (some y) [0, 1, 1]) (p : Addr) (hp : AtGn w (some p) [(0, 2), (1, 2)]) : Calls Try.prog 13 #[.agg #[.int .i64 2, .slice (some x) 2 2], .agg #[.slice (some p) 2 2, .int .i64 3], .slice (some y) 3 3] w fun e w' => e = .returned (.int .i64 192) ∧ Below w.heap.size w w' :=
  (check_anyX netX (some x) 2 w h (by decide) (fun e => by cases e) (some y) 3 [0, 1, 1] hz (by decide) (some p) 2 2 [(0, 2), (1, 2)] 3 hp rfl).mono fun e w' ⟨e1, q⟩ => ⟨by rw [wakeX2.2.2.2.1] at e1; exact e1, q⟩
theorem checkW2 (w : World) (x y : Addr) (h : AtN w (some x) netX.arcs) (hz : At w (some y) [0, 1, 1]) (p : Addr) (hp : AtGn w (some p) [(3, 2), (0, 3)]) : Calls Try.prog 13 #[.agg #[.int .i64 2, .slice (some x) 2 2], .agg #[.slice (some p) 2 2, .int .i64 5], .slice (some y) 3 3] w fun e w' => e = .returned (.int .i64 0) ∧ Below w.heap.size w w' :=
  (check_anyX netX (some x) 2 w h (by decide) (fun e => by cases e) (some y) 3 [0, 1, 1] hz (by decide) (some p) 2 2 [(3, 2), (0, 3)] 5 hp rfl).mono fun e w' ⟨e1, q⟩ => ⟨by rw [wakeX2.2.2.2.2] at e1; exact e1, q⟩
set_option maxRecDepth 100000 in
set_option maxHeartbeats 16000000 in
theorem awakeX (w : World) : Calls Try.prog 11 #[] w fun e w' => e = .returned (.bool true) ∧ Below w.heap.size w w' := by
  have mixed : Try.prog.follows .mixedOrders = true := by kernel_rfl
  have LW0 := hiddenN (Below.refl w.heap.size w)
  go_enter Try.func11, Try.ntmps11
  go_upto_region 2 with (first
    | (go_at_call 28; (with_reducible refine (two_anyX w).mono ?_); rintro e X1 ⟨x1, rfl, h, b⟩; have HH := hiddenN h; have LB := hiddenN b; have aA := (Below.refl X1.heap.size X1).alloc (Nat.le_refl _) (.cells #[.int .i64 0, .int .i64 1, .int .i64 1] 3); have CC := hiddenN (clashW (X1.alloc (.cells #[.int .i64 0, .int .i64 1, .int .i64 1] 3)) x1 ⟨X1.heap.size, 0, none⟩ (h.below aA) (at_allocV3 X1 0 1 1)); have LL := hiddenN (b.trans (aA.mono b.size)); clear aA; clear h b)
    | (go_at_call 14; (with_reducible refine CC.out.mono ?_); rintro e W1 ⟨pd, pc, rfl, q1, b⟩; have MW1 := hiddenN (LL.out.trans (b.mono LL.out.size)); have PD := hiddenN q1; have LW1 := hiddenN (LW0.out.trans (MW1.out.mono LW0.out.size)); clear q1; clear b CC LL HH LB))
  go_upto_region 3 with (first
    | (go_at_call 28; (with_reducible refine (two_anyX W1).mono ?_); rintro e X2 ⟨x2, rfl, h, b⟩; have HH := hiddenN h; have LB := hiddenN b; have aA := (Below.refl X2.heap.size X2).alloc (Nat.le_refl _) (.cells #[.int .i64 0, .int .i64 1, .int .i64 1] 3); have CC := hiddenN (placeW (X2.alloc (.cells #[.int .i64 0, .int .i64 1, .int .i64 1] 3)) x2 ⟨X2.heap.size, 0, none⟩ (h.below aA) (at_allocV3 X2 0 1 1)); have LL := hiddenN (b.trans (aA.mono b.size)); clear aA; clear h b)
    | (go_at_call 6; (with_reducible refine CC.out.mono ?_); rintro e W2 ⟨dp, cp, rfl, q1, b⟩; have MW2 := hiddenN (LL.out.trans (b.mono LL.out.size)); have PA2 := hiddenN q1; have PD2 := hiddenN (PD.out.below MW2.out); have LW2 := hiddenN (LW1.out.trans (MW2.out.mono LW1.out.size)); clear q1; clear b CC LL HH LB))
  have XA := (Below.refl W2.heap.size W2).alloc (Nat.le_refl _) (.cells #[.slice dp 2 cp, .int .i64 4] 28)
  have BX := hiddenN (blkA_new 28 W2 #[.slice dp 2 cp, .int .i64 4])
  have PA2' := hiddenN (PA2.out.below XA)
  have PD2' := hiddenN (PD2.out.below XA)
  have LW2' := hiddenN (LW2.out.trans (XA.mono LW2.out.size))
  clear XA PA2 PD2
  obtain ⟨xb, hxb⟩ : ∃ q, W2.heap.size = q := ⟨_, rfl⟩
  generalize W2.alloc (.cells #[.slice dp 2 cp, .int .i64 4] 28) = W2a at *
  rw [hxb] at BX ⊢
  clear hxb
  go_upto_region 4 with (first
    | (go_at_call 28; (with_reducible refine (two_anyX W2a).mono ?_); rintro e X3 ⟨x3, rfl, h, b⟩; have HH := hiddenN h; have LB := hiddenN b; have aA := (Below.refl X3.heap.size X3).alloc (Nat.le_refl _) (.cells #[.int .i64 0, .int .i64 1] 3); have CC := hiddenN (placeW2 (X3.alloc (.cells #[.int .i64 0, .int .i64 1] 3)) x3 ⟨X3.heap.size, 0, none⟩ (h.below aA) (at_alloc2 X3 0 1)); have LL := hiddenN (b.trans (aA.mono b.size)); clear aA; clear h b)
    | (go_at_call 6; (with_reducible refine CC.out.mono ?_); rintro e W3 ⟨dp3, cp3, rfl, b⟩; have MW3 := hiddenN (LL.out.trans (b.mono LL.out.size)); have PA3 := hiddenN (PA2'.out.below MW3.out); have PD3 := hiddenN (PD2'.out.below MW3.out); have BX3 := hiddenN (BX.out.below MW3.out); have LW3 := hiddenN (LW2'.out.trans (MW3.out.mono LW2'.out.size)); clear b CC LL HH LB))
  have XA := (Below.refl W3.heap.size W3).alloc (Nat.le_refl _) (.cells #[.slice dp3 0 cp3, .int .i64 0] 28)
  have PA3' := hiddenN (PA3.out.below XA)
  have PD3' := hiddenN (PD3.out.below XA)
  have BX3' := hiddenN (BX3.out.below XA)
  have LW3' := hiddenN (LW3.out.trans (XA.mono LW3.out.size))
  clear XA PA3 PD3 BX3
  generalize W3.alloc (.cells #[.slice dp3 0 cp3, .int .i64 0] 28) = W3a at *
  go_upto_region 5 with (first
    | (go_at_call 28; (with_reducible refine (two_anyX W3a).mono ?_); rintro e X4 ⟨x4, rfl, h, b⟩; have HH := hiddenN h; have LB := hiddenN b; clear h b)
    | (go_at_call 29; (with_reducible refine (plan_anyX 0 2 1 2 3 X4).mono ?_); rintro e Y4 ⟨y4, rfl, q1, b⟩; have aA := (Below.refl Y4.heap.size Y4).alloc (Nat.le_refl _) (.cells #[.int .i64 0, .int .i64 1, .int .i64 1] 3); have CC := hiddenN (checkW (Y4.alloc (.cells #[.int .i64 0, .int .i64 1, .int .i64 1] 3)) x4 ⟨Y4.heap.size, 0, none⟩ ((HH.out.below b).below aA) (at_allocV3 Y4 0 1 1) y4 (q1.below aA)); have LL := hiddenN (LB.out.trans ((b.trans (aA.mono b.size)).mono LB.out.size)); clear b q1 aA)
    | (go_at_call 13; (with_reducible refine CC.out.mono ?_); rintro e W4 ⟨rfl, b⟩; have MW4 := hiddenN (LL.out.trans (b.mono LL.out.size)); have PA4 := hiddenN (PA3'.out.below MW4.out); have PD4 := hiddenN (PD3'.out.below MW4.out); have BX4 := hiddenN (BX3'.out.below MW4.out); have LW4 := hiddenN (LW3'.out.trans (MW4.out.mono LW3'.out.size)); clear b CC LL HH LB))
  go_upto_region 6 with (first
    | (go_at_call 28; (with_reducible refine (two_anyX W4).mono ?_); rintro e X5 ⟨x5, rfl, h, b⟩; have HH := hiddenN h; have LB := hiddenN b; clear h b)
    | (go_at_call 29; (with_reducible refine (plan_anyX 3 2 0 3 5 X5).mono ?_); rintro e Y5 ⟨y5, rfl, q1, b⟩; have aA := (Below.refl Y5.heap.size Y5).alloc (Nat.le_refl _) (.cells #[.int .i64 0, .int .i64 1, .int .i64 1] 3); have CC := hiddenN (checkW2 (Y5.alloc (.cells #[.int .i64 0, .int .i64 1, .int .i64 1] 3)) x5 ⟨Y5.heap.size, 0, none⟩ ((HH.out.below b).below aA) (at_allocV3 Y5 0 1 1) y5 (q1.below aA)); have LL := hiddenN (LB.out.trans ((b.trans (aA.mono b.size)).mono LB.out.size)); clear b q1 aA)
    | (go_at_call 13; (with_reducible refine CC.out.mono ?_); rintro e W5 ⟨rfl, b⟩; have MW5 := hiddenN (LL.out.trans (b.mono LL.out.size)); have PA := hiddenN (PA4.out.below MW5.out); have PD5 := hiddenN (PD4.out.below MW5.out); have BX5 := hiddenN (BX4.out.below MW5.out); have LW5 := hiddenN (LW4.out.trans (MW5.out.mono LW4.out.size)); clear b CC LL HH LB))
  obtain ⟨pb, po, hpd, hc⟩ : ∃ b off, pd = some ⟨b, off, none⟩ ∧ ∀ k, k < 1 → W5.cell? ⟨b, off + k * 2, none⟩ = some (.int .i64 (nthX [(0, 1)] k).1) ∧ W5.cell? ⟨b, off + k * 2 + 1, none⟩ = some (.int .i64 (nthX [(0, 1)] k).2) := by
    rcases PD5.out with e | ⟨b, off, e, hc⟩
    · cases e
    · exact ⟨b, off, e, hc⟩
  subst hpd
  have l0 : W5.cell? ⟨pb, po, none⟩ = some (.int .i64 0) := (hc 0 (by decide)).1
  have l1 : W5.cell? ⟨pb, po + 1, none⟩ = some (.int .i64 1) := (hc 0 (by decide)).2
  have u0 : W5.cell? ⟨xb, 0, none⟩ = some (.slice dp 2 cp) := BX5.out.cell rfl
  have u1 : W5.cell? ⟨xb, 1, none⟩ = some (.int .i64 4) := BX5.out.cell rfl
  have hgd : ∀ (op : BinOp) (a b : Operand) (xs ys : Array Value) (w : World), Sem.run Try.prog (eqGuard op 50 a b (.agg xs) (.agg ys)) w = .ok () w := Try.eqgPp
  have heq : ∀ w, Sem.run Try.prog (binOp .eql 50 (.agg #[.int .i64 0, .int .i64 1]) (.agg #[.int .i64 0, .int .i64 1])) w = .ok (.bool true) w := fun w => by rw [Try.eqlPp]; rfl
  clear LW0 LW1 LW2 LW2' LW3 LW3' LW4 MW1 MW2 MW3 MW4 MW5 PD PA2' PD2' PA3' PD3' BX3' BX BX4 PA4 PD4 PD5 BX5 hc
  refine wp_region_gen [] (fun d i u z => match i with
      | 0 => z = .slice (some ⟨pb, po, none⟩) 1 pc
      | 1 => z = .int .i64 1
      | 2 => z = .bool true
      | 3 => z = .bool true
      | 4 => z = .slice (some ⟨pb, po, none⟩) 1 pc
      | 5 => z = .pointer (some ⟨pb, po, none⟩)
      | 6 => z = .agg #[.int .i64 0, .int .i64 1]
      | 7 => z = .agg #[.int .i64 0, .int .i64 1]
      | 8 => z = .bool true
      | 9 => z = .bool true
      | 10 => z = .bool true
      | 11 => z = .agg #[.slice dp 2 cp, .int .i64 4]
      | 12 => PlX u z
      | 13 => z = .bool true
      | 14 => z = .bool true
      | 15 => z = .bool true
      | _ => True) (fun _ u => Below W5.heap.size W5 u) (by kernel_rfl) (by kernel_rfl) (by kernel_rfl) ?_ ?_ ?_ ?_ ?_ ?_ (by kernel_rfl)
  · intro d i w v w' h hb
    match i, h with
    | 0, h => exact h
    | 1, h => exact h
    | 2, h => exact h
    | 3, h => exact h
    | 4, h => exact h
    | 5, h => exact h
    | 6, h => exact h
    | 7, h => exact h
    | 8, h => exact h
    | 9, h => exact h
    | 10, h => exact h
    | 11, h => exact h
    | 12, h => exact h.later hb
    | 13, h => exact h
    | 14, h => exact h
    | 15, h => exact h
    | _ + 16, _ => trivial
  · intro d u u' h hb
    exact h.trans (hb.mono h.size)
  · exact Below.refl _ _
  · intro d i o ρ w' hm ho hf hg hC hcs hfs hfr hdep
    match i, hm, ho, hf, hg, hfr, hdep with
    | 0, _, ho, hf, hg, hfr, hdep =>
      simp only [gTA, gCZ, gSI] at ho
      subst ho
      refine ⟨fun _ => ?_, fun hw => absurd (show true = false from hw) (by decide)⟩
      have ts : ρ (.tmp 1) = .slice (some ⟨pb, po, none⟩) 1 pc := hfr 1 (by kernel_rfl)
      simp [go_sem, ts]
      exact ⟨Below.refl _ _, rfl⟩
    | 1, _, ho, hf, hg, hfr, hdep =>
      simp only [gTA, gCZ, gCS, gSI] at ho
      subst ho
      refine ⟨fun _ => ?_, fun hw => absurd (show true = false from hw) (by decide)⟩
      have d0 : ρ (.tmp 36) = .slice (some ⟨pb, po, none⟩) 1 pc := hdep 0 36 (by kernel_rfl) (by kernel_rfl)
      simp [go_sem, d0]
      exact ⟨Below.refl _ _, rfl⟩
    | 2, _, ho, hf, hg, hfr, hdep =>
      simp only [gTA, gCZ, gCS, gSI] at ho
      subst ho
      refine ⟨fun _ => ?_, fun hw => absurd (show true = false from hw) (by decide)⟩
      have d0 : ρ (.tmp 37) = .int .i64 1 := hdep 1 37 (by kernel_rfl) (by kernel_rfl)
      simp [go_sem, d0, hcs]
      exact ⟨Below.refl _ _, rfl⟩
    | 3, _, ho, hf, hg, hfr, hdep =>
      simp only [gTA, gCZ, gCS, gSI] at ho
      subst ho
      refine ⟨fun _ => ?_, fun hw => absurd (show true = false from hw) (by decide)⟩
      have d0 : ρ (.tmp 38) = .bool true := hdep 2 38 (by kernel_rfl) (by kernel_rfl)
      simp [go_sem, d0]
      exact ⟨Below.refl _ _, rfl⟩
    | 4, _, ho, hf, hg, hfr, hdep =>
      simp only [gTA, gCZ, gCS, gSI] at ho
      subst ho
      have gd : ρ (.tmp 39) = .bool true := hdep 3 39 (by kernel_rfl) (by kernel_rfl)
      refine ⟨fun _ => ?_, fun hw => absurd (show (match ρ (.tmp 39) with | .bool c => c == true | _ => false) = false from hw) (by rw [gd]; decide)⟩
      clear gd
      have ts : ρ (.tmp 1) = .slice (some ⟨pb, po, none⟩) 1 pc := hfr 1 (by kernel_rfl)
      simp [go_sem, ts]
      exact ⟨Below.refl _ _, rfl⟩
    | 5, _, ho, hf, hg, hfr, hdep =>
      simp only [gTA, gCZ, gCS, gSI] at ho
      subst ho
      have gd : ρ (.tmp 39) = .bool true := hdep 3 39 (by kernel_rfl) (by kernel_rfl)
      refine ⟨fun _ => ?_, fun hw => absurd (show (match ρ (.tmp 39) with | .bool c => c == true | _ => false) = false from hw) (by rw [gd]; decide)⟩
      clear gd
      have d0 : ρ (.tmp 40) = .slice (some ⟨pb, po, none⟩) 1 pc := hdep 4 40 (by kernel_rfl) (by kernel_rfl)
      simp [go_sem, d0, hcs]
      exact ⟨Below.refl _ _, rfl⟩
    | 6, _, ho, hf, hg, hfr, hdep =>
      simp only [gTA, gCZ, gCS, gSI] at ho
      subst ho
      have gd : ρ (.tmp 39) = .bool true := hdep 3 39 (by kernel_rfl) (by kernel_rfl)
      refine ⟨fun _ => ?_, fun hw => absurd (show (match ρ (.tmp 39) with | .bool c => c == true | _ => false) = false from hw) (by rw [gd]; decide)⟩
      clear gd
      have k0 := cellN_later hC l0
      have k1 := cellN_later hC l1
      have d0 : ρ (.tmp 41) = .pointer (some ⟨pb, po, none⟩) := hdep 5 41 (by kernel_rfl) (by kernel_rfl)
      simp [go_sem, d0, k0, k1]
      exact ⟨Below.refl _ _, rfl⟩
    | 7, _, ho, hf, hg, hfr, hdep =>
      simp only [gTA, gCZ, gCS, gSI] at ho
      subst ho
      have gd : ρ (.tmp 39) = .bool true := hdep 3 39 (by kernel_rfl) (by kernel_rfl)
      refine ⟨fun _ => ?_, fun hw => absurd (show (match ρ (.tmp 39) with | .bool c => c == true | _ => false) = false from hw) (by rw [gd]; decide)⟩
      clear gd
      simp [go_sem, hcs]
      exact ⟨Below.refl _ _, rfl⟩
    | 8, _, ho, hf, hg, hfr, hdep =>
      simp only [gTA, gCZ, gCS, gSI] at ho
      subst ho
      have gd : ρ (.tmp 39) = .bool true := hdep 3 39 (by kernel_rfl) (by kernel_rfl)
      refine ⟨fun _ => ?_, fun hw => absurd (show (match ρ (.tmp 39) with | .bool c => c == true | _ => false) = false from hw) (by rw [gd]; decide)⟩
      clear gd
      have t0 : ρ (.tmp 42) = .agg #[.int .i64 0, .int .i64 1] := hdep 6 42 (by kernel_rfl) (by kernel_rfl)
      have t1 : ρ (.tmp 43) = .agg #[.int .i64 0, .int .i64 1] := hdep 7 43 (by kernel_rfl) (by kernel_rfl)
      simp [go_sem, t0, t1, heq, hgd]
      exact ⟨Below.refl _ _, rfl⟩
    | 9, _, ho, hf, hg, hfr, hdep =>
      simp only [gTA, gCZ, gCS, gSI] at ho
      subst ho
      refine ⟨fun _ => ?_, fun hw => absurd (show true = false from hw) (by decide)⟩
      have d0 : ρ (.tmp 39) = .bool true := hdep 3 39 (by kernel_rfl) (by kernel_rfl)
      have d1 : ρ (.tmp 44) = .bool true := hdep 8 44 (by kernel_rfl) (by kernel_rfl)
      simp [go_sem, d0, d1]
      exact ⟨Below.refl _ _, rfl⟩
    | 10, _, ho, hf, hg, hfr, hdep =>
      simp only [gTA, gCZ, gCS, gSI] at ho
      subst ho
      refine ⟨fun _ => ?_, fun hw => absurd (show true = false from hw) (by decide)⟩
      have d0 : ρ (.tmp 45) = .bool true := hdep 9 45 (by kernel_rfl) (by kernel_rfl)
      simp [go_sem, d0]
      exact ⟨Below.refl _ _, rfl⟩
    | 11, _, ho, hf, hg, hfr, hdep =>
      simp only [gTA, gCZ, gCS, gSI] at ho
      subst ho
      have gd : ρ (.tmp 46) = .bool true := hdep 10 46 (by kernel_rfl) (by kernel_rfl)
      refine ⟨fun _ => ?_, fun hw => absurd (show (match ρ (.tmp 46) with | .bool c => c == true | _ => false) = false from hw) (by rw [gd]; decide)⟩
      clear gd
      have ts : ρ (.tmp 3) = .pointer (some ⟨xb, 0, none⟩) := hfr 3 (by kernel_rfl)
      have k0 := cellN_later hC u0
      have k1 := cellN_later hC u1
      simp [go_sem, ts, k0, k1]
      exact ⟨Below.refl _ _, rfl⟩
    | 12, _, ho, hf, hg, hfr, hdep =>
      simp only [gTA, gCZ, gCS, gSI] at ho
      subst ho
      have gd : ρ (.tmp 46) = .bool true := hdep 10 46 (by kernel_rfl) (by kernel_rfl)
      refine ⟨fun _ => ?_, fun hw => absurd (show (match ρ (.tmp 46) with | .bool c => c == true | _ => false) = false from hw) (by rw [gd]; decide)⟩
      clear gd
      simp [go_sem, hcs, hfs]
      exact ⟨rfl, (plan_anyX 0 2 2 2 4 w').mono fun e w'' ⟨x, e1, q1, q2⟩ => ⟨_, e1, q2, x, rfl, q1⟩⟩
    | 13, _, ho, hf, hg, hfr, hdep =>
      simp only [gTA, gCZ, gCS, gSI] at ho
      subst ho
      have gd : ρ (.tmp 46) = .bool true := hdep 10 46 (by kernel_rfl) (by kernel_rfl)
      refine ⟨fun _ => ?_, fun hw => absurd (show (match ρ (.tmp 46) with | .bool c => c == true | _ => false) = false from hw) (by rw [gd]; decide)⟩
      clear gd
      have t0 : ρ (.tmp 47) = .agg #[.slice dp 2 cp, .int .i64 4] := hdep 11 47 (by kernel_rfl) (by kernel_rfl)
      obtain ⟨x, t1, q1⟩ : PlX w' (ρ (.tmp 48)) := hdep 12 48 (by kernel_rfl) (by kernel_rfl)
      simp [go_sem, t0, t1, hfs]
      exact ⟨rfl, (same_planX dp (some x) 2 cp 2 [(0, 2), (2, 2)] 4 w' (PA.out.below hC) q1 rfl (by decide)).mono fun e w'' ⟨e1, b⟩ => ⟨_, e1, b, rfl⟩⟩
    | 14, _, ho, hf, hg, hfr, hdep =>
      simp only [gTA, gCZ, gCS, gSI] at ho
      subst ho
      refine ⟨fun _ => ?_, fun hw => absurd (show true = false from hw) (by decide)⟩
      have d0 : ρ (.tmp 46) = .bool true := hdep 10 46 (by kernel_rfl) (by kernel_rfl)
      have d1 : ρ (.tmp 49) = .bool true := hdep 13 49 (by kernel_rfl) (by kernel_rfl)
      simp [go_sem, d0, d1]
      exact ⟨Below.refl _ _, rfl⟩
    | 15, _, ho, hf, hg, hfr, hdep =>
      simp only [gTA, gCZ, gCS, gSI] at ho
      subst ho
      refine ⟨fun _ => ?_, fun hw => absurd (show true = false from hw) (by decide)⟩
      have d0 : ρ (.tmp 50) = .bool true := hdep 14 50 (by kernel_rfl) (by kernel_rfl)
      simp [go_sem, d0]
      exact ⟨Below.refl _ _, rfl⟩
    | n + 16, _, ho, _, _, _, _ => simp at ho
  · intro d i o ρ w' hm ho h0 hf hg hC hcs hfs hfr hdep
    exact absurd hm (by simp)
  · intro V w9 hC9 hS
    have e15 : V 15 = .bool true := hS 15 (by decide) (by intro h; cases h)
    simp only [puts, e15]
    simp only [Act.put, List.setIfInBounds_toArray, List.set_cons_zero, List.set_cons_succ]
    clear hS e15
    have LF := hiddenN (LW5.out.trans (hC9.mono LW5.out.size))
    clear hC9
    go_wp2
    go_ret
    exact ⟨by first | rfl | simp, LF.out⟩
theorem Try.cellsPX : Try.prog.cellsOf 52 = 2 := by kernel_rfl
set_option maxRecDepth 100000 in
theorem pairX_open {H : Type} {enc : TypeId × Value → H} {W : World} {base : Nat} {held : Bool} {r : Reach} {b0 : Nat} {v : Value} {d : DataW H} {p : List MemPlace} (hv : Value.okWide Try.prog W r b0 52 v) (h : DataW.Trod enc Try.prog W base (fun _ => true) held 52 v d p) : ∃ x y : Int, v = .agg #[.int .i64 x, .int .i64 y] := by
  obtain ⟨cs, rfl, hsz⟩ := okWide_struct Try.underlying52 hv
  rw [Try.cellsPX] at hsz
  obtain ⟨fuel, hf⟩ := h
  obtain ⟨xs, k, hk, hxy, hcl, hxl, hf⟩ := DataW.trod_struct Try.underlying52 hf
  obtain ⟨l⟩ := cs
  match xs, hxl, l, hsz with
  | [y0, y1], _, [v0, v1], _ =>
    have g0 := hf 0 _ rfl
    have g1 := hf 1 _ rfl
    simp [Value.cells, Try.cells3N] at g0 g1
    obtain ⟨z0, q0, -, -⟩ := DataW.trod_int Try.underlying3 g0
    obtain ⟨z1, q1, -, -⟩ := DataW.trod_int Try.underlying3 g1
    simp only [List.cons.injEq, and_true] at q0 q1
    subst q0 q1
    exact ⟨z0, z1, rfl⟩
/-- How Along ends where it goes through: rows, with room for them. -/
def AlgE (R : List (List Int)) (m : Nat) (U : World) (e : Ending) (w' : World) : Prop := ∃ b off rc, e = .returned (.tuple #[.slice (some ⟨b, off, none⟩) m rc, .int .i64 0]) ∧ m ≤ rc ∧ (∀ k, k < m → ∃ y yc, w'.cell? ⟨b, off + k, none⟩ = some (.slice y (nthLV R k).length yc) ∧ At w' y (nthLV R k)) ∧ Below U.heap.size U w'
theorem alongG (n : NN) {zs : List Int} (hc : codeV n zs = 0) (U : World) (x : Addr) (y : Option Addr) (cx cy : Nat) (q1 : AtN U (some x) n.arcs) (hroom : n.arcs.length ≤ 4611686018427387904) (q2 : At U y zs) (hzl : zs.length ≤ 4611686018427387904) :
    Calls Try.prog 9 #[.agg #[.int .i64 n.nodes, .slice (some x) n.arcs.length cx], .slice y zs.length cy] U (AlgE (rowsV n (startT n) zs) (zs.length + 1) U) := (along_any n (some x) cx U q1 hroom (fun e => by cases e) y cy zs q2 hzl).mono fun e w' hh => by
  rcases hh with ⟨-, B, v, e1, -, -, ⟨A, C, q1⟩, q2⟩ | ⟨k1, -⟩
  · obtain ⟨x, rc, rfl⟩ := tabG_shapeV q1
    have q3 := q1.out.tab
    have hr := q1.row
    rw [rows_len] at e1
    rcases q3 with q3 | ⟨g, rfl, -, -, h3, -⟩
    · exact absurd q3 (rows_ne _ _ _)
    · refine ⟨g, 0, rc, e1, ?_, fun k hk => ?_, q2⟩
      · rcases hr.2 with ⟨h, -⟩ | ⟨g', cap, cur, hv, -, -, hc', -⟩
        · cases h
        · cases hv; rw [rows_len] at hc'; exact hc'
      · have hk' : k < (rowsV n (startT n) zs).length := by rw [rows_len]; exact hk
        exact ⟨A k, C k, by rw [Nat.zero_add]; exact h3 k hk', (q1.rows k hk').at⟩
  · exact absurd hc k1
structure MetT (m q : Nat) (CL : List (Int × Int)) (R : List (List Int)) : Prop where
  fewQ : q ≤ 1000000
  lenC : CL.length = q
  prs : ∀ k, k < q → ∃ p1 p2 : Nat, nthX CL k = ((p1 : Int), (p2 : Int)) ∧ p1 < p2 ∧ p2 < m
  rise : ∀ k, k + 1 < q → (nthX CL k).1 < (nthX CL (k + 1)).1 ∨ (nthX CL k).1 = (nthX CL (k + 1)).1 ∧ (nthX CL k).2 < (nthX CL (k + 1)).2
  iff : ∀ i j : Nat, i < j → j < m → ((∃ k, k < q ∧ nthX CL k = ((i : Int), (j : Int))) ↔ cloV R i j = true)
theorem metT_of {n : NN} {zs : List Int} (hc : codeV n zs = 0) : MetT n.arcs.length (cloL n zs).length (cloL n zs) (rowsV n (startT n) zs) := by
  have eC : cloL n zs = (prsV (cloV (rowsV n (startT n) zs)) n.arcs.length).map prI := if_pos hc
  have eq : (cloL n zs).length = (prsV (cloV (rowsV n (startT n) zs)) n.arcs.length).length := by rw [eC, List.length_map]
  have hprs : ∀ k p, (prsV (cloV (rowsV n (startT n) zs)) n.arcs.length)[k]? = some p → nthX (cloL n zs) k = ((p.1 : Int), (p.2 : Int)) := fun k p hp => nthX_at (by rw [eC, List.getElem?_map, hp]; rfl)
  refine ⟨cloL_few hc (cloL n zs) [] (List.append_nil _), rfl, fun k hk => ?_, fun k hk => ?_, fun i j hij hj => ⟨?_, fun h => ?_⟩⟩
  · rw [eq] at hk
    have hp := List.getElem?_eq_getElem hk
    have hm := mem_prsV.1 (List.mem_of_getElem? hp)
    exact ⟨_, _, hprs k _ hp, hm.1, hm.2.1⟩
  · rw [eq] at hk
    have hp := List.getElem?_eq_getElem hk
    have hp0 := List.getElem?_eq_getElem (Nat.lt_of_succ_lt hk)
    have q := List.pairwise_iff_getElem.1 (prsV_rise (cloV (rowsV n (startT n) zs)) n.arcs.length) k (k + 1) (Nat.lt_of_succ_lt hk) hk (Nat.lt_succ_self _)
    rw [hprs k _ hp0, hprs (k + 1) _ hp]
    unfold LexP at q
    simp only
    omega
  · rintro ⟨k, hk, e⟩
    rw [eq] at hk
    have hp := List.getElem?_eq_getElem hk
    have hm := mem_prsV.1 (List.mem_of_getElem? hp)
    rw [hprs k _ hp] at e
    obtain ⟨e1, e2⟩ := Prod.mk.inj e
    have a1 : ((prsV (cloV (rowsV n (startT n) zs)) n.arcs.length)[k]).1 = i := by omega
    have a2 : ((prsV (cloV (rowsV n (startT n) zs)) n.arcs.length)[k]).2 = j := by omega
    rw [a1, a2] at hm
    exact hm.2.2
  · obtain ⟨k, hk, e⟩ := List.getElem_of_mem ((mem_prsV (p := (i, j))).2 ⟨hij, hj, h⟩)
    exact ⟨k, by rw [eq]; exact hk, hprs k (i, j) (by rw [List.getElem?_eq_getElem hk, e])⟩
theorem nthLV_mem {R : List (List Int)} {k : Nat} (h : k < R.length) : nthLV R k ∈ R := by
  unfold nthLV
  rw [List.getD_eq_getElem?_getD, List.getElem?_eq_getElem h]
  exact List.getElem_mem h
theorem mem_nthLV {R : List (List Int)} {r : List Int} (h : r ∈ R) : ∃ k, k < R.length ∧ nthLV R k = r := by
  obtain ⟨k, hk, e⟩ := List.getElem_of_mem h
  refine ⟨k, hk, ?_⟩
  unfold nthLV
  rw [List.getD_eq_getElem?_getD, List.getElem?_eq_getElem hk, e]
  rfl
set_option maxRecDepth 100000 in
set_option maxHeartbeats 16000000 in
theorem packMeets_walk (n : NN) (a : Option Addr) (c : Nat) (a1 : Option Addr) (len1 cap1 : Nat) (zs : List Int) (I J : Int) (w : World) (h : ArgN w a c n) (h1 : Arg w a1 len1 cap1 zs) : Calls Try.prog 5 #[.agg #[.int .i64 n.nodes, .slice a n.arcs.length c], .slice a1 len1 cap1, .agg #[.int .i64 I, .int .i64 J]] w fun e w' => e = .returned (.bool true) ∧ Below w.heap.size w w' := by
  obtain rfl := h1.size
  have y1 : Hid (Below w.heap.size w (w.alloc (.cells #[.int .i64 n.nodes, .slice a n.arcs.length c] 24))) := (Below.refl _ _).alloc (Nat.le_refl _) _
  have hs1 : (w.alloc (.cells #[.int .i64 n.nodes, .slice a n.arcs.length c] 24)).heap.size = w.heap.size + 1 := World.size_alloc ..
  have y2 : Hid (Below (w.alloc (.cells #[.int .i64 n.nodes, .slice a n.arcs.length c] 24)).heap.size (w.alloc (.cells #[.int .i64 n.nodes, .slice a n.arcs.length c] 24)) ((w.alloc (.cells #[.int .i64 n.nodes, .slice a n.arcs.length c] 24)).alloc (.cells #[.int .i64 I, .int .i64 J] 52))) := (Below.refl _ _).alloc (Nat.le_refl _) _
  have G0 := hiddenN ((blkA_new 24 w #[.int .i64 n.nodes, .slice a n.arcs.length c]).below y2.out)
  have D0 := hiddenN (blkA_new 52 (w.alloc (.cells #[.int .i64 n.nodes, .slice a n.arcs.length c] 24)) #[.int .i64 I, .int .i64 J])
  have B0 := hiddenN (y1.out.trans (y2.out.mono (by rw [hs1]; omega)))
  rw [hs1] at D0
  have d0 := D0.out.cell (k := 0) rfl
  have d1 := D0.out.cell (k := 1) rfl
  simp only [List.getElem_toArray, List.getElem_cons_zero, List.getElem_cons_succ] at d0 d1
  have HA := hiddenN h
  have H1 := hiddenN h1
  have hroom : n.arcs.length ≤ 4611686018427387904 := by have := h.room; omega
  have hzl : zs.length ≤ 4611686018427387904 := by have := h1.reach; omega
  have LN : Hid (∀ U, Below w.heap.size w U → Calls Try.prog 7 #[.agg #[.int .i64 n.nodes, .slice a n.arcs.length c]] U (LentE n U)) := fun U hb => lentNet_any n a c U (HA.out.below hb)
  have AW : Hid (∀ U, Calls Try.prog 11 #[] U fun e w' => e = .returned (.bool true) ∧ Below U.heap.size U w') := fun U => awakeX U
  have z0 := G0.out.cell (k := 0) rfl
  have z1 := G0.out.cell (k := 1) rfl
  simp only [List.getElem_toArray, List.getElem_cons_zero, List.getElem_cons_succ] at z0 z1
  clear y1 y2 hs1 h h1
  have IN : Hid (∀ U, Below w.heap.size w U → Calls Try.prog 8 #[.slice a1 zs.length cap1] U (CopiedC U zs.length zs)) := fun U hb => ints_own a1 zs zs.length cap1 U (H1.out.below hb)
  by_cases hc : codeV n zs = 0
  · have PC : Hid (∀ U x y cx cy, AtN U (some x) n.arcs → At U y zs → Calls Try.prog 14 #[.agg #[.int .i64 n.nodes, .slice (some x) n.arcs.length cx], .slice y zs.length cy] U fun e w' => ∃ d c', e = .returned (.tuple #[.slice d (cloL n zs).length c', .int .i64 (codeV n zs)]) ∧ AtPp w' d (cloL n zs) ∧ Below U.heap.size U w') := fun U x y cx cy q1 q2 => (clashes_anyX n (some x) cx U q1 hroom (fun e => by cases e) y cy zs q2 hzl).mono fun e w' hh => by
      obtain ⟨d, c', e1, q3, q⟩ := hh
      exact ⟨d, c', e1, q3.at, q⟩
    have PA : Hid (∀ U x y cx cy, AtN U (some x) n.arcs → At U y zs → Calls Try.prog 9 #[.agg #[.int .i64 n.nodes, .slice (some x) n.arcs.length cx], .slice y zs.length cy] U (AlgE (rowsV n (startT n) zs) (zs.length + 1) U)) := fun U x y cx cy q1 q2 => alongG n hc U x y cx cy q1 hroom q2 hzl
    rw [hc] at PC
    have HZ2 : Hid (zs.length ≤ 2048) := (code_zero hc).2.1
    have RL : Hid (∀ k, k ≤ zs.length → (nthLV (rowsV n (startT n) zs) k).length = n.arcs.length) := fun k hk => by rw [row_lenV hk, start_len]
    have RLN : Hid ((rowsV n (startT n) zs).length = zs.length + 1) := rows_len n zs _
    have HT := hiddenN (metT_of hc)
    clear hc
    obtain ⟨q, hq⟩ : ∃ q, (cloL n zs).length = q := ⟨_, rfl⟩
    rw [hq] at HT PC
    clear hq
    generalize cloL n zs = CL at *
    generalize rowsV n (startT n) zs = R at *
    go_enter Try.func5, Try.ntmps5
    go_upto_region 1 with fail
    generalize ((w.alloc (.cells #[.int .i64 n.nodes, .slice a n.arcs.length c] 24)).alloc (.cells #[.int .i64 I, .int .i64 J] 52)) = W0 at *
    go_upto_region 3 with fail
    clear d0 d1
    go_upto_region 4 with (first
      | (go_at_call 7; (with_reducible refine (LN.out W0 B0.out).mono ?_); rintro e U1 ⟨g1, gc1, rfl, q1, q2⟩; have EL := hiddenN q1; have LL := hiddenN (B0.out.trans (q2.mono B0.out.size)); have MM1 := hiddenN q2; clear q1 q2)
      | (go_at_call 8; (with_reducible refine (IN.out U1 LL.out).mono ?_); rintro e Z1 ⟨p1, pc1, rfl, q1, q2⟩; have EZ := hiddenN (EL.out.below q2); have LZ := hiddenN (LL.out.trans (q2.mono LL.out.size)); have MM2 := hiddenN (MM1.out.trans (q2.mono MM1.out.size)); have PZ := hiddenN q1.at; clear q1 q2 LL EL MM1; have CC := hiddenN (PC.out Z1 ⟨g1, 0, none⟩ p1 gc1 pc1 EZ.out.at PZ.out); )
      | (go_at_call 14; (with_reducible refine CC.out.mono ?_); rintro e W1 ⟨dc, cc, rfl, q3, q2⟩; have L1 := hiddenN (LZ.out.trans (q2.mono LZ.out.size)); have M1 := hiddenN (MM2.out.trans (q2.mono MM2.out.size)); have C1 := hiddenN q3; clear q3; have G1 := hiddenN (G0.out.below M1.out); have z0 := G1.out.cell (k := 0) rfl; have z1 := G1.out.cell (k := 1) rfl; simp only [List.getElem_toArray, List.getElem_cons_zero, List.getElem_cons_succ] at z0 z1; clear q2 CC LZ MM2))
    go_upto_region 5 with (first
      | (go_at_call 7; (with_reducible refine (LN.out W1 L1.out).mono ?_); rintro e U2 ⟨g2, gc2, rfl, q1, q2⟩; have EL := hiddenN q1; have LL := hiddenN (L1.out.trans (q2.mono L1.out.size)); have MM1 := hiddenN q2; clear q1 q2)
      | (go_at_call 8; (with_reducible refine (IN.out U2 LL.out).mono ?_); rintro e Z2 ⟨p2, pc2, rfl, q1, q2⟩; have EZ := hiddenN (EL.out.below q2); have LZ := hiddenN (LL.out.trans (q2.mono LL.out.size)); have MM2 := hiddenN (MM1.out.trans (q2.mono MM1.out.size)); have PZ := hiddenN q1.at; clear q1 q2 LL EL MM1; have CC := hiddenN (PA.out Z2 ⟨g2, 0, none⟩ p2 gc2 pc2 EZ.out.at PZ.out); )
      | (go_at_call 9; (with_reducible refine CC.out.mono ?_); rintro e W2 ⟨rb, ro, rc, rfl, hrc, r1, q2⟩; have L2 := hiddenN (LZ.out.trans (q2.mono LZ.out.size)); have M2 := hiddenN (MM2.out.trans (q2.mono MM2.out.size)); have RR := hiddenN r1; clear r1 hrc; have G2 := hiddenN (G1.out.below M2.out); have z0 := G2.out.cell (k := 0) rfl; have z1 := G2.out.cell (k := 1) rfl; simp only [List.getElem_toArray, List.getElem_cons_zero, List.getElem_cons_succ] at z0 z1; have C2 := hiddenN (C1.out.below M2.out); clear q2 CC LZ MM2))
    clear PC PA z0 z1 G1 C1 M1 M2 L1 LN IN D0 G0
    go_wp2
    go_loopg [13, 14] q (fun gk u13 u14 wq => ∃ (k : Nat) (b : Bool), k ≤ q ∧ gk = q - k ∧ u13 = .bool b ∧ u14 = .int .i64 (k : Int) ∧ (b = true ↔ ∃ j, j < k ∧ nthX CL j = (I, J)) ∧ Below W2.heap.size W2 wq)
    case atStart => exact ⟨0, false, Nat.zero_le _, rfl, rfl, rfl, ⟨(fun hb => by cases hb), fun ⟨j, hj, _⟩ => absurd hj (Nat.not_lt_zero _)⟩, Below.refl _ _⟩
    case round =>
      obtain ⟨k, b, hk, rfl, rfl, rfl, htb, hBq⟩ := hrel
      have HTb := hiddenN htb
      have HBq := hiddenN hBq
      clear htb hBq
      by_cases hkq : k < q
      · have hkk : (k : Int) < (q : Int) := by omega
        have hqb := HT.out.fewQ
        have z1 := (G2.out.below HBq.out).cell (k := 1) rfl
        simp only [List.getElem_toArray, List.getElem_cons_zero, List.getElem_cons_succ] at z1
        have hgd : ∀ (op : BinOp) (a b : Operand) (xs ys : Array Value) (w : World), Sem.run Try.prog (eqGuard op 50 a b (.agg xs) (.agg ys)) w = .ok () w := Try.eqgPp
        obtain ⟨p1, p2, hnx, h12, h2m⟩ := HT.out.prs k hkq
        rcases C2.out.below HBq.out with e1 | ⟨cb, co, rfl, hcx⟩
        · have := HT.out.lenC; rw [e1] at this; simp at this; omega
        obtain ⟨c0, c1⟩ := hcx k (by rw [HT.out.lenC]; exact hkq)
        rw [hnx] at c0 c1
        simp only at c0 c1
        have n0' : ¬ (p1 : Int) < 0 := by omega
        have n1' : ¬ (p2 : Int) ≤ (p1 : Int) := by omega
        have n2' : ¬ (n.arcs.length : Int) ≤ (p2 : Int) := by omega
        clear h12 h2m
        generalize (p1 : Int) = P1 at *
        generalize (p2 : Int) = P2 at *
        have n0 : decide (P1 < 0) = false := decide_eq_false n0'
        have n1 : decide (P2 ≤ P1) = false := decide_eq_false n1'
        have n2 : decide ((n.arcs.length : Int) ≤ P2) = false := decide_eq_false n2'
        have n1g : decide (P1 ≥ P2) = false := n1
        have n2g : decide (P2 ≥ (n.arcs.length : Int)) = false := n2
        clear n0' n1' n2'
        by_cases hk0 : k = 0
        · have n3 : decide ((k : Int) > 0) = false := decide_eq_false (by omega)
          have n3b : decide (0 < k) = false := decide_eq_false (by omega)
          have n3c : decide (0 < (k : Int)) = false := decide_eq_false (by omega)
          have HNX := hiddenN hnx
          clear hk0 hcx hnx
          clear AW HA H1 
          go_wp2
          dsimp only [List.append_eq, List.cons_append, List.nil_append]
          go_quiet (fail)
          cases b with
          | true =>
            go_wp2
            go_roundg (q - (k + 1))
            case measure => omega
            case rel => exact ⟨k + 1, true, by omega, rfl, rfl, by go_num, ⟨fun _ => by obtain ⟨j, hj, e⟩ := HTb.out.1 (by first | rfl | trivial); exact ⟨j, by omega, e⟩, fun _ => rfl⟩, drewB HBq.out _⟩
          | false =>
            by_cases hpx : P1 = I ∧ P2 = J
            · have heq : ∀ w, Sem.run Try.prog (binOp .eql 50 (.agg #[.int .i64 P1, .int .i64 P2]) (.agg #[.int .i64 I, .int .i64 J])) w = .ok (.bool true) w := fun w => by rw [Try.eqlPp]; simp [hpx.1, hpx.2]
              have HPX : Hid (P1 = I ∧ P2 = J) := hpx
              clear hpx
              go_wp2
              go_roundg (q - (k + 1))
              case measure => omega
              case rel => exact ⟨k + 1, true, by omega, rfl, rfl, by go_num, ⟨fun _ => ⟨k, by omega, by rw [HNX.out, HPX.out.1, HPX.out.2]⟩, fun _ => rfl⟩, drewB HBq.out _⟩
            · have heq : ∀ w, Sem.run Try.prog (binOp .eql 50 (.agg #[.int .i64 P1, .int .i64 P2]) (.agg #[.int .i64 I, .int .i64 J])) w = .ok (.bool false) w := fun w => by rw [Try.eqlPp]; simpa using hpx
              have HPX : Hid (¬ (P1 = I ∧ P2 = J)) := hpx
              clear hpx
              go_wp2
              go_roundg (q - (k + 1))
              case measure => omega
              case rel => exact ⟨k + 1, false, by omega, rfl, rfl, by go_num, ⟨(fun hb => by cases hb), fun hh => by
                obtain ⟨j, hj, e⟩ := hh
                rcases Nat.lt_succ_iff_lt_or_eq.1 hj with hj | rfl
                · exact (by first | exact HTb.out.2 ⟨j, hj, e⟩ | exact absurd (HTb.out.2 ⟨j, hj, e⟩) (by simp))
                · exfalso
                  rw [HNX.out] at e
                  obtain ⟨e1, e2⟩ := Prod.mk.inj e
                  exact HPX.out ⟨e1, e2⟩⟩, drewB HBq.out _⟩
        · have n3 : decide ((k : Int) > 0) = true := decide_eq_true (by omega)
          have n3b : decide (0 < k) = true := decide_eq_true (by omega)
          have n3c : decide (0 < (k : Int)) = true := decide_eq_true (by omega)
          obtain ⟨l, hl⟩ : ∃ l, k = l + 1 := ⟨k - 1, by omega⟩
          have wk : IntKind.i64.wrap ((k : Int) - 1) = (l : Int) := by rw [IntKind.wrap_i64]; omega
          have wk' : (k : Int) - 1 = (l : Int) := by omega
          have hlq : (l : Int) < (q : Int) := by omega
          obtain ⟨o1, o2, hox, -, -⟩ := HT.out.prs l (by omega)
          obtain ⟨c2, c3⟩ := hcx l (by rw [HT.out.lenC]; omega)
          have hri := HT.out.rise l (by omega)
          rw [← hl, hnx, hox] at hri
          rw [hox] at c2 c3
          simp only at c2 c3 hri
          have HNX := hiddenN hnx
          have n4' : ¬ P1 < (o1 : Int) := by omega
          generalize (o1 : Int) = O1 at *
          generalize (o2 : Int) = O2 at *
          have n4 : decide (P1 < O1) = false := decide_eq_false n4'
          by_cases he : P1 = O1
          · have n5 : (P1 == O1) = true := by simpa using he
            have n6 : decide (P2 ≤ O2) = false := decide_eq_false (by omega)
            clear hk0 hcx hnx hox hri he hl n4'
            clear AW HA H1 
            go_wp2
            dsimp only [List.append_eq, List.cons_append, List.nil_append]
            go_quiet (fail)
            cases b with
            | true =>
              go_wp2
              go_roundg (q - (k + 1))
              case measure => omega
              case rel => exact ⟨k + 1, true, by omega, rfl, rfl, by go_num, ⟨fun _ => by obtain ⟨j, hj, e⟩ := HTb.out.1 (by first | rfl | trivial); exact ⟨j, by omega, e⟩, fun _ => rfl⟩, drewB HBq.out _⟩
            | false =>
              by_cases hpx : P1 = I ∧ P2 = J
              · have heq : ∀ w, Sem.run Try.prog (binOp .eql 50 (.agg #[.int .i64 P1, .int .i64 P2]) (.agg #[.int .i64 I, .int .i64 J])) w = .ok (.bool true) w := fun w => by rw [Try.eqlPp]; simp [hpx.1, hpx.2]
                have HPX : Hid (P1 = I ∧ P2 = J) := hpx
                clear hpx
                go_wp2
                go_roundg (q - (k + 1))
                case measure => omega
                case rel => exact ⟨k + 1, true, by omega, rfl, rfl, by go_num, ⟨fun _ => ⟨k, by omega, by rw [HNX.out, HPX.out.1, HPX.out.2]⟩, fun _ => rfl⟩, drewB HBq.out _⟩
              · have heq : ∀ w, Sem.run Try.prog (binOp .eql 50 (.agg #[.int .i64 P1, .int .i64 P2]) (.agg #[.int .i64 I, .int .i64 J])) w = .ok (.bool false) w := fun w => by rw [Try.eqlPp]; simpa using hpx
                have HPX : Hid (¬ (P1 = I ∧ P2 = J)) := hpx
                clear hpx
                go_wp2
                go_roundg (q - (k + 1))
                case measure => omega
                case rel => exact ⟨k + 1, false, by omega, rfl, rfl, by go_num, ⟨(fun hb => by cases hb), fun hh => by
                  obtain ⟨j, hj, e⟩ := hh
                  rcases Nat.lt_succ_iff_lt_or_eq.1 hj with hj | rfl
                  · exact (by first | exact HTb.out.2 ⟨j, hj, e⟩ | exact absurd (HTb.out.2 ⟨j, hj, e⟩) (by simp))
                  · exfalso
                    rw [HNX.out] at e
                    obtain ⟨e1, e2⟩ := Prod.mk.inj e
                    exact HPX.out ⟨e1, e2⟩⟩, drewB HBq.out _⟩
          · have n5 : (P1 == O1) = false := by simpa using he
            clear hk0 hcx hnx hox hri he hl n4'
            clear AW HA H1 
            go_wp2
            dsimp only [List.append_eq, List.cons_append, List.nil_append]
            go_quiet (fail)
            cases b with
            | true =>
              go_wp2
              go_roundg (q - (k + 1))
              case measure => omega
              case rel => exact ⟨k + 1, true, by omega, rfl, rfl, by go_num, ⟨fun _ => by obtain ⟨j, hj, e⟩ := HTb.out.1 (by first | rfl | trivial); exact ⟨j, by omega, e⟩, fun _ => rfl⟩, drewB HBq.out _⟩
            | false =>
              by_cases hpx : P1 = I ∧ P2 = J
              · have heq : ∀ w, Sem.run Try.prog (binOp .eql 50 (.agg #[.int .i64 P1, .int .i64 P2]) (.agg #[.int .i64 I, .int .i64 J])) w = .ok (.bool true) w := fun w => by rw [Try.eqlPp]; simp [hpx.1, hpx.2]
                have HPX : Hid (P1 = I ∧ P2 = J) := hpx
                clear hpx
                go_wp2
                go_roundg (q - (k + 1))
                case measure => omega
                case rel => exact ⟨k + 1, true, by omega, rfl, rfl, by go_num, ⟨fun _ => ⟨k, by omega, by rw [HNX.out, HPX.out.1, HPX.out.2]⟩, fun _ => rfl⟩, drewB HBq.out _⟩
              · have heq : ∀ w, Sem.run Try.prog (binOp .eql 50 (.agg #[.int .i64 P1, .int .i64 P2]) (.agg #[.int .i64 I, .int .i64 J])) w = .ok (.bool false) w := fun w => by rw [Try.eqlPp]; simpa using hpx
                have HPX : Hid (¬ (P1 = I ∧ P2 = J)) := hpx
                clear hpx
                go_wp2
                go_roundg (q - (k + 1))
                case measure => omega
                case rel => exact ⟨k + 1, false, by omega, rfl, rfl, by go_num, ⟨(fun hb => by cases hb), fun hh => by
                  obtain ⟨j, hj, e⟩ := hh
                  rcases Nat.lt_succ_iff_lt_or_eq.1 hj with hj | rfl
                  · exact (by first | exact HTb.out.2 ⟨j, hj, e⟩ | exact absurd (HTb.out.2 ⟨j, hj, e⟩) (by simp))
                  · exfalso
                    rw [HNX.out] at e
                    obtain ⟨e1, e2⟩ := Prod.mk.inj e
                    exact HPX.out ⟨e1, e2⟩⟩, drewB HBq.out _⟩
      · have hkk : ¬ (k : Int) < (q : Int) := by omega
        have hkq' : k = q := by omega
        have HST : Hid (b = true ↔ ∃ j, j < q ∧ nthX CL j = (I, J)) := by rw [← hkq']; exact HTb.out
        have z1 := (G2.out.below HBq.out).cell (k := 1) rfl
        simp only [List.getElem_toArray, List.getElem_cons_zero, List.getElem_cons_succ] at z1
        clear HTb hkq' C2
        by_cases h1 : I < 0
        · have hb0 : b = false := by
            cases b with
            | false => rfl
            | true =>
              exfalso
              obtain ⟨j, hj, e⟩ := HST.out.1 rfl
              obtain ⟨p1, p2, e1, e2, e3⟩ := HT.out.prs j hj
              rw [e1] at e
              obtain ⟨e4, e5⟩ := Prod.mk.inj e
              omega
          subst hb0
          clear HST
          go_wp2_with (go_at_call 11; (with_reducible refine (AW.out _).mono ?_); rintro e VV ⟨rfl, q2⟩; have LF := hiddenN ((L2.out.trans (HBq.out.mono L2.out.size)).trans (q2.mono (L2.out.trans (HBq.out.mono L2.out.size)).size)); clear q2)
          go_ret
          exact ⟨by first | rfl | simp, LF.out⟩
        · by_cases h2 : J ≤ I
          · have hb0 : b = false := by
              cases b with
              | false => rfl
              | true =>
                exfalso
                obtain ⟨j, hj, e⟩ := HST.out.1 rfl
                obtain ⟨p1, p2, e1, e2, e3⟩ := HT.out.prs j hj
                rw [e1] at e
                obtain ⟨e4, e5⟩ := Prod.mk.inj e
                omega
            subst hb0
            clear HST
            go_wp2_with (go_at_call 11; (with_reducible refine (AW.out _).mono ?_); rintro e VV ⟨rfl, q2⟩; have LF := hiddenN ((L2.out.trans (HBq.out.mono L2.out.size)).trans (q2.mono (L2.out.trans (HBq.out.mono L2.out.size)).size)); clear q2)
            go_ret
            exact ⟨by first | rfl | simp, LF.out⟩
          · by_cases h3 : J ≥ (n.arcs.length : Int)
            · have hb0 : b = false := by
                cases b with
                | false => rfl
                | true =>
                  exfalso
                  obtain ⟨j, hj, e⟩ := HST.out.1 rfl
                  obtain ⟨p1, p2, e1, e2, e3⟩ := HT.out.prs j hj
                  rw [e1] at e
                  obtain ⟨e4, e5⟩ := Prod.mk.inj e
                  omega
              subst hb0
              clear HST
              go_wp2_with (go_at_call 11; (with_reducible refine (AW.out _).mono ?_); rintro e VV ⟨rfl, q2⟩; have LF := hiddenN ((L2.out.trans (HBq.out.mono L2.out.size)).trans (q2.mono (L2.out.trans (HBq.out.mono L2.out.size)).size)); clear q2)
              go_ret
              exact ⟨by first | rfl | simp, LF.out⟩
            · obtain ⟨i, hi⟩ : ∃ i : Nat, I = (i : Int) := ⟨I.toNat, by omega⟩
              obtain ⟨j, hj⟩ : ∃ j : Nat, J = (j : Int) := ⟨J.toNat, by omega⟩
              have hij : i < j := by omega
              have hjm : j < n.arcs.length := by omega
              have HIFF : Hid (b = true ↔ cloV R i j = true) := by
                show _ ↔ _
                rw [HST.out, hi, hj]
                exact HT.out.iff i j hij hjm
              subst hi
              subst hj
              have ii : (i : Int) < (n.arcs.length : Int) := by omega
              have jj : (j : Int) < (n.arcs.length : Int) := by omega
              clear HST
              go_wp2
              go_loopg [15, 16] (zs.length + 1) (fun gk u15 u16 wz => ∃ (k : Nat) (t : Bool), k ≤ zs.length + 1 ∧ gk = zs.length + 1 - k ∧ u15 = .bool t ∧ u16 = .int .i64 (k : Int) ∧ (t = true ↔ ∃ r, r < k ∧ 0 < nth (nthLV R r) i ∧ 0 < nth (nthLV R r) j) ∧ wz = wr)
              case atStart => exact ⟨0, false, Nat.zero_le _, rfl, rfl, rfl, ⟨(fun hb => by cases hb), fun ⟨r, hr, _⟩ => absurd hr (Nat.not_lt_zero _)⟩, rfl⟩
              case round =>
                obtain ⟨k, t, hk, rfl, rfl, rfl, ht, rfl⟩ := hrel
                have HTt := hiddenN ht
                clear ht
                by_cases hlk : k < zs.length + 1
                · have hki : (k : Int) < ((zs.length + 1 : Nat) : Int) := by omega
                  obtain ⟨y, yc, s0, s1⟩ := RR.out k hlk
                  have s0' := cellN_later HBq.out s0
                  have hlen := RL.out k (by omega)
                  rw [hlen] at s0'
                  rcases s1.below HBq.out with e | ⟨yb, yo, rfl, hcy⟩
                  · rw [e] at hlen; simp at hlen; omega
                  have v0 := hcy i (by rw [hlen]; omega)
                  have v1 := hcy j (by rw [hlen]; omega)
                  have hz6 := HZ2.out
                  obtain ⟨a1v, ha1⟩ : ∃ x, nth (nthLV R k) i = x := ⟨_, rfl⟩
                  obtain ⟨a2v, ha2⟩ : ∃ x, nth (nthLV R k) j = x := ⟨_, rfl⟩
                  rw [ha1] at v0
                  rw [ha2] at v1
                  have HA1 := hiddenN ha1
                  have HA2 := hiddenN ha2
                  clear s0 s1 hcy ha1 ha2 hlen
                  cases t with
                  | true =>
                    go_wp2
                    go_roundg (zs.length + 1 - (k + 1))
                    case measure => omega
                    case rel => exact ⟨k + 1, true, by omega, rfl, rfl, by go_num, ⟨fun _ => by obtain ⟨r, hr, e⟩ := HTt.out.1 (by first | rfl | trivial); exact ⟨r, by omega, e⟩, fun _ => rfl⟩, rfl⟩
                  | false =>
                    by_cases g1 : a1v > 0
                    · by_cases g2 : a2v > 0
                      · go_wp2
                        go_roundg (zs.length + 1 - (k + 1))
                        case measure => omega
                        case rel => exact ⟨k + 1, true, by omega, rfl, rfl, by go_num, ⟨fun _ => ⟨k, by omega, by rw [HA1.out]; exact g1, by rw [HA2.out]; exact g2⟩, fun _ => rfl⟩, rfl⟩
                      · go_wp2
                        go_roundg (zs.length + 1 - (k + 1))
                        case measure => omega
                        case rel => exact ⟨k + 1, false, by omega, rfl, rfl, by go_num, ⟨(fun hb => by cases hb), fun ⟨r, hr, e1, e2⟩ => by
                          rcases Nat.lt_succ_iff_lt_or_eq.1 hr with hr | rfl
                          · exact (by first | exact HTt.out.2 ⟨r, hr, e1, e2⟩ | exact absurd (HTt.out.2 ⟨r, hr, e1, e2⟩) (by simp))
                          · rw [HA2.out] at e2; exact (by first | exact absurd e2 g2 | omega)⟩, rfl⟩
                    · go_wp2
                      go_roundg (zs.length + 1 - (k + 1))
                      case measure => omega
                      case rel => exact ⟨k + 1, false, by omega, rfl, rfl, by go_num, ⟨(fun hb => by cases hb), fun ⟨r, hr, e1, e2⟩ => by
                        rcases Nat.lt_succ_iff_lt_or_eq.1 hr with hr | rfl
                        · exact (by first | exact HTt.out.2 ⟨r, hr, e1, e2⟩ | exact absurd (HTt.out.2 ⟨r, hr, e1, e2⟩) (by simp))
                        · rw [HA1.out] at e1; exact (by first | exact absurd e1 g1 | omega)⟩, rfl⟩
                · have hki : ¬ (k : Int) < ((zs.length + 1 : Nat) : Int) := by omega
                  have htb : t = b := by
                    rw [Bool.eq_iff_iff, HIFF.out, HTt.out, cloV_iff]
                    constructor
                    · rintro ⟨r, hr, e1, e2⟩
                      exact ⟨nthLV R r, nthLV_mem (by rw [RLN.out]; omega), e1, e2⟩
                    · rintro ⟨r, hr, e1, e2⟩
                      obtain ⟨x, hx, rfl⟩ := mem_nthLV hr
                      exact ⟨x, by rw [RLN.out] at hx; omega, e1, e2⟩
                  subst htb
                  have tt : (t == t) = true := by simp
                  clear HIFF HTt
                  go_wp2_with (go_at_call 11; (with_reducible refine (AW.out _).mono ?_); rintro e VV ⟨rfl, q2⟩; have LF := hiddenN ((L2.out.trans (HBq.out.mono L2.out.size)).trans (q2.mono (L2.out.trans (HBq.out.mono L2.out.size)).size)); clear q2)
                  go_ret
                  exact ⟨by first | rfl | simp, LF.out⟩
  · have PC : Hid (∀ U x y cx cy, AtN U (some x) n.arcs → At U y zs → Calls Try.prog 14 #[.agg #[.int .i64 n.nodes, .slice (some x) n.arcs.length cx], .slice y zs.length cy] U fun e w' => ∃ d c', e = .returned (.tuple #[.slice d (cloL n zs).length c', .int .i64 (codeV n zs)]) ∧ AtPp w' d (cloL n zs) ∧ Below U.heap.size U w') := fun U x y cx cy q1 q2 => (clashes_anyX n (some x) cx U q1 hroom (fun e => by cases e) y cy zs q2 hzl).mono fun e w' hh => by
      obtain ⟨d, c', e1, q3, q⟩ := hh
      exact ⟨d, c', e1, q3.at, q⟩
    have PA : Hid (∀ U x y cx cy, AtN U (some x) n.arcs → At U y zs → Calls Try.prog 9 #[.agg #[.int .i64 n.nodes, .slice (some x) n.arcs.length cx], .slice y zs.length cy] U fun e w' => e = .returned (.tuple #[.slice none 0 0, .int .i64 (codeV n zs)]) ∧ Below U.heap.size U w') := fun U x y cx cy q1 q2 => (along_any n (some x) cx U q1 hroom (fun e => by cases e) y cy zs q2 hzl).mono fun e w' hh => by
      rcases hh with ⟨k1, -⟩ | ⟨-, e1, q⟩
      · exact absurd k1 hc
      · exact ⟨e1, q⟩
    have hl0 : (cloL n zs).length = 0 := by unfold cloL; rw [if_neg hc]; rfl
    rw [hl0] at PC
    have qe : (codeV n zs != 0) = true := by simpa using hc
    have qf : (codeV n zs != codeV n zs) = false := by simp
    clear hc hl0
    generalize cloL n zs = CL at *
    generalize codeV n zs = cv at *
    go_enter Try.func5, Try.ntmps5
    go_upto_region 1 with fail
    generalize ((w.alloc (.cells #[.int .i64 n.nodes, .slice a n.arcs.length c] 24)).alloc (.cells #[.int .i64 I, .int .i64 J] 52)) = W0 at *
    go_upto_region 3 with fail
    clear d0 d1
    go_upto_region 4 with (first
      | (go_at_call 7; (with_reducible refine (LN.out W0 B0.out).mono ?_); rintro e U1 ⟨g1, gc1, rfl, q1, q2⟩; have EL := hiddenN q1; have LL := hiddenN (B0.out.trans (q2.mono B0.out.size)); have MM1 := hiddenN q2; clear q1 q2)
      | (go_at_call 8; (with_reducible refine (IN.out U1 LL.out).mono ?_); rintro e Z1 ⟨p1, pc1, rfl, q1, q2⟩; have EZ := hiddenN (EL.out.below q2); have LZ := hiddenN (LL.out.trans (q2.mono LL.out.size)); have MM2 := hiddenN (MM1.out.trans (q2.mono MM1.out.size)); have PZ := hiddenN q1.at; clear q1 q2 LL EL MM1; have CC := hiddenN (PC.out Z1 ⟨g1, 0, none⟩ p1 gc1 pc1 EZ.out.at PZ.out); )
      | (go_at_call 14; (with_reducible refine CC.out.mono ?_); rintro e W1 ⟨dc, cc, rfl, q3, q2⟩; have L1 := hiddenN (LZ.out.trans (q2.mono LZ.out.size)); have M1 := hiddenN (MM2.out.trans (q2.mono MM2.out.size)); clear q3; have G1 := hiddenN (G0.out.below M1.out); have z0 := G1.out.cell (k := 0) rfl; have z1 := G1.out.cell (k := 1) rfl; simp only [List.getElem_toArray, List.getElem_cons_zero, List.getElem_cons_succ] at z0 z1; clear q2 CC LZ MM2))
    go_upto_region 5 with (first
      | (go_at_call 7; (with_reducible refine (LN.out W1 L1.out).mono ?_); rintro e U2 ⟨g2, gc2, rfl, q1, q2⟩; have EL := hiddenN q1; have LL := hiddenN (L1.out.trans (q2.mono L1.out.size)); have MM1 := hiddenN q2; clear q1 q2)
      | (go_at_call 8; (with_reducible refine (IN.out U2 LL.out).mono ?_); rintro e Z2 ⟨p2, pc2, rfl, q1, q2⟩; have EZ := hiddenN (EL.out.below q2); have LZ := hiddenN (LL.out.trans (q2.mono LL.out.size)); have MM2 := hiddenN (MM1.out.trans (q2.mono MM1.out.size)); have PZ := hiddenN q1.at; clear q1 q2 LL EL MM1; have CC := hiddenN (PA.out Z2 ⟨g2, 0, none⟩ p2 gc2 pc2 EZ.out.at PZ.out); )
      | (go_at_call 9; (with_reducible refine CC.out.mono ?_); rintro e W2 ⟨rfl, q2⟩; have L2 := hiddenN (LZ.out.trans (q2.mono LZ.out.size)); have M2 := hiddenN (MM2.out.trans (q2.mono MM2.out.size)); clear q2 CC LZ MM2))
    clear PC PA z0 z1 G1
    go_wp2_with (go_at_call 11; (with_reducible refine (AW.out _).mono ?_); rintro e VV ⟨rfl, q2⟩; have LF := hiddenN (L2.out.trans (q2.mono L2.out.size)); clear q2)
    go_ret
    exact ⟨by first | rfl | simp, LF.out⟩
end Go.Proofs.Ytaalnfdpnnlhoaa

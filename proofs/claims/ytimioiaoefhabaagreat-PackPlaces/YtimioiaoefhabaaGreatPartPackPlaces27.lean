/- Texts of one chain, laid one behind the other. -/
import Derived.Test.YtimioiaoefhabaaGreatPartPackPlaces26
import Derived.Test.YtimioiaoefhabaaGreatPartPackPlaces19
import Derived.Test.YtimioiaoefhabaaGreatPartPackPlaces18
namespace Go.Proofs.YtimioiaoefhabaaGreat
open Go.ChangeShapes Go.WideShapes Go.ChangeAt Go.RowKit
def netX : NN := ⟨2, [⟨0, 1, 2, 1, 0⟩, ⟨1, 0, 1, 2, 2⟩]⟩
theorem wakeX1 : codeV netX [0, 1, 1] = 0 ∧ cloL netX [0, 1, 1] = [(0, 1)] ∧ plaC netX [0, 1, 1] = 0 ∧ plaL netX [0, 1, 1] = [(0, 2), (2, 2)] ∧ plaT netX [0, 1, 1] = 4 := by decide +kernel
theorem wakeX2 : plaC netX [0, 1] = 181 ∧ plaL netX [0, 1] = [] ∧ plaT netX [0, 1] = 0 ∧ chkC netX [(0, 2), (1, 2)] 3 [0, 1, 1] = 192 ∧ chkC netX [(3, 2), (0, 3)] 5 [0, 1, 1] = 0 := by decide +kernel
theorem atN_alloc2X (U : World) : AtN (U.alloc (.cells #[.int .i64 0, .int .i64 1, .int .i64 2, .int .i64 1, .int .i64 0, .int .i64 1, .int .i64 0, .int .i64 1, .int .i64 2, .int .i64 2] 53)) (some ⟨U.heap.size, 0, none⟩) netX.arcs := by
  refine .inr ⟨U.heap.size, 0, rfl, fun k hk => ?_⟩
  have b := blkA_new 53 U #[.int .i64 0, .int .i64 1, .int .i64 2, .int .i64 1, .int .i64 0, .int .i64 1, .int .i64 0, .int .i64 1, .int .i64 2, .int .i64 2]
  match k, hk with
  | 0, _ => exact ⟨b.cell rfl, b.cell rfl, b.cell rfl, b.cell rfl, b.cell rfl⟩
  | 1, _ => exact ⟨b.cell rfl, b.cell rfl, b.cell rfl, b.cell rfl, b.cell rfl⟩
set_option maxRecDepth 100000 in
set_option maxHeartbeats 4000000 in
theorem two_anyX (w : World) : Calls Tryz.prog 25 #[] w fun e w' => ∃ x, e = .returned (.agg #[.int .i64 2, .slice (some x) 2 2]) ∧ AtN w' (some x) netX.arcs ∧ Below w.heap.size w w' := by
  have b0 := (Below.refl w.heap.size w).alloc (Nat.le_refl _) (.cells #[.int .i64 0, .slice none 0 0] 24)
  have G0 := hiddenN (blkA_new 24 w #[.int .i64 0, .slice none 0 0])
  have B0 := hiddenN b0
  clear b0
  go_enter Tryz.func25, Tryz.ntmps25
  go_upto_region 1 with fail
  generalize w.alloc (.cells #[.int .i64 0, .slice none 0 0] 24) = W0 at *
  have a1 := (Below.refl W0.heap.size W0).alloc (Nat.le_refl _) (.cells #[.int .i64 0, .int .i64 1, .int .i64 2, .int .i64 1, .int .i64 0, .int .i64 1, .int .i64 0, .int .i64 1, .int .i64 2, .int .i64 2] 53)
  have H1 := hiddenN (atN_alloc2X W0)
  have A1 := hiddenN a1
  have G1 := hiddenN (G0.out.below a1)
  clear a1
  have hlt := G0.out.lt
  go_wp2_with (refine wpList_storeW _ rfl 24 (.tmp 0) (.tmp 4) rfl rfl w.heap.size 24 _ _ rfl rfl G1.out sizNet rfl rfl ?_; intro w8 hN hU; have N8 := hiddenN hN; have U8 := hiddenN hU; clear hN hU)
  have t0 : w8.cell? ⟨w.heap.size, 0, none⟩ = some (.int .i64 2) := N8.out.cell rfl
  have t1 : w8.cell? ⟨w.heap.size, 1, none⟩ = some (.slice (some ⟨W0.heap.size, 0, none⟩) 2 2) := N8.out.cell rfl
  refine bodyPost_ret (v := .agg #[.int .i64 2, .slice (some ⟨W0.heap.size, 0, none⟩) 2 2]) (by simp [results, Tryz.results25, go_sem, t0, t1]) rfl ?_
  have hs1 : (W0.alloc (.cells #[.int .i64 0, .int .i64 1, .int .i64 2, .int .i64 1, .int .i64 0, .int .i64 1, .int .i64 0, .int .i64 1, .int .i64 2, .int .i64 2] 53)).heap.size = W0.heap.size + 1 := World.size_alloc _ _
  exact ⟨_, rfl, H1.out.keep fun x hx => by cases hx; exact U8.out.block _ (by show W0.heap.size < _; omega) (by show W0.heap.size ≠ w.heap.size; omega), B0.out.trans ((A1.out.mono B0.out.size).trans (U8.out.below (Nat.le_refl _) (Nat.le_trans B0.out.size A1.out.size)))⟩
theorem atGn_two (U : World) (p0 p1 p2 p3 : Int) : AtGn (U.alloc (.cells #[.int .i64 p0, .int .i64 p1, .int .i64 p2, .int .i64 p3] 47)) (some ⟨U.heap.size, 0, none⟩) [(p0, p1), (p2, p3)] := by
  refine .inr ⟨U.heap.size, 0, rfl, fun k hk => ?_⟩
  have b := blkA_new 47 U #[.int .i64 p0, .int .i64 p1, .int .i64 p2, .int .i64 p3]
  match k, hk with
  | 0, _ => exact ⟨b.cell rfl, b.cell rfl⟩
  | 1, _ => exact ⟨b.cell rfl, b.cell rfl⟩
set_option maxRecDepth 100000 in
set_option maxHeartbeats 4000000 in
theorem plan_anyX (p0 p1 p2 p3 p4 : Int) (w : World) : Calls Tryz.prog 26 #[.int .i64 p0, .int .i64 p1, .int .i64 p2, .int .i64 p3, .int .i64 p4] w fun e w' => ∃ x, e = .returned (.agg #[.slice (some x) 2 2, .int .i64 p4]) ∧ AtGn w' (some x) [(p0, p1), (p2, p3)] ∧ Below w.heap.size w w' := by
  have b0 := (Below.refl w.heap.size w).alloc (Nat.le_refl _) (.cells #[.slice none 0 0, .int .i64 0] 41)
  have G0 := hiddenN (blkA_new 41 w #[.slice none 0 0, .int .i64 0])
  have B0 := hiddenN b0
  clear b0
  go_enter Tryz.func26, Tryz.ntmps26
  go_upto_region 1 with fail
  generalize w.alloc (.cells #[.slice none 0 0, .int .i64 0] 41) = W0 at *
  have a1 := (Below.refl W0.heap.size W0).alloc (Nat.le_refl _) (.cells #[.int .i64 p0, .int .i64 p1, .int .i64 p2, .int .i64 p3] 47)
  have H1 := hiddenN (atGn_two W0 p0 p1 p2 p3)
  have A1 := hiddenN a1
  have G1 := hiddenN (G0.out.below a1)
  clear a1
  have hlt := G0.out.lt
  go_wp2_with (refine wpList_storeW _ rfl 41 (.tmp 10) (.tmp 19) rfl rfl w.heap.size 41 _ _ rfl rfl G1.out Tryz.sizPl rfl rfl ?_; intro w8 hN hU; have N8 := hiddenN hN; have U8 := hiddenN hU; clear hN hU)
  have t0 : w8.cell? ⟨w.heap.size, 0, none⟩ = some (.slice (some ⟨W0.heap.size, 0, none⟩) 2 2) := N8.out.cell rfl
  have t1 : w8.cell? ⟨w.heap.size, 1, none⟩ = some (.int .i64 p4) := N8.out.cell rfl
  refine bodyPost_ret (v := .agg #[.slice (some ⟨W0.heap.size, 0, none⟩) 2 2, .int .i64 p4]) (by simp [results, Tryz.results26, go_sem, t0, t1]) rfl ?_
  have hs1 : (W0.alloc (.cells #[.int .i64 p0, .int .i64 p1, .int .i64 p2, .int .i64 p3] 47)).heap.size = W0.heap.size + 1 := World.size_alloc _ _
  have hk : w8.heap[W0.heap.size]? = (W0.alloc (.cells #[.int .i64 p0, .int .i64 p1, .int .i64 p2, .int .i64 p3] 47)).heap[W0.heap.size]? := U8.out.block _ (by omega) (by omega)
  refine ⟨_, rfl, ?_, B0.out.trans ((A1.out.mono B0.out.size).trans (U8.out.below (Nat.le_refl _) (Nat.le_trans B0.out.size A1.out.size)))⟩
  rcases H1.out with e | ⟨b, off, e, hc⟩
  · cases e
  · cases e
    exact .inr ⟨_, _, rfl, fun k hkk => ⟨(World.cell?_of_block hk).trans (hc k hkk).1, (World.cell?_of_block hk).trans (hc k hkk).2⟩⟩
set_option maxRecDepth 100000 in
set_option maxHeartbeats 4000000 in
theorem same_planX (a b : Option Addr) (n c d : Nat) (L : List (Int × Int)) (t : Int) (W : World) (h1 : AtGn W a L) (h2 : AtGn W b L) (hN : L.length = n) (hn : n ≤ 1000000) :
    Calls Tryz.prog 16 #[.agg #[.slice a n c, .int .i64 t], .agg #[.slice b n d, .int .i64 t]] W fun e w' => e = .returned (.bool true) ∧ Below W.heap.size W w' := by
  have y1 : Hid (Below W.heap.size W (W.alloc (.cells #[.slice a n c, .int .i64 t] 41))) := (Below.refl _ _).alloc (Nat.le_refl _) _
  have hs1 : (W.alloc (.cells #[.slice a n c, .int .i64 t] 41)).heap.size = W.heap.size + 1 := World.size_alloc ..
  have y2 : Hid (Below (W.alloc (.cells #[.slice a n c, .int .i64 t] 41)).heap.size (W.alloc (.cells #[.slice a n c, .int .i64 t] 41)) ((W.alloc (.cells #[.slice a n c, .int .i64 t] 41)).alloc (.cells #[.slice b n d, .int .i64 t] 41))) := (Below.refl _ _).alloc (Nat.le_refl _) _
  have G0 := hiddenN ((blkA_new 41 W #[.slice a n c, .int .i64 t]).below y2.out)
  have D0 := hiddenN (blkA_new 41 (W.alloc (.cells #[.slice a n c, .int .i64 t] 41)) #[.slice b n d, .int .i64 t])
  have B0 := hiddenN (y1.out.trans (y2.out.mono (by rw [hs1]; omega)))
  have H1 := hiddenN ((h1.below y1.out).below y2.out)
  have H2 := hiddenN ((h2.below y1.out).below y2.out)
  have HN := hiddenN hN
  rw [hs1] at D0
  clear h1 h2 hN y1 y2 hs1
  have qt : (t != t) = false := by simp
  have qn : ((n : Int) != (n : Int)) = false := by simp
  go_enter Tryz.func16, Tryz.ntmps16
  go_upto_region 1 with fail
  generalize (W.alloc (.cells #[.slice a n c, .int .i64 t] 41)).alloc (.cells #[.slice b n d, .int .i64 t] 41) = W1 at *
  have g0 := G0.out.cell (k := 0) rfl
  have g1 := G0.out.cell (k := 1) rfl
  have d0 := D0.out.cell (k := 0) rfl
  have d1 := D0.out.cell (k := 1) rfl
  simp only [List.getElem_toArray, List.getElem_cons_zero, List.getElem_cons_succ] at g0 g1 d0 d1
  go_wp2
  clear qt qn g1 d1 g0 d0
  go_loopg [5] n (fun gk u wr => ∃ (k m : Nat), k ≤ n ∧ gk = n - k ∧ u = .int .i64 (k : Int) ∧ wr = W1.drewN m)
  case atStart => exact ⟨0, 0, Nat.zero_le _, rfl, rfl, rfl⟩
  case round =>
    obtain ⟨k, m, hk, rfl, rfl, rfl⟩ := hrel
    have g0 := G0.out.cell (k := 0) rfl
    have d0 := D0.out.cell (k := 0) rfl
    simp only [List.getElem_toArray, List.getElem_cons_zero] at g0 d0
    by_cases hlt : k < n
    · have hki : (k : Int) < (n : Int) := by omega
      have hkL : k < L.length := by rw [HN.out]; exact hlt
      rcases H1.out with e1 | ⟨ab, off, rfl, hc⟩
      · rw [e1] at hkL; exact absurd hkL (Nat.not_lt_zero _)
      rcases H2.out with e1 | ⟨bb, of2, rfl, hd⟩
      · rw [e1] at hkL; exact absurd hkL (Nat.not_lt_zero _)
      obtain ⟨c0, c1⟩ := hc k hkL
      obtain ⟨e0, e1⟩ := hd k hkL
      obtain ⟨x1, hx1⟩ : ∃ x, (nthX L k).1 = x := ⟨_, rfl⟩
      obtain ⟨x2, hx2⟩ : ∃ x, (nthX L k).2 = x := ⟨_, rfl⟩
      rw [hx1] at c0 e0
      rw [hx2] at c1 e1
      have hgd : ∀ (op : BinOp) (a b : Operand) (xs ys : Array Value) (w : World), Sem.run Tryz.prog (eqGuard op 47 a b (.agg xs) (.agg ys)) w = .ok () w := Tryz.eqgGn
      have heq : ∀ w, Sem.run Tryz.prog (binOp .neq 47 (.agg #[.int .i64 x1, .int .i64 x2]) (.agg #[.int .i64 x1, .int .i64 x2])) w = .ok (.bool false) w := fun w => by rw [Tryz.neqGn]; simp
      clear hc hd hkL hx1 hx2
      go_upto_region 6 with fail
      go_quiet (fail)
      go_wp2
      go_roundg (n - (k + 1))
      case measure => omega
      case rel => exact ⟨k + 1, m + nq, by omega, rfl, by go_num, by simp⟩
    · have hki : ¬ (k : Int) < (n : Int) := by omega
      go_wp2
      go_ret
      exact ⟨rfl, drewB B0.out _⟩
/-- The plan that the document tells. -/
def PlX (u : World) (z : Value) : Prop := ∃ x, z = .agg #[.slice (some x) 2 2, .int .i64 4] ∧ AtGn u (some x) [(0, 2), (2, 2)]
theorem PlX.later {u u' : World} {z : Value} (h : PlX u z) (hb : Below u.heap.size u u') : PlX u' z := by
  obtain ⟨x, h1, h2⟩ := h
  exact ⟨x, h1, h2.below hb⟩
theorem clashW (w : World) (x y : Addr) (h : AtN w (some x) netX.arcs) (hz : At w (some y) [0, 1, 1]) : Calls Tryz.prog 8 #[.agg #[.int .i64 2, .slice (some x) 2 2], .slice (some y) 3 3] w fun e w' => ∃ d c', e = .returned (.tuple #[.slice d 1 c', .int .i64 0]) ∧ AtPp w' d [(0, 1)] ∧ Below w.heap.size w w' :=
  (clashes_anyX netX (some x) 2 w h (by decide) (fun e => by cases e) (some y) 3 [0, 1, 1] hz (by decide)).mono fun e w' hh => by
    obtain ⟨d, c', e1, q1, q2⟩ := hh
    rw [wakeX1.2.1, wakeX1.1] at e1
    rw [wakeX1.2.1] at q1
    exact ⟨d, c', e1, q1.at, q2⟩
theorem placeW (w : World) (x y : Addr) (h : AtN w (some x) netX.arcs) (hz : At w (some y) [0, 1, 1]) : Calls Tryz.prog 14 #[.agg #[.int .i64 2, .slice (some x) 2 2], .slice (some y) 3 3] w fun e w' => ∃ d c', e = .returned (.tuple #[.agg #[.slice d 2 c', .int .i64 4], .int .i64 0]) ∧ AtGn w' d [(0, 2), (2, 2)] ∧ Below w.heap.size w w' :=
  (place_anyX netX (some x) 2 w h (by decide) (fun e => by cases e) (some y) 3 [0, 1, 1] hz (by decide)).mono fun e w' hh => by
    obtain ⟨d, c', e1, q1, q2⟩ := hh
    rw [wakeX1.2.2.2.1, wakeX1.2.2.2.2, wakeX1.2.2.1] at e1
    rw [wakeX1.2.2.2.1] at q1
    exact ⟨d, c', e1, q1.at, q2⟩
theorem placeW2 (w : World) (x y : Addr) (h : AtN w (some x) netX.arcs) (hz : At w (some y) [0, 1]) : Calls Tryz.prog 14 #[.agg #[.int .i64 2, .slice (some x) 2 2], .slice (some y) 2 2] w fun e w' => ∃ d c', e = .returned (.tuple #[.agg #[.slice d 0 c', .int .i64 0], .int .i64 181]) ∧ Below w.heap.size w w' :=
  (place_anyX netX (some x) 2 w h (by decide) (fun e => by cases e) (some y) 2 [0, 1] hz (by decide)).mono fun e w' hh => by
    obtain ⟨d, c', e1, q1, q2⟩ := hh
    rw [wakeX2.2.1, wakeX2.2.2.1, wakeX2.1] at e1
    exact ⟨d, c', e1, q2⟩
theorem checkW (w : World) (x y : Addr) (h : AtN w (some x) netX.arcs) (hz : At w (some y) [0, 1, 1]) (p : Addr) (hp : AtGn w (some p) [(0, 2), (1, 2)]) : Calls Tryz.prog 17 #[.agg #[.int .i64 2, .slice (some x) 2 2], .agg #[.slice (some p) 2 2, .int .i64 3], .slice (some y) 3 3] w fun e w' => e = .returned (.int .i64 192) ∧ Below w.heap.size w w' :=
  (check_anyX netX (some x) 2 w h (by decide) (fun e => by cases e) (some y) 3 [0, 1, 1] hz (by decide) (some p) 2 2 [(0, 2), (1, 2)] 3 hp rfl).mono fun e w' ⟨e1, q⟩ => ⟨by rw [wakeX2.2.2.2.1] at e1; exact e1, q⟩
theorem checkW2 (w : World) (x y : Addr) (h : AtN w (some x) netX.arcs) (hz : At w (some y) [0, 1, 1]) (p : Addr) (hp : AtGn w (some p) [(3, 2), (0, 3)]) : Calls Tryz.prog 17 #[.agg #[.int .i64 2, .slice (some x) 2 2], .agg #[.slice (some p) 2 2, .int .i64 5], .slice (some y) 3 3] w fun e w' => e = .returned (.int .i64 0) ∧ Below w.heap.size w w' :=
  (check_anyX netX (some x) 2 w h (by decide) (fun e => by cases e) (some y) 3 [0, 1, 1] hz (by decide) (some p) 2 2 [(3, 2), (0, 3)] 5 hp rfl).mono fun e w' ⟨e1, q⟩ => ⟨by rw [wakeX2.2.2.2.2] at e1; exact e1, q⟩
set_option maxRecDepth 100000 in
set_option maxHeartbeats 16000000 in
theorem awakeX (w : World) : Calls Tryz.prog 11 #[] w fun e w' => e = .returned (.bool true) ∧ Below w.heap.size w w' := by
  have mixed : Tryz.prog.follows .mixedOrders = true := by kernel_rfl
  have LW0 := hiddenN (Below.refl w.heap.size w)
  go_enter Tryz.func11, Tryz.ntmps11
  go_upto_region 2 with (first
    | (go_at_call 25; (with_reducible refine (two_anyX w).mono ?_); rintro e X1 ⟨x1, rfl, h, b⟩; have HH := hiddenN h; have LB := hiddenN b; have aA := (Below.refl X1.heap.size X1).alloc (Nat.le_refl _) (.cells #[.int .i64 0, .int .i64 1, .int .i64 1] 3); have CC := hiddenN (clashW (X1.alloc (.cells #[.int .i64 0, .int .i64 1, .int .i64 1] 3)) x1 ⟨X1.heap.size, 0, none⟩ (h.below aA) (at_allocV3 X1 0 1 1)); have LL := hiddenN (b.trans (aA.mono b.size)); clear aA; clear h b)
    | (go_at_call 8; (with_reducible refine CC.out.mono ?_); rintro e W1 ⟨pd, pc, rfl, q1, b⟩; have MW1 := hiddenN (LL.out.trans (b.mono LL.out.size)); have PD := hiddenN q1; have LW1 := hiddenN (LW0.out.trans (MW1.out.mono LW0.out.size)); clear q1; clear b CC LL HH LB))
  go_upto_region 3 with (first
    | (go_at_call 25; (with_reducible refine (two_anyX W1).mono ?_); rintro e X2 ⟨x2, rfl, h, b⟩; have HH := hiddenN h; have LB := hiddenN b; have aA := (Below.refl X2.heap.size X2).alloc (Nat.le_refl _) (.cells #[.int .i64 0, .int .i64 1, .int .i64 1] 3); have CC := hiddenN (placeW (X2.alloc (.cells #[.int .i64 0, .int .i64 1, .int .i64 1] 3)) x2 ⟨X2.heap.size, 0, none⟩ (h.below aA) (at_allocV3 X2 0 1 1)); have LL := hiddenN (b.trans (aA.mono b.size)); clear aA; clear h b)
    | (go_at_call 14; (with_reducible refine CC.out.mono ?_); rintro e W2 ⟨dp, cp, rfl, q1, b⟩; have MW2 := hiddenN (LL.out.trans (b.mono LL.out.size)); have PA2 := hiddenN q1; have PD2 := hiddenN (PD.out.below MW2.out); have LW2 := hiddenN (LW1.out.trans (MW2.out.mono LW1.out.size)); clear q1; clear b CC LL HH LB))
  have XA := (Below.refl W2.heap.size W2).alloc (Nat.le_refl _) (.cells #[.slice dp 2 cp, .int .i64 4] 41)
  have BX := hiddenN (blkA_new 41 W2 #[.slice dp 2 cp, .int .i64 4])
  have PA2' := hiddenN (PA2.out.below XA)
  have PD2' := hiddenN (PD2.out.below XA)
  have LW2' := hiddenN (LW2.out.trans (XA.mono LW2.out.size))
  clear XA PA2 PD2
  obtain ⟨xb, hxb⟩ : ∃ q, W2.heap.size = q := ⟨_, rfl⟩
  generalize W2.alloc (.cells #[.slice dp 2 cp, .int .i64 4] 41) = W2a at *
  rw [hxb] at BX ⊢
  clear hxb
  go_upto_region 4 with (first
    | (go_at_call 25; (with_reducible refine (two_anyX W2a).mono ?_); rintro e X3 ⟨x3, rfl, h, b⟩; have HH := hiddenN h; have LB := hiddenN b; have aA := (Below.refl X3.heap.size X3).alloc (Nat.le_refl _) (.cells #[.int .i64 0, .int .i64 1] 3); have CC := hiddenN (placeW2 (X3.alloc (.cells #[.int .i64 0, .int .i64 1] 3)) x3 ⟨X3.heap.size, 0, none⟩ (h.below aA) (at_alloc2 X3 0 1)); have LL := hiddenN (b.trans (aA.mono b.size)); clear aA; clear h b)
    | (go_at_call 14; (with_reducible refine CC.out.mono ?_); rintro e W3 ⟨dp3, cp3, rfl, b⟩; have MW3 := hiddenN (LL.out.trans (b.mono LL.out.size)); have PA3 := hiddenN (PA2'.out.below MW3.out); have PD3 := hiddenN (PD2'.out.below MW3.out); have BX3 := hiddenN (BX.out.below MW3.out); have LW3 := hiddenN (LW2'.out.trans (MW3.out.mono LW2'.out.size)); clear b CC LL HH LB))
  have XA := (Below.refl W3.heap.size W3).alloc (Nat.le_refl _) (.cells #[.slice dp3 0 cp3, .int .i64 0] 41)
  have PA3' := hiddenN (PA3.out.below XA)
  have PD3' := hiddenN (PD3.out.below XA)
  have BX3' := hiddenN (BX3.out.below XA)
  have LW3' := hiddenN (LW3.out.trans (XA.mono LW3.out.size))
  clear XA PA3 PD3 BX3
  generalize W3.alloc (.cells #[.slice dp3 0 cp3, .int .i64 0] 41) = W3a at *
  go_upto_region 5 with (first
    | (go_at_call 25; (with_reducible refine (two_anyX W3a).mono ?_); rintro e X4 ⟨x4, rfl, h, b⟩; have HH := hiddenN h; have LB := hiddenN b; clear h b)
    | (go_at_call 26; (with_reducible refine (plan_anyX 0 2 1 2 3 X4).mono ?_); rintro e Y4 ⟨y4, rfl, q1, b⟩; have aA := (Below.refl Y4.heap.size Y4).alloc (Nat.le_refl _) (.cells #[.int .i64 0, .int .i64 1, .int .i64 1] 3); have CC := hiddenN (checkW (Y4.alloc (.cells #[.int .i64 0, .int .i64 1, .int .i64 1] 3)) x4 ⟨Y4.heap.size, 0, none⟩ ((HH.out.below b).below aA) (at_allocV3 Y4 0 1 1) y4 (q1.below aA)); have LL := hiddenN (LB.out.trans ((b.trans (aA.mono b.size)).mono LB.out.size)); clear b q1 aA)
    | (go_at_call 17; (with_reducible refine CC.out.mono ?_); rintro e W4 ⟨rfl, b⟩; have MW4 := hiddenN (LL.out.trans (b.mono LL.out.size)); have PA4 := hiddenN (PA3'.out.below MW4.out); have PD4 := hiddenN (PD3'.out.below MW4.out); have BX4 := hiddenN (BX3'.out.below MW4.out); have LW4 := hiddenN (LW3'.out.trans (MW4.out.mono LW3'.out.size)); clear b CC LL HH LB))
  go_upto_region 6 with (first
    | (go_at_call 25; (with_reducible refine (two_anyX W4).mono ?_); rintro e X5 ⟨x5, rfl, h, b⟩; have HH := hiddenN h; have LB := hiddenN b; clear h b)
    | (go_at_call 26; (with_reducible refine (plan_anyX 3 2 0 3 5 X5).mono ?_); rintro e Y5 ⟨y5, rfl, q1, b⟩; have aA := (Below.refl Y5.heap.size Y5).alloc (Nat.le_refl _) (.cells #[.int .i64 0, .int .i64 1, .int .i64 1] 3); have CC := hiddenN (checkW2 (Y5.alloc (.cells #[.int .i64 0, .int .i64 1, .int .i64 1] 3)) x5 ⟨Y5.heap.size, 0, none⟩ ((HH.out.below b).below aA) (at_allocV3 Y5 0 1 1) y5 (q1.below aA)); have LL := hiddenN (LB.out.trans ((b.trans (aA.mono b.size)).mono LB.out.size)); clear b q1 aA)
    | (go_at_call 17; (with_reducible refine CC.out.mono ?_); rintro e W5 ⟨rfl, b⟩; have MW5 := hiddenN (LL.out.trans (b.mono LL.out.size)); have PA := hiddenN (PA4.out.below MW5.out); have PD5 := hiddenN (PD4.out.below MW5.out); have BX5 := hiddenN (BX4.out.below MW5.out); have LW5 := hiddenN (LW4.out.trans (MW5.out.mono LW4.out.size)); clear b CC LL HH LB))
  obtain ⟨pb, po, hpd, hc⟩ : ∃ b off, pd = some ⟨b, off, none⟩ ∧ ∀ k, k < 1 → W5.cell? ⟨b, off + k * 2, none⟩ = some (.int .i64 (nthX [(0, 1)] k).1) ∧ W5.cell? ⟨b, off + k * 2 + 1, none⟩ = some (.int .i64 (nthX [(0, 1)] k).2) := by
    rcases PD5.out with e | ⟨b, off, e, hc⟩
    · cases e
    · exact ⟨b, off, e, hc⟩
  subst hpd
  have l0 : W5.cell? ⟨pb, po, none⟩ = some (.int .i64 0) := (hc 0 (by decide)).1
  have l1 : W5.cell? ⟨pb, po + 1, none⟩ = some (.int .i64 1) := (hc 0 (by decide)).2
  have u0 : W5.cell? ⟨xb, 0, none⟩ = some (.slice dp 2 cp) := BX5.out.cell rfl
  have u1 : W5.cell? ⟨xb, 1, none⟩ = some (.int .i64 4) := BX5.out.cell rfl
  have hgd : ∀ (op : BinOp) (a b : Operand) (xs ys : Array Value) (w : World), Sem.run Tryz.prog (eqGuard op 34 a b (.agg xs) (.agg ys)) w = .ok () w := Tryz.eqgPp
  have heq : ∀ w, Sem.run Tryz.prog (binOp .eql 34 (.agg #[.int .i64 0, .int .i64 1]) (.agg #[.int .i64 0, .int .i64 1])) w = .ok (.bool true) w := fun w => by rw [Tryz.eqlPp]; rfl
  clear LW0 LW1 LW2 LW2' LW3 LW3' LW4 MW1 MW2 MW3 MW4 MW5 PD PA2' PD2' PA3' PD3' BX3' BX BX4 PA4 PD4 PD5 BX5 hc
  refine wp_region_gen [] (fun d i u z => match i with
      | 0 => z = .slice (some ⟨pb, po, none⟩) 1 pc
      | 1 => z = .int .i64 1
      | 2 => z = .bool true
      | 3 => z = .bool true
      | 4 => z = .slice (some ⟨pb, po, none⟩) 1 pc
      | 5 => z = .pointer (some ⟨pb, po, none⟩)
      | 6 => z = .agg #[.int .i64 0, .int .i64 1]
      | 7 => z = .agg #[.int .i64 0, .int .i64 1]
      | 8 => z = .bool true
      | 9 => z = .bool true
      | 10 => z = .bool true
      | 11 => z = .agg #[.slice dp 2 cp, .int .i64 4]
      | 12 => PlX u z
      | 13 => z = .bool true
      | 14 => z = .bool true
      | 15 => z = .bool true
      | _ => True) (fun _ u => Below W5.heap.size W5 u) (by kernel_rfl) (by kernel_rfl) (by kernel_rfl) ?_ ?_ ?_ ?_ ?_ ?_ (by kernel_rfl)
  · intro d i w v w' h hb
    match i, h with
    | 0, h => exact h
    | 1, h => exact h
    | 2, h => exact h
    | 3, h => exact h
    | 4, h => exact h
    | 5, h => exact h
    | 6, h => exact h
    | 7, h => exact h
    | 8, h => exact h
    | 9, h => exact h
    | 10, h => exact h
    | 11, h => exact h
    | 12, h => exact h.later hb
    | 13, h => exact h
    | 14, h => exact h
    | 15, h => exact h
    | _ + 16, _ => trivial
  · intro d u u' h hb
    exact h.trans (hb.mono h.size)
  · exact Below.refl _ _
  · intro d i o ρ w' hm ho hf hg hC hcs hfs hfr hdep
    match i, hm, ho, hf, hg, hfr, hdep with
    | 0, _, ho, hf, hg, hfr, hdep =>
      simp only [gTA, gCZ, gSI] at ho
      subst ho
      refine ⟨fun _ => ?_, fun hw => absurd (show true = false from hw) (by decide)⟩
      have ts : ρ (.tmp 1) = .slice (some ⟨pb, po, none⟩) 1 pc := hfr 1 (by kernel_rfl)
      simp [go_sem, ts]
      exact ⟨Below.refl _ _, rfl⟩
    | 1, _, ho, hf, hg, hfr, hdep =>
      simp only [gTA, gCZ, gCS, gSI] at ho
      subst ho
      refine ⟨fun _ => ?_, fun hw => absurd (show true = false from hw) (by decide)⟩
      have d0 : ρ (.tmp 36) = .slice (some ⟨pb, po, none⟩) 1 pc := hdep 0 36 (by kernel_rfl) (by kernel_rfl)
      simp [go_sem, d0]
      exact ⟨Below.refl _ _, rfl⟩
    | 2, _, ho, hf, hg, hfr, hdep =>
      simp only [gTA, gCZ, gCS, gSI] at ho
      subst ho
      refine ⟨fun _ => ?_, fun hw => absurd (show true = false from hw) (by decide)⟩
      have d0 : ρ (.tmp 37) = .int .i64 1 := hdep 1 37 (by kernel_rfl) (by kernel_rfl)
      simp [go_sem, d0, hcs]
      exact ⟨Below.refl _ _, rfl⟩
    | 3, _, ho, hf, hg, hfr, hdep =>
      simp only [gTA, gCZ, gCS, gSI] at ho
      subst ho
      refine ⟨fun _ => ?_, fun hw => absurd (show true = false from hw) (by decide)⟩
      have d0 : ρ (.tmp 38) = .bool true := hdep 2 38 (by kernel_rfl) (by kernel_rfl)
      simp [go_sem, d0]
      exact ⟨Below.refl _ _, rfl⟩
    | 4, _, ho, hf, hg, hfr, hdep =>
      simp only [gTA, gCZ, gCS, gSI] at ho
      subst ho
      have gd : ρ (.tmp 39) = .bool true := hdep 3 39 (by kernel_rfl) (by kernel_rfl)
      refine ⟨fun _ => ?_, fun hw => absurd (show (match ρ (.tmp 39) with | .bool c => c == true | _ => false) = false from hw) (by rw [gd]; decide)⟩
      clear gd
      have ts : ρ (.tmp 1) = .slice (some ⟨pb, po, none⟩) 1 pc := hfr 1 (by kernel_rfl)
      simp [go_sem, ts]
      exact ⟨Below.refl _ _, rfl⟩
    | 5, _, ho, hf, hg, hfr, hdep =>
      simp only [gTA, gCZ, gCS, gSI] at ho
      subst ho
      have gd : ρ (.tmp 39) = .bool true := hdep 3 39 (by kernel_rfl) (by kernel_rfl)
      refine ⟨fun _ => ?_, fun hw => absurd (show (match ρ (.tmp 39) with | .bool c => c == true | _ => false) = false from hw) (by rw [gd]; decide)⟩
      clear gd
      have d0 : ρ (.tmp 40) = .slice (some ⟨pb, po, none⟩) 1 pc := hdep 4 40 (by kernel_rfl) (by kernel_rfl)
      simp [go_sem, d0, hcs]
      exact ⟨Below.refl _ _, rfl⟩
    | 6, _, ho, hf, hg, hfr, hdep =>
      simp only [gTA, gCZ, gCS, gSI] at ho
      subst ho
      have gd : ρ (.tmp 39) = .bool true := hdep 3 39 (by kernel_rfl) (by kernel_rfl)
      refine ⟨fun _ => ?_, fun hw => absurd (show (match ρ (.tmp 39) with | .bool c => c == true | _ => false) = false from hw) (by rw [gd]; decide)⟩
      clear gd
      have k0 := cellN_later hC l0
      have k1 := cellN_later hC l1
      have d0 : ρ (.tmp 41) = .pointer (some ⟨pb, po, none⟩) := hdep 5 41 (by kernel_rfl) (by kernel_rfl)
      simp [go_sem, d0, k0, k1]
      exact ⟨Below.refl _ _, rfl⟩
    | 7, _, ho, hf, hg, hfr, hdep =>
      simp only [gTA, gCZ, gCS, gSI] at ho
      subst ho
      have gd : ρ (.tmp 39) = .bool true := hdep 3 39 (by kernel_rfl) (by kernel_rfl)
      refine ⟨fun _ => ?_, fun hw => absurd (show (match ρ (.tmp 39) with | .bool c => c == true | _ => false) = false from hw) (by rw [gd]; decide)⟩
      clear gd
      simp [go_sem, hcs]
      exact ⟨Below.refl _ _, rfl⟩
    | 8, _, ho, hf, hg, hfr, hdep =>
      simp only [gTA, gCZ, gCS, gSI] at ho
      subst ho
      have gd : ρ (.tmp 39) = .bool true := hdep 3 39 (by kernel_rfl) (by kernel_rfl)
      refine ⟨fun _ => ?_, fun hw => absurd (show (match ρ (.tmp 39) with | .bool c => c == true | _ => false) = false from hw) (by rw [gd]; decide)⟩
      clear gd
      have t0 : ρ (.tmp 42) = .agg #[.int .i64 0, .int .i64 1] := hdep 6 42 (by kernel_rfl) (by kernel_rfl)
      have t1 : ρ (.tmp 43) = .agg #[.int .i64 0, .int .i64 1] := hdep 7 43 (by kernel_rfl) (by kernel_rfl)
      simp [go_sem, t0, t1, heq, hgd]
      exact ⟨Below.refl _ _, rfl⟩
    | 9, _, ho, hf, hg, hfr, hdep =>
      simp only [gTA, gCZ, gCS, gSI] at ho
      subst ho
      refine ⟨fun _ => ?_, fun hw => absurd (show true = false from hw) (by decide)⟩
      have d0 : ρ (.tmp 39) = .bool true := hdep 3 39 (by kernel_rfl) (by kernel_rfl)
      have d1 : ρ (.tmp 44) = .bool true := hdep 8 44 (by kernel_rfl) (by kernel_rfl)
      simp [go_sem, d0, d1]
      exact ⟨Below.refl _ _, rfl⟩
    | 10, _, ho, hf, hg, hfr, hdep =>
      simp only [gTA, gCZ, gCS, gSI] at ho
      subst ho
      refine ⟨fun _ => ?_, fun hw => absurd (show true = false from hw) (by decide)⟩
      have d0 : ρ (.tmp 45) = .bool true := hdep 9 45 (by kernel_rfl) (by kernel_rfl)
      simp [go_sem, d0]
      exact ⟨Below.refl _ _, rfl⟩
    | 11, _, ho, hf, hg, hfr, hdep =>
      simp only [gTA, gCZ, gCS, gSI] at ho
      subst ho
      have gd : ρ (.tmp 46) = .bool true := hdep 10 46 (by kernel_rfl) (by kernel_rfl)
      refine ⟨fun _ => ?_, fun hw => absurd (show (match ρ (.tmp 46) with | .bool c => c == true | _ => false) = false from hw) (by rw [gd]; decide)⟩
      clear gd
      have ts : ρ (.tmp 3) = .pointer (some ⟨xb, 0, none⟩) := hfr 3 (by kernel_rfl)
      have k0 := cellN_later hC u0
      have k1 := cellN_later hC u1
      simp [go_sem, ts, k0, k1]
      exact ⟨Below.refl _ _, rfl⟩
    | 12, _, ho, hf, hg, hfr, hdep =>
      simp only [gTA, gCZ, gCS, gSI] at ho
      subst ho
      have gd : ρ (.tmp 46) = .bool true := hdep 10 46 (by kernel_rfl) (by kernel_rfl)
      refine ⟨fun _ => ?_, fun hw => absurd (show (match ρ (.tmp 46) with | .bool c => c == true | _ => false) = false from hw) (by rw [gd]; decide)⟩
      clear gd
      simp [go_sem, hcs, hfs]
      exact ⟨rfl, (plan_anyX 0 2 2 2 4 w').mono fun e w'' ⟨x, e1, q1, q2⟩ => ⟨_, e1, q2, x, rfl, q1⟩⟩
    | 13, _, ho, hf, hg, hfr, hdep =>
      simp only [gTA, gCZ, gCS, gSI] at ho
      subst ho
      have gd : ρ (.tmp 46) = .bool true := hdep 10 46 (by kernel_rfl) (by kernel_rfl)
      refine ⟨fun _ => ?_, fun hw => absurd (show (match ρ (.tmp 46) with | .bool c => c == true | _ => false) = false from hw) (by rw [gd]; decide)⟩
      clear gd
      have t0 : ρ (.tmp 47) = .agg #[.slice dp 2 cp, .int .i64 4] := hdep 11 47 (by kernel_rfl) (by kernel_rfl)
      obtain ⟨x, t1, q1⟩ : PlX w' (ρ (.tmp 48)) := hdep 12 48 (by kernel_rfl) (by kernel_rfl)
      simp [go_sem, t0, t1, hfs]
      exact ⟨rfl, (same_planX dp (some x) 2 cp 2 [(0, 2), (2, 2)] 4 w' (PA.out.below hC) q1 rfl (by decide)).mono fun e w'' ⟨e1, b⟩ => ⟨_, e1, b, rfl⟩⟩
    | 14, _, ho, hf, hg, hfr, hdep =>
      simp only [gTA, gCZ, gCS, gSI] at ho
      subst ho
      refine ⟨fun _ => ?_, fun hw => absurd (show true = false from hw) (by decide)⟩
      have d0 : ρ (.tmp 46) = .bool true := hdep 10 46 (by kernel_rfl) (by kernel_rfl)
      have d1 : ρ (.tmp 49) = .bool true := hdep 13 49 (by kernel_rfl) (by kernel_rfl)
      simp [go_sem, d0, d1]
      exact ⟨Below.refl _ _, rfl⟩
    | 15, _, ho, hf, hg, hfr, hdep =>
      simp only [gTA, gCZ, gCS, gSI] at ho
      subst ho
      refine ⟨fun _ => ?_, fun hw => absurd (show true = false from hw) (by decide)⟩
      have d0 : ρ (.tmp 50) = .bool true := hdep 14 50 (by kernel_rfl) (by kernel_rfl)
      simp [go_sem, d0]
      exact ⟨Below.refl _ _, rfl⟩
    | n + 16, _, ho, _, _, _, _ => simp at ho
  · intro d i o ρ w' hm ho h0 hf hg hC hcs hfs hfr hdep
    exact absurd hm (by simp)
  · intro V w9 hC9 hS
    have e15 : V 15 = .bool true := hS 15 (by decide) (by intro h; cases h)
    simp only [puts, e15]
    simp only [Act.put, List.setIfInBounds_toArray, List.set_cons_zero, List.set_cons_succ]
    clear hS e15
    have LF := hiddenN (LW5.out.trans (hC9.mono LW5.out.size))
    clear hC9
    go_wp2
    go_ret
    exact ⟨by first | rfl | simp, LF.out⟩
set_option maxRecDepth 100000 in
set_option maxHeartbeats 4000000 in
theorem rclash_anyX (i j N : Nat) (v : Value) (R : List (List Int)) (W : World) (hLS : LsV W v R) (hRL : ∀ k, k < R.length → (nthLV R k).length = N) (hi : i < N) (hj : j < N) (hR6 : R.length ≤ 1000000) :
    Calls Tryz.prog 24 #[v, .int .i64 (i : Int), .int .i64 (j : Int)] W fun e w' => e = .returned (.bool (cloV R i j)) ∧ w' = W := by
  obtain ⟨x, c, rfl, hx⟩ := hLS
  have ER : Hid (cloV R i j = R.any (fun r : List Int => decide (0 < nth r i) && decide (0 < nth r j))) := rfl
  obtain ⟨r, hr⟩ : ∃ q, cloV R i j = q := ⟨_, rfl⟩
  rw [hr] at ER ⊢
  obtain ⟨M, hM⟩ : ∃ q, R.length = q := ⟨_, rfl⟩
  have HM := hiddenN hM
  rw [hM] at hR6 ⊢
  have HX := hiddenN hx
  have HRL := hiddenN hRL
  have hii : (i : Int) < (N : Int) := by omega
  have hjj : (j : Int) < (N : Int) := by omega
  clear hr hM hx hRL
  go_enter Tryz.func24, Tryz.ntmps24
  go_wp2
  go_loopg [7] M (fun gk u7 wr => ∃ k : Nat, k ≤ M ∧ gk = M - k ∧ u7 = .int .i64 (k : Int) ∧ (R.drop k).any (fun r : List Int => decide (0 < nth r i) && decide (0 < nth r j)) = r ∧ wr = W)
  case atStart => exact ⟨0, Nat.zero_le _, rfl, rfl, ER.out.symm, rfl⟩
  case round =>
    obtain ⟨k, hk, rfl, rfl, hr, rfl⟩ := hrel
    have HR := hiddenN hr
    clear hr ER
    by_cases hlt : k < M
    · have hki : (k : Int) < (M : Int) := by omega
      have hkL : k < R.length := by rw [HM.out]; exact hlt
      have hcut := HR.out
      rw [drop_nthLV hkL, List.any_cons] at hcut
      have hl := HRL.out k hkL
      rcases HX.out with e | ⟨b, off, rfl, hc⟩
      · rw [e] at hkL; exact absurd hkL (Nat.not_lt_zero _)
      obtain ⟨y, yc, c0, c1⟩ := hc k hkL
      rw [hl] at c0
      rcases c1 with e | ⟨yb, yo, rfl, hd⟩
      · rw [e] at hl; simp at hl; omega
      have ci := hd i (by rw [hl]; exact hi)
      have cj := hd j (by rw [hl]; exact hj)
      obtain ⟨ri, hri⟩ : ∃ q, nth (nthLV R k) i = q := ⟨_, rfl⟩
      obtain ⟨rj, hrj⟩ : ∃ q, nth (nthLV R k) j = q := ⟨_, rfl⟩
      rw [hri] at ci hcut
      rw [hrj] at cj hcut
      have HC := hiddenN hcut
      clear hc hd hl hri hrj hcut hkL
      by_cases h1 : ri > 0
      · by_cases h2 : rj > 0
        · have HN : Hid (r = true) := by show _ = _; rw [← HC.out, decide_eq_true (show 0 < ri from h1), decide_eq_true (show 0 < rj from h2)]; rfl
          go_wp2
          go_ret
          exact ⟨by (rw [HN.out]; try rfl), rfl⟩
        · have HN : Hid ((R.drop (k + 1)).any (fun r : List Int => decide (0 < nth r i) && decide (0 < nth r j)) = r) := by show _ = _; rw [← HC.out, decide_eq_false (show ¬ 0 < rj from h2), Bool.and_false, Bool.false_or]
          go_wp2
          go_roundg (M - (k + 1))
          case measure => omega
          case rel => exact ⟨k + 1, by omega, rfl, by go_num, HN.out, rfl⟩
      · have HN : Hid ((R.drop (k + 1)).any (fun r : List Int => decide (0 < nth r i) && decide (0 < nth r j)) = r) := by show _ = _; rw [← HC.out, decide_eq_false (show ¬ 0 < ri from h1), Bool.false_and, Bool.false_or]
        go_wp2
        go_roundg (M - (k + 1))
        case measure => omega
        case rel => exact ⟨k + 1, by omega, rfl, by go_num, HN.out, rfl⟩
    · have hki : ¬ (k : Int) < (M : Int) := by omega
      have HN : Hid (r = false) := by show _ = _; rw [← HR.out, List.drop_eq_nil_of_le (by rw [HM.out]; omega)]; rfl
      go_wp2
      go_ret
      exact ⟨by (rw [HN.out]; try rfl), rfl⟩
set_option maxRecDepth 100000 in
set_option maxHeartbeats 16000000 in
theorem rclashes_anyX (n : NN) (a : Option Addr) (c : Nat) (W : World) (h : AtN W a n.arcs) (hroom : n.arcs.length ≤ 4611686018427387904) (al : Option Addr) (cl : Nat) (zs : List Int) (hz : At W al zs) (hzl : zs.length ≤ 4611686018427387904) :
    Calls Tryz.prog 9 #[.agg #[.int .i64 n.nodes, .slice a n.arcs.length c], .slice al zs.length cl] W (CloE n zs W) := by
  obtain ⟨PE, hPE⟩ : ∃ Q, CloE n zs W = Q := ⟨_, rfl⟩
  rw [hPE]
  have HPE := hiddenN hPE
  have b0 := (Below.refl W.heap.size W).alloc (Nat.le_refl _) (.cells #[.int .i64 n.nodes, .slice a n.arcs.length c] 24)
  have B0 := hiddenN b0
  have G0 := hiddenN (blkA_new 24 W #[.int .i64 n.nodes, .slice a n.arcs.length c])
  have AL := hiddenN (ralong_any n a c _ (h.below b0) hroom al cl zs (hz.below b0) hzl)
  have z0 := G0.out.cell (k := 0) rfl
  have z1 := G0.out.cell (k := 1) rfl
  simp only [List.getElem_toArray, List.getElem_cons_zero, List.getElem_cons_succ] at z0 z1
  clear hPE b0 h hz
  by_cases hc : codeV n zs = 0
  · have hl := (code_zero hc).2.1
    have AY : Hid (Calls Tryz.prog 23 #[.agg #[.int .i64 n.nodes, .slice a n.arcs.length c], .slice al zs.length cl] (W.alloc (.cells #[.int .i64 n.nodes, .slice a n.arcs.length c] 24)) fun e w' => ∃ v, e = .returned (.tuple #[v, .int .i64 0]) ∧ LsV w' v (rowsV n (startT n) zs) ∧ Below (W.alloc (.cells #[.int .i64 n.nodes, .slice a n.arcs.length c] 24)).heap.size (W.alloc (.cells #[.int .i64 n.nodes, .slice a n.arcs.length c] 24)) w') := AL.out.mono fun e w' hh => by
      rcases hh with ⟨-, B, v, e1, -, -, q1, q2⟩ | ⟨k1, -⟩
      · exact ⟨v, e1, q1.ls, q2⟩
      · exact absurd hc k1
    have HRL : Hid (∀ k, k < (rowsV n (startT n) zs).length → (nthLV (rowsV n (startT n) zs) k).length = n.arcs.length) := fun k hk => by
      rw [rows_len] at hk
      rw [row_lenV (by omega), start_len]
    have HR6 : Hid ((rowsV n (startT n) zs).length ≤ 1000000) := by show _ ≤ _; rw [rows_len]; omega
    have HT : Hid (cloL n zs = lefK (cloV (rowsV n (startT n) zs)) n.arcs.length 0) := by show _ = _; unfold cloL; rw [if_pos hc, lefK_zero]
    have HFW := hiddenN (cloL_few hc)
    have HEND : Hid (∀ (wz : World) d c', CapPp W.heap.size wz d c' (cloL n zs) → Below W.heap.size W wz → PE (.returned (.tuple #[.slice d (cloL n zs).length c', .int .i64 0])) wz) := fun wz d c' q1 q2 => by
      rw [← HPE.out]
      exact ⟨d, c', by rw [hc], q1, q2⟩
    clear AL hc HPE
    generalize rowsV n (startT n) zs = R at *
    generalize cloL n zs = T at *
    obtain ⟨N, hN⟩ : ∃ N, n.arcs.length = N := ⟨_, rfl⟩
    rw [hN] at HRL HT AY z0 z1 hroom G0 B0 ⊢
    clear hN
    go_enter Tryz.func9, Tryz.ntmps9
    go_upto_region 1 with fail
    generalize W.alloc (.cells #[.int .i64 n.nodes, .slice a N c] 24) = W1 at *
    go_upto_region 5 with (go_at_call 23; (with_reducible refine AY.out.mono ?_); rintro e W2 ⟨v, rfl, q1, q2⟩; have LS := hiddenN q1; have B2 := hiddenN (B0.out.trans (q2.mono B0.out.size)); have G2 := hiddenN (G0.out.below q2); clear q1 q2)
    clear z0 z1 AY G0
    have HQ2 := hiddenN B2.out.size
    go_wp2
    go_loopg [8, 9] N (fun gk u8 u9 wr => ∃ (k : Nat) (d : Option Addr) (c' : Nat) (L : List (Int × Int)), k ≤ N ∧ gk = N - k ∧ u9 = .int .i64 (k : Int) ∧ u8 = .slice d L.length c' ∧ CapPp W2.heap.size wr d c' L ∧ Below W2.heap.size W2 wr ∧ L ++ lefK (cloV R) N k = T)
    case atStart => exact ⟨0, none, 0, [], Nat.zero_le _, rfl, rfl, rfl, CapPp.nil _ _, Below.refl _ _, by rw [List.nil_append]; exact HT.out.symm⟩
    case round =>
      obtain ⟨k, d, c', L, hk, rfl, rfl, rfl, hC, hB, hL⟩ := hrel
      have HCp := hiddenN hC
      have HB := hiddenN hB
      have HLL := hiddenN hL
      have z1 := (G2.out.below hB).cell (k := 1) rfl
      simp only [List.getElem_toArray, List.getElem_cons_zero, List.getElem_cons_succ] at z1
      clear hC hB hL
      by_cases hlt : k < N
      · have hki : (k : Int) < (N : Int) := by omega
        have HLJ : Hid (L ++ lefJ (cloV R) N k (k + 1) = T) := by show _ = _; rw [← lefK_cut hlt]; exact HLL.out
        have w1 : IntKind.i64.wrap ((k : Int) + 1) = (k : Int) + 1 := by rw [IntKind.wrap_i64]; omega
        clear HLL
        go_wp2
        go_loopg [8, 10] (N - (k + 1)) (fun gk u8 u10 wq => ∃ (j : Nat) (d : Option Addr) (c' : Nat) (L : List (Int × Int)), k < j ∧ j ≤ N ∧ gk = N - j ∧ u10 = .int .i64 (j : Int) ∧ u8 = .slice d L.length c' ∧ CapPp W2.heap.size wq d c' L ∧ Below W2.heap.size W2 wq ∧ L ++ lefJ (cloV R) N k j = T)
        case atStart => exact ⟨k + 1, d, c', L, Nat.lt_succ_self _, hlt, rfl, by go_num, rfl, HCp.out, HB.out, HLJ.out⟩
        case round =>
          clear HCp HB HLJ w1 z1
          obtain ⟨j, d, c', L, hkj, hj, rfl, rfl, rfl, hC, hB, hL⟩ := hrel
          have HCp := hiddenN hC
          have HB := hiddenN hB
          have HLL := hiddenN hL
          have z1 := (G2.out.below hB).cell (k := 1) rfl
          simp only [List.getElem_toArray, List.getElem_cons_zero, List.getElem_cons_succ] at z1
          clear hC hB hL
          by_cases hlj : j < N
          · have hji : (j : Int) < (N : Int) := by omega
            have w2 : IntKind.i64.wrap ((j : Int) + 1) = (j : Int) + 1 := by rw [IntKind.wrap_i64]; omega
            have CF := hiddenN (rclash_anyX k j N v R wr (LS.out.below HB.out) HRL.out hlt hlj HR6.out)
            have HLC : Hid (L ++ (if cloV R k j = true then ((k : Int), (j : Int)) :: lefJ (cloV R) N k (j + 1) else lefJ (cloV R) N k (j + 1)) = T) := by
              show _ = _
              rw [← lefJ_cut hlj]
              exact HLL.out
            generalize cloV R k j = r at *
            clear HLL
            cases r with
            | true =>
              have HLT : Hid ((L ++ [((k : Int), (j : Int))]) ++ lefJ (cloV R) N k (j + 1) = T) := by have q := HLC.out; rw [if_pos rfl] at q; rw [List.append_assoc]; exact q
              have HFL : Hid (L.length ≤ 1000000) := HFW.out L _ HLC.out
              clear HLC
              have hGy := hiddenN (blkA_new 34 wr #[.int .i64 (k : Int), .int .i64 (j : Int)])
              have v0 := hGy.out.cell (k := 0) rfl
              have v1 := hGy.out.cell (k := 1) rfl
              simp only [List.getElem_toArray, List.getElem_cons_zero, List.getElem_cons_succ] at v0 v1
              have y4 : Hid (Below wr.heap.size wr (wr.alloc (.cells #[.int .i64 (k : Int), .int .i64 (j : Int)] 34))) := (Below.refl _ _).alloc (Nat.le_refl _) _
              have C4 := hiddenN (HCp.out.later y4.out)
              have B4 := hiddenN (HB.out.trans (y4.out.mono HB.out.size))
              have S4 := hiddenN B4.out.size
              obtain ⟨ln, hln⟩ : ∃ q, L.length = q := ⟨_, rfl⟩
              have HLN := hiddenN hln
              have hfl : ln ≤ 1000000 := by rw [← hln]; exact HFL.out
              rw [hln]
              clear hln
              go_wp2_with (first
                | (at_builtin; refine wpList_appPp1 rfl _ _ rfl W2.heap.size d c' L ln HLN.out rfl C4.out wr.heap.size ((k : Int), (j : Int)) rfl v0 v1 (by omega) S4.out ?_; intro d2 c2 w5 hg; have HG := hiddenN hg; clear hg v0 v1)
                | (go_at_call 24; (with_reducible refine CF.out.mono ?_); rintro e w9 ⟨rfl, h9⟩; obtain rfl : wr = w9 := h9.symm))
              have HB5 := hiddenN (B4.out.trans (HG.out.below S4.out (fun y hy => (C4.out.lt y hy).1)))
              have HL5 : Hid ((L ++ [((k : Int), (j : Int))]).length = ln + 1) := by show _ = _; rw [List.length_append, HLN.out]; rfl
              go_roundg (N - (j + 1))
              case measure => omega
              case rel => exact ⟨j + 1, d2, c2, _, by omega, by omega, rfl, by go_num, by rw [HL5.out], HG.out.own, HB5.out, HLT.out⟩
            | false =>
              have HLT : Hid (L ++ lefJ (cloV R) N k (j + 1) = T) := by have q := HLC.out; rw [if_neg (by decide)] at q; exact q
              clear HLC
              go_wp2_with (go_at_call 24; (with_reducible refine CF.out.mono ?_); rintro e w9 ⟨rfl, h9⟩; obtain rfl : wr = w9 := h9.symm)
              go_roundg (N - (j + 1))
              case measure => omega
              case rel => exact ⟨j + 1, d, c', L, by omega, by omega, rfl, by go_num, rfl, HCp.out, HB.out, HLT.out⟩
          · have hji : ¬ (j : Int) < (N : Int) := by omega
            have HLT : Hid (L ++ lefK (cloV R) N (k + 1) = T) := by show _ = _; rw [← lefJ_end (c := cloV R) (k := k) (show N ≤ j by omega)]; exact HLL.out
            go_wp2
            go_roundg (N - (k + 1))
            case measure => omega
            case rel => exact ⟨k + 1, d, c', L, by omega, rfl, by go_num, rfl, HCp.out, HB.out, HLT.out⟩
      · have hki : ¬ (k : Int) < (N : Int) := by omega
        have HLT : Hid (L = T) := by have q := HLL.out; rw [lefK_end (by omega), List.append_nil] at q; exact q
        have q := HEND.out wr d c' (by rw [← HLT.out]; exact HCp.out.mono HQ2.out) (B2.out.trans (HB.out.mono B2.out.size))
        rw [← HLT.out] at q
        have HF := hiddenN q
        clear q
        go_wp2
        exact HF.out
  · have AY : Hid (Calls Tryz.prog 23 #[.agg #[.int .i64 n.nodes, .slice a n.arcs.length c], .slice al zs.length cl] (W.alloc (.cells #[.int .i64 n.nodes, .slice a n.arcs.length c] 24)) fun e w' => e = .returned (.tuple #[.slice none 0 0, .int .i64 (codeV n zs)]) ∧ Below (W.alloc (.cells #[.int .i64 n.nodes, .slice a n.arcs.length c] 24)).heap.size (W.alloc (.cells #[.int .i64 n.nodes, .slice a n.arcs.length c] 24)) w') := AL.out.mono fun e w' hh => by
      rcases hh with ⟨k1, -⟩ | ⟨-, e1, q⟩
      · exact absurd k1 hc
      · exact ⟨e1, q⟩
    have HEND : Hid (∀ (wz : World), Below W.heap.size W wz → PE (.returned (.tuple #[.slice none 0 0, .int .i64 (codeV n zs)])) wz) := fun wz q2 => by
      rw [← HPE.out]
      have e : cloL n zs = [] := by unfold cloL; rw [if_neg hc]
      refine ⟨none, 0, by rw [e]; rfl, ?_, q2⟩
      rw [e]; exact CapPp.nil _ _
    have qe : (codeV n zs != 0) = true := by simpa using hc
    clear AL hc HPE
    generalize codeV n zs = cv at *
    go_enter Tryz.func9, Tryz.ntmps9
    go_upto_region 1 with fail
    generalize W.alloc (.cells #[.int .i64 n.nodes, .slice a n.arcs.length c] 24) = W1 at *
    go_wp2_with (go_at_call 23; (with_reducible refine AY.out.mono ?_); rintro e W2 ⟨rfl, q2⟩; have B2 := hiddenN (B0.out.trans (q2.mono B0.out.size)); clear q2)
    exact HEND.out _ B2.out
theorem share_refX (b s b2 s2 : Int) (h : IntKind.i64.wrap (b + s) = b + s) (h2 : IntKind.i64.wrap (b2 + s2) = b2 + s2) (W : World) : Calls Tryz.prog 41 #[.agg #[.int .i64 b, .int .i64 s], .agg #[.int .i64 b2, .int .i64 s2]] W fun e w' => e = .returned (.bool (shrB (b, s) (b2, s2))) ∧ ∃ q os, w' = Go.Sort.grow (W.drewN q) os := by
  have ER : Hid (shrB (b, s) (b2, s2) = (decide (0 < s) && (decide (0 < s2) && (decide (b < b2 + s2) && decide (b2 < b + s))))) := rfl
  generalize shrB (b, s) (b2, s2) = r at *
  have G1 := hiddenN (blkA_new 47 W #[.int .i64 b, .int .i64 s])
  have G2 := hiddenN (blkA_new 47 (W.alloc (.cells #[.int .i64 b, .int .i64 s] 47)) #[.int .i64 b2, .int .i64 s2])
  have G1' := hiddenN (G1.out.below ((Below.refl _ _).alloc (Nat.le_refl _) (.cells #[.int .i64 b2, .int .i64 s2] 47)))
  have HW : Hid ((W.alloc (.cells #[.int .i64 b, .int .i64 s] 47)).alloc (.cells #[.int .i64 b2, .int .i64 s2] 47) = Go.Sort.grow W #[.cells #[.int .i64 b, .int .i64 s] 47, .cells #[.int .i64 b2, .int .i64 s2] 47]) := by
    show _ = _
    rw [Go.Sort.alloc_eq_grow, Go.Sort.alloc_eq_grow, Go.Sort.grow_grow]; rfl
  have HEND : Hid (∀ v : Bool, v = r → ∃ q os, (W.alloc (.cells #[.int .i64 b, .int .i64 s] 47)).alloc (.cells #[.int .i64 b2, .int .i64 s2] 47) = Go.Sort.grow (W.drewN q) os) := fun _ _ => ⟨0, _, HW.out⟩
  go_enter Tryz.func41, Tryz.ntmps41
  go_upto_region 1 with fail
  generalize (W.alloc (.cells #[.int .i64 b, .int .i64 s] 47)).alloc (.cells #[.int .i64 b2, .int .i64 s2] 47) = W2 at *
  have hs2 : (W.alloc (.cells #[.int .i64 b, .int .i64 s] 47)).heap.size = W.heap.size + 1 := World.size_alloc ..
  rw [hs2] at G2
  have z0 := G1'.out.cell (k := 0) rfl
  have z1 := G1'.out.cell (k := 1) rfl
  have y0 := G2.out.cell (k := 0) rfl
  have y1 := G2.out.cell (k := 1) rfl
  simp only [List.getElem_toArray, List.getElem_cons_zero, List.getElem_cons_succ] at z0 z1 y0 y1
  clear hs2 G1 G2 G1' HW
  by_cases c1 : s > 0
  · by_cases c2 : s2 > 0
    · by_cases c3 : b < b2 + s2
      · have e : Hid (r = decide (b2 < b + s)) := by
          show _ = _
          rw [ER.out, decide_eq_true (show 0 < s from c1), decide_eq_true (show 0 < s2 from c2), decide_eq_true c3]; rfl
        go_wp2
        go_ret
        exact ⟨by rw [e.out]; rfl, HEND.out _ rfl⟩
      · have e : Hid (r = false) := by
          show _ = _
          rw [ER.out, decide_eq_false c3]; simp
        go_wp2
        go_ret
        exact ⟨by rw [e.out]; rfl, HEND.out _ rfl⟩
    · have e : Hid (r = false) := by
        show _ = _
        rw [ER.out, decide_eq_false (show ¬ 0 < s2 from c2)]; simp
      go_wp2
      go_ret
      exact ⟨by rw [e.out]; rfl, HEND.out _ rfl⟩
  · have e : Hid (r = false) := by
      show _ = _
      rw [ER.out, decide_eq_false (show ¬ 0 < s from c1)]; simp
    go_wp2
    go_ret
    exact ⟨by rw [e.out]; rfl, HEND.out _ rfl⟩
set_option maxRecDepth 100000 in
set_option maxHeartbeats 4000000 in
theorem rpaired_anyX (ap : Option Addr) (cp : Nat) (L : List (Int × Int)) (np : Nat) (x y : Int) (W : World) (h : AtPp W ap L) (hl : L.length = np) (hn : np ≤ 1000000) :
    Calls Tryz.prog 36 #[.slice ap np cp, .int .i64 x, .int .i64 y] W fun e w' => e = .returned (.bool (memX L (min x y) (max x y))) ∧ w' = W := by
  have H := hiddenN h
  have HLN := hiddenN hl
  obtain ⟨X, hX⟩ : ∃ q, min x y = q := ⟨_, rfl⟩
  obtain ⟨Y, hY⟩ : ∃ q, max x y = q := ⟨_, rfl⟩
  rw [hX, hY]
  clear h hl
  go_enter Tryz.func36, Tryz.ntmps36
  go_wp2
  go_loopg [7] np (fun gk u wr => ∃ k : Nat, k ≤ np ∧ gk = np - k ∧ u = .int .i64 (k : Int) ∧ (∀ q, q < k → ¬ ((nthX L q).1 = X ∧ (nthX L q).2 = Y)) ∧ wr = W)
  case atStart => exact ⟨0, Nat.zero_le _, rfl, rfl, (fun q hq => absurd hq (Nat.not_lt_zero _)), rfl⟩
  case round =>
    obtain ⟨k, hk, rfl, rfl, hno, rfl⟩ := hrel
    have HN := hiddenN hno
    clear hno
    by_cases hlt : k < np
    · have hki : (k : Int) < (np : Int) := by omega
      have hkL : k < L.length := by rw [HLN.out]; exact hlt
      rcases H.out with e | ⟨b, off, rfl, hc⟩
      · rw [e] at hkL; exact absurd hkL (Nat.not_lt_zero _)
      obtain ⟨c0, c1⟩ := hc k hkL
      obtain ⟨p, hp⟩ : ∃ p, nthX L k = p := ⟨_, rfl⟩
      have HPP := hiddenN hp
      rw [hp] at c0 c1
      obtain ⟨pa, pb⟩ := p
      simp only at c0 c1
      have hgd : ∀ (op : BinOp) (a b : Operand) (xs ys : Array Value) (w : World), Sem.run Tryz.prog (eqGuard op 34 a b (.agg xs) (.agg ys)) w = .ok () w := Tryz.eqgPp
      have hwk : IntKind.i64.wrap ((k : Int) + 1) = (k : Int) + 1 := by rw [IntKind.wrap_i64]; omega
      clear hc hp
      by_cases he : pa = X ∧ pb = Y
      · have heq : ∀ w, Sem.run Tryz.prog (binOp .eql 34 (.agg #[.int .i64 pa, .int .i64 pb]) (.agg #[.int .i64 X, .int .i64 Y])) w = .ok (.bool true) w := fun w => by rw [Tryz.eqlPp]; simp [he.1, he.2]
        have HM : Hid (memX L X Y = true) := memX_at hkL (by rw [HPP.out]; exact he.1) (by rw [HPP.out]; exact he.2)
        clear he hkL
        go_wp2
        go_ret
        exact ⟨by (rw [HM.out]; try rfl), rfl⟩
      · have heq : ∀ w, Sem.run Tryz.prog (binOp .eql 34 (.agg #[.int .i64 pa, .int .i64 pb]) (.agg #[.int .i64 X, .int .i64 Y])) w = .ok (.bool false) w := fun w => by rw [Tryz.eqlPp]; simpa using he
        have HNN : Hid (∀ q, q < k + 1 → ¬ ((nthX L q).1 = X ∧ (nthX L q).2 = Y)) := fun q hq => by
          rcases Nat.lt_succ_iff_lt_or_eq.1 hq with hq | rfl
          · exact HN.out q hq
          · rw [HPP.out]; exact he
        clear he hkL
        go_wp2
        go_roundg (np - (k + 1))
        case measure => omega
        case rel => exact ⟨k + 1, by omega, rfl, by go_num, HNN.out, rfl⟩
    · have hki : ¬ (k : Int) < (np : Int) := by omega
      have HM : Hid (memX L X Y = false) := memX_no fun q hq => HN.out q (by rw [HLN.out] at hq; omega)
      go_wp2
      go_ret
      exact ⟨by (rw [HM.out]; try rfl), rfl⟩
/-- A row of bools as it lies. -/
def BoolAt (W : World) (b off m : Nat) (pl : Nat → Bool) : Prop := ∀ k, k < m → W.cell? ⟨b, off + k, none⟩ = some (.bool (pl k))
/-- What base looks at: the neighbours that are placed, by their numbers. -/
def nbI (L : List (Int × Int)) (g : Nat → Bool) (m : Nat) : List (Int × Int) := ((List.range m).filter g).map (nthX L)
theorem range_cut {k m : Nat} (h : k < m) : List.range' k (m - k) = k :: List.range' (k + 1) (m - (k + 1)) := by rw [show m - k = (m - (k + 1)) + 1 by omega, List.range'_succ]
def endK (L : List (Int × Int)) (g : Nat → Bool) (m k : Nat) : List Int := ((List.range' k (m - k)).filter g).map fun c => (nthX L c).1 + (nthX L c).2
def rstK (L : List (Int × Int)) (g : Nat → Bool) (m : Nat) : Nat → List Int
  | 0 => 0 :: endK L g m 0
  | k + 1 => endK L g m k
theorem rst_yes {L : List (Int × Int)} {g : Nat → Bool} {m k : Nat} (h : k < m) (hg : g k = true) : rstK L g m (k + 1) = ((nthX L k).1 + (nthX L k).2) :: rstK L g m (k + 2) := by
  show endK L g m k = _ :: endK L g m (k + 1)
  unfold endK
  rw [range_cut h, List.filter_cons_of_pos hg, List.map_cons]
theorem rst_no {L : List (Int × Int)} {g : Nat → Bool} {m k : Nat} (h : k < m) (hg : g k = false) : rstK L g m (k + 1) = rstK L g m (k + 2) := by
  show endK L g m k = endK L g m (k + 1)
  unfold endK
  rw [range_cut h, List.filter_cons_of_neg (by rw [hg]; decide)]
theorem rst_end {L : List (Int × Int)} {g : Nat → Bool} {m : Nat} : rstK L g m (m + 1) = [] := by
  show endK L g m m = []
  unfold endK
  rw [Nat.sub_self]; rfl
def freL (L : List (Int × Int)) (g : Nat → Bool) (s : Int) (k : Nat) (b : Int) : Bool := (List.range k).all fun c => !(g c && shrB (nthX L c) (b, s))
theorem freL_step (L : List (Int × Int)) (g : Nat → Bool) (s : Int) (k : Nat) (b : Int) : freL L g s (k + 1) b = (freL L g s k b && !(g k && shrB (nthX L k) (b, s))) := by
  unfold freL
  rw [List.range_succ, List.all_append]
  simp
theorem lst_rst (L : List (Int × Int)) (g : Nat → Bool) (s : Int) (m : Nat) : lstV (nbI L g m) s = bstI (fun b => freL L g s m b) (-1) (rstK L g m 0) := by
  unfold lstV
  have e1 : (fun b => (nbI L g m).all fun x => !shrB x (b, s)) = fun b => freL L g s m b := by
    funext b
    unfold nbI freL
    rw [List.all_map, List.all_filter]
    congr 1
    funext c
    cases g c <;> simp
  have e2 : (0 :: (nbI L g m).map fun x => x.1 + x.2) = rstK L g m 0 := by
    show _ = 0 :: endK L g m 0
    unfold nbI endK
    rw [List.map_map, Nat.sub_zero, List.range_eq_range']
    rfl
  rw [e1, e2]
set_option maxRecDepth 100000 in
set_option maxHeartbeats 32000000 in
theorem rbase_anyX (lb lo lc pb po pc nb no nc rb ro rc arc m : Nat) (L : List (Int × Int)) (pl : Nat → Bool) (nr : Nat → Nat → Bool) (W : World) (harc : arc < m) (hm : m ≤ 96)
    (hL : ∀ k, k < m → W.cell? ⟨lb, lo + k * 2, none⟩ = some (.int .i64 (nthX L k).1) ∧ W.cell? ⟨lb, lo + k * 2 + 1, none⟩ = some (.int .i64 (nthX L k).2))
    (hP : BoolAt W pb po m pl) (hNR : W.cell? ⟨nb, no + arc, none⟩ = some (.slice (some ⟨rb, ro, none⟩) m rc)) (hNB : BoolAt W rb ro m (nr arc))
    (hX : ∀ k, k < m → (0 ≤ (nthX L k).1 ∧ (nthX L k).1 ≤ 1000000000) ∧ 0 ≤ (nthX L k).2 ∧ (nthX L k).2 ≤ 1000000) :
    Calls Tryz.prog 37 #[.slice (some ⟨lb, lo, none⟩) m lc, .slice (some ⟨pb, po, none⟩) m pc, .slice (some ⟨nb, no, none⟩) m nc, .int .i64 (arc : Int)] W fun e w' => e = .returned (.int .i64 (lstV (nbI L (fun c => pl c && nr arc c) m) (nthX L arc).2)) ∧ Below W.heap.size W w' := by
  rw [lst_rst]
  obtain ⟨sz, hsz⟩ : ∃ q, (nthX L arc).2 = q := ⟨_, rfl⟩
  have HSZ := hiddenN hsz
  have hszb : 0 ≤ sz ∧ sz ≤ 1000000 := by rw [← hsz]; exact (hX arc harc).2
  rw [hsz]
  obtain ⟨freK, hfr⟩ : ∃ q : Nat → Int → Bool, (fun k b => freL L (fun c => pl c && nr arc c) sz k b) = q := ⟨_, rfl⟩
  have FZ : Hid (∀ b, freK 0 b = true) := fun b => by rw [← hfr]; rfl
  have FS : Hid (∀ k b, freK (k + 1) b = (freK k b && !((pl k && nr arc k) && shrB (nthX L k) (b, sz)))) := fun k b => by rw [← hfr]; exact freL_step _ _ _ _ _
  obtain ⟨fr, hfr2⟩ : ∃ q : Int → Bool, (fun b => freL L (fun c => pl c && nr arc c) sz m b) = q := ⟨_, rfl⟩
  have FE : Hid (∀ b, fr b = freK m b) := fun b => by rw [← hfr2, ← hfr]
  obtain ⟨rst, hrst⟩ : ∃ q : Nat → List Int, rstK L (fun c => pl c && nr arc c) m = q := ⟨_, rfl⟩
  have R0 : Hid (rst 0 = 0 :: rst 1) := by show _ = _; rw [← hrst]; rfl
  have RY : Hid (∀ k, k < m → (pl k && nr arc k) = true → rst (k + 1) = ((nthX L k).1 + (nthX L k).2) :: rst (k + 2)) := fun k h hg => by rw [← hrst]; exact rst_yes h hg
  have RN : Hid (∀ k, k < m → (pl k && nr arc k) = false → rst (k + 1) = rst (k + 2)) := fun k h hg => by rw [← hrst]; exact rst_no h hg
  have RE : Hid (rst (m + 1) = []) := by show _ = _; rw [← hrst]; exact rst_end
  obtain ⟨res, hres⟩ : ∃ q, bstI fr (-1) (rst 0) = q := ⟨_, rfl⟩
  have HR0 := hiddenN hres
  rw [hfr2, hrst, hres]
  have HL := hiddenN hL
  have HP := hiddenN hP
  have HNR := hiddenN hNR
  have HNB := hiddenN hNB
  have HXB := hiddenN hX
  have HW : Hid (∀ k, k < m → IntKind.i64.wrap ((nthX L k).1 + (nthX L k).2) = (nthX L k).1 + (nthX L k).2) := fun k hk => by have := hX k hk; rw [IntKind.wrap_i64]; omega
  have HWA : Hid (∀ b : Int, -1 ≤ b ∧ b ≤ 1001000000 → IntKind.i64.wrap (b + sz) = b + sz) := fun b h => by rw [IntKind.wrap_i64]; omega
  have harci : (arc : Int) < (m : Int) := by omega
  clear hsz hfr hfr2 hrst hres hL hP hNR hNB hX
  go_enter Tryz.func37, Tryz.ntmps37
  go_wp2
  go_loopg [9, 10] (m + 1) (fun gk u9 u10 wr => ∃ (k : Nat) (best : Int), k ≤ m + 1 ∧ gk = m + 1 - k ∧ u9 = .int .i64 best ∧ u10 = .int .i64 ((k : Int) - 1) ∧ (-1 ≤ best ∧ best ≤ 1001000000) ∧ bstI fr best (rst k) = res ∧ Below W.heap.size W wr)
  case atStart => exact ⟨0, -1, Nat.zero_le _, rfl, rfl, rfl, by decide, HR0.out, Below.refl _ _⟩
  case round =>
    obtain ⟨k, best, hk, rfl, rfl, rfl, hbst, hre, hB⟩ := hrel
    have HREST := hiddenN hre
    have HB := hiddenN hB
    have BST := hbst
    clear hre hB HR0
    by_cases hlt : k < m + 1
    · cases k with
      | zero =>
        have BAT : -1 ≤ (0 : Int) ∧ (0 : Int) ≤ 1001000000 := by decide
        have hm0 : (-1 : Int) < (m : Int) := by omega
        have hm0' : ((0 : Nat) : Int) - 1 < (m : Int) := by omega
        go_wp2
        go_loopg [12, 13] m (fun gk u12 u13 wz => ∃ k2 : Nat, k2 ≤ m ∧ gk = m - k2 ∧ u12 = .bool (freK k2 (0)) ∧ u13 = .int .i64 (k2 : Int) ∧ Below W.heap.size W wz)
        case atStart => exact ⟨0, Nat.zero_le _, rfl, by rw [FZ.out], rfl, HB.out⟩
        case round =>
          obtain ⟨k2, hk2, rfl, rfl, rfl, hbz⟩ := hrel
          have HBz := hiddenN hbz
          clear hbz
          generalize wr = wz at *
          by_cases hlt2 : k2 < m
          · have hki2 : (k2 : Int) < (m : Int) := by omega
            have hwk2 : IntKind.i64.wrap ((k2 : Int) + 1) = (k2 : Int) + 1 := by rw [IntKind.wrap_i64]; omega
            have p0 := cellN_later HBz.out (HP.out k2 hlt2)
            have q0 := cellN_later HBz.out HNR.out
            have q1 := cellN_later HBz.out (HNB.out k2 hlt2)
            have r0 := cellN_later HBz.out (HL.out k2 hlt2).1
            have r1 := cellN_later HBz.out (HL.out k2 hlt2).2
            have s1 := cellN_later HBz.out (HL.out arc harc).2
            have FN := hiddenN (FS.out k2 (0))
            obtain ⟨x, hx⟩ : ∃ x, nthX L k2 = x := ⟨_, rfl⟩
            have hwr := HW.out k2 hlt2
            have hwa := HWA.out (0) BAT
            rw [hx] at r0 r1 FN hwr
            obtain ⟨xb, xs⟩ := x
            rw [HSZ.out] at s1
            simp only at r0 r1 hwr
            have SH : Hid (∀ U, Calls Tryz.prog 41 #[.agg #[.int .i64 xb, .int .i64 xs], .agg #[.int .i64 (0), .int .i64 sz]] U fun e w' => e = .returned (.bool (shrB (xb, xs) ((0), sz))) ∧ ∃ q os, w' = Go.Sort.grow (U.drewN q) os) := fun U => share_refX xb xs (0) sz hwr hwa U
            obtain ⟨fk, hfk⟩ : ∃ q, freK k2 (0) = q := ⟨_, rfl⟩
            rw [hfk] at FN ⊢
            have v0 := fun q os => Go.cell_grown (World.block_lt_of_cell? _ _ p0) p0 q os
            have v1 := fun q os => Go.cell_grown (World.block_lt_of_cell? _ _ q0) q0 q os
            have v2 := fun q os => Go.cell_grown (World.block_lt_of_cell? _ _ q1) q1 q os
            have v3 := fun q os => Go.cell_grown (World.block_lt_of_cell? _ _ r0) r0 q os
            have v4 := fun q os => Go.cell_grown (World.block_lt_of_cell? _ _ r1) r1 q os
            have v5 := fun q os => Go.cell_grown (World.block_lt_of_cell? _ _ s1) s1 q os
            clear hx hfk hwr hwa p0 q0 q1 r0 r1 s1
            go_upto_region 13 with fail
            generalize pl k2 = p at *
            generalize nr arc k2 = q at *
            cases p with
            | false =>
              have SH2 := SH
              have mixed : Tryz.prog.follows .mixedOrders = true := by kernel_rfl
              try dsimp only [List.append_eq, List.cons_append, List.nil_append]
              refine wp_region_quiet_grown (by assumption) (by kernel_rfl) ?_
              repeat (go_big_quiet_step (first | (go_at_call 41; (with_reducible exact Calls.grown_of (SH2.out _)))))
              refine wpQuiet_nil ?_
              intro _ hw'
              obtain ⟨⟨nq, osq⟩, hw''⟩ := hw'
              subst hw''
              have b7 := hiddenN (grn_below ⟨nq, osq, rfl⟩ (Nat.le_refl wz.heap.size))
              have HB7 := hiddenN (HBz.out.trans (b7.out.mono HBz.out.size))
              generalize Go.Sort.grow (wz.drewN nq) osq = W7 at *
              clear v0 v1 v2 v3 v4 v5
              go_wp2
              go_roundg (m - (k2 + 1))
              case measure => omega
              case rel => exact ⟨k2 + 1, by omega, rfl, by (rw [FN.out]; simp), by go_num, HB7.out⟩
            | true =>
              cases q with
              | false =>
                have SH2 := SH
                have mixed : Tryz.prog.follows .mixedOrders = true := by kernel_rfl
                try dsimp only [List.append_eq, List.cons_append, List.nil_append]
                refine wp_region_quiet_grown (by assumption) (by kernel_rfl) ?_
                repeat (go_big_quiet_step (first | (go_at_call 41; (with_reducible exact Calls.grown_of (SH2.out _)))))
                refine wpQuiet_nil ?_
                intro _ hw'
                obtain ⟨⟨nq, osq⟩, hw''⟩ := hw'
                subst hw''
                have b7 := hiddenN (grn_below ⟨nq, osq, rfl⟩ (Nat.le_refl wz.heap.size))
                have HB7 := hiddenN (HBz.out.trans (b7.out.mono HBz.out.size))
                generalize Go.Sort.grow (wz.drewN nq) osq = W7 at *
                clear v0 v1 v2 v3 v4 v5
                go_wp2
                go_roundg (m - (k2 + 1))
                case measure => omega
                case rel => exact ⟨k2 + 1, by omega, rfl, by (rw [FN.out]; simp), by go_num, HB7.out⟩
              | true =>
                generalize shrB (xb, xs) ((0), sz) = sh at *
                cases sh with
                | true =>
                  have SH2 := SH
                  have mixed : Tryz.prog.follows .mixedOrders = true := by kernel_rfl
                  try dsimp only [List.append_eq, List.cons_append, List.nil_append]
                  refine wp_region_quiet_grown (by assumption) (by kernel_rfl) ?_
                  repeat (go_big_quiet_step (first | (go_at_call 41; (with_reducible exact Calls.grown_of (SH2.out _)))))
                  refine wpQuiet_nil ?_
                  intro _ hw'
                  obtain ⟨⟨nq, osq⟩, hw''⟩ := hw'
                  subst hw''
                  have b7 := hiddenN (grn_below ⟨nq, osq, rfl⟩ (Nat.le_refl wz.heap.size))
                  have HB7 := hiddenN (HBz.out.trans (b7.out.mono HBz.out.size))
                  generalize Go.Sort.grow (wz.drewN nq) osq = W7 at *
                  clear v0 v1 v2 v3 v4 v5
                  go_wp2
                  go_roundg (m - (k2 + 1))
                  case measure => omega
                  case rel => exact ⟨k2 + 1, by omega, rfl, by (rw [FN.out]; simp), by go_num, HB7.out⟩
                | false =>
                  have SH2 := SH
                  have mixed : Tryz.prog.follows .mixedOrders = true := by kernel_rfl
                  try dsimp only [List.append_eq, List.cons_append, List.nil_append]
                  refine wp_region_quiet_grown (by assumption) (by kernel_rfl) ?_
                  repeat (go_big_quiet_step (first | (go_at_call 41; (with_reducible exact Calls.grown_of (SH2.out _)))))
                  refine wpQuiet_nil ?_
                  intro _ hw'
                  obtain ⟨⟨nq, osq⟩, hw''⟩ := hw'
                  subst hw''
                  have b7 := hiddenN (grn_below ⟨nq, osq, rfl⟩ (Nat.le_refl wz.heap.size))
                  have HB7 := hiddenN (HBz.out.trans (b7.out.mono HBz.out.size))
                  generalize Go.Sort.grow (wz.drewN nq) osq = W7 at *
                  clear v0 v1 v2 v3 v4 v5
                  go_wp2
                  go_roundg (m - (k2 + 1))
                  case measure => omega
                  case rel => exact ⟨k2 + 1, by omega, rfl, by (rw [FN.out]; simp), by go_num, HB7.out⟩
          · have hki2 : ¬ (k2 : Int) < (m : Int) := by omega
            have hkm : k2 = m := by omega
            have FF := hiddenN (FE.out (0))
            rw [hkm]
            obtain ⟨fm, hfm⟩ : ∃ q, freK m (0) = q := ⟨_, rfl⟩
            rw [hfm] at FF ⊢
            have HD := HREST.out
            rw [R0.out] at HD
            rw [bstI, FF.out] at HD
            have HD2 := hiddenN HD
            clear HD hfm hkm
            cases fm with
            | false =>
              have HD3 : Hid (bstI fr best (rst 1) = res) := by have q := HD2.out; rw [if_neg (fun h => by cases h.1)] at q; exact q
              go_wp2
              go_roundg (m + 1 - 1)
              case measure => omega
              case rel => exact ⟨1, _, by omega, rfl, rfl, (by go_num), BST, HD3.out, HBz.out⟩
            | true =>
              by_cases hb0 : best < 0
              · have b0 : decide (best < 0) = true := decide_eq_true hb0
                have HD3 : Hid (bstI fr (0) (rst 1) = res) := by have q := HD2.out; rw [if_pos ⟨rfl, .inl hb0⟩] at q; exact q
                go_wp2
                go_roundg (m + 1 - 1)
                case measure => omega
                case rel => exact ⟨1, _, by omega, rfl, rfl, (by go_num), BAT, HD3.out, HBz.out⟩
              · have b0 : decide (best < 0) = false := decide_eq_false hb0
                by_cases hb1 : (0) < best
                · have b1 : decide ((0) < best) = true := decide_eq_true hb1
                  have HD3 : Hid (bstI fr (0) (rst 1) = res) := by have q := HD2.out; rw [if_pos ⟨rfl, .inr hb1⟩] at q; exact q
                  go_wp2
                  go_roundg (m + 1 - 1)
                  case measure => omega
                  case rel => exact ⟨1, _, by omega, rfl, rfl, (by go_num), BAT, HD3.out, HBz.out⟩
                · have b1 : decide ((0) < best) = false := decide_eq_false hb1
                  have HD3 : Hid (bstI fr best (rst 1) = res) := by have q := HD2.out; rw [if_neg (fun h => by rcases h.2 with h | h <;> omega)] at q; exact q
                  go_wp2
                  go_roundg (m + 1 - 1)
                  case measure => omega
                  case rel => exact ⟨1, _, by omega, rfl, rfl, (by go_num), BST, HD3.out, HBz.out⟩
      | succ k =>
        have hkm : k < m := by omega
        have hki : (k : Int) < (m : Int) := by omega
        have hkz : ((k + 1 : Nat) : Int) - 1 = (k : Int) := by omega
        have hkz' : (k : Int) + 1 - 1 = (k : Int) := by omega
        have hk0 : (k : Int) ≥ 0 := by omega
        have hwk : IntKind.i64.wrap ((k : Int) + 1) = (k : Int) + 1 := by rw [IntKind.wrap_i64]; omega
        rw [hkz]
        have p0 := cellN_later HB.out (HP.out k hkm)
        have q0 := cellN_later HB.out HNR.out
        have q1 := cellN_later HB.out (HNB.out k hkm)
        by_cases hg : (pl k && nr arc k) = true
        · have hgg := hg
          rw [Bool.and_eq_true] at hgg
          have hg1 := hgg.1
          have hg2 := hgg.2
          clear hgg
          have RY1 := hiddenN (RY.out k hkm hg)
          rw [hg1] at p0
          rw [hg2] at q1
          have r0 := cellN_later HB.out (HL.out k hkm).1
          have r1 := cellN_later HB.out (HL.out k hkm).2
          have hxb := HXB.out k hkm
          have hwx := HW.out k hkm
          obtain ⟨yb, hyb⟩ : ∃ q, (nthX L k).1 = q := ⟨_, rfl⟩
          obtain ⟨ys, hys⟩ : ∃ q, (nthX L k).2 = q := ⟨_, rfl⟩
          rw [hyb] at r0 hxb hwx RY1
          rw [hys] at r1 hxb hwx RY1
          clear hg hg1 hg2 hyb hys
          go_upto_region 8 with fail
          try dsimp only [List.append_eq, List.cons_append, List.nil_append]
          go_quiet (fail)
          have HB1 := hiddenN (drewB HB.out nq)
          have BAT : -1 ≤ yb + ys ∧ yb + ys ≤ 1001000000 := by omega
          clear p0 q0 q1 r0 r1 hxb hwx HB
          have HB := HB1
          obtain ⟨at_, hat⟩ : ∃ q, yb + ys = q := ⟨_, rfl⟩
          rw [hat] at RY1 BAT ⊢
          clear hat
          go_wp2
          go_loopg [12, 13] m (fun gk u12 u13 wz => ∃ k2 : Nat, k2 ≤ m ∧ gk = m - k2 ∧ u12 = .bool (freK k2 (at_)) ∧ u13 = .int .i64 (k2 : Int) ∧ Below W.heap.size W wz)
          case atStart => exact ⟨0, Nat.zero_le _, rfl, by rw [FZ.out], rfl, HB.out⟩
          case round =>
            obtain ⟨k2, hk2, rfl, rfl, rfl, hbz⟩ := hrel
            have HBz := hiddenN hbz
            clear hbz
            generalize wr = wz at *
            by_cases hlt2 : k2 < m
            · have hki2 : (k2 : Int) < (m : Int) := by omega
              have hwk2 : IntKind.i64.wrap ((k2 : Int) + 1) = (k2 : Int) + 1 := by rw [IntKind.wrap_i64]; omega
              have p0 := cellN_later HBz.out (HP.out k2 hlt2)
              have q0 := cellN_later HBz.out HNR.out
              have q1 := cellN_later HBz.out (HNB.out k2 hlt2)
              have r0 := cellN_later HBz.out (HL.out k2 hlt2).1
              have r1 := cellN_later HBz.out (HL.out k2 hlt2).2
              have s1 := cellN_later HBz.out (HL.out arc harc).2
              have FN := hiddenN (FS.out k2 (at_))
              obtain ⟨x, hx⟩ : ∃ x, nthX L k2 = x := ⟨_, rfl⟩
              have hwr := HW.out k2 hlt2
              have hwa := HWA.out (at_) BAT
              rw [hx] at r0 r1 FN hwr
              obtain ⟨xb, xs⟩ := x
              rw [HSZ.out] at s1
              simp only at r0 r1 hwr
              have SH : Hid (∀ U, Calls Tryz.prog 41 #[.agg #[.int .i64 xb, .int .i64 xs], .agg #[.int .i64 (at_), .int .i64 sz]] U fun e w' => e = .returned (.bool (shrB (xb, xs) ((at_), sz))) ∧ ∃ q os, w' = Go.Sort.grow (U.drewN q) os) := fun U => share_refX xb xs (at_) sz hwr hwa U
              obtain ⟨fk, hfk⟩ : ∃ q, freK k2 (at_) = q := ⟨_, rfl⟩
              rw [hfk] at FN ⊢
              have v0 := fun q os => Go.cell_grown (World.block_lt_of_cell? _ _ p0) p0 q os
              have v1 := fun q os => Go.cell_grown (World.block_lt_of_cell? _ _ q0) q0 q os
              have v2 := fun q os => Go.cell_grown (World.block_lt_of_cell? _ _ q1) q1 q os
              have v3 := fun q os => Go.cell_grown (World.block_lt_of_cell? _ _ r0) r0 q os
              have v4 := fun q os => Go.cell_grown (World.block_lt_of_cell? _ _ r1) r1 q os
              have v5 := fun q os => Go.cell_grown (World.block_lt_of_cell? _ _ s1) s1 q os
              clear hx hfk hwr hwa p0 q0 q1 r0 r1 s1
              go_upto_region 13 with fail
              generalize pl k2 = p at *
              generalize nr arc k2 = q at *
              cases p with
              | false =>
                have SH2 := SH
                have mixed : Tryz.prog.follows .mixedOrders = true := by kernel_rfl
                try dsimp only [List.append_eq, List.cons_append, List.nil_append]
                refine wp_region_quiet_grown (by assumption) (by kernel_rfl) ?_
                repeat (go_big_quiet_step (first | (go_at_call 41; (with_reducible exact Calls.grown_of (SH2.out _)))))
                refine wpQuiet_nil ?_
                intro _ hw'
                obtain ⟨⟨nq, osq⟩, hw''⟩ := hw'
                subst hw''
                have b7 := hiddenN (grn_below ⟨nq, osq, rfl⟩ (Nat.le_refl wz.heap.size))
                have HB7 := hiddenN (HBz.out.trans (b7.out.mono HBz.out.size))
                generalize Go.Sort.grow (wz.drewN nq) osq = W7 at *
                clear v0 v1 v2 v3 v4 v5
                go_wp2
                go_roundg (m - (k2 + 1))
                case measure => omega
                case rel => exact ⟨k2 + 1, by omega, rfl, by (rw [FN.out]; simp), by go_num, HB7.out⟩
              | true =>
                cases q with
                | false =>
                  have SH2 := SH
                  have mixed : Tryz.prog.follows .mixedOrders = true := by kernel_rfl
                  try dsimp only [List.append_eq, List.cons_append, List.nil_append]
                  refine wp_region_quiet_grown (by assumption) (by kernel_rfl) ?_
                  repeat (go_big_quiet_step (first | (go_at_call 41; (with_reducible exact Calls.grown_of (SH2.out _)))))
                  refine wpQuiet_nil ?_
                  intro _ hw'
                  obtain ⟨⟨nq, osq⟩, hw''⟩ := hw'
                  subst hw''
                  have b7 := hiddenN (grn_below ⟨nq, osq, rfl⟩ (Nat.le_refl wz.heap.size))
                  have HB7 := hiddenN (HBz.out.trans (b7.out.mono HBz.out.size))
                  generalize Go.Sort.grow (wz.drewN nq) osq = W7 at *
                  clear v0 v1 v2 v3 v4 v5
                  go_wp2
                  go_roundg (m - (k2 + 1))
                  case measure => omega
                  case rel => exact ⟨k2 + 1, by omega, rfl, by (rw [FN.out]; simp), by go_num, HB7.out⟩
                | true =>
                  generalize shrB (xb, xs) ((at_), sz) = sh at *
                  cases sh with
                  | true =>
                    have SH2 := SH
                    have mixed : Tryz.prog.follows .mixedOrders = true := by kernel_rfl
                    try dsimp only [List.append_eq, List.cons_append, List.nil_append]
                    refine wp_region_quiet_grown (by assumption) (by kernel_rfl) ?_
                    repeat (go_big_quiet_step (first | (go_at_call 41; (with_reducible exact Calls.grown_of (SH2.out _)))))
                    refine wpQuiet_nil ?_
                    intro _ hw'
                    obtain ⟨⟨nq, osq⟩, hw''⟩ := hw'
                    subst hw''
                    have b7 := hiddenN (grn_below ⟨nq, osq, rfl⟩ (Nat.le_refl wz.heap.size))
                    have HB7 := hiddenN (HBz.out.trans (b7.out.mono HBz.out.size))
                    generalize Go.Sort.grow (wz.drewN nq) osq = W7 at *
                    clear v0 v1 v2 v3 v4 v5
                    go_wp2
                    go_roundg (m - (k2 + 1))
                    case measure => omega
                    case rel => exact ⟨k2 + 1, by omega, rfl, by (rw [FN.out]; simp), by go_num, HB7.out⟩
                  | false =>
                    have SH2 := SH
                    have mixed : Tryz.prog.follows .mixedOrders = true := by kernel_rfl
                    try dsimp only [List.append_eq, List.cons_append, List.nil_append]
                    refine wp_region_quiet_grown (by assumption) (by kernel_rfl) ?_
                    repeat (go_big_quiet_step (first | (go_at_call 41; (with_reducible exact Calls.grown_of (SH2.out _)))))
                    refine wpQuiet_nil ?_
                    intro _ hw'
                    obtain ⟨⟨nq, osq⟩, hw''⟩ := hw'
                    subst hw''
                    have b7 := hiddenN (grn_below ⟨nq, osq, rfl⟩ (Nat.le_refl wz.heap.size))
                    have HB7 := hiddenN (HBz.out.trans (b7.out.mono HBz.out.size))
                    generalize Go.Sort.grow (wz.drewN nq) osq = W7 at *
                    clear v0 v1 v2 v3 v4 v5
                    go_wp2
                    go_roundg (m - (k2 + 1))
                    case measure => omega
                    case rel => exact ⟨k2 + 1, by omega, rfl, by (rw [FN.out]; simp), by go_num, HB7.out⟩
            · have hki2 : ¬ (k2 : Int) < (m : Int) := by omega
              have hkm : k2 = m := by omega
              have FF := hiddenN (FE.out (at_))
              rw [hkm]
              obtain ⟨fm, hfm⟩ : ∃ q, freK m (at_) = q := ⟨_, rfl⟩
              rw [hfm] at FF ⊢
              have HD := HREST.out
              rw [RY1.out] at HD
              rw [bstI, FF.out] at HD
              have HD2 := hiddenN HD
              clear HD hfm hkm
              cases fm with
              | false =>
                have HD3 : Hid (bstI fr best (rst (k + 2)) = res) := by have q := HD2.out; rw [if_neg (fun h => by cases h.1)] at q; exact q
                go_wp2
                go_roundg (m + 1 - (k + 2))
                case measure => omega
                case rel => exact ⟨(k + 2), _, by omega, rfl, rfl, (by first | go_num | (congr 1; rw [IntKind.wrap_i64]; omega)), BST, HD3.out, HBz.out⟩
              | true =>
                by_cases hb0 : best < 0
                · have b0 : decide (best < 0) = true := decide_eq_true hb0
                  have HD3 : Hid (bstI fr (at_) (rst (k + 2)) = res) := by have q := HD2.out; rw [if_pos ⟨rfl, .inl hb0⟩] at q; exact q
                  go_wp2
                  go_roundg (m + 1 - (k + 2))
                  case measure => omega
                  case rel => exact ⟨(k + 2), _, by omega, rfl, rfl, (by first | go_num | (congr 1; rw [IntKind.wrap_i64]; omega)), BAT, HD3.out, HBz.out⟩
                · have b0 : decide (best < 0) = false := decide_eq_false hb0
                  by_cases hb1 : (at_) < best
                  · have b1 : decide ((at_) < best) = true := decide_eq_true hb1
                    have HD3 : Hid (bstI fr (at_) (rst (k + 2)) = res) := by have q := HD2.out; rw [if_pos ⟨rfl, .inr hb1⟩] at q; exact q
                    go_wp2
                    go_roundg (m + 1 - (k + 2))
                    case measure => omega
                    case rel => exact ⟨(k + 2), _, by omega, rfl, rfl, (by first | go_num | (congr 1; rw [IntKind.wrap_i64]; omega)), BAT, HD3.out, HBz.out⟩
                  · have b1 : decide ((at_) < best) = false := decide_eq_false hb1
                    have HD3 : Hid (bstI fr best (rst (k + 2)) = res) := by have q := HD2.out; rw [if_neg (fun h => by rcases h.2 with h | h <;> omega)] at q; exact q
                    go_wp2
                    go_roundg (m + 1 - (k + 2))
                    case measure => omega
                    case rel => exact ⟨(k + 2), _, by omega, rfl, rfl, (by first | go_num | (congr 1; rw [IntKind.wrap_i64]; omega)), BST, HD3.out, HBz.out⟩
        · have hg0 : (pl k && nr arc k) = false := by simpa using hg
          have HD3 : Hid (bstI fr best (rst (k + 2)) = res) := by show _ = _; rw [← RN.out k hkm hg0]; exact HREST.out
          clear hg
          generalize pl k = p at *
          generalize nr arc k = q at *
          cases p with
          | false =>
            go_wp2
            go_roundg (m + 1 - (k + 2))
            case measure => omega
            case rel => exact ⟨k + 2, best, by omega, rfl, rfl, (by first | go_num | (congr 1; rw [IntKind.wrap_i64]; omega)), BST, HD3.out, HB.out⟩
          | true =>
            obtain rfl : q = false := by simpa using hg0
            go_wp2
            go_roundg (m + 1 - (k + 2))
            case measure => omega
            case rel => exact ⟨k + 2, best, by omega, rfl, rfl, (by first | go_num | (congr 1; rw [IntKind.wrap_i64]; omega)), BST, HD3.out, HB.out⟩
    · have hke : k = m + 1 := by omega
      have hki : ¬ ((k : Int) - 1) < (m : Int) := by omega
      have HF : Hid (best = res) := by show _ = _; have q := HREST.out; rw [hke, RE.out] at q; exact q
      clear hke
      go_wp2
      go_ret
      exact ⟨by (rw [HF.out]; try rfl), HB.out⟩
theorem basP_cons (i : Nat) (b : Int) (P : List (Nat × Int)) (j : Nat) : basP ((i, b) :: P) j = if j = i then b else basP P j := by
  show (if i = j then b else basP P j) = _
  by_cases h : j = i
  · rw [if_pos h, if_pos h.symm]
  · rw [if_neg h, if_neg (fun e => h e.symm)]
theorem plnP_set {S : Nat → Int} {P : List (Nat × Int)} {m i : Nat} {b : Int} (hm : i < m) : plnP S ((i, b) :: P) m = (plnP S P m).set i (b, S i) := by
  refine List.ext_getElem? fun j => ?_
  by_cases hj : j < m
  · rw [plnP_at hj, List.getElem?_set, basP_cons]
    by_cases e : i = j
    · subst e
      rw [if_pos rfl, if_pos rfl, if_pos (by rw [plnP_len]; exact hm)]
    · rw [if_neg e, if_neg (fun q => e q.symm), plnP_at hj]
  · rw [List.getElem?_eq_none (by rw [plnP_len]; omega), List.getElem?_eq_none (by rw [List.length_set, plnP_len]; omega)]
theorem nthX_pln {S : Nat → Int} {P : List (Nat × Int)} {m i : Nat} (h : i < m) : nthX (plnP S P m) i = (basP P i, S i) := nthX_at (plnP_at h)
/-- The base that the document finds is that of the placing. -/
theorem place_base {S : Nat → Int} {P : List (Nat × Int)} {m x : Nat} {near : Nat → Nat → Bool} {pl : Nat → Bool} (h0 : ∀ i, 0 ≤ S i) (hP : PlcP S near P) (hd : (P.map (·.1)).Nodup) (hlt : ∀ q ∈ P, q.1 < m) (hpl : ∀ i, i < m → (pl i = true ↔ i ∈ P.map (·.1))) :
    lstV (nbI (plnP S P m) (fun c => pl c && near x c) m) (S x) = lstV (nbP S near P x) (S x) := by
  have hmem : ∀ y, y ∈ nbI (plnP S P m) (fun c => pl c && near x c) m ↔ y ∈ nbP S near P x := by
    intro y
    unfold nbI
    rw [mem_nbP, List.mem_map]
    constructor
    · rintro ⟨c, hc, rfl⟩
      obtain ⟨h1, h2⟩ := List.mem_filter.1 hc
      have hcm := List.mem_range.1 h1
      have h3 := Bool.and_eq_true_iff.1 h2
      obtain ⟨q, hq, hqc⟩ := List.mem_map.1 ((hpl c hcm).1 h3.1)
      have hqc2 : q.1 = c := hqc
      refine ⟨q, hq, by rw [hqc2]; exact h3.2, ?_⟩
      rw [nthX_pln hcm, ← hqc2, basP_mem hd q hq]
    · rintro ⟨q, hq, hn, rfl⟩
      have hqm := hlt q hq
      refine ⟨q.1, List.mem_filter.2 ⟨List.mem_range.2 hqm, ?_⟩, ?_⟩
      · exact Bool.and_eq_true_iff.2 ⟨(hpl q.1 hqm).2 (List.mem_map.2 ⟨q, hq, rfl⟩), hn⟩
      · rw [nthX_pln hqm, basP_mem hd q hq]
  have hnn : ∀ y ∈ nbP S near P x, 0 ≤ y.1 + y.2 := by
    intro y hy
    obtain ⟨q, hq, -, rfl⟩ := mem_nbP.1 hy
    have := hP.nonneg q hq
    have := h0 q.1
    show 0 ≤ q.2 + S q.1
    omega
  refine LstP.one ((lstV_lst fun y hy => hnn y ((hmem y).1 hy)).like fun c => ?_) (lstV_lst hnn)
  exact ⟨fun h y hy => h y ((hmem y).2 hy), fun h y hy => h y ((hmem y).1 hy)⟩
theorem pln_few {S : Nat → Int} (h0 : ∀ i, 0 ≤ S i) (hS : ∀ i, S i ≤ 1000000) {near : Nat → Nat → Bool} {P : List (Nat × Int)} (h : PlcP S near P) (hd : (P.map (·.1)).Nodup) (hl : P.length ≤ 96) (i : Nat) : 0 ≤ basP P i ∧ basP P i ≤ 1000000000 := by
  by_cases q : i ∈ P.map (·.1)
  · obtain ⟨p, hp, rfl⟩ := List.mem_map.1 q
    have e := basP_mem hd p hp
    have s := h.short h0 p hp
    have s2 := sumQ_few hS P
    have s3 := h0 p.1
    have s5 := h.nonneg p hp
    show 0 ≤ basP P p.1 ∧ basP P p.1 ≤ _
    rw [e]
    omega
  · rw [basP_not q]; decide
/-- What is placed behind k searches. -/
def docP (S : Nat → Int) (near : Nat → Nat → Bool) (m k : Nat) : List (Nat × Int) := plcV S near (ordV S m k).reverse
def docB (S : Nat → Int) (m k : Nat) (i : Nat) : Bool := decide (i ∈ ordV S m k)
structure DocT (S : Nat → Int) (near : Nat → Nat → Bool) (m k x : Nat) (b : Int) : Prop where
  nxt : nxtP S (docB S m k) m = some x
  lt : x < m
  bas : lstV (nbI (plnP S (docP S near m k) m) (fun c => docB S m k c && near x c) m) (S x) = b
  pln : plnP S (docP S near m (k + 1)) m = (plnP S (docP S near m k) m).set x (b, S x)
  pl : ∀ i, docB S m (k + 1) i = if i = x then true else docB S m k i
theorem docP_map (S : Nat → Int) (near : Nat → Nat → Bool) (m k : Nat) : (docP S near m k).map (·.1) = (ordV S m k).reverse := plcV_map _ _ _
theorem docP_nodup {S : Nat → Int} {near : Nat → Nat → Bool} {m k : Nat} (hk : k ≤ m) : ((docP S near m k).map (·.1)).Nodup := by
  rw [docP_map]
  exact List.pairwise_reverse.2 ((ordV_said S m k hk).1.nodup.imp fun hh e => hh e.symm)
theorem docP_len {S : Nat → Int} {near : Nat → Nat → Bool} {m k : Nat} (hk : k ≤ m) : (docP S near m k).length = k := by
  have e := congrArg List.length (docP_map S near m k)
  rw [List.length_map, List.length_reverse, (ordV_said S m k hk).2] at e
  exact e
theorem doc_step {S : Nat → Int} (h0 : ∀ i, 0 ≤ S i) (near : Nat → Nat → Bool) {m k : Nat} (hk : k < m) : ∃ x b, DocT S near m k x b := by
  have hb : ∀ i, docB S m k i = true ↔ i ∈ ordV S m k := fun i => by unfold docB; exact decide_eq_true_iff
  obtain ⟨x, h1, h2, h3, h4⟩ := ordV_step (S := S) hk (pl := docB S m k) fun i _ => hb i
  have hP : PlcP S near (docP S near m k) := plcV_plc h0 near _
  have hs : docP S near m (k + 1) = (x, lstV (nbP S near (docP S near m k) x) (S x)) :: docP S near m k := by
    unfold docP
    rw [h2, List.reverse_append]
    rfl
  have hbs := place_base (S := S) (P := docP S near m k) (m := m) (x := x) (near := near) (pl := docB S m k) h0 hP (docP_nodup (by omega)) (fun q hq => by
    have : q.1 ∈ (ordV S m k).reverse := by rw [← docP_map S near m k]; exact List.mem_map.2 ⟨q, hq, rfl⟩
    exact (ordV_said S m k (by omega)).1.2.1 _ (List.mem_reverse.1 this)) (fun i hi => by rw [hb, docP_map, List.mem_reverse])
  refine ⟨x, _, h1, h4, hbs, ?_, fun i => ?_⟩
  · rw [hs]; exact plnP_set h4
  · unfold docB
    rw [h2]
    by_cases e : i = x
    · rw [if_pos e, e]; simp
    · rw [if_neg e]; simp [e]
theorem doc_few {S : Nat → Int} (h0 : ∀ i, 0 ≤ S i) (hS : ∀ i, S i ≤ 1000000) (near : Nat → Nat → Bool) {m k : Nat} (hk : k ≤ m) (hm : m ≤ 96) (c : Nat) (hc : c < m) : (0 ≤ (nthX (plnP S (docP S near m k) m) c).1 ∧ (nthX (plnP S (docP S near m k) m) c).1 ≤ 1000000000) ∧ 0 ≤ (nthX (plnP S (docP S near m k) m) c).2 ∧ (nthX (plnP S (docP S near m k) m) c).2 ≤ 1000000 := by
  rw [nthX_pln hc]
  exact ⟨pln_few h0 hS (plcV_plc h0 near _) (docP_nodup hk) (by show (docP S near m k).length ≤ 96; rw [docP_len hk]; omega) c, h0 c, hS c⟩
theorem doc_end {pk : List Int} (hS : ∀ i, 0 ≤ nth pk i) {R : List (List Int)} {near : Nat → Nat → Bool} {m : Nat} (hm : pk.length = m) (hn : ∀ i, i < m → ∀ j, j < m → i ≠ j → near i j = cloV R i j) : plnP (nth pk) (docP (nth pk) near m m) m = plnV pk R := by
  subst hm
  have h := ordV_said (nth pk) pk.length pk.length (Nat.le_refl _)
  have e := pln_same hS (plcV_plc hS near (ordV (nth pk) pk.length pk.length).reverse) (plcV_map _ _ _) h.1.1 (fun i => ⟨fun q => h.1.2.1 i q, fun q => h.1.all h.2 i q⟩) hn
  unfold plnV docP
  rw [e]
/-- The regions while their sizes are written. -/
def iniL (S : Nat → Int) (m k : Nat) : List (Int × Int) := (List.range m).map fun i => (0, if i < k then S i else 0)
theorem iniL_len (S : Nat → Int) (m k : Nat) : (iniL S m k).length = m := by unfold iniL; rw [List.length_map, List.length_range]
theorem iniL_at {S : Nat → Int} {m k i : Nat} (h : i < m) : (iniL S m k)[i]? = some (0, if i < k then S i else 0) := by
  unfold iniL
  rw [List.getElem?_map, List.getElem?_range h]; rfl
theorem iniL_zero (S : Nat → Int) (m : Nat) : iniL S m 0 = List.replicate m (0, 0) := by
  refine List.ext_getElem? fun i => ?_
  by_cases h : i < m
  · rw [iniL_at h, List.getElem?_replicate, if_pos h, if_neg (Nat.not_lt_zero _)]
  · rw [List.getElem?_eq_none (by rw [iniL_len]; omega), List.getElem?_eq_none (by rw [List.length_replicate]; omega)]
theorem iniL_set {S : Nat → Int} {m k : Nat} (h : k < m) : (iniL S m k).set k (0, S k) = iniL S m (k + 1) := by
  refine List.ext_getElem? fun j => ?_
  by_cases hj : j < m
  · rw [iniL_at hj, List.getElem?_set]
    by_cases e : k = j
    · subst e
      rw [if_pos rfl, if_pos (by rw [iniL_len]; exact h), if_pos (by omega)]
    · rw [if_neg e, iniL_at hj]
      by_cases q : j < k
      · rw [if_pos q, if_pos (by omega)]
      · rw [if_neg q, if_neg (by omega)]
  · rw [List.getElem?_eq_none (by rw [List.length_set, iniL_len]; omega), List.getElem?_eq_none (by rw [iniL_len]; omega)]
theorem iniL_all (S : Nat → Int) (near : Nat → Nat → Bool) (m : Nat) : iniL S m m = plnP S (docP S near m 0) m := by
  refine List.ext_getElem? fun i => ?_
  by_cases h : i < m
  · rw [iniL_at h, plnP_at h, if_pos h]; rfl
  · rw [List.getElem?_eq_none (by rw [iniL_len]; omega), List.getElem?_eq_none (by rw [plnP_len]; omega)]
set_option maxRecDepth 100000 in
set_option maxHeartbeats 4000000 in
theorem rcells_wide (ar : Option Addr) (n cr : Nat) (L : List (Int × Int)) (W : World) (hL : AtGn W ar L) (hl : L.length = n) (hb : ∀ x ∈ L, 0 ≤ x.1 ∧ x.1 ≤ 1000000000 ∧ 0 ≤ x.2 ∧ x.2 ≤ 1000000000) (hn : n ≤ 1000000) :
    Calls Tryz.prog 38 #[.slice ar n cr] W fun e w' => e = .returned (.int .i64 (celP L)) ∧ Below W.heap.size W w' := by
  have EC : Hid (L.foldl (fun m x => max m (x.1 + x.2)) 0 = celP L) := rfl
  obtain ⟨s, hs⟩ : ∃ s, celP L = s := ⟨_, rfl⟩
  rw [hs] at EC ⊢
  have HL := hiddenN hL
  have HLN := hiddenN hl
  have HBD := hiddenN hb
  clear hs hL hl hb
  go_enter Tryz.func38, Tryz.ntmps38
  go_wp2
  go_loopg [3, 4] n (fun gk u3 u4 wr => ∃ (k : Nat) (m : Int), k ≤ n ∧ gk = n - k ∧ u3 = .int .i64 m ∧ u4 = .int .i64 (k : Int) ∧ (0 ≤ m ∧ m ≤ 2000000000) ∧ (L.drop k).foldl (fun m x => max m (x.1 + x.2)) m = s ∧ Below W.heap.size W wr)
  case atStart => exact ⟨0, 0, Nat.zero_le _, rfl, rfl, rfl, by decide, EC.out, Below.refl _ _⟩
  case round =>
    obtain ⟨k, m, hk, rfl, rfl, rfl, hm, hf, hB⟩ := hrel
    have HF := hiddenN hf
    have HB := hiddenN hB
    clear hf hB
    by_cases hlt : k < n
    · have hki : (k : Int) < (n : Int) := by omega
      have hkL : k < L.length := by rw [HLN.out]; exact hlt
      have hd : L.drop k = nthX L k :: L.drop (k + 1) := by
        rw [List.drop_eq_getElem_cons hkL]
        congr 1
        unfold nthX
        rw [List.getElem?_eq_getElem hkL]; rfl
      have hq := HBD.out (nthX L k) (by unfold nthX; rw [List.getElem?_eq_getElem hkL]; exact List.getElem_mem hkL)
      have HF2 := HF.out
      rw [hd, List.foldl_cons] at HF2
      rcases HL.out.below HB.out with e | ⟨b, off, rfl, hc⟩
      · rw [e] at hkL; exact absurd hkL (Nat.not_lt_zero _)
      obtain ⟨c0, c1⟩ := hc k hkL
      obtain ⟨x, hx⟩ : ∃ x, nthX L k = x := ⟨_, rfl⟩
      rw [hx] at c0 c1 HF2 hq
      obtain ⟨xb, xs⟩ := x
      simp only at c0 c1 HF2 hq
      have HF3 := hiddenN HF2
      have wr1 : IntKind.i64.wrap (xb + xs) = xb + xs := by rw [IntKind.wrap_i64]; omega
      clear hc hx hd HF HF2 hkL
      go_upto_region 5 with fail
      try dsimp only [List.append_eq, List.cons_append, List.nil_append]
      go_quiet (fail)
      go_wp2
      go_roundg (n - (k + 1))
      case measure => omega
      case rel => exact ⟨k + 1, max m (xb + xs), by omega, rfl, by go_num, by go_num, by omega, HF3.out, drewB HB.out _⟩
    · have hki : ¬ (k : Int) < (n : Int) := by omega
      have HS : Hid (m = s) := by have q := HF.out; rw [List.drop_eq_nil_of_le (by rw [HLN.out]; omega)] at q; exact q
      go_wp2
      go_ret
      exact ⟨by (rw [HS.out]; try rfl), HB.out⟩
theorem Tryz.infoBo : (Tryz.prog.info? 4).map (fun i => (i.zero, i.size, i.bytes)) = some (some (.bool false), 1, 1) := by kernel_rfl
theorem Tryz.infoBs : (Tryz.prog.info? 75).map (fun i => (i.zero, i.size, i.bytes)) = some (some (.slice none 0 0), 1, 24) := by kernel_rfl
theorem flatGn_set0 : ∀ (L : List (Int × Int)) (i : Nat) (b : Int), i < L.length → (flatGn L).set (i * 2) (.int .i64 b) = flatGn (L.set i (b, (nthX L i).2))
  | [], _, _, h => absurd h (Nat.not_lt_zero _)
  | x :: L, 0, b, _ => rfl
  | x :: L, i + 1, b, h => by
    have ih := flatGn_set0 L i b (Nat.lt_of_succ_lt_succ h)
    rw [show (i + 1) * 2 = i * 2 + 2 by omega]
    show (Value.int .i64 x.1 :: Value.int .i64 x.2 :: (flatGn L).set (i * 2) (.int .i64 b)) = Value.int .i64 x.1 :: Value.int .i64 x.2 :: flatGn (L.set i (b, (nthX (x :: L) (i + 1)).2))
    rw [ih]; rfl
theorem flatGn_set1 : ∀ (L : List (Int × Int)) (i : Nat) (b : Int), i < L.length → (flatGn L).set (i * 2 + 1) (.int .i64 b) = flatGn (L.set i ((nthX L i).1, b))
  | [], _, _, h => absurd h (Nat.not_lt_zero _)
  | x :: L, 0, b, _ => rfl
  | x :: L, i + 1, b, h => by
    have ih := flatGn_set1 L i b (Nat.lt_of_succ_lt_succ h)
    rw [show (i + 1) * 2 + 1 = i * 2 + 1 + 2 by omega]
    show (Value.int .i64 x.1 :: Value.int .i64 x.2 :: (flatGn L).set (i * 2 + 1) (.int .i64 b)) = Value.int .i64 x.1 :: Value.int .i64 x.2 :: flatGn (L.set i ((nthX (x :: L) (i + 1)).1, b))
    rw [ih]; rfl
theorem capGn_base {B g c i : Nat} {w : World} {L : List (Int × Int)} (h : CapGn B w (some ⟨g, 0, none⟩) c L) (hi : i < L.length) (b : Int) : CapGn B (w.setCell ⟨g, i * 2, none⟩ (.int .i64 b)) (some ⟨g, 0, none⟩) c (L.set i (b, (nthX L i).2)) := by
  unfold CapGn at h ⊢
  have h1 := (World.ownsRow.stored h (i * 2) (.int .i64 b)).1
  rw [flatGn_set0 L i b hi] at h1
  rw [List.length_set]
  exact h1
theorem capGn_size {B g c i : Nat} {w : World} {L : List (Int × Int)} (h : CapGn B w (some ⟨g, 0, none⟩) c L) (hi : i < L.length) (b : Int) : CapGn B (w.setCell ⟨g, i * 2 + 1, none⟩ (.int .i64 b)) (some ⟨g, 0, none⟩) c (L.set i ((nthX L i).1, b)) := by
  unfold CapGn at h ⊢
  have h1 := (World.ownsRow.stored h (i * 2 + 1) (.int .i64 b)).1
  rw [flatGn_set1 L i b hi] at h1
  rw [List.length_set]
  exact h1
/-- The regions at Q, the row of what is placed at PB, the table of who clashes at NB, its rows at rb. -/
structure NrW (rb : Nat → Nat) (Q PB NB m : Nat) (L : List (Int × Int)) (pl : Nat → Bool) (nr : Nat → Nat → Bool) (k : Nat) (W0 w : World) : Prop where
  reg : CapGn Q w (some ⟨Q, 0, none⟩) m L
  len : L.length = m
  hpl : w.rowIs PB 4 m (fun i => .bool (pl i))
  hnr : w.rowIs NB 75 m (fun i => if i < k then .slice (some ⟨rb i, 0, none⟩) m m else .slice none 0 0)
  row : ∀ i, i < k → w.rowIs (rb i) 4 m (fun j => .bool (nr i j))
  q1 : Q < PB
  q2 : PB < NB
  q3 : ∀ i, i < k → NB < rb i
  q4 : ∀ i, i < k → ∀ j, j < k → i ≠ j → rb i ≠ rb j
  bel : Below Q W0 w
namespace NrW
variable {rb : Nat → Nat} {Q PB NB m : Nat} {L : List (Int × Int)} {pl : Nat → Bool} {nr : Nat → Nat → Bool} {k : Nat} {W0 w w' : World}
theorem below (h : NrW rb Q PB NB m L pl nr k W0 w) (hb : Below w.heap.size w w') : NrW rb Q PB NB m L pl nr k W0 w' where
  reg := h.reg.later hb
  len := h.len
  hpl := h.hpl.of_block (hb.block _ h.hpl.lt)
  hnr := h.hnr.of_block (hb.block _ h.hnr.lt)
  row := fun i hi => (h.row i hi).of_block (hb.block _ (h.row i hi).lt)
  q1 := h.q1
  q2 := h.q2
  q3 := h.q3
  q4 := h.q4
  bel := h.bel.trans (hb.mono (Nat.le_of_lt ((h.reg.lt _ rfl).2)))
theorem size (h : NrW rb Q PB NB m L pl nr k W0 w) {i : Nat} (hi : i < m) (s : Int) : NrW rb Q PB NB m (L.set i ((nthX L i).1, s)) pl nr k W0 (w.setCell ⟨Q, i * 2 + 1, none⟩ (.int .i64 s)) where
  reg := capGn_size h.reg (by rw [h.len]; exact hi) s
  len := by rw [List.length_set]; exact h.len
  hpl := h.hpl.setOther (by have := h.q1; show PB ≠ Q; omega) _
  hnr := h.hnr.setOther (by have := h.q1; have := h.q2; show NB ≠ Q; omega) _
  row := fun j hj => (h.row j hj).setOther (by have := h.q1; have := h.q2; have := h.q3 j hj; show rb j ≠ Q; omega) _
  q1 := h.q1
  q2 := h.q2
  q3 := h.q3
  q4 := h.q4
  bel := h.bel.setCell (p := ⟨Q, i * 2 + 1, none⟩) (Nat.le_refl _) _
theorem base (h : NrW rb Q PB NB m L pl nr k W0 w) {i : Nat} (hi : i < m) (b : Int) : NrW rb Q PB NB m (L.set i (b, (nthX L i).2)) pl nr k W0 (w.setCell ⟨Q, i * 2, none⟩ (.int .i64 b)) where
  reg := capGn_base h.reg (by rw [h.len]; exact hi) b
  len := by rw [List.length_set]; exact h.len
  hpl := h.hpl.setOther (by have := h.q1; show PB ≠ Q; omega) _
  hnr := h.hnr.setOther (by have := h.q1; have := h.q2; show NB ≠ Q; omega) _
  row := fun j hj => (h.row j hj).setOther (by have := h.q1; have := h.q2; have := h.q3 j hj; show rb j ≠ Q; omega) _
  q1 := h.q1
  q2 := h.q2
  q3 := h.q3
  q4 := h.q4
  bel := h.bel.setCell (p := ⟨Q, i * 2, none⟩) (Nat.le_refl _) _
theorem placed (h : NrW rb Q PB NB m L pl nr k W0 w) (i : Nat) : NrW rb Q PB NB m L (fun j => if j = i then true else pl j) nr k W0 (w.setCell ⟨PB, i, none⟩ (.bool true)) where
  reg := h.reg.keep fun x hx => by cases hx; exact Below.heap_setCell _ _ _ _ (by have := h.q1; show Q ≠ PB; omega)
  len := h.len
  hpl := (h.hpl.set i (.bool true)).congr fun j _ => by by_cases e : j = i <;> simp [e]
  hnr := h.hnr.setOther (by have := h.q2; show NB ≠ PB; omega) _
  row := fun j hj => (h.row j hj).setOther (by have := h.q2; have := h.q3 j hj; show rb j ≠ PB; omega) _
  q1 := h.q1
  q2 := h.q2
  q3 := h.q3
  q4 := h.q4
  bel := h.bel.setCell (p := ⟨PB, i, none⟩) (by have := h.q1; show Q ≤ PB; omega) _
theorem cell (h : NrW rb Q PB NB m L pl nr k W0 w) {i : Nat} (hi : i < k) (j : Nat) (v : Bool) : NrW rb Q PB NB m L pl (fun a b => if a = i then (if b = j then v else nr a b) else nr a b) k W0 (w.setCell ⟨rb i, j, none⟩ (.bool v)) where
  reg := h.reg.keep fun x hx => by cases hx; exact Below.heap_setCell _ _ _ _ (by have := h.q1; have := h.q2; have := h.q3 i hi; show Q ≠ rb i; omega)
  len := h.len
  hpl := h.hpl.setOther (by have := h.q2; have := h.q3 i hi; show PB ≠ rb i; omega) _
  hnr := h.hnr.setOther (by have := h.q3 i hi; show NB ≠ rb i; omega) _
  row := fun a ha => by
    by_cases e : a = i
    · subst e
      exact ((h.row a ha).set j (.bool v)).congr fun b _ => by by_cases e : b = j <;> simp [e]
    · exact ((h.row a ha).setOther (h.q4 a ha i hi e) _).congr fun b _ => by simp [e]
  q1 := h.q1
  q2 := h.q2
  q3 := h.q3
  q4 := h.q4
  bel := h.bel.setCell (p := ⟨rb i, j, none⟩) (by have := h.q1; have := h.q2; have := h.q3 i hi; show Q ≤ rb i; omega) _
/-- A row is made and stored. -/
theorem made (h : NrW rb Q PB NB m L pl nr k W0 w) (hkm : k < m) : NrW (fun i => if i = k then w.heap.size else rb i) Q PB NB m L pl (fun i j => if i = k then false else nr i j) (k + 1) W0 ((w.alloc (.cells (madeCells #[.bool false] m) 4)).setCell ⟨NB, k, none⟩ (.slice (some ⟨w.heap.size, 0, none⟩) m m)) where
  reg := (h.reg.later (w' := w.alloc (.cells (madeCells #[.bool false] m) 4)) ((Below.refl _ _).alloc (Nat.le_refl _) _)).keep fun x hx => by cases hx; exact Below.heap_setCell _ _ _ _ (by have := h.q1; have := h.q2; show Q ≠ NB; omega)
  len := h.len
  hpl := (h.hpl.alloc _).setOther (by have := h.q2; show PB ≠ NB; omega) _
  hnr := ((h.hnr.alloc _).set k (.slice (some ⟨w.heap.size, 0, none⟩) m m)).congr fun j _ => by
    by_cases e : j = k
    · subst e; simp
    · by_cases e2 : j < k
      · simp [e, e2, Nat.lt_succ_of_lt e2]
      · simp [e, e2, show ¬ j < k + 1 by omega]
  row := fun i hi => by
    by_cases e : i = k
    · subst e
      have q := World.rowIs_made w (.bool false) m 4
      simp only [if_pos]
      exact (q.setOther (by have := h.hnr.lt; show w.heap.size ≠ NB; omega) _)
    · simp only [if_neg e]
      exact ((h.row i (by omega)).alloc _).setOther (by have := h.q3 i (by omega); show rb i ≠ NB; omega) _
  q1 := h.q1
  q2 := h.q2
  q3 := fun i hi => by
    have := h.hnr.lt
    by_cases e : i = k
    · rw [if_pos e]; exact this
    · rw [if_neg e]; exact h.q3 i (by omega)
  q4 := fun i hi j hj hne => by
    by_cases e : i = k
    · rw [if_pos e, if_neg (by omega)]
      have := (h.row j (by omega)).lt
      omega
    · by_cases e2 : j = k
      · rw [if_neg e, if_pos e2]
        have := (h.row i (by omega)).lt
        omega
      · rw [if_neg e, if_neg e2]
        exact h.q4 i (by omega) j (by omega) hne
  bel := (h.bel.alloc (Nat.le_of_lt (h.reg.lt _ rfl).2) _).setCell (p := ⟨NB, k, none⟩) (by have := h.q1; have := h.q2; show Q ≤ NB; omega) _
theorem like (h : NrW rb Q PB NB m L pl nr k W0 w) {L' : List (Int × Int)} {pl' : Nat → Bool} {nr' : Nat → Nat → Bool} (hL : L = L') (hp : ∀ i, i < m → pl i = pl' i) (hn : ∀ i, i < k → ∀ j, j < m → nr i j = nr' i j) : NrW rb Q PB NB m L' pl' nr' k W0 w where
  reg := hL ▸ h.reg
  len := hL ▸ h.len
  hpl := h.hpl.congr fun i hi => by rw [hp i hi]
  hnr := h.hnr
  row := fun i hi => (h.row i hi).congr fun j hj => by rw [hn i hi j hj]
  q1 := h.q1
  q2 := h.q2
  q3 := h.q3
  q4 := h.q4
  bel := h.bel
end NrW
theorem mark_store1 (w : World) {o : Oper} {ρ : Operand → Value} (a b : Operand) (ho : o.op = .store 4 a b) (ad : Addr) (v : Bool) (hx : ρ a = .pointer (some ad)) (hy : ρ b = .bool v) {c0 : Value} (z0 : w.cell? ad = some c0) (f0 : w.frozen? ad = false) {U : World → Value → Prop}
    (h : U (w.setCell ad (.bool v)) undef) : markUpon Tryz.prog w U ((execOp ρ o).run Tryz.prog w) := by
  unfold execOp
  simp only [ho, hx, hy]
  simp [go_sem, z0, f0, markUpon]
  exact h
/-- A row of a call's own, whatever it holds. -/
def RowU (T : TypeId) (s B : Nat) (w : World) (a : Option Addr) (c n : Nat) : Prop := ∃ xs, w.ownsRow B T s (.slice a n c) n xs
section
variable {T : TypeId} {s B : Nat} {w w' : World} {a : Option Addr} {c n : Nat}
theorem RowU.lt (h : RowU T s B w a c n) : ∀ x, a = some x → B ≤ x.block ∧ x.block < w.heap.size := by
  intro x hx
  obtain ⟨xs, h⟩ := h
  rcases h.2 with ⟨hv, -⟩ | ⟨g, cap, cur, hv, hg, hh, -⟩
  · simp at hv; rw [hv.1] at hx; cases hx
  · cases hv
    cases hx
    exact ⟨hg, (Array.getElem?_eq_some_iff.1 hh).1⟩
theorem RowU.some (h : RowU T s B w a c n) (hn : 0 < n) : ∃ g, a = Option.some ⟨g, 0, none⟩ := by
  obtain ⟨xs, h⟩ := h
  rcases h.2 with ⟨-, h0⟩ | ⟨g, cap, cur, hv, -⟩
  · omega
  · cases hv; exact ⟨g, rfl⟩
theorem RowU.there {g : Nat} (h : RowU T s B w (Option.some ⟨g, 0, none⟩) c n) : w.there g 0 (n * s) := by
  obtain ⟨xs, h⟩ := h
  rcases h.2 with ⟨e, -⟩ | ⟨g1, c1, cur, e1, hg, hh, hc, hm, hs, -⟩
  · cases e
  · cases e1
    intro j hj
    have hlt : j < cur.size := by rw [hs]; have : n * s ≤ c * s := Nat.mul_le_mul_right s hc; omega
    have hB : BlkA T g w cur := hh
    rw [Nat.zero_add]
    refine ⟨?_, hB.frozen j⟩
    rw [hB.cell (Array.getElem?_eq_getElem hlt)]
    rfl
theorem RowU.setCells {g : Nat} : ∀ (vs : List Value) (o : Nat) {w : World}, RowU T s B w (Option.some ⟨g, 0, none⟩) c n → RowU T s B (w.setCells g o vs) (Option.some ⟨g, 0, none⟩) c n
  | [], _, _, h => h
  | v :: vs, o, _, h => by
    obtain ⟨xs, h⟩ := h
    exact RowU.setCells vs (o + 1) ⟨_, (World.ownsRow.stored h o v).1⟩
theorem wpList_storeU {ops : Array Oper} {rest : List Oper} {o : Oper} {a : Act} {Q : Exit → Act → World → Prop} (hgd : o.guard = none) (ty : TypeId) (x y : Operand) (ho : o.op = .store ty x y) (hdst : o.dst = none) (g off : Nat) (cells : Array Value) (hx : a.eval x = .pointer (Option.some ⟨g, off, none⟩)) (hy : a.eval y = .agg cells) (hR : RowU T s B w (Option.some ⟨g, 0, none⟩) c n) (hoff : off + cells.size ≤ n * s) (hi : (Tryz.prog.info? ty).map (·.size) = some cells.size) (h1 : cells.toList.all (·.oneCell') = true)
    (h : ∀ w', But g w w' → RowU T s B w' (Option.some ⟨g, 0, none⟩) c n → wpList Tryz.prog ops Q rest a w') : wpList Tryz.prog ops Q (o :: rest) a w := by
  refine wpList_store_mid hgd ty x y ho g off cells hx hy (fun j hj => ?_) hi (by rw [← Array.all_toList]; exact h1) ?_
  · have q := hR.there (off + j) (by omega)
    rw [Nat.zero_add] at q
    exact q
  · rw [hdst]
    exact h _ (setCells_but g _ off w) (hR.setCells _ off)
/-- It has grown; all else stays. -/
structure GrwU (T : TypeId) (s B : Nat) (V : World) (d0 : Option Addr) (u : World) (d : Option Addr) (c n : Nat) : Prop where
  own : RowU T s B u d c n
  keep : ∀ k, k < V.heap.size → (∀ y, d0 = Option.some y → y.block ≠ k) → u.heap[k]? = V.heap[k]?
  new : ∀ z, d = Option.some z → d0 = Option.some z ∨ V.heap.size ≤ z.block
  size : V.heap.size ≤ u.heap.size
  os : u.os = V.os
  tape : u.tape = V.tape
  output : u.output = V.output
theorem wpList_appRowU {ops : Array Oper} {rest : List Oper} {o : Oper} {a : Act} {Q : Exit → Act → World → Prop} (hgd : o.guard = none) (x1 x : Operand) (t : TypeId) (ho : o.op = .call { callee := .builtin .append, args := #[x1, x], argTypes := #[t, t] })
    (ht : Tryz.prog.underlying t = Option.some (.slice T)) (z : Value) (bytes : Nat) (hI : (Tryz.prog.info? T).map (fun i => (i.zero, i.size, i.bytes)) = Option.some (Option.some z, s, bytes)) (hz : z.cells.size = s) (hs0 : 0 < s) (hbt : bytes ≤ 1000)
    (d0 : Option Addr) (c0 : Nat) (hs : a.eval x1 = .slice d0 n c0) (hown : RowU T s B w d0 c0 n) (g : Nat) (cs : List Value) (hx : a.eval x = .slice (Option.some ⟨g, 0, none⟩) 1 1) (hl : cs.length = s) (hc : ∀ j u, cs[j]? = Option.some u → w.cell? ⟨g, j, none⟩ = Option.some u) (h1 : ∀ u ∈ cs, u.oneCell' = true) (hn : n ≤ 100000000) (hB : B ≤ w.heap.size)
    (h : ∀ d c' w', GrwU T s B w d0 w' d c' (n + 1) → wpList Tryz.prog ops Q rest (a.put o.dst (.slice d (n + 1) c')) w') : wpList Tryz.prog ops Q (o :: rest) a w := by
  obtain ⟨xs, hown⟩ := hown
  obtain ⟨i1, hi1, hy0, hy1, hy2⟩ := info_parts hI
  refine wpList_append_told (P := Tryz.prog) w hgd x1 x t ho B T i1 z s bytes ht hi1 hy0 hy1 hy2 hz hs0 (.slice d0 n c0) n xs hs hown ⟨g, 0, none⟩ 1 1 (by decide) cs hx (by rw [hl, Nat.one_mul]) (fun j u hu => by
    have := hc j u hu
    by_cases hj : j = 0
    · subst hj; simpa [Addr.add] using this
    · simpa [Addr.add, hj] using this) h1 (by unfold maxLen; omega) (by
      have h2 : (n + 1) * bytes ≤ (100000000 + 1) * 1000 := Nat.mul_le_mul (by omega) hbt
      omega) hB ?_
  intro v' w' h2 h3
  rcases h3 with ⟨g1, cap, e1, rfl, hg⟩ | ⟨cap, rfl, hg⟩
  · cases e1
    refine h _ _ w' ⟨⟨_, h2⟩, fun k hk hne => ?_, fun z hz => .inl hz, hg.size, hg.os, hg.tape, hg.output⟩
    exact hg.block k hk (fun e => by cases e; exact hne _ rfl rfl)
  · refine h _ _ w' ⟨⟨_, h2⟩, fun k hk hne => ?_, fun z hz => by cases hz; exact .inr (Nat.le_refl _), hg.size, hg.os, hg.tape, hg.output⟩
    exact hg.block k hk (fun e => by cases e)
end
end Go.Proofs.YtimioiaoefhabaaGreat

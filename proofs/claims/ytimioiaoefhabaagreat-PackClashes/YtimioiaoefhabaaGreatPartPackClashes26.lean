/- Texts of one chain, laid one behind the other. -/
import Derived.Test.YtimioiaoefhabaaGreatPartPackClashes25
import Derived.Test.YtimioiaoefhabaaGreatPartPackClashes18
namespace Go.Proofs.YtimioiaoefhabaaGreat
open Go.ChangeShapes Go.WideShapes Go.ChangeAt Go.RowKit
def netX : NN := ⟨2, [⟨0, 1, 2, 1, 0⟩, ⟨1, 0, 1, 2, 2⟩]⟩
theorem wakeX1 : codeV netX [0, 1, 1] = 0 ∧ cloL netX [0, 1, 1] = [(0, 1)] ∧ plaC netX [0, 1, 1] = 0 ∧ plaL netX [0, 1, 1] = [(0, 2), (2, 2)] ∧ plaT netX [0, 1, 1] = 4 := by decide +kernel
theorem wakeX2 : plaC netX [0, 1] = 181 ∧ plaL netX [0, 1] = [] ∧ plaT netX [0, 1] = 0 ∧ chkC netX [(0, 2), (1, 2)] 3 [0, 1, 1] = 192 ∧ chkC netX [(3, 2), (0, 3)] 5 [0, 1, 1] = 0 := by decide +kernel
theorem atN_alloc2X (U : World) : AtN (U.alloc (.cells #[.int .i64 0, .int .i64 1, .int .i64 2, .int .i64 1, .int .i64 0, .int .i64 1, .int .i64 0, .int .i64 1, .int .i64 2, .int .i64 2] 53)) (some ⟨U.heap.size, 0, none⟩) netX.arcs := by
  refine .inr ⟨U.heap.size, 0, rfl, fun k hk => ?_⟩
  have b := blkA_new 53 U #[.int .i64 0, .int .i64 1, .int .i64 2, .int .i64 1, .int .i64 0, .int .i64 1, .int .i64 0, .int .i64 1, .int .i64 2, .int .i64 2]
  match k, hk with
  | 0, _ => exact ⟨b.cell rfl, b.cell rfl, b.cell rfl, b.cell rfl, b.cell rfl⟩
  | 1, _ => exact ⟨b.cell rfl, b.cell rfl, b.cell rfl, b.cell rfl, b.cell rfl⟩
set_option maxRecDepth 100000 in
set_option maxHeartbeats 4000000 in
theorem two_anyX (w : World) : Calls Tryz.prog 25 #[] w fun e w' => ∃ x, e = .returned (.agg #[.int .i64 2, .slice (some x) 2 2]) ∧ AtN w' (some x) netX.arcs ∧ Below w.heap.size w w' := by
  have b0 := (Below.refl w.heap.size w).alloc (Nat.le_refl _) (.cells #[.int .i64 0, .slice none 0 0] 24)
  have G0 := hiddenN (blkA_new 24 w #[.int .i64 0, .slice none 0 0])
  have B0 := hiddenN b0
  clear b0
  go_enter Tryz.func25, Tryz.ntmps25
  go_upto_region 1 with fail
  generalize w.alloc (.cells #[.int .i64 0, .slice none 0 0] 24) = W0 at *
  have a1 := (Below.refl W0.heap.size W0).alloc (Nat.le_refl _) (.cells #[.int .i64 0, .int .i64 1, .int .i64 2, .int .i64 1, .int .i64 0, .int .i64 1, .int .i64 0, .int .i64 1, .int .i64 2, .int .i64 2] 53)
  have H1 := hiddenN (atN_alloc2X W0)
  have A1 := hiddenN a1
  have G1 := hiddenN (G0.out.below a1)
  clear a1
  have hlt := G0.out.lt
  go_wp2_with (refine wpList_storeW _ rfl 24 (.tmp 0) (.tmp 4) rfl rfl w.heap.size 24 _ _ rfl rfl G1.out sizNet rfl rfl ?_; intro w8 hN hU; have N8 := hiddenN hN; have U8 := hiddenN hU; clear hN hU)
  have t0 : w8.cell? ⟨w.heap.size, 0, none⟩ = some (.int .i64 2) := N8.out.cell rfl
  have t1 : w8.cell? ⟨w.heap.size, 1, none⟩ = some (.slice (some ⟨W0.heap.size, 0, none⟩) 2 2) := N8.out.cell rfl
  refine bodyPost_ret (v := .agg #[.int .i64 2, .slice (some ⟨W0.heap.size, 0, none⟩) 2 2]) (by simp [results, Tryz.results25, go_sem, t0, t1]) rfl ?_
  have hs1 : (W0.alloc (.cells #[.int .i64 0, .int .i64 1, .int .i64 2, .int .i64 1, .int .i64 0, .int .i64 1, .int .i64 0, .int .i64 1, .int .i64 2, .int .i64 2] 53)).heap.size = W0.heap.size + 1 := World.size_alloc _ _
  exact ⟨_, rfl, H1.out.keep fun x hx => by cases hx; exact U8.out.block _ (by show W0.heap.size < _; omega) (by show W0.heap.size ≠ w.heap.size; omega), B0.out.trans ((A1.out.mono B0.out.size).trans (U8.out.below (Nat.le_refl _) (Nat.le_trans B0.out.size A1.out.size)))⟩
theorem atGn_two (U : World) (p0 p1 p2 p3 : Int) : AtGn (U.alloc (.cells #[.int .i64 p0, .int .i64 p1, .int .i64 p2, .int .i64 p3] 47)) (some ⟨U.heap.size, 0, none⟩) [(p0, p1), (p2, p3)] := by
  refine .inr ⟨U.heap.size, 0, rfl, fun k hk => ?_⟩
  have b := blkA_new 47 U #[.int .i64 p0, .int .i64 p1, .int .i64 p2, .int .i64 p3]
  match k, hk with
  | 0, _ => exact ⟨b.cell rfl, b.cell rfl⟩
  | 1, _ => exact ⟨b.cell rfl, b.cell rfl⟩
set_option maxRecDepth 100000 in
set_option maxHeartbeats 4000000 in
theorem plan_anyX (p0 p1 p2 p3 p4 : Int) (w : World) : Calls Tryz.prog 26 #[.int .i64 p0, .int .i64 p1, .int .i64 p2, .int .i64 p3, .int .i64 p4] w fun e w' => ∃ x, e = .returned (.agg #[.slice (some x) 2 2, .int .i64 p4]) ∧ AtGn w' (some x) [(p0, p1), (p2, p3)] ∧ Below w.heap.size w w' := by
  have b0 := (Below.refl w.heap.size w).alloc (Nat.le_refl _) (.cells #[.slice none 0 0, .int .i64 0] 41)
  have G0 := hiddenN (blkA_new 41 w #[.slice none 0 0, .int .i64 0])
  have B0 := hiddenN b0
  clear b0
  go_enter Tryz.func26, Tryz.ntmps26
  go_upto_region 1 with fail
  generalize w.alloc (.cells #[.slice none 0 0, .int .i64 0] 41) = W0 at *
  have a1 := (Below.refl W0.heap.size W0).alloc (Nat.le_refl _) (.cells #[.int .i64 p0, .int .i64 p1, .int .i64 p2, .int .i64 p3] 47)
  have H1 := hiddenN (atGn_two W0 p0 p1 p2 p3)
  have A1 := hiddenN a1
  have G1 := hiddenN (G0.out.below a1)
  clear a1
  have hlt := G0.out.lt
  go_wp2_with (refine wpList_storeW _ rfl 41 (.tmp 10) (.tmp 19) rfl rfl w.heap.size 41 _ _ rfl rfl G1.out Tryz.sizPl rfl rfl ?_; intro w8 hN hU; have N8 := hiddenN hN; have U8 := hiddenN hU; clear hN hU)
  have t0 : w8.cell? ⟨w.heap.size, 0, none⟩ = some (.slice (some ⟨W0.heap.size, 0, none⟩) 2 2) := N8.out.cell rfl
  have t1 : w8.cell? ⟨w.heap.size, 1, none⟩ = some (.int .i64 p4) := N8.out.cell rfl
  refine bodyPost_ret (v := .agg #[.slice (some ⟨W0.heap.size, 0, none⟩) 2 2, .int .i64 p4]) (by simp [results, Tryz.results26, go_sem, t0, t1]) rfl ?_
  have hs1 : (W0.alloc (.cells #[.int .i64 p0, .int .i64 p1, .int .i64 p2, .int .i64 p3] 47)).heap.size = W0.heap.size + 1 := World.size_alloc _ _
  have hk : w8.heap[W0.heap.size]? = (W0.alloc (.cells #[.int .i64 p0, .int .i64 p1, .int .i64 p2, .int .i64 p3] 47)).heap[W0.heap.size]? := U8.out.block _ (by omega) (by omega)
  refine ⟨_, rfl, ?_, B0.out.trans ((A1.out.mono B0.out.size).trans (U8.out.below (Nat.le_refl _) (Nat.le_trans B0.out.size A1.out.size)))⟩
  rcases H1.out with e | ⟨b, off, e, hc⟩
  · cases e
  · cases e
    exact .inr ⟨_, _, rfl, fun k hkk => ⟨(World.cell?_of_block hk).trans (hc k hkk).1, (World.cell?_of_block hk).trans (hc k hkk).2⟩⟩
set_option maxRecDepth 100000 in
set_option maxHeartbeats 4000000 in
theorem same_planX (a b : Option Addr) (n c d : Nat) (L : List (Int × Int)) (t : Int) (W : World) (h1 : AtGn W a L) (h2 : AtGn W b L) (hN : L.length = n) (hn : n ≤ 1000000) :
    Calls Tryz.prog 16 #[.agg #[.slice a n c, .int .i64 t], .agg #[.slice b n d, .int .i64 t]] W fun e w' => e = .returned (.bool true) ∧ Below W.heap.size W w' := by
  have y1 : Hid (Below W.heap.size W (W.alloc (.cells #[.slice a n c, .int .i64 t] 41))) := (Below.refl _ _).alloc (Nat.le_refl _) _
  have hs1 : (W.alloc (.cells #[.slice a n c, .int .i64 t] 41)).heap.size = W.heap.size + 1 := World.size_alloc ..
  have y2 : Hid (Below (W.alloc (.cells #[.slice a n c, .int .i64 t] 41)).heap.size (W.alloc (.cells #[.slice a n c, .int .i64 t] 41)) ((W.alloc (.cells #[.slice a n c, .int .i64 t] 41)).alloc (.cells #[.slice b n d, .int .i64 t] 41))) := (Below.refl _ _).alloc (Nat.le_refl _) _
  have G0 := hiddenN ((blkA_new 41 W #[.slice a n c, .int .i64 t]).below y2.out)
  have D0 := hiddenN (blkA_new 41 (W.alloc (.cells #[.slice a n c, .int .i64 t] 41)) #[.slice b n d, .int .i64 t])
  have B0 := hiddenN (y1.out.trans (y2.out.mono (by rw [hs1]; omega)))
  have H1 := hiddenN ((h1.below y1.out).below y2.out)
  have H2 := hiddenN ((h2.below y1.out).below y2.out)
  have HN := hiddenN hN
  rw [hs1] at D0
  clear h1 h2 hN y1 y2 hs1
  have qt : (t != t) = false := by simp
  have qn : ((n : Int) != (n : Int)) = false := by simp
  go_enter Tryz.func16, Tryz.ntmps16
  go_upto_region 1 with fail
  generalize (W.alloc (.cells #[.slice a n c, .int .i64 t] 41)).alloc (.cells #[.slice b n d, .int .i64 t] 41) = W1 at *
  have g0 := G0.out.cell (k := 0) rfl
  have g1 := G0.out.cell (k := 1) rfl
  have d0 := D0.out.cell (k := 0) rfl
  have d1 := D0.out.cell (k := 1) rfl
  simp only [List.getElem_toArray, List.getElem_cons_zero, List.getElem_cons_succ] at g0 g1 d0 d1
  go_wp2
  clear qt qn g1 d1 g0 d0
  go_loopg [5] n (fun gk u wr => ∃ (k m : Nat), k ≤ n ∧ gk = n - k ∧ u = .int .i64 (k : Int) ∧ wr = W1.drewN m)
  case atStart => exact ⟨0, 0, Nat.zero_le _, rfl, rfl, rfl⟩
  case round =>
    obtain ⟨k, m, hk, rfl, rfl, rfl⟩ := hrel
    have g0 := G0.out.cell (k := 0) rfl
    have d0 := D0.out.cell (k := 0) rfl
    simp only [List.getElem_toArray, List.getElem_cons_zero] at g0 d0
    by_cases hlt : k < n
    · have hki : (k : Int) < (n : Int) := by omega
      have hkL : k < L.length := by rw [HN.out]; exact hlt
      rcases H1.out with e1 | ⟨ab, off, rfl, hc⟩
      · rw [e1] at hkL; exact absurd hkL (Nat.not_lt_zero _)
      rcases H2.out with e1 | ⟨bb, of2, rfl, hd⟩
      · rw [e1] at hkL; exact absurd hkL (Nat.not_lt_zero _)
      obtain ⟨c0, c1⟩ := hc k hkL
      obtain ⟨e0, e1⟩ := hd k hkL
      obtain ⟨x1, hx1⟩ : ∃ x, (nthX L k).1 = x := ⟨_, rfl⟩
      obtain ⟨x2, hx2⟩ : ∃ x, (nthX L k).2 = x := ⟨_, rfl⟩
      rw [hx1] at c0 e0
      rw [hx2] at c1 e1
      have hgd : ∀ (op : BinOp) (a b : Operand) (xs ys : Array Value) (w : World), Sem.run Tryz.prog (eqGuard op 47 a b (.agg xs) (.agg ys)) w = .ok () w := Tryz.eqgGn
      have heq : ∀ w, Sem.run Tryz.prog (binOp .neq 47 (.agg #[.int .i64 x1, .int .i64 x2]) (.agg #[.int .i64 x1, .int .i64 x2])) w = .ok (.bool false) w := fun w => by rw [Tryz.neqGn]; simp
      clear hc hd hkL hx1 hx2
      go_upto_region 6 with fail
      go_quiet (fail)
      go_wp2
      go_roundg (n - (k + 1))
      case measure => omega
      case rel => exact ⟨k + 1, m + nq, by omega, rfl, by go_num, by simp⟩
    · have hki : ¬ (k : Int) < (n : Int) := by omega
      go_wp2
      go_ret
      exact ⟨rfl, drewB B0.out _⟩
/-- The plan that the document tells. -/
def PlX (u : World) (z : Value) : Prop := ∃ x, z = .agg #[.slice (some x) 2 2, .int .i64 4] ∧ AtGn u (some x) [(0, 2), (2, 2)]
theorem PlX.later {u u' : World} {z : Value} (h : PlX u z) (hb : Below u.heap.size u u') : PlX u' z := by
  obtain ⟨x, h1, h2⟩ := h
  exact ⟨x, h1, h2.below hb⟩
theorem clashW (w : World) (x y : Addr) (h : AtN w (some x) netX.arcs) (hz : At w (some y) [0, 1, 1]) : Calls Tryz.prog 8 #[.agg #[.int .i64 2, .slice (some x) 2 2], .slice (some y) 3 3] w fun e w' => ∃ d c', e = .returned (.tuple #[.slice d 1 c', .int .i64 0]) ∧ AtPp w' d [(0, 1)] ∧ Below w.heap.size w w' :=
  (clashes_anyX netX (some x) 2 w h (by decide) (fun e => by cases e) (some y) 3 [0, 1, 1] hz (by decide)).mono fun e w' hh => by
    obtain ⟨d, c', e1, q1, q2⟩ := hh
    rw [wakeX1.2.1, wakeX1.1] at e1
    rw [wakeX1.2.1] at q1
    exact ⟨d, c', e1, q1.at, q2⟩
theorem placeW (w : World) (x y : Addr) (h : AtN w (some x) netX.arcs) (hz : At w (some y) [0, 1, 1]) : Calls Tryz.prog 14 #[.agg #[.int .i64 2, .slice (some x) 2 2], .slice (some y) 3 3] w fun e w' => ∃ d c', e = .returned (.tuple #[.agg #[.slice d 2 c', .int .i64 4], .int .i64 0]) ∧ AtGn w' d [(0, 2), (2, 2)] ∧ Below w.heap.size w w' :=
  (place_anyX netX (some x) 2 w h (by decide) (fun e => by cases e) (some y) 3 [0, 1, 1] hz (by decide)).mono fun e w' hh => by
    obtain ⟨d, c', e1, q1, q2⟩ := hh
    rw [wakeX1.2.2.2.1, wakeX1.2.2.2.2, wakeX1.2.2.1] at e1
    rw [wakeX1.2.2.2.1] at q1
    exact ⟨d, c', e1, q1.at, q2⟩
theorem placeW2 (w : World) (x y : Addr) (h : AtN w (some x) netX.arcs) (hz : At w (some y) [0, 1]) : Calls Tryz.prog 14 #[.agg #[.int .i64 2, .slice (some x) 2 2], .slice (some y) 2 2] w fun e w' => ∃ d c', e = .returned (.tuple #[.agg #[.slice d 0 c', .int .i64 0], .int .i64 181]) ∧ Below w.heap.size w w' :=
  (place_anyX netX (some x) 2 w h (by decide) (fun e => by cases e) (some y) 2 [0, 1] hz (by decide)).mono fun e w' hh => by
    obtain ⟨d, c', e1, q1, q2⟩ := hh
    rw [wakeX2.2.1, wakeX2.2.2.1, wakeX2.1] at e1
    exact ⟨d, c', e1, q2⟩
theorem checkW (w : World) (x y : Addr) (h : AtN w (some x) netX.arcs) (hz : At w (some y) [0, 1, 1]) (p : Addr) (hp : AtGn w (some p) [(0, 2), (1, 2)]) : Calls Tryz.prog 17 #[.agg #[.int .i64 2, .slice (some x) 2 2], .agg #[.slice (some p) 2 2, .int .i64 3], .slice (some y) 3 3] w fun e w' => e = .returned (.int .i64 192) ∧ Below w.heap.size w w' :=
  (check_anyX netX (some x) 2 w h (by decide) (fun e => by cases e) (some y) 3 [0, 1, 1] hz (by decide) (some p) 2 2 [(0, 2), (1, 2)] 3 hp rfl).mono fun e w' ⟨e1, q⟩ => ⟨by rw [wakeX2.2.2.2.1] at e1; exact e1, q⟩
theorem checkW2 (w : World) (x y : Addr) (h : AtN w (some x) netX.arcs) (hz : At w (some y) [0, 1, 1]) (p : Addr) (hp : AtGn w (some p) [(3, 2), (0, 3)]) : Calls Tryz.prog 17 #[.agg #[.int .i64 2, .slice (some x) 2 2], .agg #[.slice (some p) 2 2, .int .i64 5], .slice (some y) 3 3] w fun e w' => e = .returned (.int .i64 0) ∧ Below w.heap.size w w' :=
  (check_anyX netX (some x) 2 w h (by decide) (fun e => by cases e) (some y) 3 [0, 1, 1] hz (by decide) (some p) 2 2 [(3, 2), (0, 3)] 5 hp rfl).mono fun e w' ⟨e1, q⟩ => ⟨by rw [wakeX2.2.2.2.2] at e1; exact e1, q⟩
set_option maxRecDepth 100000 in
set_option maxHeartbeats 16000000 in
theorem awakeX (w : World) : Calls Tryz.prog 11 #[] w fun e w' => e = .returned (.bool true) ∧ Below w.heap.size w w' := by
  have mixed : Tryz.prog.follows .mixedOrders = true := by kernel_rfl
  have LW0 := hiddenN (Below.refl w.heap.size w)
  go_enter Tryz.func11, Tryz.ntmps11
  go_upto_region 2 with (first
    | (go_at_call 25; (with_reducible refine (two_anyX w).mono ?_); rintro e X1 ⟨x1, rfl, h, b⟩; have HH := hiddenN h; have LB := hiddenN b; have aA := (Below.refl X1.heap.size X1).alloc (Nat.le_refl _) (.cells #[.int .i64 0, .int .i64 1, .int .i64 1] 3); have CC := hiddenN (clashW (X1.alloc (.cells #[.int .i64 0, .int .i64 1, .int .i64 1] 3)) x1 ⟨X1.heap.size, 0, none⟩ (h.below aA) (at_allocV3 X1 0 1 1)); have LL := hiddenN (b.trans (aA.mono b.size)); clear aA; clear h b)
    | (go_at_call 8; (with_reducible refine CC.out.mono ?_); rintro e W1 ⟨pd, pc, rfl, q1, b⟩; have MW1 := hiddenN (LL.out.trans (b.mono LL.out.size)); have PD := hiddenN q1; have LW1 := hiddenN (LW0.out.trans (MW1.out.mono LW0.out.size)); clear q1; clear b CC LL HH LB))
  go_upto_region 3 with (first
    | (go_at_call 25; (with_reducible refine (two_anyX W1).mono ?_); rintro e X2 ⟨x2, rfl, h, b⟩; have HH := hiddenN h; have LB := hiddenN b; have aA := (Below.refl X2.heap.size X2).alloc (Nat.le_refl _) (.cells #[.int .i64 0, .int .i64 1, .int .i64 1] 3); have CC := hiddenN (placeW (X2.alloc (.cells #[.int .i64 0, .int .i64 1, .int .i64 1] 3)) x2 ⟨X2.heap.size, 0, none⟩ (h.below aA) (at_allocV3 X2 0 1 1)); have LL := hiddenN (b.trans (aA.mono b.size)); clear aA; clear h b)
    | (go_at_call 14; (with_reducible refine CC.out.mono ?_); rintro e W2 ⟨dp, cp, rfl, q1, b⟩; have MW2 := hiddenN (LL.out.trans (b.mono LL.out.size)); have PA2 := hiddenN q1; have PD2 := hiddenN (PD.out.below MW2.out); have LW2 := hiddenN (LW1.out.trans (MW2.out.mono LW1.out.size)); clear q1; clear b CC LL HH LB))
  have XA := (Below.refl W2.heap.size W2).alloc (Nat.le_refl _) (.cells #[.slice dp 2 cp, .int .i64 4] 41)
  have BX := hiddenN (blkA_new 41 W2 #[.slice dp 2 cp, .int .i64 4])
  have PA2' := hiddenN (PA2.out.below XA)
  have PD2' := hiddenN (PD2.out.below XA)
  have LW2' := hiddenN (LW2.out.trans (XA.mono LW2.out.size))
  clear XA PA2 PD2
  obtain ⟨xb, hxb⟩ : ∃ q, W2.heap.size = q := ⟨_, rfl⟩
  generalize W2.alloc (.cells #[.slice dp 2 cp, .int .i64 4] 41) = W2a at *
  rw [hxb] at BX ⊢
  clear hxb
  go_upto_region 4 with (first
    | (go_at_call 25; (with_reducible refine (two_anyX W2a).mono ?_); rintro e X3 ⟨x3, rfl, h, b⟩; have HH := hiddenN h; have LB := hiddenN b; have aA := (Below.refl X3.heap.size X3).alloc (Nat.le_refl _) (.cells #[.int .i64 0, .int .i64 1] 3); have CC := hiddenN (placeW2 (X3.alloc (.cells #[.int .i64 0, .int .i64 1] 3)) x3 ⟨X3.heap.size, 0, none⟩ (h.below aA) (at_alloc2 X3 0 1)); have LL := hiddenN (b.trans (aA.mono b.size)); clear aA; clear h b)
    | (go_at_call 14; (with_reducible refine CC.out.mono ?_); rintro e W3 ⟨dp3, cp3, rfl, b⟩; have MW3 := hiddenN (LL.out.trans (b.mono LL.out.size)); have PA3 := hiddenN (PA2'.out.below MW3.out); have PD3 := hiddenN (PD2'.out.below MW3.out); have BX3 := hiddenN (BX.out.below MW3.out); have LW3 := hiddenN (LW2'.out.trans (MW3.out.mono LW2'.out.size)); clear b CC LL HH LB))
  have XA := (Below.refl W3.heap.size W3).alloc (Nat.le_refl _) (.cells #[.slice dp3 0 cp3, .int .i64 0] 41)
  have PA3' := hiddenN (PA3.out.below XA)
  have PD3' := hiddenN (PD3.out.below XA)
  have BX3' := hiddenN (BX3.out.below XA)
  have LW3' := hiddenN (LW3.out.trans (XA.mono LW3.out.size))
  clear XA PA3 PD3 BX3
  generalize W3.alloc (.cells #[.slice dp3 0 cp3, .int .i64 0] 41) = W3a at *
  go_upto_region 5 with (first
    | (go_at_call 25; (with_reducible refine (two_anyX W3a).mono ?_); rintro e X4 ⟨x4, rfl, h, b⟩; have HH := hiddenN h; have LB := hiddenN b; clear h b)
    | (go_at_call 26; (with_reducible refine (plan_anyX 0 2 1 2 3 X4).mono ?_); rintro e Y4 ⟨y4, rfl, q1, b⟩; have aA := (Below.refl Y4.heap.size Y4).alloc (Nat.le_refl _) (.cells #[.int .i64 0, .int .i64 1, .int .i64 1] 3); have CC := hiddenN (checkW (Y4.alloc (.cells #[.int .i64 0, .int .i64 1, .int .i64 1] 3)) x4 ⟨Y4.heap.size, 0, none⟩ ((HH.out.below b).below aA) (at_allocV3 Y4 0 1 1) y4 (q1.below aA)); have LL := hiddenN (LB.out.trans ((b.trans (aA.mono b.size)).mono LB.out.size)); clear b q1 aA)
    | (go_at_call 17; (with_reducible refine CC.out.mono ?_); rintro e W4 ⟨rfl, b⟩; have MW4 := hiddenN (LL.out.trans (b.mono LL.out.size)); have PA4 := hiddenN (PA3'.out.below MW4.out); have PD4 := hiddenN (PD3'.out.below MW4.out); have BX4 := hiddenN (BX3'.out.below MW4.out); have LW4 := hiddenN (LW3'.out.trans (MW4.out.mono LW3'.out.size)); clear b CC LL HH LB))
  go_upto_region 6 with (first
    | (go_at_call 25; (with_reducible refine (two_anyX W4).mono ?_); rintro e X5 ⟨x5, rfl, h, b⟩; have HH := hiddenN h; have LB := hiddenN b; clear h b)
    | (go_at_call 26; (with_reducible refine (plan_anyX 3 2 0 3 5 X5).mono ?_); rintro e Y5 ⟨y5, rfl, q1, b⟩; have aA := (Below.refl Y5.heap.size Y5).alloc (Nat.le_refl _) (.cells #[.int .i64 0, .int .i64 1, .int .i64 1] 3); have CC := hiddenN (checkW2 (Y5.alloc (.cells #[.int .i64 0, .int .i64 1, .int .i64 1] 3)) x5 ⟨Y5.heap.size, 0, none⟩ ((HH.out.below b).below aA) (at_allocV3 Y5 0 1 1) y5 (q1.below aA)); have LL := hiddenN (LB.out.trans ((b.trans (aA.mono b.size)).mono LB.out.size)); clear b q1 aA)
    | (go_at_call 17; (with_reducible refine CC.out.mono ?_); rintro e W5 ⟨rfl, b⟩; have MW5 := hiddenN (LL.out.trans (b.mono LL.out.size)); have PA := hiddenN (PA4.out.below MW5.out); have PD5 := hiddenN (PD4.out.below MW5.out); have BX5 := hiddenN (BX4.out.below MW5.out); have LW5 := hiddenN (LW4.out.trans (MW5.out.mono LW4.out.size)); clear b CC LL HH LB))
  obtain ⟨pb, po, hpd, hc⟩ : ∃ b off, pd = some ⟨b, off, none⟩ ∧ ∀ k, k < 1 → W5.cell? ⟨b, off + k * 2, none⟩ = some (.int .i64 (nthX [(0, 1)] k).1) ∧ W5.cell? ⟨b, off + k * 2 + 1, none⟩ = some (.int .i64 (nthX [(0, 1)] k).2) := by
    rcases PD5.out with e | ⟨b, off, e, hc⟩
    · cases e
    · exact ⟨b, off, e, hc⟩
  subst hpd
  have l0 : W5.cell? ⟨pb, po, none⟩ = some (.int .i64 0) := (hc 0 (by decide)).1
  have l1 : W5.cell? ⟨pb, po + 1, none⟩ = some (.int .i64 1) := (hc 0 (by decide)).2
  have u0 : W5.cell? ⟨xb, 0, none⟩ = some (.slice dp 2 cp) := BX5.out.cell rfl
  have u1 : W5.cell? ⟨xb, 1, none⟩ = some (.int .i64 4) := BX5.out.cell rfl
  have hgd : ∀ (op : BinOp) (a b : Operand) (xs ys : Array Value) (w : World), Sem.run Tryz.prog (eqGuard op 34 a b (.agg xs) (.agg ys)) w = .ok () w := Tryz.eqgPp
  have heq : ∀ w, Sem.run Tryz.prog (binOp .eql 34 (.agg #[.int .i64 0, .int .i64 1]) (.agg #[.int .i64 0, .int .i64 1])) w = .ok (.bool true) w := fun w => by rw [Tryz.eqlPp]; rfl
  clear LW0 LW1 LW2 LW2' LW3 LW3' LW4 MW1 MW2 MW3 MW4 MW5 PD PA2' PD2' PA3' PD3' BX3' BX BX4 PA4 PD4 PD5 BX5 hc
  refine wp_region_gen [] (fun d i u z => match i with
      | 0 => z = .slice (some ⟨pb, po, none⟩) 1 pc
      | 1 => z = .int .i64 1
      | 2 => z = .bool true
      | 3 => z = .bool true
      | 4 => z = .slice (some ⟨pb, po, none⟩) 1 pc
      | 5 => z = .pointer (some ⟨pb, po, none⟩)
      | 6 => z = .agg #[.int .i64 0, .int .i64 1]
      | 7 => z = .agg #[.int .i64 0, .int .i64 1]
      | 8 => z = .bool true
      | 9 => z = .bool true
      | 10 => z = .bool true
      | 11 => z = .agg #[.slice dp 2 cp, .int .i64 4]
      | 12 => PlX u z
      | 13 => z = .bool true
      | 14 => z = .bool true
      | 15 => z = .bool true
      | _ => True) (fun _ u => Below W5.heap.size W5 u) (by kernel_rfl) (by kernel_rfl) (by kernel_rfl) ?_ ?_ ?_ ?_ ?_ ?_ (by kernel_rfl)
  · intro d i w v w' h hb
    match i, h with
    | 0, h => exact h
    | 1, h => exact h
    | 2, h => exact h
    | 3, h => exact h
    | 4, h => exact h
    | 5, h => exact h
    | 6, h => exact h
    | 7, h => exact h
    | 8, h => exact h
    | 9, h => exact h
    | 10, h => exact h
    | 11, h => exact h
    | 12, h => exact h.later hb
    | 13, h => exact h
    | 14, h => exact h
    | 15, h => exact h
    | _ + 16, _ => trivial
  · intro d u u' h hb
    exact h.trans (hb.mono h.size)
  · exact Below.refl _ _
  · intro d i o ρ w' hm ho hf hg hC hcs hfs hfr hdep
    match i, hm, ho, hf, hg, hfr, hdep with
    | 0, _, ho, hf, hg, hfr, hdep =>
      simp only [gTA, gCZ, gSI] at ho
      subst ho
      refine ⟨fun _ => ?_, fun hw => absurd (show true = false from hw) (by decide)⟩
      have ts : ρ (.tmp 1) = .slice (some ⟨pb, po, none⟩) 1 pc := hfr 1 (by kernel_rfl)
      simp [go_sem, ts]
      exact ⟨Below.refl _ _, rfl⟩
    | 1, _, ho, hf, hg, hfr, hdep =>
      simp only [gTA, gCZ, gCS, gSI] at ho
      subst ho
      refine ⟨fun _ => ?_, fun hw => absurd (show true = false from hw) (by decide)⟩
      have d0 : ρ (.tmp 36) = .slice (some ⟨pb, po, none⟩) 1 pc := hdep 0 36 (by kernel_rfl) (by kernel_rfl)
      simp [go_sem, d0]
      exact ⟨Below.refl _ _, rfl⟩
    | 2, _, ho, hf, hg, hfr, hdep =>
      simp only [gTA, gCZ, gCS, gSI] at ho
      subst ho
      refine ⟨fun _ => ?_, fun hw => absurd (show true = false from hw) (by decide)⟩
      have d0 : ρ (.tmp 37) = .int .i64 1 := hdep 1 37 (by kernel_rfl) (by kernel_rfl)
      simp [go_sem, d0, hcs]
      exact ⟨Below.refl _ _, rfl⟩
    | 3, _, ho, hf, hg, hfr, hdep =>
      simp only [gTA, gCZ, gCS, gSI] at ho
      subst ho
      refine ⟨fun _ => ?_, fun hw => absurd (show true = false from hw) (by decide)⟩
      have d0 : ρ (.tmp 38) = .bool true := hdep 2 38 (by kernel_rfl) (by kernel_rfl)
      simp [go_sem, d0]
      exact ⟨Below.refl _ _, rfl⟩
    | 4, _, ho, hf, hg, hfr, hdep =>
      simp only [gTA, gCZ, gCS, gSI] at ho
      subst ho
      have gd : ρ (.tmp 39) = .bool true := hdep 3 39 (by kernel_rfl) (by kernel_rfl)
      refine ⟨fun _ => ?_, fun hw => absurd (show (match ρ (.tmp 39) with | .bool c => c == true | _ => false) = false from hw) (by rw [gd]; decide)⟩
      clear gd
      have ts : ρ (.tmp 1) = .slice (some ⟨pb, po, none⟩) 1 pc := hfr 1 (by kernel_rfl)
      simp [go_sem, ts]
      exact ⟨Below.refl _ _, rfl⟩
    | 5, _, ho, hf, hg, hfr, hdep =>
      simp only [gTA, gCZ, gCS, gSI] at ho
      subst ho
      have gd : ρ (.tmp 39) = .bool true := hdep 3 39 (by kernel_rfl) (by kernel_rfl)
      refine ⟨fun _ => ?_, fun hw => absurd (show (match ρ (.tmp 39) with | .bool c => c == true | _ => false) = false from hw) (by rw [gd]; decide)⟩
      clear gd
      have d0 : ρ (.tmp 40) = .slice (some ⟨pb, po, none⟩) 1 pc := hdep 4 40 (by kernel_rfl) (by kernel_rfl)
      simp [go_sem, d0, hcs]
      exact ⟨Below.refl _ _, rfl⟩
    | 6, _, ho, hf, hg, hfr, hdep =>
      simp only [gTA, gCZ, gCS, gSI] at ho
      subst ho
      have gd : ρ (.tmp 39) = .bool true := hdep 3 39 (by kernel_rfl) (by kernel_rfl)
      refine ⟨fun _ => ?_, fun hw => absurd (show (match ρ (.tmp 39) with | .bool c => c == true | _ => false) = false from hw) (by rw [gd]; decide)⟩
      clear gd
      have k0 := cellN_later hC l0
      have k1 := cellN_later hC l1
      have d0 : ρ (.tmp 41) = .pointer (some ⟨pb, po, none⟩) := hdep 5 41 (by kernel_rfl) (by kernel_rfl)
      simp [go_sem, d0, k0, k1]
      exact ⟨Below.refl _ _, rfl⟩
    | 7, _, ho, hf, hg, hfr, hdep =>
      simp only [gTA, gCZ, gCS, gSI] at ho
      subst ho
      have gd : ρ (.tmp 39) = .bool true := hdep 3 39 (by kernel_rfl) (by kernel_rfl)
      refine ⟨fun _ => ?_, fun hw => absurd (show (match ρ (.tmp 39) with | .bool c => c == true | _ => false) = false from hw) (by rw [gd]; decide)⟩
      clear gd
      simp [go_sem, hcs]
      exact ⟨Below.refl _ _, rfl⟩
    | 8, _, ho, hf, hg, hfr, hdep =>
      simp only [gTA, gCZ, gCS, gSI] at ho
      subst ho
      have gd : ρ (.tmp 39) = .bool true := hdep 3 39 (by kernel_rfl) (by kernel_rfl)
      refine ⟨fun _ => ?_, fun hw => absurd (show (match ρ (.tmp 39) with | .bool c => c == true | _ => false) = false from hw) (by rw [gd]; decide)⟩
      clear gd
      have t0 : ρ (.tmp 42) = .agg #[.int .i64 0, .int .i64 1] := hdep 6 42 (by kernel_rfl) (by kernel_rfl)
      have t1 : ρ (.tmp 43) = .agg #[.int .i64 0, .int .i64 1] := hdep 7 43 (by kernel_rfl) (by kernel_rfl)
      simp [go_sem, t0, t1, heq, hgd]
      exact ⟨Below.refl _ _, rfl⟩
    | 9, _, ho, hf, hg, hfr, hdep =>
      simp only [gTA, gCZ, gCS, gSI] at ho
      subst ho
      refine ⟨fun _ => ?_, fun hw => absurd (show true = false from hw) (by decide)⟩
      have d0 : ρ (.tmp 39) = .bool true := hdep 3 39 (by kernel_rfl) (by kernel_rfl)
      have d1 : ρ (.tmp 44) = .bool true := hdep 8 44 (by kernel_rfl) (by kernel_rfl)
      simp [go_sem, d0, d1]
      exact ⟨Below.refl _ _, rfl⟩
    | 10, _, ho, hf, hg, hfr, hdep =>
      simp only [gTA, gCZ, gCS, gSI] at ho
      subst ho
      refine ⟨fun _ => ?_, fun hw => absurd (show true = false from hw) (by decide)⟩
      have d0 : ρ (.tmp 45) = .bool true := hdep 9 45 (by kernel_rfl) (by kernel_rfl)
      simp [go_sem, d0]
      exact ⟨Below.refl _ _, rfl⟩
    | 11, _, ho, hf, hg, hfr, hdep =>
      simp only [gTA, gCZ, gCS, gSI] at ho
      subst ho
      have gd : ρ (.tmp 46) = .bool true := hdep 10 46 (by kernel_rfl) (by kernel_rfl)
      refine ⟨fun _ => ?_, fun hw => absurd (show (match ρ (.tmp 46) with | .bool c => c == true | _ => false) = false from hw) (by rw [gd]; decide)⟩
      clear gd
      have ts : ρ (.tmp 3) = .pointer (some ⟨xb, 0, none⟩) := hfr 3 (by kernel_rfl)
      have k0 := cellN_later hC u0
      have k1 := cellN_later hC u1
      simp [go_sem, ts, k0, k1]
      exact ⟨Below.refl _ _, rfl⟩
    | 12, _, ho, hf, hg, hfr, hdep =>
      simp only [gTA, gCZ, gCS, gSI] at ho
      subst ho
      have gd : ρ (.tmp 46) = .bool true := hdep 10 46 (by kernel_rfl) (by kernel_rfl)
      refine ⟨fun _ => ?_, fun hw => absurd (show (match ρ (.tmp 46) with | .bool c => c == true | _ => false) = false from hw) (by rw [gd]; decide)⟩
      clear gd
      simp [go_sem, hcs, hfs]
      exact ⟨rfl, (plan_anyX 0 2 2 2 4 w').mono fun e w'' ⟨x, e1, q1, q2⟩ => ⟨_, e1, q2, x, rfl, q1⟩⟩
    | 13, _, ho, hf, hg, hfr, hdep =>
      simp only [gTA, gCZ, gCS, gSI] at ho
      subst ho
      have gd : ρ (.tmp 46) = .bool true := hdep 10 46 (by kernel_rfl) (by kernel_rfl)
      refine ⟨fun _ => ?_, fun hw => absurd (show (match ρ (.tmp 46) with | .bool c => c == true | _ => false) = false from hw) (by rw [gd]; decide)⟩
      clear gd
      have t0 : ρ (.tmp 47) = .agg #[.slice dp 2 cp, .int .i64 4] := hdep 11 47 (by kernel_rfl) (by kernel_rfl)
      obtain ⟨x, t1, q1⟩ : PlX w' (ρ (.tmp 48)) := hdep 12 48 (by kernel_rfl) (by kernel_rfl)
      simp [go_sem, t0, t1, hfs]
      exact ⟨rfl, (same_planX dp (some x) 2 cp 2 [(0, 2), (2, 2)] 4 w' (PA.out.below hC) q1 rfl (by decide)).mono fun e w'' ⟨e1, b⟩ => ⟨_, e1, b, rfl⟩⟩
    | 14, _, ho, hf, hg, hfr, hdep =>
      simp only [gTA, gCZ, gCS, gSI] at ho
      subst ho
      refine ⟨fun _ => ?_, fun hw => absurd (show true = false from hw) (by decide)⟩
      have d0 : ρ (.tmp 46) = .bool true := hdep 10 46 (by kernel_rfl) (by kernel_rfl)
      have d1 : ρ (.tmp 49) = .bool true := hdep 13 49 (by kernel_rfl) (by kernel_rfl)
      simp [go_sem, d0, d1]
      exact ⟨Below.refl _ _, rfl⟩
    | 15, _, ho, hf, hg, hfr, hdep =>
      simp only [gTA, gCZ, gCS, gSI] at ho
      subst ho
      refine ⟨fun _ => ?_, fun hw => absurd (show true = false from hw) (by decide)⟩
      have d0 : ρ (.tmp 50) = .bool true := hdep 14 50 (by kernel_rfl) (by kernel_rfl)
      simp [go_sem, d0]
      exact ⟨Below.refl _ _, rfl⟩
    | n + 16, _, ho, _, _, _, _ => simp at ho
  · intro d i o ρ w' hm ho h0 hf hg hC hcs hfs hfr hdep
    exact absurd hm (by simp)
  · intro V w9 hC9 hS
    have e15 : V 15 = .bool true := hS 15 (by decide) (by intro h; cases h)
    simp only [puts, e15]
    simp only [Act.put, List.setIfInBounds_toArray, List.set_cons_zero, List.set_cons_succ]
    clear hS e15
    have LF := hiddenN (LW5.out.trans (hC9.mono LW5.out.size))
    clear hC9
    go_wp2
    go_ret
    exact ⟨by first | rfl | simp, LF.out⟩
set_option maxRecDepth 100000 in
set_option maxHeartbeats 4000000 in
theorem rclash_anyX (i j N : Nat) (v : Value) (R : List (List Int)) (W : World) (hLS : LsV W v R) (hRL : ∀ k, k < R.length → (nthLV R k).length = N) (hi : i < N) (hj : j < N) (hR6 : R.length ≤ 1000000) :
    Calls Tryz.prog 24 #[v, .int .i64 (i : Int), .int .i64 (j : Int)] W fun e w' => e = .returned (.bool (cloV R i j)) ∧ w' = W := by
  obtain ⟨x, c, rfl, hx⟩ := hLS
  have ER : Hid (cloV R i j = R.any (fun r : List Int => decide (0 < nth r i) && decide (0 < nth r j))) := rfl
  obtain ⟨r, hr⟩ : ∃ q, cloV R i j = q := ⟨_, rfl⟩
  rw [hr] at ER ⊢
  obtain ⟨M, hM⟩ : ∃ q, R.length = q := ⟨_, rfl⟩
  have HM := hiddenN hM
  rw [hM] at hR6 ⊢
  have HX := hiddenN hx
  have HRL := hiddenN hRL
  have hii : (i : Int) < (N : Int) := by omega
  have hjj : (j : Int) < (N : Int) := by omega
  clear hr hM hx hRL
  go_enter Tryz.func24, Tryz.ntmps24
  go_wp2
  go_loopg [7] M (fun gk u7 wr => ∃ k : Nat, k ≤ M ∧ gk = M - k ∧ u7 = .int .i64 (k : Int) ∧ (R.drop k).any (fun r : List Int => decide (0 < nth r i) && decide (0 < nth r j)) = r ∧ wr = W)
  case atStart => exact ⟨0, Nat.zero_le _, rfl, rfl, ER.out.symm, rfl⟩
  case round =>
    obtain ⟨k, hk, rfl, rfl, hr, rfl⟩ := hrel
    have HR := hiddenN hr
    clear hr ER
    by_cases hlt : k < M
    · have hki : (k : Int) < (M : Int) := by omega
      have hkL : k < R.length := by rw [HM.out]; exact hlt
      have hcut := HR.out
      rw [drop_nthLV hkL, List.any_cons] at hcut
      have hl := HRL.out k hkL
      rcases HX.out with e | ⟨b, off, rfl, hc⟩
      · rw [e] at hkL; exact absurd hkL (Nat.not_lt_zero _)
      obtain ⟨y, yc, c0, c1⟩ := hc k hkL
      rw [hl] at c0
      rcases c1 with e | ⟨yb, yo, rfl, hd⟩
      · rw [e] at hl; simp at hl; omega
      have ci := hd i (by rw [hl]; exact hi)
      have cj := hd j (by rw [hl]; exact hj)
      obtain ⟨ri, hri⟩ : ∃ q, nth (nthLV R k) i = q := ⟨_, rfl⟩
      obtain ⟨rj, hrj⟩ : ∃ q, nth (nthLV R k) j = q := ⟨_, rfl⟩
      rw [hri] at ci hcut
      rw [hrj] at cj hcut
      have HC := hiddenN hcut
      clear hc hd hl hri hrj hcut hkL
      by_cases h1 : ri > 0
      · by_cases h2 : rj > 0
        · have HN : Hid (r = true) := by show _ = _; rw [← HC.out, decide_eq_true (show 0 < ri from h1), decide_eq_true (show 0 < rj from h2)]; rfl
          go_wp2
          go_ret
          exact ⟨by (rw [HN.out]; try rfl), rfl⟩
        · have HN : Hid ((R.drop (k + 1)).any (fun r : List Int => decide (0 < nth r i) && decide (0 < nth r j)) = r) := by show _ = _; rw [← HC.out, decide_eq_false (show ¬ 0 < rj from h2), Bool.and_false, Bool.false_or]
          go_wp2
          go_roundg (M - (k + 1))
          case measure => omega
          case rel => exact ⟨k + 1, by omega, rfl, by go_num, HN.out, rfl⟩
      · have HN : Hid ((R.drop (k + 1)).any (fun r : List Int => decide (0 < nth r i) && decide (0 < nth r j)) = r) := by show _ = _; rw [← HC.out, decide_eq_false (show ¬ 0 < ri from h1), Bool.false_and, Bool.false_or]
        go_wp2
        go_roundg (M - (k + 1))
        case measure => omega
        case rel => exact ⟨k + 1, by omega, rfl, by go_num, HN.out, rfl⟩
    · have hki : ¬ (k : Int) < (M : Int) := by omega
      have HN : Hid (r = false) := by show _ = _; rw [← HR.out, List.drop_eq_nil_of_le (by rw [HM.out]; omega)]; rfl
      go_wp2
      go_ret
      exact ⟨by (rw [HN.out]; try rfl), rfl⟩
set_option maxRecDepth 100000 in
set_option maxHeartbeats 16000000 in
theorem rclashes_anyX (n : NN) (a : Option Addr) (c : Nat) (W : World) (h : AtN W a n.arcs) (hroom : n.arcs.length ≤ 4611686018427387904) (al : Option Addr) (cl : Nat) (zs : List Int) (hz : At W al zs) (hzl : zs.length ≤ 4611686018427387904) :
    Calls Tryz.prog 9 #[.agg #[.int .i64 n.nodes, .slice a n.arcs.length c], .slice al zs.length cl] W (CloE n zs W) := by
  obtain ⟨PE, hPE⟩ : ∃ Q, CloE n zs W = Q := ⟨_, rfl⟩
  rw [hPE]
  have HPE := hiddenN hPE
  have b0 := (Below.refl W.heap.size W).alloc (Nat.le_refl _) (.cells #[.int .i64 n.nodes, .slice a n.arcs.length c] 24)
  have B0 := hiddenN b0
  have G0 := hiddenN (blkA_new 24 W #[.int .i64 n.nodes, .slice a n.arcs.length c])
  have AL := hiddenN (ralong_any n a c _ (h.below b0) hroom al cl zs (hz.below b0) hzl)
  have z0 := G0.out.cell (k := 0) rfl
  have z1 := G0.out.cell (k := 1) rfl
  simp only [List.getElem_toArray, List.getElem_cons_zero, List.getElem_cons_succ] at z0 z1
  clear hPE b0 h hz
  by_cases hc : codeV n zs = 0
  · have hl := (code_zero hc).2.1
    have AY : Hid (Calls Tryz.prog 23 #[.agg #[.int .i64 n.nodes, .slice a n.arcs.length c], .slice al zs.length cl] (W.alloc (.cells #[.int .i64 n.nodes, .slice a n.arcs.length c] 24)) fun e w' => ∃ v, e = .returned (.tuple #[v, .int .i64 0]) ∧ LsV w' v (rowsV n (startT n) zs) ∧ Below (W.alloc (.cells #[.int .i64 n.nodes, .slice a n.arcs.length c] 24)).heap.size (W.alloc (.cells #[.int .i64 n.nodes, .slice a n.arcs.length c] 24)) w') := AL.out.mono fun e w' hh => by
      rcases hh with ⟨-, B, v, e1, -, -, q1, q2⟩ | ⟨k1, -⟩
      · exact ⟨v, e1, q1.ls, q2⟩
      · exact absurd hc k1
    have HRL : Hid (∀ k, k < (rowsV n (startT n) zs).length → (nthLV (rowsV n (startT n) zs) k).length = n.arcs.length) := fun k hk => by
      rw [rows_len] at hk
      rw [row_lenV (by omega), start_len]
    have HR6 : Hid ((rowsV n (startT n) zs).length ≤ 1000000) := by show _ ≤ _; rw [rows_len]; omega
    have HT : Hid (cloL n zs = lefK (cloV (rowsV n (startT n) zs)) n.arcs.length 0) := by show _ = _; unfold cloL; rw [if_pos hc, lefK_zero]
    have HFW := hiddenN (cloL_few hc)
    have HEND : Hid (∀ (wz : World) d c', CapPp W.heap.size wz d c' (cloL n zs) → Below W.heap.size W wz → PE (.returned (.tuple #[.slice d (cloL n zs).length c', .int .i64 0])) wz) := fun wz d c' q1 q2 => by
      rw [← HPE.out]
      exact ⟨d, c', by rw [hc], q1, q2⟩
    clear AL hc HPE
    generalize rowsV n (startT n) zs = R at *
    generalize cloL n zs = T at *
    obtain ⟨N, hN⟩ : ∃ N, n.arcs.length = N := ⟨_, rfl⟩
    rw [hN] at HRL HT AY z0 z1 hroom G0 B0 ⊢
    clear hN
    go_enter Tryz.func9, Tryz.ntmps9
    go_upto_region 1 with fail
    generalize W.alloc (.cells #[.int .i64 n.nodes, .slice a N c] 24) = W1 at *
    go_upto_region 5 with (go_at_call 23; (with_reducible refine AY.out.mono ?_); rintro e W2 ⟨v, rfl, q1, q2⟩; have LS := hiddenN q1; have B2 := hiddenN (B0.out.trans (q2.mono B0.out.size)); have G2 := hiddenN (G0.out.below q2); clear q1 q2)
    clear z0 z1 AY G0
    have HQ2 := hiddenN B2.out.size
    go_wp2
    go_loopg [8, 9] N (fun gk u8 u9 wr => ∃ (k : Nat) (d : Option Addr) (c' : Nat) (L : List (Int × Int)), k ≤ N ∧ gk = N - k ∧ u9 = .int .i64 (k : Int) ∧ u8 = .slice d L.length c' ∧ CapPp W2.heap.size wr d c' L ∧ Below W2.heap.size W2 wr ∧ L ++ lefK (cloV R) N k = T)
    case atStart => exact ⟨0, none, 0, [], Nat.zero_le _, rfl, rfl, rfl, CapPp.nil _ _, Below.refl _ _, by rw [List.nil_append]; exact HT.out.symm⟩
    case round =>
      obtain ⟨k, d, c', L, hk, rfl, rfl, rfl, hC, hB, hL⟩ := hrel
      have HCp := hiddenN hC
      have HB := hiddenN hB
      have HLL := hiddenN hL
      have z1 := (G2.out.below hB).cell (k := 1) rfl
      simp only [List.getElem_toArray, List.getElem_cons_zero, List.getElem_cons_succ] at z1
      clear hC hB hL
      by_cases hlt : k < N
      · have hki : (k : Int) < (N : Int) := by omega
        have HLJ : Hid (L ++ lefJ (cloV R) N k (k + 1) = T) := by show _ = _; rw [← lefK_cut hlt]; exact HLL.out
        have w1 : IntKind.i64.wrap ((k : Int) + 1) = (k : Int) + 1 := by rw [IntKind.wrap_i64]; omega
        clear HLL
        go_wp2
        go_loopg [8, 10] (N - (k + 1)) (fun gk u8 u10 wq => ∃ (j : Nat) (d : Option Addr) (c' : Nat) (L : List (Int × Int)), k < j ∧ j ≤ N ∧ gk = N - j ∧ u10 = .int .i64 (j : Int) ∧ u8 = .slice d L.length c' ∧ CapPp W2.heap.size wq d c' L ∧ Below W2.heap.size W2 wq ∧ L ++ lefJ (cloV R) N k j = T)
        case atStart => exact ⟨k + 1, d, c', L, Nat.lt_succ_self _, hlt, rfl, by go_num, rfl, HCp.out, HB.out, HLJ.out⟩
        case round =>
          clear HCp HB HLJ w1 z1
          obtain ⟨j, d, c', L, hkj, hj, rfl, rfl, rfl, hC, hB, hL⟩ := hrel
          have HCp := hiddenN hC
          have HB := hiddenN hB
          have HLL := hiddenN hL
          have z1 := (G2.out.below hB).cell (k := 1) rfl
          simp only [List.getElem_toArray, List.getElem_cons_zero, List.getElem_cons_succ] at z1
          clear hC hB hL
          by_cases hlj : j < N
          · have hji : (j : Int) < (N : Int) := by omega
            have w2 : IntKind.i64.wrap ((j : Int) + 1) = (j : Int) + 1 := by rw [IntKind.wrap_i64]; omega
            have CF := hiddenN (rclash_anyX k j N v R wr (LS.out.below HB.out) HRL.out hlt hlj HR6.out)
            have HLC : Hid (L ++ (if cloV R k j = true then ((k : Int), (j : Int)) :: lefJ (cloV R) N k (j + 1) else lefJ (cloV R) N k (j + 1)) = T) := by
              show _ = _
              rw [← lefJ_cut hlj]
              exact HLL.out
            generalize cloV R k j = r at *
            clear HLL
            cases r with
            | true =>
              have HLT : Hid ((L ++ [((k : Int), (j : Int))]) ++ lefJ (cloV R) N k (j + 1) = T) := by have q := HLC.out; rw [if_pos rfl] at q; rw [List.append_assoc]; exact q
              have HFL : Hid (L.length ≤ 1000000) := HFW.out L _ HLC.out
              clear HLC
              have hGy := hiddenN (blkA_new 34 wr #[.int .i64 (k : Int), .int .i64 (j : Int)])
              have v0 := hGy.out.cell (k := 0) rfl
              have v1 := hGy.out.cell (k := 1) rfl
              simp only [List.getElem_toArray, List.getElem_cons_zero, List.getElem_cons_succ] at v0 v1
              have y4 : Hid (Below wr.heap.size wr (wr.alloc (.cells #[.int .i64 (k : Int), .int .i64 (j : Int)] 34))) := (Below.refl _ _).alloc (Nat.le_refl _) _
              have C4 := hiddenN (HCp.out.later y4.out)
              have B4 := hiddenN (HB.out.trans (y4.out.mono HB.out.size))
              have S4 := hiddenN B4.out.size
              obtain ⟨ln, hln⟩ : ∃ q, L.length = q := ⟨_, rfl⟩
              have HLN := hiddenN hln
              have hfl : ln ≤ 1000000 := by rw [← hln]; exact HFL.out
              rw [hln]
              clear hln
              go_wp2_with (first
                | (at_builtin; refine wpList_appPp1 rfl _ _ rfl W2.heap.size d c' L ln HLN.out rfl C4.out wr.heap.size ((k : Int), (j : Int)) rfl v0 v1 (by omega) S4.out ?_; intro d2 c2 w5 hg; have HG := hiddenN hg; clear hg v0 v1)
                | (go_at_call 24; (with_reducible refine CF.out.mono ?_); rintro e w9 ⟨rfl, h9⟩; obtain rfl : wr = w9 := h9.symm))
              have HB5 := hiddenN (B4.out.trans (HG.out.below S4.out (fun y hy => (C4.out.lt y hy).1)))
              have HL5 : Hid ((L ++ [((k : Int), (j : Int))]).length = ln + 1) := by show _ = _; rw [List.length_append, HLN.out]; rfl
              go_roundg (N - (j + 1))
              case measure => omega
              case rel => exact ⟨j + 1, d2, c2, _, by omega, by omega, rfl, by go_num, by rw [HL5.out], HG.out.own, HB5.out, HLT.out⟩
            | false =>
              have HLT : Hid (L ++ lefJ (cloV R) N k (j + 1) = T) := by have q := HLC.out; rw [if_neg (by decide)] at q; exact q
              clear HLC
              go_wp2_with (go_at_call 24; (with_reducible refine CF.out.mono ?_); rintro e w9 ⟨rfl, h9⟩; obtain rfl : wr = w9 := h9.symm)
              go_roundg (N - (j + 1))
              case measure => omega
              case rel => exact ⟨j + 1, d, c', L, by omega, by omega, rfl, by go_num, rfl, HCp.out, HB.out, HLT.out⟩
          · have hji : ¬ (j : Int) < (N : Int) := by omega
            have HLT : Hid (L ++ lefK (cloV R) N (k + 1) = T) := by show _ = _; rw [← lefJ_end (c := cloV R) (k := k) (show N ≤ j by omega)]; exact HLL.out
            go_wp2
            go_roundg (N - (k + 1))
            case measure => omega
            case rel => exact ⟨k + 1, d, c', L, by omega, rfl, by go_num, rfl, HCp.out, HB.out, HLT.out⟩
      · have hki : ¬ (k : Int) < (N : Int) := by omega
        have HLT : Hid (L = T) := by have q := HLL.out; rw [lefK_end (by omega), List.append_nil] at q; exact q
        have q := HEND.out wr d c' (by rw [← HLT.out]; exact HCp.out.mono HQ2.out) (B2.out.trans (HB.out.mono B2.out.size))
        rw [← HLT.out] at q
        have HF := hiddenN q
        clear q
        go_wp2
        exact HF.out
  · have AY : Hid (Calls Tryz.prog 23 #[.agg #[.int .i64 n.nodes, .slice a n.arcs.length c], .slice al zs.length cl] (W.alloc (.cells #[.int .i64 n.nodes, .slice a n.arcs.length c] 24)) fun e w' => e = .returned (.tuple #[.slice none 0 0, .int .i64 (codeV n zs)]) ∧ Below (W.alloc (.cells #[.int .i64 n.nodes, .slice a n.arcs.length c] 24)).heap.size (W.alloc (.cells #[.int .i64 n.nodes, .slice a n.arcs.length c] 24)) w') := AL.out.mono fun e w' hh => by
      rcases hh with ⟨k1, -⟩ | ⟨-, e1, q⟩
      · exact absurd k1 hc
      · exact ⟨e1, q⟩
    have HEND : Hid (∀ (wz : World), Below W.heap.size W wz → PE (.returned (.tuple #[.slice none 0 0, .int .i64 (codeV n zs)])) wz) := fun wz q2 => by
      rw [← HPE.out]
      have e : cloL n zs = [] := by unfold cloL; rw [if_neg hc]
      refine ⟨none, 0, by rw [e]; rfl, ?_, q2⟩
      rw [e]; exact CapPp.nil _ _
    have qe : (codeV n zs != 0) = true := by simpa using hc
    clear AL hc HPE
    generalize codeV n zs = cv at *
    go_enter Tryz.func9, Tryz.ntmps9
    go_upto_region 1 with fail
    generalize W.alloc (.cells #[.int .i64 n.nodes, .slice a n.arcs.length c] 24) = W1 at *
    go_wp2_with (go_at_call 23; (with_reducible refine AY.out.mono ?_); rintro e W2 ⟨rfl, q2⟩; have B2 := hiddenN (B0.out.trans (q2.mono B0.out.size)); clear q2)
    exact HEND.out _ B2.out
theorem Tryz.sizPpY : (Tryz.prog.info? 34).map (·.size) = some 2 := by kernel_rfl
/-- A row of a call's own, whatever it holds. -/
def RowU (T : TypeId) (s B : Nat) (w : World) (a : Option Addr) (c n : Nat) : Prop := ∃ xs, w.ownsRow B T s (.slice a n c) n xs
section
variable {T : TypeId} {s B : Nat} {w w' : World} {a : Option Addr} {c n : Nat}
theorem RowU.lt (h : RowU T s B w a c n) : ∀ x, a = some x → B ≤ x.block ∧ x.block < w.heap.size := by
  intro x hx
  obtain ⟨xs, h⟩ := h
  rcases h.2 with ⟨hv, -⟩ | ⟨g, cap, cur, hv, hg, hh, -⟩
  · simp at hv; rw [hv.1] at hx; cases hx
  · cases hv
    cases hx
    exact ⟨hg, (Array.getElem?_eq_some_iff.1 hh).1⟩
theorem RowU.some (h : RowU T s B w a c n) (hn : 0 < n) : ∃ g, a = Option.some ⟨g, 0, none⟩ := by
  obtain ⟨xs, h⟩ := h
  rcases h.2 with ⟨-, h0⟩ | ⟨g, cap, cur, hv, -⟩
  · omega
  · cases hv; exact ⟨g, rfl⟩
theorem RowU.there {g : Nat} (h : RowU T s B w (Option.some ⟨g, 0, none⟩) c n) : w.there g 0 (n * s) := by
  obtain ⟨xs, h⟩ := h
  rcases h.2 with ⟨e, -⟩ | ⟨g1, c1, cur, e1, hg, hh, hc, hm, hs, -⟩
  · cases e
  · cases e1
    intro j hj
    have hlt : j < cur.size := by rw [hs]; have : n * s ≤ c * s := Nat.mul_le_mul_right s hc; omega
    have hB : BlkA T g w cur := hh
    rw [Nat.zero_add]
    refine ⟨?_, hB.frozen j⟩
    rw [hB.cell (Array.getElem?_eq_getElem hlt)]
    rfl
theorem RowU.setCells {g : Nat} : ∀ (vs : List Value) (o : Nat) {w : World}, RowU T s B w (Option.some ⟨g, 0, none⟩) c n → RowU T s B (w.setCells g o vs) (Option.some ⟨g, 0, none⟩) c n
  | [], _, _, h => h
  | v :: vs, o, _, h => by
    obtain ⟨xs, h⟩ := h
    exact RowU.setCells vs (o + 1) ⟨_, (World.ownsRow.stored h o v).1⟩
theorem wpList_storeU {ops : Array Oper} {rest : List Oper} {o : Oper} {a : Act} {Q : Exit → Act → World → Prop} (hgd : o.guard = none) (ty : TypeId) (x y : Operand) (ho : o.op = .store ty x y) (hdst : o.dst = none) (g off : Nat) (cells : Array Value) (hx : a.eval x = .pointer (Option.some ⟨g, off, none⟩)) (hy : a.eval y = .agg cells) (hR : RowU T s B w (Option.some ⟨g, 0, none⟩) c n) (hoff : off + cells.size ≤ n * s) (hi : (Tryz.prog.info? ty).map (·.size) = some cells.size) (h1 : cells.toList.all (·.oneCell') = true)
    (h : ∀ w', But g w w' → RowU T s B w' (Option.some ⟨g, 0, none⟩) c n → wpList Tryz.prog ops Q rest a w') : wpList Tryz.prog ops Q (o :: rest) a w := by
  refine wpList_store_mid hgd ty x y ho g off cells hx hy (fun j hj => ?_) hi (by rw [← Array.all_toList]; exact h1) ?_
  · have q := hR.there (off + j) (by omega)
    rw [Nat.zero_add] at q
    exact q
  · rw [hdst]
    exact h _ (setCells_but g _ off w) (hR.setCells _ off)
/-- It has grown; all else stays. -/
structure GrwU (T : TypeId) (s B : Nat) (V : World) (d0 : Option Addr) (u : World) (d : Option Addr) (c n : Nat) : Prop where
  own : RowU T s B u d c n
  keep : ∀ k, k < V.heap.size → (∀ y, d0 = Option.some y → y.block ≠ k) → u.heap[k]? = V.heap[k]?
  new : ∀ z, d = Option.some z → d0 = Option.some z ∨ V.heap.size ≤ z.block
  size : V.heap.size ≤ u.heap.size
  os : u.os = V.os
  tape : u.tape = V.tape
  output : u.output = V.output
theorem wpList_appRowU {ops : Array Oper} {rest : List Oper} {o : Oper} {a : Act} {Q : Exit → Act → World → Prop} (hgd : o.guard = none) (x1 x : Operand) (t : TypeId) (ho : o.op = .call { callee := .builtin .append, args := #[x1, x], argTypes := #[t, t] })
    (ht : Tryz.prog.underlying t = Option.some (.slice T)) (z : Value) (bytes : Nat) (hI : (Tryz.prog.info? T).map (fun i => (i.zero, i.size, i.bytes)) = Option.some (Option.some z, s, bytes)) (hz : z.cells.size = s) (hs0 : 0 < s) (hbt : bytes ≤ 1000)
    (d0 : Option Addr) (c0 : Nat) (hs : a.eval x1 = .slice d0 n c0) (hown : RowU T s B w d0 c0 n) (g : Nat) (cs : List Value) (hx : a.eval x = .slice (Option.some ⟨g, 0, none⟩) 1 1) (hl : cs.length = s) (hc : ∀ j u, cs[j]? = Option.some u → w.cell? ⟨g, j, none⟩ = Option.some u) (h1 : ∀ u ∈ cs, u.oneCell' = true) (hn : n ≤ 100000000) (hB : B ≤ w.heap.size)
    (h : ∀ d c' w', GrwU T s B w d0 w' d c' (n + 1) → wpList Tryz.prog ops Q rest (a.put o.dst (.slice d (n + 1) c')) w') : wpList Tryz.prog ops Q (o :: rest) a w := by
  obtain ⟨xs, hown⟩ := hown
  obtain ⟨i1, hi1, hy0, hy1, hy2⟩ := info_parts hI
  refine wpList_append_told (P := Tryz.prog) w hgd x1 x t ho B T i1 z s bytes ht hi1 hy0 hy1 hy2 hz hs0 (.slice d0 n c0) n xs hs hown ⟨g, 0, none⟩ 1 1 (by decide) cs hx (by rw [hl, Nat.one_mul]) (fun j u hu => by
    have := hc j u hu
    by_cases hj : j = 0
    · subst hj; simpa [Addr.add] using this
    · simpa [Addr.add, hj] using this) h1 (by unfold maxLen; omega) (by
      have h2 : (n + 1) * bytes ≤ (100000000 + 1) * 1000 := Nat.mul_le_mul (by omega) hbt
      omega) hB ?_
  intro v' w' h2 h3
  rcases h3 with ⟨g1, cap, e1, rfl, hg⟩ | ⟨cap, rfl, hg⟩
  · cases e1
    refine h _ _ w' ⟨⟨_, h2⟩, fun k hk hne => ?_, fun z hz => .inl hz, hg.size, hg.os, hg.tape, hg.output⟩
    exact hg.block k hk (fun e => by cases e; exact hne _ rfl rfl)
  · refine h _ _ w' ⟨⟨_, h2⟩, fun k hk hne => ?_, fun z hz => by cases hz; exact .inr (Nat.le_refl _), hg.size, hg.os, hg.tape, hg.output⟩
    exact hg.block k hk (fun e => by cases e)
theorem ButO.belowU {d : Option Addr} {Q : Nat} (h : ButO d w w') (hQ : Q ≤ w.heap.size) (hd : ∀ y, d = Option.some y → Q ≤ y.block) : Below Q w w' := ⟨h.os, h.tape, h.output, h.size, fun k hk => h.block k (by omega) (fun y hy => by have := hd y hy; omega)⟩
end
set_option maxRecDepth 100000 in
set_option maxHeartbeats 4000000 in
theorem samePairs_anyX (a1 a2 : Option Addr) (n c1 c2 : Nat) (L : List (Int × Int)) (W : World) (h1 : AtPp W a1 L) (h2 : AtPp W a2 L) (hl : L.length = n) (hn : n ≤ 4611686018427387904) :
    Calls Tryz.prog 10 #[.slice a1 n c1, .slice a2 n c2] W fun e w' => e = .returned (.bool true) ∧ Below W.heap.size W w' := by
  have H1 := hiddenN h1
  have H2 := hiddenN h2
  have HLN := hiddenN hl
  have q0 : ((n : Int) != (n : Int)) = false := by simp
  clear h1 h2 hl
  go_enter Tryz.func10, Tryz.ntmps10
  go_wp2
  clear q0
  go_loopg [5] n (fun gk u wr => ∃ k : Nat, k ≤ n ∧ gk = n - k ∧ u = .int .i64 (k : Int) ∧ Below W.heap.size W wr)
  case atStart => exact ⟨0, Nat.zero_le _, rfl, rfl, Below.refl _ _⟩
  case round =>
    obtain ⟨k, hk, rfl, rfl, hB⟩ := hrel
    have HB := hiddenN hB
    clear hB
    by_cases hlt : k < n
    · have hki : (k : Int) < (n : Int) := by omega
      have hkL : k < L.length := by rw [HLN.out]; exact hlt
      rcases H1.out.below HB.out with e | ⟨b, off, rfl, hc⟩
      · rw [e] at hkL; exact absurd hkL (Nat.not_lt_zero _)
      rcases H2.out.below HB.out with e | ⟨b2, off2, rfl, hd⟩
      · rw [e] at hkL; exact absurd hkL (Nat.not_lt_zero _)
      obtain ⟨c0, c1⟩ := hc k hkL
      obtain ⟨d0, d1⟩ := hd k hkL
      generalize nthX L k = x at *
      obtain ⟨xb, xs⟩ := x
      simp only at c0 c1 d0 d1
      have hgd : ∀ (op : BinOp) (a b : Operand) (xs ys : Array Value) (w : World), Sem.run Tryz.prog (eqGuard op 34 a b (.agg xs) (.agg ys)) w = .ok () w := Tryz.eqgPp
      have heq : ∀ w, Sem.run Tryz.prog (binOp .neq 34 (.agg #[.int .i64 xb, .int .i64 xs]) (.agg #[.int .i64 xb, .int .i64 xs])) w = .ok (.bool false) w := fun w => by rw [Tryz.neqPp]; simp
      clear hc hd hkL
      go_upto_region 6 with fail
      try dsimp only [List.append_eq, List.cons_append, List.nil_append]
      go_quiet (fail)
      go_wp2
      go_roundg (n - (k + 1))
      case measure => omega
      case rel => exact ⟨k + 1, by omega, rfl, by go_num, drewB HB.out _⟩
    · have hki : ¬ (k : Int) < (n : Int) := by omega
      go_wp2
      go_ret
      exact ⟨rfl, HB.out⟩
set_option maxRecDepth 100000 in
set_option maxHeartbeats 16000000 in
theorem packClashes_walk (n : NN) (a : Option Addr) (c : Nat) (a1 : Option Addr) (len1 cap1 : Nat) (zs : List Int) (w : World) (h : ArgN w a c n) (h1 : Arg w a1 len1 cap1 zs) : Calls Tryz.prog 3 #[.agg #[.int .i64 n.nodes, .slice a n.arcs.length c], .slice a1 len1 cap1] w fun e w' => e = .returned (.bool true) ∧ Below w.heap.size w w' := by
  obtain rfl := h1.size
  have b0 := (Below.refl w.heap.size w).alloc (Nat.le_refl _) (.cells #[.int .i64 n.nodes, .slice a n.arcs.length c] 24)
  have G0 := hiddenN (blkA_new 24 w #[.int .i64 n.nodes, .slice a n.arcs.length c])
  have B0 := hiddenN b0
  have HA := hiddenN h
  have H1 := hiddenN h1
  have hroom : n.arcs.length ≤ 4611686018427387904 := by have := h.room; omega
  have hzl : zs.length ≤ 4611686018427387904 := by have := h1.reach; omega
  have LN : Hid (∀ U, Below w.heap.size w U → Calls Tryz.prog 6 #[.agg #[.int .i64 n.nodes, .slice a n.arcs.length c]] U (LentE n U)) := fun U hb => lentNet_any n a c U (HA.out.below hb)
  have AW : Hid (∀ U, Calls Tryz.prog 11 #[] U fun e w' => e = .returned (.bool true) ∧ Below U.heap.size U w') := fun U => awakeX U
  have z0 := G0.out.cell (k := 0) rfl
  have z1 := G0.out.cell (k := 1) rfl
  simp only [List.getElem_toArray, List.getElem_cons_zero, List.getElem_cons_succ] at z0 z1
  clear b0 h h1
  have CA : Hid (∀ U x y cx cy, AtN U (some x) n.arcs → At U y zs → Calls Tryz.prog 8 #[.agg #[.int .i64 n.nodes, .slice (some x) n.arcs.length cx], .slice y zs.length cy] U (CloE n zs U)) := fun U x y cx cy q1 q2 => clashes_anyX n (some x) cx U q1 hroom (fun e => by cases e) y cy zs q2 hzl
  have CW : Hid (∀ U, Below w.heap.size w U → Calls Tryz.prog 9 #[.agg #[.int .i64 n.nodes, .slice a n.arcs.length c], .slice a1 zs.length cap1] U (CloE n zs U)) := fun U hb => rclashes_anyX n a c U ((HA.out.below hb).lies) hroom a1 cap1 zs ((H1.out.below hb).lies) hzl
  have HM6 : Hid ((cloL n zs).length ≤ 1000000) := by
    show _ ≤ _
    by_cases hc : codeV n zs = 0
    · exact cloL_few hc (cloL n zs) [] (List.append_nil _)
    · unfold cloL; rw [if_neg hc]; exact Nat.zero_le _
  unfold CloE at CA CW
  generalize cloL n zs = CL at *
  generalize codeV n zs = cd at *
  obtain ⟨m, hm⟩ : ∃ q, CL.length = q := ⟨_, rfl⟩
  have HML := hiddenN hm
  rw [hm] at CA CW HM6
  have SP : Hid (∀ U (x y : Option Addr) cx cy, AtPp U x CL → AtPp U y CL → Calls Tryz.prog 10 #[.slice x m cx, .slice y m cy] U fun e w' => e = .returned (.bool true) ∧ Below U.heap.size U w') := fun U x y cx cy q1 q2 => samePairs_anyX x y m cx cy CL U q1 q2 HML.out (by have := HM6.out; omega)
  have qd : (cd != cd) = false := by simp
  clear hm
  have LD : Hid (∀ U, Below w.heap.size w U → Calls Tryz.prog 7 #[.slice a1 zs.length cap1] U fun e w' => ∃ gl, e = .returned (.slice (some ⟨gl, 0, none⟩) zs.length (zs.length + 4)) ∧ Lend U.heap.size w' gl zs.length zs ∧ Below U.heap.size U w') := fun U hb => lent_any a1 zs zs.length cap1 U (H1.out.below hb)
  go_enter Tryz.func3, Tryz.ntmps3
  go_upto_region 1 with fail
  generalize w.alloc (.cells #[.int .i64 n.nodes, .slice a n.arcs.length c] 24) = W0 at *
  go_upto_region 2 with (go_at_call 6; (with_reducible refine (LN.out _ B0.out).mono ?_); rintro e W1 ⟨g, gc, rfl, q1, q2⟩; have E1 := hiddenN q1; have L1 := hiddenN (B0.out.trans (q2.mono B0.out.size)); have G1 := hiddenN (G0.out.below q2); have h01 := hiddenN q2.size; clear q1 q2 z0 z1)
  have bM := (Below.refl W1.heap.size W1).alloc (Nat.le_refl _) (.cells #[.int .i64 n.nodes, .slice (some ⟨g, 0, none⟩) n.arcs.length gc] 24)
  have XM := hiddenN (blkA_new 24 W1 #[.int .i64 n.nodes, .slice (some ⟨g, 0, none⟩) n.arcs.length gc])
  have E2 := hiddenN (E1.out.below bM)
  have L2 := hiddenN (L1.out.trans (bM.mono L1.out.size))
  have G2 := hiddenN (G1.out.below bM)
  have hsM := hiddenN bM.size
  generalize W1.alloc (.cells #[.int .i64 n.nodes, .slice (some ⟨g, 0, none⟩) n.arcs.length gc] 24) = W2 at *
  clear bM
  go_upto_region 3 with (go_at_call 7; (with_reducible refine (LD.out _ L2.out).mono ?_); rintro e W3 ⟨gl, rfl, q1, q2⟩; have D3 := hiddenN q1; have HD0 := hiddenN (show HdV w W3 n a c g gc gl W1.heap.size W3.heap.size zs from ⟨G2.out.below q2, XM.out.below q2, ⟨Nat.le_trans B0.out.size E1.out.low, (E2.out.below q2).lt, E2.out.cap, (E2.out.below q2).all⟩, ⟨Nat.le_trans L2.out.size q1.1, q1.2⟩, L2.out.trans (q2.mono L2.out.size), (G2.out.below q2).lt, (XM.out.below q2).lt, (E2.out.below q2).lt, q1.lt.2, Nat.le_refl _⟩); clear q1 q2)
  obtain ⟨mb, hmb⟩ : ∃ q, W1.heap.size = q := ⟨_, rfl⟩
  obtain ⟨Q, hQ⟩ : ∃ q, W3.heap.size = q := ⟨_, rfl⟩
  have HD3 := HD0
  rw [hQ] at HD3
  have HQ := hiddenN hQ
  clear LD LN G0 G1 E1 L1 h01 XM E2 L2 G2 hsM D3 HD0 hQ hmb
  have m0 := HD3.out.box.cell (k := 0) rfl; have m1 := HD3.out.box.cell (k := 1) rfl; simp only [List.getElem_toArray, List.getElem_cons_zero, List.getElem_cons_succ] at m0 m1
  go_upto_region 4 with (go_at_call 8; (with_reducible refine (CA.out _ ⟨g, 0, none⟩ (some ⟨gl, 0, none⟩) gc (zs.length + 4) HD3.out.ldn.at HD3.out.lst.at).mono ?_); rintro e W4 ⟨d1, c1, rfl, q1, q2⟩; have HD4 := hiddenN (HD3.out.below q2); have A4 := hiddenN q1; have S34 := hiddenN q2.size; clear q2 q1)
  have m0 := HD4.out.box.cell (k := 0) rfl; have m1 := HD4.out.box.cell (k := 1) rfl; simp only [List.getElem_toArray, List.getElem_cons_zero, List.getElem_cons_succ] at m0 m1
  have z0 := HD4.out.net.cell (k := 0) rfl; have z1 := HD4.out.net.cell (k := 1) rfl; simp only [List.getElem_toArray, List.getElem_cons_zero, List.getElem_cons_succ] at z0 z1
  clear HD3
  go_upto_region 5 with (go_at_call 8; (with_reducible refine (CA.out _ ⟨g, 0, none⟩ (some ⟨gl, 0, none⟩) gc (zs.length + 4) HD4.out.ldn.at HD4.out.lst.at).mono ?_); rintro e W5 ⟨d2, c2, rfl, q1, q2⟩; have HD5 := hiddenN (HD4.out.below q2); have A5 := hiddenN (A4.out.later q2); have F5 := hiddenN q1; have S45 := hiddenN q2.size; clear q2 q1)
  have m0 := HD5.out.box.cell (k := 0) rfl; have m1 := HD5.out.box.cell (k := 1) rfl; simp only [List.getElem_toArray, List.getElem_cons_zero, List.getElem_cons_succ] at m0 m1
  have z0 := HD5.out.net.cell (k := 0) rfl; have z1 := HD5.out.net.cell (k := 1) rfl; simp only [List.getElem_toArray, List.getElem_cons_zero, List.getElem_cons_succ] at z0 z1
  clear HD4
  go_upto_region 6 with (go_at_call 9; (with_reducible refine (CW.out _ HD5.out.bel).mono ?_); rintro e W6 ⟨d3, c3, rfl, q1, q2⟩; have HD6 := hiddenN (HD5.out.below q2); have A6 := hiddenN (A5.out.later q2); have F6 := hiddenN (F5.out.later q2); have C6 := hiddenN q1; have S56 := hiddenN q2.size; clear q2 q1)
  have m0 := HD6.out.box.cell (k := 0) rfl; have m1 := HD6.out.box.cell (k := 1) rfl; simp only [List.getElem_toArray, List.getElem_cons_zero, List.getElem_cons_succ] at m0 m1
  have z0 := HD6.out.net.cell (k := 0) rfl; have z1 := HD6.out.net.cell (k := 1) rfl; simp only [List.getElem_toArray, List.getElem_cons_zero, List.getElem_cons_succ] at z0 z1
  clear HD5
  have AL : Hid (∀ y, d1 = some y → Q ≤ y.block ∧ y.block < W4.heap.size) := fun y hy => by have := A4.out.lt y hy; rw [HQ.out] at this; exact this
  clear A4 A5 F5 CA CW
  go_upto_region 8 with (first
    | (go_at_call 10; (with_reducible refine (SP.out _ _ _ _ _ F7.out.at C7.out.at).mono ?_); rintro e W8 ⟨rfl, q2⟩; have HD8 := hiddenN (HD7.out.below q2); have A8 := hiddenN (A7.out.later q2); have F8 := hiddenN (F7.out.later q2); have C8 := hiddenN (C7.out.later q2); have S78 := hiddenN q2.size; clear q2)
    | (go_at_call 10; (with_reducible refine (SP.out _ _ _ _ _ A6.out.at C6.out.at).mono ?_); rintro e W7 ⟨rfl, q2⟩; have HD7 := hiddenN (HD6.out.below q2); have A7 := hiddenN (A6.out.later q2); have F7 := hiddenN (F6.out.later q2); have C7 := hiddenN (C6.out.later q2); have S67 := hiddenN q2.size; clear q2))
  clear HD7 A6 A7 F6 F7 C6 C7 HD6 m0 m1 z0 z1
  have RA : Hid (RowU 34 2 Q W8 d1 c1 m) := ⟨_, by have q := A8.out; unfold CapPp at q; rw [HML.out, HQ.out] at q; exact q⟩
  have SZ : Hid (W4.heap.size ≤ W8.heap.size) := by show _ ≤ _; have := S45.out; have := S56.out; have := S67.out; have := S78.out; omega
  have LF : Hid (∀ y, d2 = some y → W4.heap.size ≤ y.block ∧ y.block < W8.heap.size) := fun y hy => F8.out.lt y hy
  have LC : Hid (∀ y, d3 = some y → W4.heap.size ≤ y.block ∧ y.block < W8.heap.size) := fun y hy => by have := C8.out.lt y hy; have := S45.out; omega
  have HM := HM6.out
  clear A8 S45 S56 S67 S78 S34
  go_wp2
  go_loopg [13] m (fun gk u wr => ∃ i : Nat, i ≤ m ∧ gk = m - i ∧ u = .int .i64 (i : Int) ∧ RowU 34 2 Q wr d1 c1 m ∧ ButO d1 W8 wr)
  case atStart => exact ⟨0, Nat.zero_le _, rfl, rfl, RA.out, ButO.refl _ _⟩
  case round =>
    obtain ⟨i, hi, rfl, rfl, hr, hb⟩ := hrel
    have HR := hiddenN hr
    have HBt := hiddenN hb
    clear hr hb
    by_cases hlt : i < m
    · have hii : (i : Int) < (m : Int) := by omega
      obtain ⟨gd, ed⟩ := HR.out.some (by omega)
      subst ed
      have hoff : i * 2 + 2 ≤ m * 2 := by omega
      go_wp2_with (refine wpList_storeU rfl 34 (.tmp 66) (.tmp 65) rfl rfl gd (i * 2) #[.int .i64 (-7), .int .i64 (-7)] rfl rfl HR.out hoff Tryz.sizPpY rfl ?_; intro w9 hb9 hr9; have HR9 := hiddenN hr9; have HB9 := hiddenN (HBt.out.but hb9); clear hb9 hr9)
      go_roundg (m - (i + 1))
      case measure => omega
      case rel => exact ⟨i + 1, by omega, rfl, by go_num, HR9.out, HB9.out⟩
    · have hii : ¬ (i : Int) < (m : Int) := by omega
      clear RA hlt hi
      generalize wr = V0 at *
      go_wp2
      go_loopg [7, 14] 16 (fun gk u7 u14 wr => ∃ (j : Nat) (d9 : Option Addr) (c9 : Nat), j ≤ 16 ∧ gk = 16 - j ∧ u14 = .int .i64 (j : Int) ∧ u7 = .slice d9 (m + j) c9 ∧ RowU 34 2 Q wr d9 c9 (m + j) ∧ (d9 = d1 ∨ ∀ y, d9 = some y → W8.heap.size ≤ y.block) ∧ ButO d1 W8 wr)
      case atStart => exact ⟨0, d1, c1, Nat.zero_le _, rfl, rfl, rfl, HR.out, .inl rfl, HBt.out⟩
      case round =>
        clear HR HBt
        obtain ⟨j, d9, c9, hj, rfl, rfl, rfl, hr, hd, hb⟩ := hrel
        have HR := hiddenN hr
        have HDD := hiddenN hd
        have HBt := hiddenN hb
        clear hr hd hb
        by_cases hlt : j < 16
        · have hji : (j : Int) < 16 := by omega
          have b7 := (Below.refl wr.heap.size wr).alloc (Nat.le_refl _) (.cells #[.int .i64 (-8), .int .i64 (-8)] 34)
          have HR7 : Hid (RowU 34 2 Q (wr.alloc (.cells #[.int .i64 (-8), .int .i64 (-8)] 34)) d9 c9 (m + j)) := by
            obtain ⟨xs, q⟩ := HR.out
            refine ⟨xs, q.1, ?_⟩
            rcases q.2 with h2 | ⟨g1, cap, cur, hv, hg, hh, r⟩
            · exact .inl h2
            · exact .inr ⟨g1, cap, cur, hv, hg, by rw [b7.block _ (Array.getElem?_eq_some_iff.1 hh).1]; exact hh, r⟩
          have CX : Hid (∀ k u, [Value.int .i64 (-8), .int .i64 (-8)][k]? = some u → (wr.alloc (.cells #[.int .i64 (-8), .int .i64 (-8)] 34)).cell? ⟨wr.heap.size, k, none⟩ = some u) := (fun k u hu => (blkA_new 34 wr #[.int .i64 (-8), .int .i64 (-8)]).cell (by rw [← Array.getElem?_toList]; exact hu))
          have BQ : Hid (Q ≤ (wr.alloc (.cells #[.int .i64 (-8), .int .i64 (-8)] 34)).heap.size) := by show _ ≤ _; have := b7.size; have := HBt.out.size; have := HD8.out.low.2.2.2.2; omega
          have B7 := hiddenN b7
          clear b7
          go_wp2_with (at_builtin; refine wpList_appRowU (n := m + j) rfl _ _ 28 rfl Tryz.underlying28 _ 16 Tryz.infoPp rfl (by decide) (by decide) d9 c9 rfl HR7.out wr.heap.size [.int .i64 (-8), .int .i64 (-8)] rfl rfl CX.out (fun u hu => by simp at hu; subst hu; rfl) (by omega) BQ.out ?_; intro da ca w9 hg; have HG := hiddenN hg; clear hg)
          have HD9 : Hid (da = d1 ∨ ∀ y, da = some y → W8.heap.size ≤ y.block) := by
            show _ ∨ _
            cases ea : da with
            | none => exact .inr fun y hy => by cases hy
            | some z =>
              rcases HG.out.new z ea with e | e
              · rcases HDD.out with e2 | e2
                · exact .inl (by rw [← e, e2])
                · exact .inr fun y hy => by cases hy; exact e2 z e
              · exact .inr fun y hy => by cases hy; have := B7.out.size; have := HBt.out.size; omega
          have HB9 : Hid (ButO d1 W8 w9) := by
            have hs1 := HBt.out.size
            have hs2 := B7.out.size
            refine ⟨HG.out.os.trans (B7.out.os.trans HBt.out.os), HG.out.tape.trans (B7.out.tape.trans HBt.out.tape), HG.out.output.trans (B7.out.output.trans HBt.out.output), Nat.le_trans hs1 (Nat.le_trans hs2 HG.out.size), fun k hk hne => ?_⟩
            refine (HG.out.keep k (by omega) (fun y hy => ?_)).trans ((B7.out.block k (by omega)).trans (HBt.out.block k hk hne))
            rcases HDD.out with e2 | e2
            · exact hne y (by rw [← e2]; exact hy)
            · have := e2 y hy; omega
          go_roundg (16 - (j + 1))
          case measure => omega
          case rel => exact ⟨j + 1, da, ca, by omega, rfl, by go_num, by rw [Nat.add_assoc], HG.out.own, HD9.out, HB9.out⟩
        · have hji : ¬ (j : Int) < 16 := by omega
          have bel := HBt.out.belowU (Q := Q) HD8.out.low.2.2.2.2 (fun y hy => (AL.out y hy).1)
          have HDE := hiddenN (HD8.out.keep bel)
          have FE := hiddenN (F8.out.keep fun y hy => HBt.out.block y.block (LF.out y hy).2 (fun z hz => by have := (AL.out z hz).2; have := (LF.out y hy).1; omega))
          have CE := hiddenN (C8.out.keep fun y hy => HBt.out.block y.block (LC.out y hy).2 (fun z hz => by have := (AL.out z hz).2; have := (LC.out y hy).1; omega))
          clear bel HR HDD HBt HD8 F8 C8
          go_wp2_with (first
            | (go_at_call 11; (with_reducible refine (AW.out _).mono ?_); rintro e VV ⟨rfl, q2⟩; have HDA := hiddenN (HDE.out.below q2); have FA := hiddenN (FE.out.later q2); have CA := hiddenN (CE.out.later q2); clear q2)
            | (go_at_call 10; (with_reducible refine (SP.out _ _ _ _ _ FA.out.at CA.out.at).mono ?_); rintro e VC ⟨rfl, q2⟩; have HDC := hiddenN (HDA.out.below q2); have z0 := HDC.out.net.cell (k := 0) rfl; have z1 := HDC.out.net.cell (k := 1) rfl; simp only [List.getElem_toArray, List.getElem_cons_zero, List.getElem_cons_succ] at z0 z1; have m0 := HDC.out.box.cell (k := 0) rfl; have m1 := HDC.out.box.cell (k := 1) rfl; simp only [List.getElem_toArray, List.getElem_cons_zero, List.getElem_cons_succ] at m0 m1; have KN := hiddenN (keptNet_any n g gc a c VC HDC.out.ldn (HA.out.below HDC.out.bel)); clear q2)
            | (go_at_call 12; (with_reducible refine KN.out.mono ?_); rintro e VK ⟨rfl, q2⟩; have HDK := hiddenN (HDC.out.below q2); have KP := hiddenN (kept_any gl a1 zs zs.length cap1 _ VK HDK.out.lst (H1.out.below HDK.out.bel)); clear q2)
            | (go_at_call 13; (with_reducible refine KP.out.mono ?_); rintro e VL ⟨m8, rfl, rfl⟩))
          go_ret
          exact ⟨by first | rfl | simp, drewB HDK.out.bel _⟩
end Go.Proofs.YtimioiaoefhabaaGreat

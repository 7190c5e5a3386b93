/- Texts of one chain, laid one behind the other. -/
import Derived.Test.YtkgekladndkhkaaPartPeaksAlong17
import Derived.Test.YtkgekladndkhkaaPartPeaksAlong16
namespace Go.Proofs.Ytkgekladndkhkaa
open Go.ChangeShapes Go.WideShapes Go.ChangeAt Go.RowKit
def netV : NN := ⟨2, [⟨0, 1, 2, 3, 0⟩, ⟨1, 0, 3, 2, 4⟩]⟩
theorem wakeV1 : codeV netV [0, 0, 1] = 0 ∧ rowsV netV (startT netV) [0, 0, 1] = [[0, 4], [2, 2], [4, 0], [1, 3]] ∧ mostM netV [0, 0, 1] = [4, 4] ∧ homeB netV [0, 0, 1] = false := by decide +kernel
theorem wakeV2 : codeV netV [0, 0, 1, 0, 1] = 0 ∧ homeB netV [0, 0, 1, 0, 1] = true ∧ codeV netV [1] = 180 := by decide +kernel
theorem at_allocV3 (U : World) (p0 p1 p2 : Int) : At (U.alloc (.cells #[.int .i64 p0, .int .i64 p1, .int .i64 p2] 3)) (some ⟨U.heap.size, 0, none⟩) [p0, p1, p2] := by
  refine .inr ⟨U.heap.size, 0, rfl, fun k hk => ?_⟩
  have b := blkA_new 3 U #[.int .i64 p0, .int .i64 p1, .int .i64 p2]
  match k, hk with
  | 0, _ => exact b.cell rfl
  | 1, _ => exact b.cell rfl
  | 2, _ => exact b.cell rfl
theorem at_allocV5 (U : World) (p0 p1 p2 p3 p4 : Int) : At (U.alloc (.cells #[.int .i64 p0, .int .i64 p1, .int .i64 p2, .int .i64 p3, .int .i64 p4] 3)) (some ⟨U.heap.size, 0, none⟩) [p0, p1, p2, p3, p4] := by
  refine .inr ⟨U.heap.size, 0, rfl, fun k hk => ?_⟩
  have b := blkA_new 3 U #[.int .i64 p0, .int .i64 p1, .int .i64 p2, .int .i64 p3, .int .i64 p4]
  match k, hk with
  | 0, _ => exact b.cell rfl
  | 1, _ => exact b.cell rfl
  | 2, _ => exact b.cell rfl
  | 3, _ => exact b.cell rfl
  | 4, _ => exact b.cell rfl
theorem alongW1 (w : World) (x y : Addr) (h : AtN w (some x) netV.arcs) (hz : At w (some y) [0, 0, 1]) : Calls Try.prog 11 #[.agg #[.int .i64 2, .slice (some x) 2 2], .slice (some y) 3 3] w fun e w' => ∃ v, e = .returned (.tuple #[v, .int .i64 0]) ∧ LsV w' v [[0, 4], [2, 2], [4, 0], [1, 3]] ∧ Below w.heap.size w w' :=
  (along_any netV (some x) 2 w h (by decide) (fun e => by cases e) (some y) 3 [0, 0, 1] hz (by decide)).mono fun e w' hh => by
    rcases hh with ⟨-, B, v, e1, -, -, q1, q2⟩ | ⟨k1, -⟩
    · refine ⟨v, e1, ?_, q2⟩
      have q := q1.ls
      rw [wakeV1.2.1] at q
      exact q
    · exact absurd wakeV1.1 k1
theorem mostW1 (w : World) (x y : Addr) (h : AtN w (some x) netV.arcs) (hz : At w (some y) [0, 0, 1]) : Calls Try.prog 18 #[.agg #[.int .i64 2, .slice (some x) 2 2], .slice (some y) 3 3] w fun e w' => ∃ a c, e = .returned (.tuple #[.slice a 2 c, .int .i64 0]) ∧ At w' a [4, 4] ∧ Below w.heap.size w w' :=
  (most_anyV netV (some x) 2 w h (fun e => by cases e) (some y) 3 [0, 0, 1] hz (by decide) (by decide)).mono fun e w' hh => by
    rcases hh with ⟨-, B, a, c, e1, -, -, q1, q2⟩ | ⟨k1, -⟩
    · refine ⟨a, c, e1, ?_, q2⟩
      have q := q1.at
      rw [wakeV1.2.2.1] at q
      exact q
    · exact absurd wakeV1.1 k1
theorem homeW1 (w : World) (x y : Addr) (h : AtN w (some x) netV.arcs) (hz : At w (some y) [0, 0, 1]) : Calls Try.prog 21 #[.agg #[.int .i64 2, .slice (some x) 2 2], .slice (some y) 3 3] w fun e w' => e = .returned (.tuple #[.bool false, .int .i64 0]) ∧ Below w.heap.size w w' :=
  (home_anyV netV (some x) 2 w h (by decide) (fun e => by cases e) (some y) 3 [0, 0, 1] hz (by decide)).mono fun e w' ⟨e1, e2⟩ => by
    rw [wakeV1.2.2.2, wakeV1.1] at e1
    exact ⟨e1, e2⟩
theorem homeW2 (w : World) (x y : Addr) (h : AtN w (some x) netV.arcs) (hz : At w (some y) [0, 0, 1, 0, 1]) : Calls Try.prog 21 #[.agg #[.int .i64 2, .slice (some x) 2 2], .slice (some y) 5 5] w fun e w' => e = .returned (.tuple #[.bool true, .int .i64 0]) ∧ Below w.heap.size w w' :=
  (home_anyV netV (some x) 2 w h (by decide) (fun e => by cases e) (some y) 5 [0, 0, 1, 0, 1] hz (by decide)).mono fun e w' ⟨e1, e2⟩ => by
    rw [wakeV2.2.1, wakeV2.1] at e1
    exact ⟨e1, e2⟩
theorem alongW2 (w : World) (x y : Addr) (h : AtN w (some x) netV.arcs) (hz : At w (some y) [1]) : Calls Try.prog 11 #[.agg #[.int .i64 2, .slice (some x) 2 2], .slice (some y) 1 1] w fun e w' => e = .returned (.tuple #[.slice none 0 0, .int .i64 180]) ∧ Below w.heap.size w w' :=
  (along_any netV (some x) 2 w h (by decide) (fun e => by cases e) (some y) 1 [1] hz (by decide)).mono fun e w' hh => by
    rcases hh with ⟨k1, -⟩ | ⟨-, e1, q2⟩
    · rw [wakeV2.2.2] at k1; cases k1
    · rw [wakeV2.2.2] at e1; exact ⟨e1, q2⟩
theorem atN_alloc2V (U : World) : AtN (U.alloc (.cells #[.int .i64 0, .int .i64 1, .int .i64 2, .int .i64 3, .int .i64 0, .int .i64 1, .int .i64 0, .int .i64 3, .int .i64 2, .int .i64 4] 50)) (some ⟨U.heap.size, 0, none⟩) netV.arcs := by
  refine .inr ⟨U.heap.size, 0, rfl, fun k hk => ?_⟩
  have b := blkA_new 50 U #[.int .i64 0, .int .i64 1, .int .i64 2, .int .i64 3, .int .i64 0, .int .i64 1, .int .i64 0, .int .i64 3, .int .i64 2, .int .i64 4]
  match k, hk with
  | 0, _ => exact ⟨b.cell rfl, b.cell rfl, b.cell rfl, b.cell rfl, b.cell rfl⟩
  | 1, _ => exact ⟨b.cell rfl, b.cell rfl, b.cell rfl, b.cell rfl, b.cell rfl⟩
set_option maxRecDepth 100000 in
set_option maxHeartbeats 4000000 in
theorem two_any (w : World) : Calls Try.prog 35 #[] w fun e w' => ∃ x, e = .returned (.agg #[.int .i64 2, .slice (some x) 2 2]) ∧ AtN w' (some x) netV.arcs ∧ Below w.heap.size w w' := by
  have b0 := (Below.refl w.heap.size w).alloc (Nat.le_refl _) (.cells #[.int .i64 0, .slice none 0 0] 24)
  have G0 := hiddenN (blkA_new 24 w #[.int .i64 0, .slice none 0 0])
  have B0 := hiddenN b0
  clear b0
  go_enter Try.func35, Try.ntmps35
  go_upto_region 1 with fail
  generalize w.alloc (.cells #[.int .i64 0, .slice none 0 0] 24) = W0 at *
  have a1 := (Below.refl W0.heap.size W0).alloc (Nat.le_refl _) (.cells #[.int .i64 0, .int .i64 1, .int .i64 2, .int .i64 3, .int .i64 0, .int .i64 1, .int .i64 0, .int .i64 3, .int .i64 2, .int .i64 4] 50)
  have H1 := hiddenN (atN_alloc2V W0)
  have A1 := hiddenN a1
  have G1 := hiddenN (G0.out.below a1)
  clear a1
  have hlt := G0.out.lt
  go_wp2_with (refine wpList_storeW _ rfl 24 (.tmp 0) (.tmp 4) rfl rfl w.heap.size 24 _ _ rfl rfl G1.out sizNet rfl rfl ?_; intro w8 hN hU; have N8 := hiddenN hN; have U8 := hiddenN hU; clear hN hU)
  have t0 : w8.cell? ⟨w.heap.size, 0, none⟩ = some (.int .i64 2) := N8.out.cell rfl
  have t1 : w8.cell? ⟨w.heap.size, 1, none⟩ = some (.slice (some ⟨W0.heap.size, 0, none⟩) 2 2) := N8.out.cell rfl
  refine bodyPost_ret (v := .agg #[.int .i64 2, .slice (some ⟨W0.heap.size, 0, none⟩) 2 2]) (by simp [results, Try.results35, go_sem, t0, t1]) rfl ?_
  have hs1 : (W0.alloc (.cells #[.int .i64 0, .int .i64 1, .int .i64 2, .int .i64 3, .int .i64 0, .int .i64 1, .int .i64 0, .int .i64 3, .int .i64 2, .int .i64 4] 50)).heap.size = W0.heap.size + 1 := World.size_alloc _ _
  exact ⟨_, rfl, H1.out.keep fun x hx => by cases hx; exact U8.out.block _ (by show W0.heap.size < _; omega) (by show W0.heap.size ≠ w.heap.size; omega), B0.out.trans ((A1.out.mono B0.out.size).trans (U8.out.below (Nat.le_refl _) (Nat.le_trans B0.out.size A1.out.size)))⟩
theorem want_ls (W : World) : LsV ((((((W).alloc (.cells #[.int .i64 0, .int .i64 4] 3)).alloc (.cells #[.int .i64 2, .int .i64 2] 3)).alloc (.cells #[.int .i64 4, .int .i64 0] 3)).alloc (.cells #[.int .i64 1, .int .i64 3] 3)).alloc (.cells #[.slice (some ⟨W.heap.size, 0, none⟩) 2 2, .slice (some ⟨W.heap.size + 1, 0, none⟩) 2 2, .slice (some ⟨W.heap.size + 2, 0, none⟩) 2 2, .slice (some ⟨W.heap.size + 3, 0, none⟩) 2 2] 25)) (.slice (some ⟨W.heap.size + 4, 0, none⟩) 4 4) [[0, 4], [2, 2], [4, 0], [1, 3]] ∧ Below W.heap.size W ((((((W).alloc (.cells #[.int .i64 0, .int .i64 4] 3)).alloc (.cells #[.int .i64 2, .int .i64 2] 3)).alloc (.cells #[.int .i64 4, .int .i64 0] 3)).alloc (.cells #[.int .i64 1, .int .i64 3] 3)).alloc (.cells #[.slice (some ⟨W.heap.size, 0, none⟩) 2 2, .slice (some ⟨W.heap.size + 1, 0, none⟩) 2 2, .slice (some ⟨W.heap.size + 2, 0, none⟩) 2 2, .slice (some ⟨W.heap.size + 3, 0, none⟩) 2 2] 25)) := by
  have b1 := (Below.refl W.heap.size W).alloc (Nat.le_refl _) (.cells #[.int .i64 0, .int .i64 4] 3)
  have b2 := (Below.refl _ _).alloc (Nat.le_refl _) (.cells #[.int .i64 2, .int .i64 2] 3) (w := (W).alloc (.cells #[.int .i64 0, .int .i64 4] 3))
  have b3 := (Below.refl _ _).alloc (Nat.le_refl _) (.cells #[.int .i64 4, .int .i64 0] 3) (w := ((W).alloc (.cells #[.int .i64 0, .int .i64 4] 3)).alloc (.cells #[.int .i64 2, .int .i64 2] 3))
  have b4 := (Below.refl _ _).alloc (Nat.le_refl _) (.cells #[.int .i64 1, .int .i64 3] 3) (w := (((W).alloc (.cells #[.int .i64 0, .int .i64 4] 3)).alloc (.cells #[.int .i64 2, .int .i64 2] 3)).alloc (.cells #[.int .i64 4, .int .i64 0] 3))
  have b5 := (Below.refl _ _).alloc (Nat.le_refl _) (.cells #[.slice (some ⟨W.heap.size, 0, none⟩) 2 2, .slice (some ⟨W.heap.size + 1, 0, none⟩) 2 2, .slice (some ⟨W.heap.size + 2, 0, none⟩) 2 2, .slice (some ⟨W.heap.size + 3, 0, none⟩) 2 2] 25) (w := ((((W).alloc (.cells #[.int .i64 0, .int .i64 4] 3)).alloc (.cells #[.int .i64 2, .int .i64 2] 3)).alloc (.cells #[.int .i64 4, .int .i64 0] 3)).alloc (.cells #[.int .i64 1, .int .i64 3] 3))
  have h0 := at_alloc2 (W) 0 4
  have h1 := at_alloc2 ((W).alloc (.cells #[.int .i64 0, .int .i64 4] 3)) 2 2
  have h2 := at_alloc2 (((W).alloc (.cells #[.int .i64 0, .int .i64 4] 3)).alloc (.cells #[.int .i64 2, .int .i64 2] 3)) 4 0
  have h3 := at_alloc2 ((((W).alloc (.cells #[.int .i64 0, .int .i64 4] 3)).alloc (.cells #[.int .i64 2, .int .i64 2] 3)).alloc (.cells #[.int .i64 4, .int .i64 0] 3)) 1 3
  have g := blkA_new 25 (((((W).alloc (.cells #[.int .i64 0, .int .i64 4] 3)).alloc (.cells #[.int .i64 2, .int .i64 2] 3)).alloc (.cells #[.int .i64 4, .int .i64 0] 3)).alloc (.cells #[.int .i64 1, .int .i64 3] 3)) #[.slice (some ⟨W.heap.size, 0, none⟩) 2 2, .slice (some ⟨W.heap.size + 1, 0, none⟩) 2 2, .slice (some ⟨W.heap.size + 2, 0, none⟩) 2 2, .slice (some ⟨W.heap.size + 3, 0, none⟩) 2 2]
  have s1 : ((W).alloc (.cells #[.int .i64 0, .int .i64 4] 3)).heap.size = W.heap.size + 1 := World.size_alloc _ _
  have s2 : (((W).alloc (.cells #[.int .i64 0, .int .i64 4] 3)).alloc (.cells #[.int .i64 2, .int .i64 2] 3)).heap.size = W.heap.size + 2 := by rw [World.size_alloc, s1]
  have s3 : ((((W).alloc (.cells #[.int .i64 0, .int .i64 4] 3)).alloc (.cells #[.int .i64 2, .int .i64 2] 3)).alloc (.cells #[.int .i64 4, .int .i64 0] 3)).heap.size = W.heap.size + 3 := by rw [World.size_alloc, s2]
  have s4 : (((((W).alloc (.cells #[.int .i64 0, .int .i64 4] 3)).alloc (.cells #[.int .i64 2, .int .i64 2] 3)).alloc (.cells #[.int .i64 4, .int .i64 0] 3)).alloc (.cells #[.int .i64 1, .int .i64 3] 3)).heap.size = W.heap.size + 4 := by rw [World.size_alloc, s3]
  rw [s1] at h1
  rw [s2] at h2
  rw [s3] at h3
  rw [s4] at g
  have k0 := (((h0.below b2).below b3).below b4).below b5
  have k1 := ((h1.below b3).below b4).below b5
  have k2 := (h2.below b4).below b5
  have k3 := h3.below b5
  refine ⟨⟨_, _, rfl, .inr ⟨W.heap.size + 4, 0, rfl, fun k hk => ?_⟩⟩, b1.trans ((b2.mono (by omega)).trans ((b3.mono (by omega)).trans ((b4.mono (by omega)).trans (b5.mono (by omega)))))⟩
  match k, hk with
  | 0, _ => exact ⟨_, _, g.cell rfl, k0⟩
  | 1, _ => exact ⟨_, _, g.cell rfl, k1⟩
  | 2, _ => exact ⟨_, _, g.cell rfl, k2⟩
  | 3, _ => exact ⟨_, _, g.cell rfl, k3⟩
set_option maxRecDepth 100000 in
set_option maxHeartbeats 16000000 in
theorem awakeP (w : World) : Calls Try.prog 15 #[] w fun e w' => e = .returned (.bool true) ∧ Below w.heap.size w w' := by
  have L0 := hiddenN (Below.refl w.heap.size w)
  go_enter Try.func15, Try.ntmps15
  go_upto_region 2 with (first
    | (go_at_call 35; (with_reducible refine (two_any w).mono ?_); rintro e X1 ⟨x1, rfl, h, b⟩; have aA := (Below.refl X1.heap.size X1).alloc (Nat.le_refl _) (.cells #[.int .i64 0, .int .i64 0, .int .i64 1] 3); have CC := hiddenN (alongW1 (X1.alloc (.cells #[.int .i64 0, .int .i64 0, .int .i64 1] 3)) x1 ⟨X1.heap.size, 0, none⟩ (h.below aA) (at_allocV3 X1 0 0 1)); have LL := hiddenN (b.trans (aA.mono b.size)); clear h b aA)
    | (go_at_call 11; (with_reducible refine CC.out.mono ?_); rintro e W1 ⟨v1, rfl, q1, b⟩; have L1 := hiddenN (L0.out.trans ((LL.out.trans (b.mono LL.out.size)).mono L0.out.size)); have M1 := hiddenN (LL.out.trans (b.mono LL.out.size)); have R1 := hiddenN q1; clear q1; clear b; clear CC LL))
  go_upto_region 3 with (first
    | (go_at_call 35; (with_reducible refine (two_any W1).mono ?_); rintro e X2 ⟨x2, rfl, h, b⟩; have aA := (Below.refl X2.heap.size X2).alloc (Nat.le_refl _) (.cells #[.int .i64 0, .int .i64 0, .int .i64 1] 3); have CC := hiddenN (mostW1 (X2.alloc (.cells #[.int .i64 0, .int .i64 0, .int .i64 1] 3)) x2 ⟨X2.heap.size, 0, none⟩ (h.below aA) (at_allocV3 X2 0 0 1)); have LL := hiddenN (b.trans (aA.mono b.size)); clear h b aA)
    | (go_at_call 18; (with_reducible refine CC.out.mono ?_); rintro e W2 ⟨a2, c2, rfl, q1, b⟩; have L2 := hiddenN (L1.out.trans ((LL.out.trans (b.mono LL.out.size)).mono L1.out.size)); have M2 := hiddenN (LL.out.trans (b.mono LL.out.size)); have R2 := hiddenN (R1.out.below M2.out); have T2 := hiddenN q1; clear q1; clear b; clear CC LL))
  go_upto_region 4 with (first
    | (go_at_call 35; (with_reducible refine (two_any W2).mono ?_); rintro e X3 ⟨x3, rfl, h, b⟩; have aA := (Below.refl X3.heap.size X3).alloc (Nat.le_refl _) (.cells #[.int .i64 0, .int .i64 0, .int .i64 1] 3); have CC := hiddenN (homeW1 (X3.alloc (.cells #[.int .i64 0, .int .i64 0, .int .i64 1] 3)) x3 ⟨X3.heap.size, 0, none⟩ (h.below aA) (at_allocV3 X3 0 0 1)); have LL := hiddenN (b.trans (aA.mono b.size)); clear h b aA)
    | (go_at_call 21; (with_reducible refine CC.out.mono ?_); rintro e W3 ⟨rfl, b⟩; have L3 := hiddenN (L2.out.trans ((LL.out.trans (b.mono LL.out.size)).mono L2.out.size)); have M3 := hiddenN (LL.out.trans (b.mono LL.out.size)); have R3 := hiddenN (R2.out.below M3.out); have T3 := hiddenN (T2.out.below M3.out); clear b; clear CC LL))
  go_upto_region 5 with (first
    | (go_at_call 35; (with_reducible refine (two_any W3).mono ?_); rintro e X4 ⟨x4, rfl, h, b⟩; have aA := (Below.refl X4.heap.size X4).alloc (Nat.le_refl _) (.cells #[.int .i64 0, .int .i64 0, .int .i64 1, .int .i64 0, .int .i64 1] 3); have CC := hiddenN (homeW2 (X4.alloc (.cells #[.int .i64 0, .int .i64 0, .int .i64 1, .int .i64 0, .int .i64 1] 3)) x4 ⟨X4.heap.size, 0, none⟩ (h.below aA) (at_allocV5 X4 0 0 1 0 1)); have LL := hiddenN (b.trans (aA.mono b.size)); clear h b aA)
    | (go_at_call 21; (with_reducible refine CC.out.mono ?_); rintro e W4 ⟨rfl, b⟩; have L4 := hiddenN (L3.out.trans ((LL.out.trans (b.mono LL.out.size)).mono L3.out.size)); have M4 := hiddenN (LL.out.trans (b.mono LL.out.size)); have R4 := hiddenN (R3.out.below M4.out); have T4 := hiddenN (T3.out.below M4.out); clear b; clear CC LL))
  go_upto_region 6 with (first
    | (go_at_call 35; (with_reducible refine (two_any W4).mono ?_); rintro e X5 ⟨x5, rfl, h, b⟩; have aA := (Below.refl X5.heap.size X5).alloc (Nat.le_refl _) (.cells #[.int .i64 1] 3); have CC := hiddenN (alongW2 (X5.alloc (.cells #[.int .i64 1] 3)) x5 ⟨X5.heap.size, 0, none⟩ (h.below aA) (at_alloc1 X5 1)); have LL := hiddenN (b.trans (aA.mono b.size)); clear h b aA)
    | (go_at_call 11; (with_reducible refine CC.out.mono ?_); rintro e W5 ⟨rfl, b⟩; have L5 := hiddenN (L4.out.trans ((LL.out.trans (b.mono LL.out.size)).mono L4.out.size)); have M5 := hiddenN (LL.out.trans (b.mono LL.out.size)); have R5 := hiddenN (R4.out.below M5.out); have T5 := hiddenN (T4.out.below M5.out); clear b; clear CC LL))
  clear L0 L1 L2 L3 L4 R1 R2 R3 R4 T2 T3 T4 M1 M2 M3 M4 M5
  go_upto_region 7 with fail
  have WL := hiddenN (want_ls W5)
  generalize ((((W5.alloc (.cells #[.int .i64 0, .int .i64 4] 3)).alloc (.cells #[.int .i64 2, .int .i64 2] 3)).alloc (.cells #[.int .i64 4, .int .i64 0] 3)).alloc (.cells #[.int .i64 1, .int .i64 3] 3)).alloc (.cells #[.slice (some ⟨W5.heap.size, 0, none⟩) 2 2, .slice (some ⟨W5.heap.size + 1, 0, none⟩) 2 2, .slice (some ⟨W5.heap.size + 2, 0, none⟩) 2 2, .slice (some ⟨W5.heap.size + 3, 0, none⟩) 2 2] 25) = W6 at *
  obtain ⟨y1, yc1, ev, -⟩ := R5.out
  have ev4 : v1 = .slice y1 4 yc1 := ev
  subst ev4
  have SL := hiddenN (sameLists_any (.slice y1 4 yc1) (.slice (some ⟨W5.heap.size + 4, 0, none⟩) 4 4) _ W6 (R5.out.below WL.out.2) WL.out.1 (by decide) (fun k hk => by
    match k, hk with
    | 0, _ => decide
    | 1, _ => decide
    | 2, _ => decide
    | 3, _ => decide))
  have T6 := hiddenN (T5.out.below WL.out.2)
  have L6 := hiddenN (L5.out.trans (WL.out.2.mono L5.out.size))
  have SLB : Hid (Calls Try.prog 13 #[.slice y1 4 yc1, .slice (some ⟨W5.heap.size + 4, 0, none⟩) 4 4] W6 fun e w' => e = .returned (.bool true) ∧ Below W6.heap.size W6 w') := SL.out.mono fun e w' ⟨e1, m, e2⟩ => ⟨e1, by rw [e2]; exact drewB (Below.refl _ _) m⟩
  clear ev SL R5 T5 L5 WL
  go_wp2_with (first
    | (go_at_call 13; (with_reducible refine SLB.out.mono ?_); rintro e W7 ⟨rfl, a7⟩; have a8 := (Below.refl W7.heap.size W7).alloc (Nat.le_refl _) (.cells #[.int .i64 4, .int .i64 4] 3); have L8 := hiddenN (L6.out.trans ((a7.trans (a8.mono a7.size)).mono L6.out.size)); have SI := hiddenN (same_any a2 (some ⟨W7.heap.size, 0, none⟩) [4, 4] 2 c2 2 (W7.alloc (.cells #[.int .i64 4, .int .i64 4] 3)) rfl (by decide) ((T6.out.below a7).below a8) (at_alloc2 _ 4 4)); clear a7 a8)
    | (go_at_call 20; (with_reducible refine SI.out.mono ?_); rintro e W9 ⟨m9, rfl, rfl⟩))
  go_ret
  exact ⟨by first | rfl | simp, drewB L8.out _⟩
/-- What stands of a walk of law18: the net's box, the lent net and its box, the lent list. -/
structure HdV (w W : World) (n : NN) (a : Option Addr) (c g gc gl mb Q : Nat) (zs : List Int) : Prop where
  net : BlkA 24 w.heap.size W #[.int .i64 n.nodes, .slice a n.arcs.length c]
  box : BlkA 24 mb W #[.int .i64 n.nodes, .slice (some ⟨g, 0, none⟩) n.arcs.length gc]
  ldn : LdN w.heap.size W g gc n
  lst : Lend w.heap.size W gl zs.length zs
  bel : Below w.heap.size w W
  low : w.heap.size < Q ∧ mb < Q ∧ g < Q ∧ gl < Q ∧ Q ≤ W.heap.size
theorem HdV.keep {w W W' : World} {n : NN} {a : Option Addr} {c g gc gl mb Q : Nat} {zs : List Int} (h : HdV w W n a c g gc gl mb Q zs) (hb : Below Q W W') : HdV w W' n a c g gc gl mb Q zs := by
  obtain ⟨l1, l2, l3, l4, l5⟩ := h.low
  exact ⟨h.net.keep (hb.block _ l1), h.box.keep (hb.block _ l2), h.ldn.keep (hb.block _ l3) hb.size, h.lst.keepN (hb.block _ l4), h.bel.trans (hb.mono (by omega)), l1, l2, l3, l4, Nat.le_trans l5 hb.size⟩
theorem HdV.below {w W W' : World} {n : NN} {a : Option Addr} {c g gc gl mb Q : Nat} {zs : List Int} (h : HdV w W n a c g gc gl mb Q zs) (hb : Below W.heap.size W W') : HdV w W' n a c g gc gl mb Q zs := h.keep (hb.mono h.low.2.2.2.2)
theorem TabGV.appAny {B B2 : Nat} {w w4 : World} {v v' : Value} {A A2 : Nat → Option Addr} {C C2 : Nat → Nat} {I O : List (List Int)} {x2 : Option Addr} (h : TabGV B w v A C I) (h2 : OutTV B2 w A2 C2 x2 O) (hsep : ∀ j i x y, j < I.length → i < O.length → A j = some x → A2 i = some y → x.block ≠ y.block) (hv : ∀ i y k, i < O.length → A2 i = some y → v.ownBlock = some k → y.block ≠ k) (hB : B ≤ B2)
    (ho : w4.ownsRow B 25 1 v' (I.length + O.length) (tabCV A C I ++ tabCV A2 C2 O))
    (ht : (∃ g cap, v = .slice (some ⟨g, 0, none⟩) I.length cap ∧ v' = .slice (some ⟨g, 0, none⟩) (I.length + O.length) cap ∧ w.grownBy w4 (some g)) ∨ (∃ cap, v' = .slice (some ⟨w.heap.size, 0, none⟩) (I.length + O.length) cap ∧ w.grownBy w4 none)) :
    TabGV B w4 v' (joinFV A A2 I.length) (joinFV C C2 I.length) (I ++ O) ∧ (∀ k, k < w.heap.size → v.ownBlock ≠ some k → w4.heap[k]? = w.heap[k]?) := by
  have key : ∀ k, k < w.heap.size → v.ownBlock ≠ some k → w4.heap[k]? = w.heap[k]? := fun k hk hn => by
    rcases ht with ⟨g, cap, e, -, hg⟩ | ⟨cap, -, hg⟩
    · exact hg.block k hk (fun e2 => hn (by rw [e]; exact e2.symm))
    · exact hg.block k hk (fun e2 => by cases e2)
  have hl : (I ++ O).length = I.length + O.length := by simp
  have dnew : ∀ j x, j < O.length → A2 j = some x → v.ownBlock ≠ some x.block := fun j x hj hx e => hv j x _ hj hx e rfl
  refine ⟨⟨?_, fun j hj => ?_, fun j k x y hj hk hn hx hy => ?_, fun j x k hj hx hv' => ?_⟩, key⟩
  · rw [hl, tabC_joinV]; exact ho
  · rw [hl] at hj
    by_cases e : j < I.length
    · rw [joinF_ltV e, joinF_ltV e, nthL_appLV e]
      exact (h.rows j e).keep fun x hx => key _ ((h.rows j e).lt x hx).2 (fun e2 => h.dt j x _ e hx e2 rfl)
    · obtain ⟨q, rfl⟩ : ∃ q, j = I.length + q := ⟨j - I.length, by omega⟩
      rw [joinF_geV, joinF_geV, nthL_appRV]
      exact ((h2.rows q (by omega)).mono hB).keep fun x hx => key _ ((h2.rows q (by omega)).lt x hx).2 (dnew q x (by omega) hx)
  · rw [hl] at hj hk
    by_cases e1 : j < I.length
    · rw [joinF_ltV e1] at hx
      by_cases e2 : k < I.length
      · rw [joinF_ltV e2] at hy
        exact h.dd j k x y e1 e2 hn hx hy
      · obtain ⟨q, rfl⟩ : ∃ q, k = I.length + q := ⟨k - I.length, by omega⟩
        rw [joinF_geV] at hy
        exact hsep j q x y e1 (by omega) hx hy
    · obtain ⟨q, rfl⟩ : ∃ q, j = I.length + q := ⟨j - I.length, by omega⟩
      rw [joinF_geV] at hx
      by_cases e2 : k < I.length
      · rw [joinF_ltV e2] at hy
        exact fun e9 => hsep k q y x e2 (by omega) hy hx e9.symm
      · obtain ⟨p, rfl⟩ : ∃ p, k = I.length + p := ⟨k - I.length, by omega⟩
        rw [joinF_geV] at hy
        exact h2.apart q p x y (by omega) (by omega) (by omega) hx hy
  · rw [hl] at hj
    have hxl : x.block < w.heap.size ∧ v.ownBlock ≠ some x.block := by
      by_cases e : j < I.length
      · rw [joinF_ltV e] at hx
        exact ⟨((h.rows j e).lt x hx).2, fun e2 => h.dt j x _ e hx e2 rfl⟩
      · obtain ⟨q, rfl⟩ : ∃ q, j = I.length + q := ⟨j - I.length, by omega⟩
        rw [joinF_geV] at hx
        exact ⟨((h2.rows q (by omega)).lt x hx).2, dnew q x (by omega) hx⟩
    rcases ht with ⟨g, cap, e, e', hg⟩ | ⟨cap, e', hg⟩
    · rw [e'] at hv'; cases hv'
      exact fun e3 => hxl.2 (by rw [e, e3]; rfl)
    · rw [e'] at hv'; cases hv'
      have h9 := hxl.1
      show x.block ≠ w.heap.size
      omega
theorem wpList_appAll {w : World} {ops : Array Oper} {rest : List Oper} {o : Oper} {a : Act} {Q : Exit → Act → World → Prop} (hgd : o.guard = none) (s x : Operand) (ho : o.op = .call { callee := .builtin .append, args := #[s, x], argTypes := #[28, 28] })
    (B : Nat) (v : Value) (A : Nat → Option Addr) (C : Nat → Nat) (I : List (List Int)) (hs : a.eval s = v) (hT : TabGV B w v A C I) (B2 : Nat) (x2 : Option Addr) (A2 : Nat → Option Addr) (C2 : Nat → Nat) (O : List (List Int)) (m c2 : Nat) (hm : O.length = m) (hx : a.eval x = .slice x2 m c2) (hO : OutTV B2 w A2 C2 x2 O)
    (hsep : ∀ j i x y, j < I.length → i < O.length → A j = some x → A2 i = some y → x.block ≠ y.block) (hv : ∀ i y k, i < O.length → A2 i = some y → v.ownBlock = some k → y.block ≠ k) (hB : B ≤ B2) (hBw : B ≤ w.heap.size) (hlen : I.length + m ≤ 1000000)
    (h : ∀ v' w' A' C', TabGV B w' v' A' C' (I ++ O) → (∀ j x, j < (I ++ O).length → A' j = some x → (∃ i, i < I.length ∧ A i = some x) ∨ ∃ i, i < O.length ∧ A2 i = some x) → Below B w w' → (∀ k, k < w.heap.size → v.ownBlock ≠ some k → w'.heap[k]? = w.heap[k]?) → (∀ k, v'.ownBlock = some k → v.ownBlock = some k ∨ w.heap.size ≤ k) → wpList Try.prog ops Q rest (a.put o.dst v') w') : wpList Try.prog ops Q (o :: rest) a w := by
  subst hm
  obtain ⟨i1, hi1, hy0, hy1, hy2⟩ := info_parts Try.info25
  by_cases h0 : O = []
  · subst h0
    have hr := run_append_zeroV (P := Try.prog) (w := w) B 28 o.type 25 i1 1 Try.underlying28 hi1 v I.length _ hT.row x2 c2
    refine wpList_plain hgd fun K hK => ?_
    unfold Oper.wp execOp
    simp only [ho, resolve, invoke, builtin, Sem.run_bind, Sem.run_pure, Result.andThen_ok, List.map_toArray, List.map_cons, List.map_nil, hs, hx, List.length_nil, hr]
    exact hK _ _ (h v w A C (by rw [List.append_nil]; exact hT) (fun j y hj hy => .inl ⟨j, by simpa using hj, hy⟩) (Below.refl _ _) (fun _ _ _ => rfl) (fun k hk => .inl hk))
  rcases hO.tab with h9 | ⟨g2, rfl, hg1, hg2, hc, hd⟩
  · exact absurd h9 h0
  · refine wpList_append_told (P := Try.prog) w hgd s x 28 ho B 25 i1 (.slice none 0 0) 1 24 Try.underlying28 hi1 hy0 hy1 hy2 rfl (by decide) v I.length (tabCV A C I) hs hT.row ⟨g2, 0, none⟩ O.length c2 (List.length_pos_iff.2 h0) (tabCV A2 C2 O) hx (by rw [tabC_lenV, Nat.mul_one]) (fun j u hu => by
      have hj : j < O.length := by have := (List.getElem?_eq_some_iff.1 hu).1; rw [tabC_lenV] at this; exact this
      rw [tabC_getV _ _ _ hj] at hu
      cases hu
      have := hc j hj
      by_cases e : j = 0
      · subst e; simpa [Addr.add] using this
      · simpa [Addr.add, e] using this) (fun u hu => by
      unfold tabCV at hu
      obtain ⟨j, -, rfl⟩ := List.mem_map.1 hu
      rfl) (by unfold maxLen; omega) (by omega) hBw ?_
    intro v' w' h2 h3
    obtain ⟨hG, hkey⟩ := hT.appAny hO hsep hv hB h2 h3
    refine h v' w' _ _ hG (fun j y hj hy => ?_) ?_ hkey (fun k hk => ?_)
    · rw [List.length_append] at hj
      by_cases e : j < I.length
      · rw [joinF_ltV e] at hy
        exact .inl ⟨j, e, hy⟩
      · obtain ⟨q, rfl⟩ : ∃ q, j = I.length + q := ⟨j - I.length, by omega⟩
        rw [joinF_geV] at hy
        exact .inr ⟨q, by omega, hy⟩
    · rcases h3 with ⟨g, cap, e, -, hg⟩ | ⟨cap, -, hg⟩
      · exact (Below.refl _ _).grown hg hBw (fun k hk => by cases hk; exact (rowG_ltV hT.row (k := g) (by rw [e]; rfl)).1)
      · exact (Below.refl _ _).grown hg hBw (fun k hk => by cases hk)
    · rcases h3 with ⟨g, cap, e, e2, -⟩ | ⟨cap, e2, -⟩
      · rw [e2] at hk; cases hk
        exact .inl (by rw [e]; rfl)
      · rw [e2] at hk; cases hk
        exact .inr (Nat.le_refl _)
/-- A row of rows of a call's own, whatever it holds. -/
def TblV (B : Nat) (w : World) (v : Value) (m : Nat) : Prop := ∃ cells, w.ownsRow B 25 1 v m cells
theorem TblV.lt {B : Nat} {w : World} {v : Value} {m : Nat} (h : TblV B w v m) {k : Nat} (hk : v.ownBlock = some k) : B ≤ k ∧ k < w.heap.size := by
  obtain ⟨cells, h⟩ := h
  exact rowG_ltV h hk
theorem TblV.keep {B : Nat} {w w' : World} {v : Value} {m : Nat} (h : TblV B w v m) (hk : ∀ k, v.ownBlock = some k → w'.heap[k]? = w.heap[k]?) : TblV B w' v m := by
  obtain ⟨cells, h⟩ := h
  exact ⟨cells, rowG_laterV h hk⟩
theorem TblV.shape {B : Nat} {w : World} {v : Value} {m : Nat} (h : TblV B w v m) : ∃ x c, v = .slice x m c := by
  obtain ⟨cells, h⟩ := h
  rcases h.2 with ⟨h1, h2⟩ | ⟨g, cap, cur, hv, -⟩
  · exact ⟨none, 0, by rw [h1, h2]⟩
  · exact ⟨_, cap, hv⟩
theorem TblV.cell {B : Nat} {w : World} {g c m k : Nat} (h : TblV B w (.slice (some ⟨g, 0, none⟩) m c) m) (hk : k < m) : (∃ u, w.cell? ⟨g, k, none⟩ = some u) ∧ w.frozen? ⟨g, k, none⟩ = false ∧ (∀ u, TblV B (w.setCell ⟨g, k, none⟩ u) (.slice (some ⟨g, 0, none⟩) m c) m) := by
  obtain ⟨cells, h⟩ := h
  refine ⟨?_, World.ownsRow.frozenAt h k, fun u => ⟨_, (World.ownsRow.stored h k u).1⟩⟩
  rw [World.ownsRow.cellAt h k (by omega)]
  exact ⟨_, List.getElem?_eq_getElem (by rw [h.1]; omega)⟩
/-- One row more. -/
theorem wpList_appTbl {w : World} {ops : Array Oper} {rest : List Oper} {o : Oper} {a : Act} {Q : Exit → Act → World → Prop} (hgd : o.guard = none) (s x : Operand) (ho : o.op = .call { callee := .builtin .append, args := #[s, x], argTypes := #[28, 28] })
    (B : Nat) (v : Value) (m : Nat) (hs : a.eval s = v) (hT : TblV B w v m) (k : Nat) (hx : a.eval x = .slice (some ⟨k, 0, none⟩) 1 1) (u : Value) (hk : BlkA 25 k w #[u]) (hu : u.oneCell' = true) (hlen : m ≤ 1000000) (hB : B ≤ w.heap.size)
    (h : ∀ v' w', TblV B w' v' (m + 1) → (∀ q, v'.ownBlock = some q → v.ownBlock = some q ∨ w.heap.size ≤ q) → w.heap.size ≤ w'.heap.size → w'.os = w.os → w'.tape = w.tape → w'.output = w.output → (∀ q, q < w.heap.size → v.ownBlock ≠ some q → w'.heap[q]? = w.heap[q]?) → wpList Try.prog ops Q rest (a.put o.dst v') w') : wpList Try.prog ops Q (o :: rest) a w := by
  obtain ⟨cells, hT⟩ := hT
  obtain ⟨i1, hi1, hy0, hy1, hy2⟩ := info_parts Try.info25
  refine wpList_append_told (P := Try.prog) w hgd s x 28 ho B 25 i1 (.slice none 0 0) 1 24 Try.underlying28 hi1 hy0 hy1 hy2 rfl (by decide) v m cells hs hT ⟨k, 0, none⟩ 1 1 (by decide) [u] hx rfl (fun j z hz => by
    have hj : j < 1 := by have := (List.getElem?_eq_some_iff.1 hz).1; simpa using this
    have e0 : j = 0 := by omega
    subst e0
    have e : (⟨k, 0, none⟩ : Addr).add 0 = ⟨k, 0, none⟩ := rfl
    rw [e]
    refine hk.cell ?_
    rw [← hz]
    simp) (fun z hz => by simp at hz; subst hz; exact hu) (by unfold maxLen; omega) (by omega) hB ?_
  intro v' w' h2 h3
  rcases h3 with ⟨g1, cap, e1, e2, hg⟩ | ⟨cap, e2, hg⟩
  · exact h v' w' ⟨_, h2⟩ (fun q hq => by rw [e2] at hq; cases hq; exact .inl (by rw [e1]; rfl)) hg.size hg.os hg.tape hg.output (fun q hq hn => hg.block q hq (fun e => by cases e; exact hn (by rw [e1]; rfl)))
  · exact h v' w' ⟨_, h2⟩ (fun q hq => by rw [e2] at hq; cases hq; exact .inr (Nat.le_refl _)) hg.size hg.os hg.tape hg.output (fun q hq hn => hg.block q hq (fun e => by cases e))
/-- The rows that Along answers. -/
def rowsU (n : NN) (zs : List Int) : List (List Int) := if codeV n zs = 0 then rowsV n (startT n) zs else []
theorem rowsU_len (n : NN) (zs : List Int) : (rowsU n zs).length ≤ 2049 := by
  unfold rowsU
  split
  · rename_i h; rw [rows_len]; have := (code_zero h).2.1; omega
  · simp
theorem rowsU_row {n : NN} {zs : List Int} {k : Nat} (h : k < (rowsU n zs).length) : (nthLV (rowsU n zs) k).length = n.arcs.length ∧ n.arcs.length ≤ 96 := by
  unfold rowsU at h ⊢
  by_cases hc : codeV n zs = 0
  · rw [if_pos hc] at h ⊢
    rw [rows_len] at h
    exact ⟨by rw [row_lenV (by omega), start_len], (check_sound (code_zero hc).1).most⟩
  · rw [if_neg hc] at h; simp at h
/-- How Along ends, in one form. -/
def AlU (R : List (List Int)) (cd : Int) (w : World) (e : Ending) (w' : World) : Prop := ∃ B x c A C, e = .returned (.tuple #[.slice x R.length c, .int .i64 cd]) ∧ w.heap.size ≤ B ∧ B ≤ w'.heap.size ∧ TabGV B w' (.slice x R.length c) A C R ∧ Below w.heap.size w w'
theorem along_uni {n : NN} {zs : List Int} {w : World} {e : Ending} {w' : World} (h : MomE PAl (.slice none 0 0) n zs w e w') : AlU (rowsU n zs) (codeV n zs) w e w' := by
  rcases h with ⟨k1, B, v, e1, h1, h2, ⟨A, C, h3⟩, h4⟩ | ⟨k1, e1, h2⟩
  · unfold rowsU
    rw [if_pos k1, k1]
    obtain ⟨x, c, rfl⟩ := tabG_shapeV h3
    exact ⟨B, x, c, A, C, e1, h1, h2, h3, h4⟩
  · unfold rowsU
    rw [if_neg k1]
    exact ⟨w'.heap.size, none, 0, _, _, e1, h2.size, Nat.le_refl _, tabG_nilV _ _, h2⟩
theorem TabGV.outM {B M : Nat} {w : World} {x : Option Addr} {c : Nat} {A : Nat → Option Addr} {C : Nat → Nat} {O : List (List Int)} (hM : O.length = M) (h : TabGV B w (.slice x M c) A C O) : OutTV B w A C x O := by
  subst hM
  exact h.out
theorem TblV.some {B m : Nat} {w : World} {x : Option Addr} {c : Nat} (h : TblV B w (.slice x m c) m) (h0 : 0 < m) : ∃ g, x = Option.some ⟨g, 0, none⟩ := by
  obtain ⟨cells, h⟩ := h
  rcases h.2 with ⟨-, h2⟩ | ⟨g, cap, cur, hv, -⟩
  · omega
  · cases hv; exact ⟨g, rfl⟩
theorem TabGV.tbl {B M : Nat} {w : World} {v : Value} {A : Nat → Option Addr} {C : Nat → Nat} {O : List (List Int)} (hM : O.length = M) (h : TabGV B w v A C O) : TblV B w v M := by
  subst hM
  exact ⟨_, h.row⟩
theorem TabGV.ls {B : Nat} {w : World} {v : Value} {A : Nat → Option Addr} {C : Nat → Nat} {R : List (List Int)} (h : TabGV B w v A C R) : LsV w v R := PAl.ls ⟨A, C, h⟩
set_option maxRecDepth 100000 in
set_option maxHeartbeats 16000000 in
theorem peaksAlong_walk (n : NN) (a : Option Addr) (c : Nat) (a1 : Option Addr) (len1 cap1 : Nat) (zs : List Int) (w : World) (h : ArgN w a c n) (h1 : Arg w a1 len1 cap1 zs) : Calls Try.prog 3 #[.agg #[.int .i64 n.nodes, .slice a n.arcs.length c], .slice a1 len1 cap1] w fun e w' => e = .returned (.bool true) ∧ Below w.heap.size w w' := by
  obtain rfl := h1.size
  have b0 := (Below.refl w.heap.size w).alloc (Nat.le_refl _) (.cells #[.int .i64 n.nodes, .slice a n.arcs.length c] 24)
  have G0 := hiddenN (blkA_new 24 w #[.int .i64 n.nodes, .slice a n.arcs.length c])
  have B0 := hiddenN b0
  have HA := hiddenN h
  have H1 := hiddenN h1
  have hroom : n.arcs.length ≤ 4611686018427387904 := by have := h.room; omega
  have hzl : zs.length ≤ 4611686018427387904 := by have := h1.reach; omega
  have LN : Hid (∀ U, Below w.heap.size w U → Calls Try.prog 9 #[.agg #[.int .i64 n.nodes, .slice a n.arcs.length c]] U (LentE n U)) := fun U hb => lentNet_any n a c U (HA.out.below hb)
  have AW : Hid (∀ U, Calls Try.prog 15 #[] U fun e w' => e = .returned (.bool true) ∧ Below U.heap.size U w') := fun U => awakeP U
  have z0 := G0.out.cell (k := 0) rfl
  have z1 := G0.out.cell (k := 1) rfl
  simp only [List.getElem_toArray, List.getElem_cons_zero, List.getElem_cons_succ] at z0 z1
  clear b0 h h1
  have PM : Hid (∀ U x y cx cy, AtN U (some x) n.arcs → At U (some y) zs → Calls Try.prog 11 #[.agg #[.int .i64 n.nodes, .slice (some x) n.arcs.length cx], .slice (some y) zs.length cy] U (AlU (rowsU n zs) (codeV n zs) U)) := fun U x y cx cy q1 q2 => (along_any n (some x) cx U q1 hroom (fun e => by cases e) (some y) cy zs q2 hzl).mono fun e w' hh => along_uni hh
  have RM : Hid (∀ U, Below w.heap.size w U → Calls Try.prog 12 #[.agg #[.int .i64 n.nodes, .slice a n.arcs.length c], .slice a1 zs.length cap1] U (AlU (rowsU n zs) (codeV n zs) U)) := fun U hb => (ralong_any n a c U (HA.out.below hb).lies hroom a1 cap1 zs (H1.out.below hb).lies hzl).mono fun e w' hh => along_uni hh
  have HRL := hiddenN (rowsU_len n zs)
  have HRR : Hid (∀ k, k < (rowsU n zs).length → (nthLV (rowsU n zs) k).length = n.arcs.length ∧ n.arcs.length ≤ 96) := fun k hk => rowsU_row hk
  have ec : (codeV n zs != codeV n zs) = false := by simp
  generalize codeV n zs = cd at *
  generalize rowsU n zs = R at *
  have hRl := HRL.out
  obtain ⟨M, hM⟩ : ∃ M, R.length = M := ⟨_, rfl⟩
  have HM := hiddenN hM
  have PM1 : Hid (∀ U x y cx cy, AtN U (some x) n.arcs → At U (some y) zs → Calls Try.prog 11 #[.agg #[.int .i64 n.nodes, .slice (some x) n.arcs.length cx], .slice (some y) zs.length cy] U fun e w' => ∃ B x c A C, e = .returned (.tuple #[.slice x M c, .int .i64 cd]) ∧ U.heap.size ≤ B ∧ B ≤ w'.heap.size ∧ TabGV B w' (.slice x M c) A C R ∧ Below U.heap.size U w') := fun U x y cx cy q1 q2 => by
    have q := PM.out U x y cx cy q1 q2
    unfold AlU at q
    rw [hM] at q
    exact q
  have RM1 : Hid (∀ U, Below w.heap.size w U → Calls Try.prog 12 #[.agg #[.int .i64 n.nodes, .slice a n.arcs.length c], .slice a1 zs.length cap1] U fun e w' => ∃ B x c A C, e = .returned (.tuple #[.slice x M c, .int .i64 cd]) ∧ U.heap.size ≤ B ∧ B ≤ w'.heap.size ∧ TabGV B w' (.slice x M c) A C R ∧ Below U.heap.size U w') := fun U hb => by
    have q := RM.out U hb
    unfold AlU at q
    rw [hM] at q
    exact q
  rw [hM] at hRl
  clear PM RM hM HRL
  have LD : Hid (∀ U, Below w.heap.size w U → Calls Try.prog 10 #[.slice a1 zs.length cap1] U fun e w' => ∃ gl, e = .returned (.slice (some ⟨gl, 0, none⟩) zs.length (zs.length + 4)) ∧ Lend U.heap.size w' gl zs.length zs ∧ Below U.heap.size U w') := fun U hb => lent_any a1 zs zs.length cap1 U (H1.out.below hb)
  go_enter Try.func3, Try.ntmps3
  go_upto_region 1 with fail
  generalize w.alloc (.cells #[.int .i64 n.nodes, .slice a n.arcs.length c] 24) = W0 at *
  go_upto_region 2 with (go_at_call 9; (with_reducible refine (LN.out _ B0.out).mono ?_); rintro e W1 ⟨g, gc, rfl, q1, q2⟩; have E1 := hiddenN q1; have L1 := hiddenN (B0.out.trans (q2.mono B0.out.size)); have G1 := hiddenN (G0.out.below q2); have h01 := hiddenN q2.size; clear q1 q2 z0 z1)
  have bM := (Below.refl W1.heap.size W1).alloc (Nat.le_refl _) (.cells #[.int .i64 n.nodes, .slice (some ⟨g, 0, none⟩) n.arcs.length gc] 24)
  have XM := hiddenN (blkA_new 24 W1 #[.int .i64 n.nodes, .slice (some ⟨g, 0, none⟩) n.arcs.length gc])
  have E2 := hiddenN (E1.out.below bM)
  have L2 := hiddenN (L1.out.trans (bM.mono L1.out.size))
  have G2 := hiddenN (G1.out.below bM)
  have hsM := hiddenN bM.size
  generalize W1.alloc (.cells #[.int .i64 n.nodes, .slice (some ⟨g, 0, none⟩) n.arcs.length gc] 24) = W2 at *
  clear bM
  go_upto_region 3 with (go_at_call 10; (with_reducible refine (LD.out _ L2.out).mono ?_); rintro e W3 ⟨gl, rfl, q1, q2⟩; have D3 := hiddenN q1; have HD0 := hiddenN (show HdV w W3 n a c g gc gl W1.heap.size W3.heap.size zs from ⟨G2.out.below q2, XM.out.below q2, ⟨Nat.le_trans B0.out.size E1.out.low, (E2.out.below q2).lt, E2.out.cap, (E2.out.below q2).all⟩, ⟨Nat.le_trans L2.out.size q1.1, q1.2⟩, L2.out.trans (q2.mono L2.out.size), (G2.out.below q2).lt, (XM.out.below q2).lt, (E2.out.below q2).lt, q1.lt.2, Nat.le_refl _⟩); clear q1 q2)
  obtain ⟨mb, hmb⟩ : ∃ q, W1.heap.size = q := ⟨_, rfl⟩
  obtain ⟨Q, hQ⟩ : ∃ q, W3.heap.size = q := ⟨_, rfl⟩
  have HD3 := HD0
  rw [hQ] at HD3
  have HQ := hiddenN hQ
  clear LD LN G0 G1 E1 L1 h01 XM E2 L2 G2 hsM D3 HD0 hQ hmb
  have m0 := HD3.out.box.cell (k := 0) rfl; have m1 := HD3.out.box.cell (k := 1) rfl; simp only [List.getElem_toArray, List.getElem_cons_zero, List.getElem_cons_succ] at m0 m1
  have PM3 := hiddenN (PM1.out W3 ⟨g, 0, none⟩ ⟨gl, 0, none⟩ gc (zs.length + 4) HD3.out.ldn.at HD3.out.lst.at)
  go_upto_region 4 with (go_at_call 11; (with_reducible refine (PM3.out).mono ?_); rintro e W4 ⟨B4, x4, c4, A4, C4, rfl, hb1, hb2, r4, q2⟩; have HD4 := hiddenN (HD3.out.below q2); have R4 := hiddenN r4; have hB4 := hiddenN hb2; have hQB : Hid (Q ≤ B4) := (by have := HQ.out; show _ ≤ _; omega); clear r4 hb1 hb2; clear q2 m0 m1)
  have m0 := HD4.out.box.cell (k := 0) rfl; have m1 := HD4.out.box.cell (k := 1) rfl; simp only [List.getElem_toArray, List.getElem_cons_zero, List.getElem_cons_succ] at m0 m1
  have z0 := HD4.out.net.cell (k := 0) rfl; have z1 := HD4.out.net.cell (k := 1) rfl; simp only [List.getElem_toArray, List.getElem_cons_zero, List.getElem_cons_succ] at z0 z1
  clear HD3
  have PM4 := hiddenN (PM1.out W4 ⟨g, 0, none⟩ ⟨gl, 0, none⟩ gc (zs.length + 4) HD4.out.ldn.at HD4.out.lst.at)
  go_upto_region 5 with (go_at_call 11; (with_reducible refine (PM4.out).mono ?_); rintro e W5 ⟨B5, x5, c5, A5, C5, rfl, hb1, hb2, r5, q2⟩; have HD5 := hiddenN (HD4.out.below q2); have R5 := hiddenN r5; have hB45 := hiddenN hb1; have S5 := hiddenN (R4.out.below q2); have hB5 := hiddenN hb2; clear r5 hb1 hb2; clear q2 m0 m1 z0 z1 PM3)
  have m0 := HD5.out.box.cell (k := 0) rfl; have m1 := HD5.out.box.cell (k := 1) rfl; simp only [List.getElem_toArray, List.getElem_cons_zero, List.getElem_cons_succ] at m0 m1
  have z0 := HD5.out.net.cell (k := 0) rfl; have z1 := HD5.out.net.cell (k := 1) rfl; simp only [List.getElem_toArray, List.getElem_cons_zero, List.getElem_cons_succ] at z0 z1
  clear HD4
  go_upto_region 6 with (go_at_call 12; (with_reducible refine (RM1.out _ HD5.out.bel).mono ?_); rintro e W6 ⟨B6, x6, c6, A6, C6, rfl, hb1, hb2, r6, q2⟩; have HD6 := hiddenN (HD5.out.below q2); have T6 := hiddenN r6.ls; have R6 := hiddenN (R5.out.below q2); have S6 := hiddenN (S5.out.below q2); have hB6 := hiddenN (Nat.le_trans hB5.out q2.size); clear r6 hb1 hb2; clear q2 m0 m1 z0 z1 PM4)
  have m0 := HD6.out.box.cell (k := 0) rfl; have m1 := HD6.out.box.cell (k := 1) rfl; simp only [List.getElem_toArray, List.getElem_cons_zero, List.getElem_cons_succ] at m0 m1
  have z0 := HD6.out.net.cell (k := 0) rfl; have z1 := HD6.out.net.cell (k := 1) rfl; simp only [List.getElem_toArray, List.getElem_cons_zero, List.getElem_cons_succ] at z0 z1
  clear HD5
  have hB44 : Hid (B4 ≤ B5) := Nat.le_trans hB4.out hB45.out
  have HLS : Hid (∀ k, k < R.length → (nthLV R k).length ≤ 1000000) := fun k hk => by have := HRR.out k hk; omega
  have hMR : R.length ≤ 1000000 := by have := HM.out; omega
  have SI1 := hiddenN (sameLists_any (.slice x4 M c4) (.slice x6 M c6) R W6 S6.out.ls T6.out hMR HLS.out)
  clear PM1 RM1 R5 S5 hB5 m0 m1 z0 z1 hMR
  have HSEP : Hid (∀ j i x y, j < R.length → i < R.length → A4 j = some x → A5 i = some y → x.block ≠ y.block) := fun j i x y hj hi hx hy => by
    have q1 := ((R4.out.rows j hj).lt x hx).2
    have q2 := ((R6.out.rows i hi).lt y hy).1
    have := hB45.out
    omega
  have HOA : Hid (∀ k i y, (Value.slice x4 M c4).ownBlock = some k → i < R.length → A5 i = some y → y.block ≠ k) := fun k i y hk hi hy => by
    have q1 := (rowG_ltV R4.out.row hk).2
    have q2 := ((R6.out.rows i hi).lt y hy).1
    have := hB45.out
    omega
  have HOB : Hid (∀ k i y, (Value.slice x5 M c5).ownBlock = some k → i < R.length → A4 i = some y → y.block ≠ k) := fun k i y hk hi hy => by
    have q1 := ((R4.out.rows i hi).lt y hy).2
    have q2 := (rowG_ltV R6.out.row hk).1
    have := hB45.out
    omega
  have HAB : Hid (∀ k q, (Value.slice x4 M c4).ownBlock = some k → (Value.slice x5 M c5).ownBlock = some q → k ≠ q) := fun k q hk hq => by
    have q1 := (rowG_ltV R4.out.row hk).2
    have q2 := (rowG_ltV R6.out.row hq).1
    have := hB45.out
    omega
  clear R4 hB45 hB4
  go_upto_region 9 with (first
    | (go_at_call 13; (with_reducible refine SI1.out.mono ?_); rintro e V1 ⟨rfl, nq1, ev⟩; have q2 := drewB (Below.refl W6.heap.size W6) nq1; rw [← ev] at q2; have HD7 := hiddenN (HD6.out.below q2); have S7 := hiddenN (S6.out.below q2); have R7 := hiddenN (R6.out.below q2); have hB7 := hiddenN (Nat.le_trans hB6.out q2.size); have SI2 := hiddenN (sameLists_any (.slice x5 M c5) (.slice x6 M c6) R V1 R7.out.ls (T6.out.below q2) (by have := HM.out; omega) HLS.out); clear q2 ev SI1)
    | (go_at_call 13; (with_reducible refine SI2.out.mono ?_); rintro e V2 ⟨rfl, nq2, ev⟩; have q2 := drewB (Below.refl V1.heap.size V1) nq2; rw [← ev] at q2; have HD8 := hiddenN (HD7.out.below q2); have S8 := hiddenN (S7.out.below q2); have R8 := hiddenN (R7.out.below q2); have hB8 := hiddenN (Nat.le_trans hB7.out q2.size); clear q2 ev SI2))
  clear HD6 HD7 S6 S7 R6 R7 hB6 hB7 T6
  have hb48 : B4 ≤ V2.heap.size := Nat.le_trans hB44.out hB8.out
  go_upto_region 10 with (at_builtin; refine wpList_appAll rfl _ _ rfl B4 (.slice none 0 0) (fun _ => none) (fun _ => 0) [] rfl (tabG_nilV _ _) B4 x4 A4 C4 R M c4 HM.out rfl (TabGV.outM HM.out S8.out) (fun j i x y hj => absurd hj (Nat.not_lt_zero _)) (fun i y k _ _ hk => by cases hk) (Nat.le_refl _) hb48 (by simp; omega) ?_; intro v9 V3 A9 C9 q1 q2 q3 q4 q5; have T9 := hiddenN q1; have P9 := hiddenN q2; have HD9 := hiddenN (HD8.out.keep (q3.mono hQB.out)); have S9 := hiddenN (S8.out.keep (w' := V3) (fun k h1 h2 => q4 k h2 (by intro e; cases e))); have R9 := hiddenN (R8.out.keep (w' := V3) (fun k h1 h2 => q4 k h2 (by intro e; cases e))); have hV3 := q3.size; have N9 := hiddenN q5; clear q1 q2 q3 q4 q5)
  have T9' : Hid (TabGV B4 V3 v9 A9 C9 R) := T9.out
  have P9' : Hid (∀ j x, j < R.length → A9 j = some x → ∃ i, i < R.length ∧ A4 i = some x) := fun j x hj hx => by
    rcases P9.out j x hj hx with ⟨i, hi, -⟩ | q
    · exact absurd hi (Nat.not_lt_zero _)
    · exact q
  have N9' : Hid (∀ k, v9.ownBlock = some k → V2.heap.size ≤ k) := fun k hk => by
    rcases N9.out k hk with q | q
    · cases q
    · exact q
  clear T9 P9 N9
  go_upto_region 11 with (at_builtin; refine wpList_appAll rfl _ _ rfl B4 v9 A9 C9 R rfl T9'.out B5 x5 A5 C5 R M c5 HM.out rfl (TabGV.outM HM.out R9.out) (fun j i x y hj hi hx hy => by obtain ⟨i2, h2, h3⟩ := P9'.out j x hj hx; exact HSEP.out i2 i x y h2 hi h3 hy) (fun i y k hi hy hk => by have q1 := N9'.out k hk; have q2 := ((R8.out.rows i hi).lt y hy).2; omega) hB44.out (Nat.le_trans hb48 hV3) (by have := HM.out; omega) ?_; intro v10 V4 A10 C10 q1 q2 q3 q4 q5; have T10 := hiddenN q1; have P10 := hiddenN q2; have HD10 := hiddenN (HD9.out.keep (q3.mono hQB.out)); have K10 := hiddenN q4; have hV4 := q3.size; clear q1 q2 q3 q4 q5)
  have AP : Hid (Calls Try.prog 14 #[v10] V4 fun e w' => e = .returned (.bool true) ∧ Below B4 V4 w' ∧ ∀ k, k < V4.heap.size → ¬ (∃ i x, i < R.length ∧ (A4 i = some x ∨ A5 i = some x) ∧ x.block = k) → w'.heap[k]? = V4.heap[k]?) := apartXV (X := fun k => ∃ i x, i < R.length ∧ (A4 i = some x ∨ A5 i = some x) ∧ x.block = k) ⟨A10, C10, T10.out, fun j x hj hx => by
    rcases P10.out j x hj hx with ⟨i, hi, h3⟩ | ⟨i, hi, h3⟩
    · obtain ⟨i2, h4, h5⟩ := P9'.out i x hi h3
      exact ⟨i2, x, h4, .inl h5, rfl⟩
    · exact ⟨i, x, hi, .inr h3, rfl⟩⟩ (Nat.le_trans hb48 (Nat.le_trans hV3 hV4)) (by rw [List.length_append]; have := HM.out; omega) (fun j hj => by
      rw [List.length_append] at hj
      by_cases e : j < R.length
      · rw [nthL_appLV e]; have := HRR.out j e; omega
      · obtain ⟨q, rfl⟩ : ∃ q, j = R.length + q := ⟨j - R.length, by omega⟩
        rw [nthL_appRV]; have := HRR.out q (by omega); omega)
  go_upto_region 13 with (go_at_call 14; (with_reducible refine AP.out.mono ?_); rintro e V5 ⟨rfl, q1, q2⟩; have HD11 := hiddenN (HD10.out.keep (q1.mono hQB.out)); have K11 := hiddenN q2; have hV5 := q1.size; clear q1 q2)
  have KOW : Hid (∀ k, k < V2.heap.size → (∀ i y, i < R.length → A4 i = some y → y.block ≠ k) → (∀ i y, i < R.length → A5 i = some y → y.block ≠ k) → V5.heap[k]? = V3.heap[k]?) := fun k hk h1 h2 => (K11.out k (by omega) (fun ⟨i, x, hi, hx, e⟩ => hx.elim (fun hx => h1 i x hi hx e) (fun hx => h2 i x hi hx e))).trans (K10.out k (by omega) (fun e => by have := N9'.out k e; omega))
  have TA : Hid (TblV B4 V5 (.slice x4 M c4) M) := (TabGV.tbl HM.out S9.out).keep fun k hk => KOW.out k (rowG_ltV S8.out.row hk).2 (fun i y hi hy => S8.out.dt i y k hi hy hk) (fun i y hi hy => HOA.out k i y hk hi hy)
  have BC : Hid (∀ k, k < M → ∃ gb y yc, x5 = some ⟨gb, 0, none⟩ ∧ V5.cell? ⟨gb, k, none⟩ = some (.slice y n.arcs.length yc)) := fun k hk => by
    have hkR : k < R.length := by have := HM.out; omega
    have q := TabGV.outM HM.out R9.out
    rcases q.tab with h0 | ⟨gb, hx, h1, h2, h3, h4⟩
    · rw [h0] at hkR; simp at hkR
    · have c := h3 k hkR
      rw [(HRR.out k hkR).1] at c
      have ho : (Value.slice x5 M c5).ownBlock = some gb := by rw [hx]; rfl
      exact ⟨gb, A5 k, C5 k, hx, cell_block (KOW.out gb (rowG_ltV R8.out.row ho).2 (fun i y hi hy => HOB.out gb i y ho hi hy) (fun i y hi hy => R8.out.dt i y gb hi hy ho)) c⟩
  have OW5 : Hid (∀ q, (Value.slice x5 M c5).ownBlock = some q → q < V5.heap.size) := fun q hq => by have := (rowG_ltV R8.out.row hq).2; omega
  have hb5 : B4 ≤ V5.heap.size := by omega
  clear AP T10 P10 HD10 K10 K11 KOW S9 R9 S8 R8 HD9 HD8 T9' P9' N9' HSEP HOA HOB HLS hb48 hV3 hV4 hV5
  go_wp2
  go_loopg [14] M (fun gk u wr => ∃ i : Nat, i ≤ M ∧ gk = M - i ∧ u = .int .i64 (i : Int) ∧ TblV B4 wr (.slice x4 M c4) M ∧ HdV w wr n a c g gc gl W1.heap.size Q zs ∧ (∀ q, (Value.slice x5 M c5).ownBlock = some q → wr.heap[q]? = V5.heap[q]?) ∧ V5.heap.size ≤ wr.heap.size)
  case atStart => exact ⟨0, Nat.zero_le _, rfl, rfl, TA.out, HD11.out, fun _ _ => rfl, Nat.le_refl _⟩
  case round =>
    clear HD11 TA
    obtain ⟨i, hi, rfl, rfl, hT, hD, hK, hw⟩ := hrel
    have HT := hiddenN hT
    have HDi := hiddenN hD
    have HK := hiddenN hK
    clear hT hD hK
    by_cases hlt : i < M
    · have hii : (i : Int) < (M : Int) := by omega
      obtain ⟨ga, ega⟩ := TblV.some HT.out (by omega)
      subst ega
      have HC := hiddenN (TblV.cell HT.out hlt)
      obtain ⟨u0, c0⟩ := HC.out.1
      have f0 := HC.out.2.1
      have hga := (TblV.lt HT.out (k := ga) rfl).1
      have TN := hiddenN (HC.out.2.2 (.slice none 0 0))
      have BS := hiddenN ((Below.refl Q wr).setCell (p := ⟨ga, i, none⟩) (Nat.le_trans hQB.out hga) (.slice none 0 0))
      have KN' : Hid (∀ q, (Value.slice x5 M c5).ownBlock = some q → (wr.setCell ⟨ga, i, none⟩ (.slice none 0 0)).heap[q]? = V5.heap[q]?) := fun q hq => (Below.heap_setCell wr ⟨ga, i, none⟩ _ q (fun e => HAB.out ga q rfl hq e.symm)).trans (HK.out q hq)
      have hsz : (wr.setCell ⟨ga, i, none⟩ (.slice none 0 0)).heap.size = wr.heap.size := World.size_setCell _ _ _
      clear HC hga
      go_wp2
      go_roundg (M - (i + 1))
      case measure => omega
      case rel => exact ⟨i + 1, by omega, rfl, by go_num, TN.out, HDi.out.keep BS.out, KN'.out, by rw [hsz]; exact hw⟩
    · have hii : ¬ (i : Int) < (M : Int) := by omega
      obtain ⟨wA, hwA⟩ : ∃ q : World, q = wr := ⟨_, rfl⟩
      subst hwA
      have HOW : Hid (∀ q p, (Value.slice x4 M c4).ownBlock = some q → (Value.slice x5 M c5).ownBlock = some p → p ≠ q) := fun q p hq hp e => HAB.out q p hq hp e.symm
      clear HAB
      go_wp2
      go_loopg [7, 15] 16 (fun gk u7 u15 wr => ∃ j : Nat, j ≤ 16 ∧ gk = 16 - j ∧ u15 = .int .i64 (j : Int) ∧ TblV B4 wr u7 (M + j) ∧ (∀ q p, u7.ownBlock = some q → (Value.slice x5 M c5).ownBlock = some p → p ≠ q) ∧ HdV w wr n a c g gc gl W1.heap.size Q zs ∧ (∀ q, (Value.slice x5 M c5).ownBlock = some q → wr.heap[q]? = V5.heap[q]?) ∧ V5.heap.size ≤ wr.heap.size)
      case atStart => exact ⟨0, by decide, rfl, rfl, HT.out, HOW.out, HDi.out, HK.out, hw⟩
      case round =>
        clear HT HOW HDi HK
        obtain ⟨j, hj, rfl, rfl, hT, hO, hD, hK, hw2⟩ := hrel
        have HT := hiddenN hT
        have HO := hiddenN hO
        have HDj := hiddenN hD
        have HK := hiddenN hK
        clear hT hO hD hK
        by_cases hjt : j < 16
        · have hji : (j : Int) < 16 := by omega
          have b1 := (Below.refl wr.heap.size wr).alloc (Nat.le_refl _) (.cells #[.int .i64 (-7)] 3)
          have b2 := (Below.refl _ _).alloc (Nat.le_refl _) (.cells #[.slice (some ⟨wr.heap.size, 0, none⟩) 1 1] 25) (w := wr.alloc (.cells #[.int .i64 (-7)] 3))
          have X2 := blkA_new 25 (wr.alloc (.cells #[.int .i64 (-7)] 3)) #[.slice (some ⟨wr.heap.size, 0, none⟩) 1 1]
          rw [World.size_alloc] at X2
          have XX := hiddenN X2
          have BB := hiddenN (b1.trans (b2.mono b1.size))
          have HT2 := hiddenN (HT.out.keep (w' := (wr.alloc (.cells #[.int .i64 (-7)] 3)).alloc (.cells #[.slice (some ⟨wr.heap.size, 0, none⟩) 1 1] 25)) fun q hq => BB.out.block q (TblV.lt HT.out hq).2)
          have hB2 : B4 ≤ ((wr.alloc (.cells #[.int .i64 (-7)] 3)).alloc (.cells #[.slice (some ⟨wr.heap.size, 0, none⟩) 1 1] 25)).heap.size := by have := BB.out.size; omega
          obtain ⟨xv, cv, eu⟩ := TblV.shape HT.out
          subst eu
          clear b1 b2 X2
          go_wp2_with (at_builtin; refine wpList_appTbl rfl _ _ rfl B4 (.slice xv (M + j) cv) (M + j) rfl HT2.out (wr.heap.size + 1) (by simp [go_sem]) _ XX.out rfl (by omega) hB2 ?_; intro v' w5 q1 q2 q3 q4 q5 q6 q7; have T5 := hiddenN q1; have O5 := hiddenN q2; have F5 := hiddenN q7; have hs5 := q3; have E4 := hiddenN q4; have E5 := hiddenN q5; have E6 := hiddenN q6; clear q1 q2 q3 q4 q5 q6 q7)
          have hBs := BB.out.size
          have BQ : Hid (Below Q wr w5) := ⟨E4.out.trans BB.out.os, E5.out.trans BB.out.tape, E6.out.trans BB.out.output, Nat.le_trans hBs hs5, fun k hk => by
            have hkw : k < wr.heap.size := Nat.lt_of_lt_of_le hk HDj.out.low.2.2.2.2
            exact (F5.out k (Nat.lt_of_lt_of_le hkw hBs) (fun e => by have q1 := (TblV.lt HT.out e).1; have q2 := hQB.out; omega)).trans (BB.out.block k hkw)⟩
          have KW : Hid (∀ q, (Value.slice x5 M c5).ownBlock = some q → w5.heap[q]? = V5.heap[q]?) := fun q hq => by
            have hkw : q < wr.heap.size := Nat.lt_of_lt_of_le (OW5.out q hq) hw2
            exact ((F5.out q (Nat.lt_of_lt_of_le hkw hBs) (fun e => HO.out q q e hq rfl)).trans (BB.out.block q hkw)).trans (HK.out q hq)
          go_roundg (16 - (j + 1))
          case measure => omega
          case rel => exact ⟨j + 1, by omega, rfl, by go_num, T5.out, fun q p hq hp => by
            rcases O5.out q hq with e | e
            · exact HO.out q p e hp
            · have := OW5.out p hp; omega, HDj.out.keep BQ.out, KW.out, by omega⟩
        · have hji : ¬ (j : Int) < 16 := by omega
          have BC2 : Hid (∀ k, k < M → ∃ gb y yc, x5 = some ⟨gb, 0, none⟩ ∧ wr.cell? ⟨gb, k, none⟩ = some (.slice y n.arcs.length yc)) := fun k hk => by
            obtain ⟨gb, y, yc, h1, h2⟩ := BC.out k hk
            exact ⟨gb, y, yc, h1, cell_block (HK.out gb (by rw [h1]; rfl)) h2⟩
          obtain ⟨V6, hV6⟩ : ∃ q : World, q = wr := ⟨_, rfl⟩
          subst hV6
          clear BC HT HO HK OW5
          go_wp2
          go_loopg [16] M (fun gk u wr => ∃ k : Nat, k ≤ M ∧ gk = M - k ∧ u = .int .i64 (k : Int) ∧ Below V6.heap.size V6 wr)
          case atStart => exact ⟨0, Nat.zero_le _, rfl, rfl, Below.refl _ _⟩
          case round =>
            obtain ⟨k, hk, rfl, rfl, hb⟩ := hrel
            have HB := hiddenN hb
            have HDk := hiddenN (HDj.out.below hb)
            have z0 := HDk.out.net.cell (k := 0) rfl; have z1 := HDk.out.net.cell (k := 1) rfl; simp only [List.getElem_toArray, List.getElem_cons_zero, List.getElem_cons_succ] at z0 z1
            have m0 := HDk.out.box.cell (k := 0) rfl; have m1 := HDk.out.box.cell (k := 1) rfl; simp only [List.getElem_toArray, List.getElem_cons_zero, List.getElem_cons_succ] at m0 m1
            clear hb
            by_cases hkt : k < M
            · have hki : (k : Int) < (M : Int) := by omega
              obtain ⟨gb, y, yc, h1, h2⟩ := BC2.out k hkt
              subst h1
              have c0 := cellN_later HB.out h2
              have qN : ((n.arcs.length : Int) != (n.arcs.length : Int)) = false := by simp
              clear h2 m0 m1
              go_upto_region 24 with fail
              go_quiet (fail)
              have HB2 := hiddenN (drewB HB.out nq)
              generalize wr.drewN nq = wq at *
              go_wp2
              go_roundg (M - (k + 1))
              case measure => omega
              case rel => exact ⟨k + 1, by omega, rfl, by go_num, HB2.out⟩
            · have hki : ¬ (k : Int) < (M : Int) := by omega
              clear HDj
              go_wp2_with (first
                | (go_at_call 15; (with_reducible refine (AW.out _).mono ?_); rintro e VV ⟨rfl, q2⟩; have HDA := hiddenN (HDk.out.below q2); have z0 := HDA.out.net.cell (k := 0) rfl; have z1 := HDA.out.net.cell (k := 1) rfl; simp only [List.getElem_toArray, List.getElem_cons_zero, List.getElem_cons_succ] at z0 z1; have m0 := HDA.out.box.cell (k := 0) rfl; have m1 := HDA.out.box.cell (k := 1) rfl; simp only [List.getElem_toArray, List.getElem_cons_zero, List.getElem_cons_succ] at m0 m1; have KN := hiddenN (keptNet_any n g gc a c VV HDA.out.ldn (HA.out.below HDA.out.bel)); clear q2)
                | (go_at_call 16; (with_reducible refine KN.out.mono ?_); rintro e VK ⟨rfl, q2⟩; have HDK := hiddenN (HDA.out.below q2); have KP := hiddenN (kept_any gl a1 zs zs.length cap1 _ VK HDK.out.lst (H1.out.below HDK.out.bel)); clear q2)
                | (go_at_call 17; (with_reducible refine KP.out.mono ?_); rintro e VL ⟨m8, rfl, rfl⟩))
              go_ret
              exact ⟨by first | rfl | simp, drewB HDK.out.bel _⟩
end Go.Proofs.Ytkgekladndkhkaa

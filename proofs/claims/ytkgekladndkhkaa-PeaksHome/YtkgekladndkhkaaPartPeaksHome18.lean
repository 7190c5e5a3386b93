/- Texts of one chain, laid one behind the other. -/
import Derived.Test.YtkgekladndkhkaaPartPeaksHome17
import Derived.Test.YtkgekladndkhkaaPartPeaksHome16
namespace Go.Proofs.Ytkgekladndkhkaa
open Go.ChangeShapes Go.WideShapes Go.ChangeAt Go.RowKit
/-- The greatest numbers. -/
def mostM (n : NN) (zs : List Int) : List Int := (List.range n.arcs.length).map fun i => maxV (rowsV n (startT n) zs) i
theorem mostM_len (n : NN) (zs : List Int) : (mostM n zs).length = n.arcs.length := by simp [mostM]
theorem mostM_nth {n : NN} {zs : List Int} {i : Nat} (h : i < n.arcs.length) : nth (mostM n zs) i = maxV (rowsV n (startT n) zs) i := by
  unfold mostM nth; rw [List.getD_eq_getElem?_getD, List.getElem?_map, List.getElem?_range h]; rfl
theorem start_nonneg {n : NN} (hS : SoundN n) {i : Nat} (h : i < n.arcs.length) : 0 ≤ nth (startT n) i := by
  have q := (hS.arcs i h).s.1
  unfold startT nth
  rw [List.getD_eq_getElem?_getD, List.getElem?_map, List.getElem?_eq_getElem h]
  unfold nthNa at q
  rw [List.getD_eq_getElem?_getD, List.getElem?_eq_getElem h] at q
  exact q
theorem start_len (n : NN) : (startT n).length = n.arcs.length := by unfold startT; rw [List.length_map]
theorem mostF_rows {n : NN} {zs : List Int} (hS : SoundN n) : mostF (rowsV n (startT n) zs) = mostM n zs := by
  obtain ⟨R, hR⟩ : ∃ R, rowsV n (startT n) zs = startT n :: R := by cases zs <;> exact ⟨_, rfl⟩
  refine eq_nthV ?_ fun i hi => ?_
  · rw [mostM_len, hR]; show (mxR _ _).length = _; rw [mxR_len, start_len]
  · have hl : i < n.arcs.length := by
      rw [hR] at hi
      have q : (mostF (startT n :: R)).length = n.arcs.length := by show (mxR _ _).length = _; rw [mxR_len, start_len]
      omega
    rw [mostM_nth hl, hR]
    exact mostF_nth (by rw [start_len]; exact hl) (start_nonneg hS hl)
/-- How Most ends. -/
def MstE (n : NN) (zs : List Int) (w : World) (e : Ending) (w' : World) : Prop :=
  (codeV n zs = 0 ∧ ∃ B a c, e = .returned (.tuple #[.slice a n.arcs.length c, .int .i64 0]) ∧ w.heap.size ≤ B ∧ B ≤ w'.heap.size ∧ CapR B w' a c (mostM n zs) ∧ Below w.heap.size w w') ∨ (¬ codeV n zs = 0 ∧ e = .returned (.tuple #[.slice none 0 0, .int .i64 (codeV n zs)]) ∧ Below w.heap.size w w')
theorem most_anyV (n : NN) (a : Option Addr) (c : Nat) (w : World) (h : AtN w a n.arcs) (hna : a = none → n.arcs.length = 0 ∧ c = 0) (al : Option Addr) (cl : Nat) (zs : List Int) (hz : At w al zs) (hzl : zs.length ≤ 4611686018427387904) (hs : n.arcs.length ≤ 1000000) :
    Calls Try.prog 18 #[.agg #[.int .i64 n.nodes, .slice a n.arcs.length c], .slice al zs.length cl] w (MstE n zs w) := (most_any1 n hs a c w h hna al cl zs hz hzl).mono fun e w' hh => by
  rcases hh with ⟨k1, B, v, e1, h1, h2, ⟨⟨-, a1, c1, e2, q1⟩, -⟩, q2⟩ | ⟨k1, e1, q⟩
  · rw [mostF_rows (check_sound (code_zero k1).1)] at e2 q1
    rw [mostM_len] at e2
    subst e2
    exact .inl ⟨k1, B, a1, c1, e1, h1, h2, q1, q2⟩
  · exact .inr ⟨k1, e1, q⟩
def netV : NN := ⟨2, [⟨0, 1, 2, 3, 0⟩, ⟨1, 0, 3, 2, 4⟩]⟩
theorem wakeV1 : codeV netV [0, 0, 1] = 0 ∧ rowsV netV (startT netV) [0, 0, 1] = [[0, 4], [2, 2], [4, 0], [1, 3]] ∧ mostM netV [0, 0, 1] = [4, 4] ∧ homeB netV [0, 0, 1] = false := by decide +kernel
theorem wakeV2 : codeV netV [0, 0, 1, 0, 1] = 0 ∧ homeB netV [0, 0, 1, 0, 1] = true ∧ codeV netV [1] = 180 := by decide +kernel
theorem at_allocV3 (U : World) (p0 p1 p2 : Int) : At (U.alloc (.cells #[.int .i64 p0, .int .i64 p1, .int .i64 p2] 3)) (some ⟨U.heap.size, 0, none⟩) [p0, p1, p2] := by
  refine .inr ⟨U.heap.size, 0, rfl, fun k hk => ?_⟩
  have b := blkA_new 3 U #[.int .i64 p0, .int .i64 p1, .int .i64 p2]
  match k, hk with
  | 0, _ => exact b.cell rfl
  | 1, _ => exact b.cell rfl
  | 2, _ => exact b.cell rfl
theorem at_allocV5 (U : World) (p0 p1 p2 p3 p4 : Int) : At (U.alloc (.cells #[.int .i64 p0, .int .i64 p1, .int .i64 p2, .int .i64 p3, .int .i64 p4] 3)) (some ⟨U.heap.size, 0, none⟩) [p0, p1, p2, p3, p4] := by
  refine .inr ⟨U.heap.size, 0, rfl, fun k hk => ?_⟩
  have b := blkA_new 3 U #[.int .i64 p0, .int .i64 p1, .int .i64 p2, .int .i64 p3, .int .i64 p4]
  match k, hk with
  | 0, _ => exact b.cell rfl
  | 1, _ => exact b.cell rfl
  | 2, _ => exact b.cell rfl
  | 3, _ => exact b.cell rfl
  | 4, _ => exact b.cell rfl
theorem alongW1 (w : World) (x y : Addr) (h : AtN w (some x) netV.arcs) (hz : At w (some y) [0, 0, 1]) : Calls Try.prog 11 #[.agg #[.int .i64 2, .slice (some x) 2 2], .slice (some y) 3 3] w fun e w' => ∃ v, e = .returned (.tuple #[v, .int .i64 0]) ∧ LsV w' v [[0, 4], [2, 2], [4, 0], [1, 3]] ∧ Below w.heap.size w w' :=
  (along_any netV (some x) 2 w h (by decide) (fun e => by cases e) (some y) 3 [0, 0, 1] hz (by decide)).mono fun e w' hh => by
    rcases hh with ⟨-, B, v, e1, -, -, q1, q2⟩ | ⟨k1, -⟩
    · refine ⟨v, e1, ?_, q2⟩
      have q := q1.ls
      rw [wakeV1.2.1] at q
      exact q
    · exact absurd wakeV1.1 k1
theorem mostW1 (w : World) (x y : Addr) (h : AtN w (some x) netV.arcs) (hz : At w (some y) [0, 0, 1]) : Calls Try.prog 18 #[.agg #[.int .i64 2, .slice (some x) 2 2], .slice (some y) 3 3] w fun e w' => ∃ a c, e = .returned (.tuple #[.slice a 2 c, .int .i64 0]) ∧ At w' a [4, 4] ∧ Below w.heap.size w w' :=
  (most_anyV netV (some x) 2 w h (fun e => by cases e) (some y) 3 [0, 0, 1] hz (by decide) (by decide)).mono fun e w' hh => by
    rcases hh with ⟨-, B, a, c, e1, -, -, q1, q2⟩ | ⟨k1, -⟩
    · refine ⟨a, c, e1, ?_, q2⟩
      have q := q1.at
      rw [wakeV1.2.2.1] at q
      exact q
    · exact absurd wakeV1.1 k1
theorem homeW1 (w : World) (x y : Addr) (h : AtN w (some x) netV.arcs) (hz : At w (some y) [0, 0, 1]) : Calls Try.prog 21 #[.agg #[.int .i64 2, .slice (some x) 2 2], .slice (some y) 3 3] w fun e w' => e = .returned (.tuple #[.bool false, .int .i64 0]) ∧ Below w.heap.size w w' :=
  (home_anyV netV (some x) 2 w h (by decide) (fun e => by cases e) (some y) 3 [0, 0, 1] hz (by decide)).mono fun e w' ⟨e1, e2⟩ => by
    rw [wakeV1.2.2.2, wakeV1.1] at e1
    exact ⟨e1, e2⟩
theorem homeW2 (w : World) (x y : Addr) (h : AtN w (some x) netV.arcs) (hz : At w (some y) [0, 0, 1, 0, 1]) : Calls Try.prog 21 #[.agg #[.int .i64 2, .slice (some x) 2 2], .slice (some y) 5 5] w fun e w' => e = .returned (.tuple #[.bool true, .int .i64 0]) ∧ Below w.heap.size w w' :=
  (home_anyV netV (some x) 2 w h (by decide) (fun e => by cases e) (some y) 5 [0, 0, 1, 0, 1] hz (by decide)).mono fun e w' ⟨e1, e2⟩ => by
    rw [wakeV2.2.1, wakeV2.1] at e1
    exact ⟨e1, e2⟩
theorem alongW2 (w : World) (x y : Addr) (h : AtN w (some x) netV.arcs) (hz : At w (some y) [1]) : Calls Try.prog 11 #[.agg #[.int .i64 2, .slice (some x) 2 2], .slice (some y) 1 1] w fun e w' => e = .returned (.tuple #[.slice none 0 0, .int .i64 180]) ∧ Below w.heap.size w w' :=
  (along_any netV (some x) 2 w h (by decide) (fun e => by cases e) (some y) 1 [1] hz (by decide)).mono fun e w' hh => by
    rcases hh with ⟨k1, -⟩ | ⟨-, e1, q2⟩
    · rw [wakeV2.2.2] at k1; cases k1
    · rw [wakeV2.2.2] at e1; exact ⟨e1, q2⟩
theorem atN_alloc2V (U : World) : AtN (U.alloc (.cells #[.int .i64 0, .int .i64 1, .int .i64 2, .int .i64 3, .int .i64 0, .int .i64 1, .int .i64 0, .int .i64 3, .int .i64 2, .int .i64 4] 50)) (some ⟨U.heap.size, 0, none⟩) netV.arcs := by
  refine .inr ⟨U.heap.size, 0, rfl, fun k hk => ?_⟩
  have b := blkA_new 50 U #[.int .i64 0, .int .i64 1, .int .i64 2, .int .i64 3, .int .i64 0, .int .i64 1, .int .i64 0, .int .i64 3, .int .i64 2, .int .i64 4]
  match k, hk with
  | 0, _ => exact ⟨b.cell rfl, b.cell rfl, b.cell rfl, b.cell rfl, b.cell rfl⟩
  | 1, _ => exact ⟨b.cell rfl, b.cell rfl, b.cell rfl, b.cell rfl, b.cell rfl⟩
set_option maxRecDepth 100000 in
set_option maxHeartbeats 4000000 in
theorem two_any (w : World) : Calls Try.prog 35 #[] w fun e w' => ∃ x, e = .returned (.agg #[.int .i64 2, .slice (some x) 2 2]) ∧ AtN w' (some x) netV.arcs ∧ Below w.heap.size w w' := by
  have b0 := (Below.refl w.heap.size w).alloc (Nat.le_refl _) (.cells #[.int .i64 0, .slice none 0 0] 24)
  have G0 := hiddenN (blkA_new 24 w #[.int .i64 0, .slice none 0 0])
  have B0 := hiddenN b0
  clear b0
  go_enter Try.func35, Try.ntmps35
  go_upto_region 1 with fail
  generalize w.alloc (.cells #[.int .i64 0, .slice none 0 0] 24) = W0 at *
  have a1 := (Below.refl W0.heap.size W0).alloc (Nat.le_refl _) (.cells #[.int .i64 0, .int .i64 1, .int .i64 2, .int .i64 3, .int .i64 0, .int .i64 1, .int .i64 0, .int .i64 3, .int .i64 2, .int .i64 4] 50)
  have H1 := hiddenN (atN_alloc2V W0)
  have A1 := hiddenN a1
  have G1 := hiddenN (G0.out.below a1)
  clear a1
  have hlt := G0.out.lt
  go_wp2_with (refine wpList_storeW _ rfl 24 (.tmp 0) (.tmp 4) rfl rfl w.heap.size 24 _ _ rfl rfl G1.out sizNet rfl rfl ?_; intro w8 hN hU; have N8 := hiddenN hN; have U8 := hiddenN hU; clear hN hU)
  have t0 : w8.cell? ⟨w.heap.size, 0, none⟩ = some (.int .i64 2) := N8.out.cell rfl
  have t1 : w8.cell? ⟨w.heap.size, 1, none⟩ = some (.slice (some ⟨W0.heap.size, 0, none⟩) 2 2) := N8.out.cell rfl
  refine bodyPost_ret (v := .agg #[.int .i64 2, .slice (some ⟨W0.heap.size, 0, none⟩) 2 2]) (by simp [results, Try.results35, go_sem, t0, t1]) rfl ?_
  have hs1 : (W0.alloc (.cells #[.int .i64 0, .int .i64 1, .int .i64 2, .int .i64 3, .int .i64 0, .int .i64 1, .int .i64 0, .int .i64 3, .int .i64 2, .int .i64 4] 50)).heap.size = W0.heap.size + 1 := World.size_alloc _ _
  exact ⟨_, rfl, H1.out.keep fun x hx => by cases hx; exact U8.out.block _ (by show W0.heap.size < _; omega) (by show W0.heap.size ≠ w.heap.size; omega), B0.out.trans ((A1.out.mono B0.out.size).trans (U8.out.below (Nat.le_refl _) (Nat.le_trans B0.out.size A1.out.size)))⟩
theorem want_ls (W : World) : LsV ((((((W).alloc (.cells #[.int .i64 0, .int .i64 4] 3)).alloc (.cells #[.int .i64 2, .int .i64 2] 3)).alloc (.cells #[.int .i64 4, .int .i64 0] 3)).alloc (.cells #[.int .i64 1, .int .i64 3] 3)).alloc (.cells #[.slice (some ⟨W.heap.size, 0, none⟩) 2 2, .slice (some ⟨W.heap.size + 1, 0, none⟩) 2 2, .slice (some ⟨W.heap.size + 2, 0, none⟩) 2 2, .slice (some ⟨W.heap.size + 3, 0, none⟩) 2 2] 25)) (.slice (some ⟨W.heap.size + 4, 0, none⟩) 4 4) [[0, 4], [2, 2], [4, 0], [1, 3]] ∧ Below W.heap.size W ((((((W).alloc (.cells #[.int .i64 0, .int .i64 4] 3)).alloc (.cells #[.int .i64 2, .int .i64 2] 3)).alloc (.cells #[.int .i64 4, .int .i64 0] 3)).alloc (.cells #[.int .i64 1, .int .i64 3] 3)).alloc (.cells #[.slice (some ⟨W.heap.size, 0, none⟩) 2 2, .slice (some ⟨W.heap.size + 1, 0, none⟩) 2 2, .slice (some ⟨W.heap.size + 2, 0, none⟩) 2 2, .slice (some ⟨W.heap.size + 3, 0, none⟩) 2 2] 25)) := by
  have b1 := (Below.refl W.heap.size W).alloc (Nat.le_refl _) (.cells #[.int .i64 0, .int .i64 4] 3)
  have b2 := (Below.refl _ _).alloc (Nat.le_refl _) (.cells #[.int .i64 2, .int .i64 2] 3) (w := (W).alloc (.cells #[.int .i64 0, .int .i64 4] 3))
  have b3 := (Below.refl _ _).alloc (Nat.le_refl _) (.cells #[.int .i64 4, .int .i64 0] 3) (w := ((W).alloc (.cells #[.int .i64 0, .int .i64 4] 3)).alloc (.cells #[.int .i64 2, .int .i64 2] 3))
  have b4 := (Below.refl _ _).alloc (Nat.le_refl _) (.cells #[.int .i64 1, .int .i64 3] 3) (w := (((W).alloc (.cells #[.int .i64 0, .int .i64 4] 3)).alloc (.cells #[.int .i64 2, .int .i64 2] 3)).alloc (.cells #[.int .i64 4, .int .i64 0] 3))
  have b5 := (Below.refl _ _).alloc (Nat.le_refl _) (.cells #[.slice (some ⟨W.heap.size, 0, none⟩) 2 2, .slice (some ⟨W.heap.size + 1, 0, none⟩) 2 2, .slice (some ⟨W.heap.size + 2, 0, none⟩) 2 2, .slice (some ⟨W.heap.size + 3, 0, none⟩) 2 2] 25) (w := ((((W).alloc (.cells #[.int .i64 0, .int .i64 4] 3)).alloc (.cells #[.int .i64 2, .int .i64 2] 3)).alloc (.cells #[.int .i64 4, .int .i64 0] 3)).alloc (.cells #[.int .i64 1, .int .i64 3] 3))
  have h0 := at_alloc2 (W) 0 4
  have h1 := at_alloc2 ((W).alloc (.cells #[.int .i64 0, .int .i64 4] 3)) 2 2
  have h2 := at_alloc2 (((W).alloc (.cells #[.int .i64 0, .int .i64 4] 3)).alloc (.cells #[.int .i64 2, .int .i64 2] 3)) 4 0
  have h3 := at_alloc2 ((((W).alloc (.cells #[.int .i64 0, .int .i64 4] 3)).alloc (.cells #[.int .i64 2, .int .i64 2] 3)).alloc (.cells #[.int .i64 4, .int .i64 0] 3)) 1 3
  have g := blkA_new 25 (((((W).alloc (.cells #[.int .i64 0, .int .i64 4] 3)).alloc (.cells #[.int .i64 2, .int .i64 2] 3)).alloc (.cells #[.int .i64 4, .int .i64 0] 3)).alloc (.cells #[.int .i64 1, .int .i64 3] 3)) #[.slice (some ⟨W.heap.size, 0, none⟩) 2 2, .slice (some ⟨W.heap.size + 1, 0, none⟩) 2 2, .slice (some ⟨W.heap.size + 2, 0, none⟩) 2 2, .slice (some ⟨W.heap.size + 3, 0, none⟩) 2 2]
  have s1 : ((W).alloc (.cells #[.int .i64 0, .int .i64 4] 3)).heap.size = W.heap.size + 1 := World.size_alloc _ _
  have s2 : (((W).alloc (.cells #[.int .i64 0, .int .i64 4] 3)).alloc (.cells #[.int .i64 2, .int .i64 2] 3)).heap.size = W.heap.size + 2 := by rw [World.size_alloc, s1]
  have s3 : ((((W).alloc (.cells #[.int .i64 0, .int .i64 4] 3)).alloc (.cells #[.int .i64 2, .int .i64 2] 3)).alloc (.cells #[.int .i64 4, .int .i64 0] 3)).heap.size = W.heap.size + 3 := by rw [World.size_alloc, s2]
  have s4 : (((((W).alloc (.cells #[.int .i64 0, .int .i64 4] 3)).alloc (.cells #[.int .i64 2, .int .i64 2] 3)).alloc (.cells #[.int .i64 4, .int .i64 0] 3)).alloc (.cells #[.int .i64 1, .int .i64 3] 3)).heap.size = W.heap.size + 4 := by rw [World.size_alloc, s3]
  rw [s1] at h1
  rw [s2] at h2
  rw [s3] at h3
  rw [s4] at g
  have k0 := (((h0.below b2).below b3).below b4).below b5
  have k1 := ((h1.below b3).below b4).below b5
  have k2 := (h2.below b4).below b5
  have k3 := h3.below b5
  refine ⟨⟨_, _, rfl, .inr ⟨W.heap.size + 4, 0, rfl, fun k hk => ?_⟩⟩, b1.trans ((b2.mono (by omega)).trans ((b3.mono (by omega)).trans ((b4.mono (by omega)).trans (b5.mono (by omega)))))⟩
  match k, hk with
  | 0, _ => exact ⟨_, _, g.cell rfl, k0⟩
  | 1, _ => exact ⟨_, _, g.cell rfl, k1⟩
  | 2, _ => exact ⟨_, _, g.cell rfl, k2⟩
  | 3, _ => exact ⟨_, _, g.cell rfl, k3⟩
set_option maxRecDepth 100000 in
set_option maxHeartbeats 16000000 in
theorem awakeP (w : World) : Calls Try.prog 15 #[] w fun e w' => e = .returned (.bool true) ∧ Below w.heap.size w w' := by
  have L0 := hiddenN (Below.refl w.heap.size w)
  go_enter Try.func15, Try.ntmps15
  go_upto_region 2 with (first
    | (go_at_call 35; (with_reducible refine (two_any w).mono ?_); rintro e X1 ⟨x1, rfl, h, b⟩; have aA := (Below.refl X1.heap.size X1).alloc (Nat.le_refl _) (.cells #[.int .i64 0, .int .i64 0, .int .i64 1] 3); have CC := hiddenN (alongW1 (X1.alloc (.cells #[.int .i64 0, .int .i64 0, .int .i64 1] 3)) x1 ⟨X1.heap.size, 0, none⟩ (h.below aA) (at_allocV3 X1 0 0 1)); have LL := hiddenN (b.trans (aA.mono b.size)); clear h b aA)
    | (go_at_call 11; (with_reducible refine CC.out.mono ?_); rintro e W1 ⟨v1, rfl, q1, b⟩; have L1 := hiddenN (L0.out.trans ((LL.out.trans (b.mono LL.out.size)).mono L0.out.size)); have M1 := hiddenN (LL.out.trans (b.mono LL.out.size)); have R1 := hiddenN q1; clear q1; clear b; clear CC LL))
  go_upto_region 3 with (first
    | (go_at_call 35; (with_reducible refine (two_any W1).mono ?_); rintro e X2 ⟨x2, rfl, h, b⟩; have aA := (Below.refl X2.heap.size X2).alloc (Nat.le_refl _) (.cells #[.int .i64 0, .int .i64 0, .int .i64 1] 3); have CC := hiddenN (mostW1 (X2.alloc (.cells #[.int .i64 0, .int .i64 0, .int .i64 1] 3)) x2 ⟨X2.heap.size, 0, none⟩ (h.below aA) (at_allocV3 X2 0 0 1)); have LL := hiddenN (b.trans (aA.mono b.size)); clear h b aA)
    | (go_at_call 18; (with_reducible refine CC.out.mono ?_); rintro e W2 ⟨a2, c2, rfl, q1, b⟩; have L2 := hiddenN (L1.out.trans ((LL.out.trans (b.mono LL.out.size)).mono L1.out.size)); have M2 := hiddenN (LL.out.trans (b.mono LL.out.size)); have R2 := hiddenN (R1.out.below M2.out); have T2 := hiddenN q1; clear q1; clear b; clear CC LL))
  go_upto_region 4 with (first
    | (go_at_call 35; (with_reducible refine (two_any W2).mono ?_); rintro e X3 ⟨x3, rfl, h, b⟩; have aA := (Below.refl X3.heap.size X3).alloc (Nat.le_refl _) (.cells #[.int .i64 0, .int .i64 0, .int .i64 1] 3); have CC := hiddenN (homeW1 (X3.alloc (.cells #[.int .i64 0, .int .i64 0, .int .i64 1] 3)) x3 ⟨X3.heap.size, 0, none⟩ (h.below aA) (at_allocV3 X3 0 0 1)); have LL := hiddenN (b.trans (aA.mono b.size)); clear h b aA)
    | (go_at_call 21; (with_reducible refine CC.out.mono ?_); rintro e W3 ⟨rfl, b⟩; have L3 := hiddenN (L2.out.trans ((LL.out.trans (b.mono LL.out.size)).mono L2.out.size)); have M3 := hiddenN (LL.out.trans (b.mono LL.out.size)); have R3 := hiddenN (R2.out.below M3.out); have T3 := hiddenN (T2.out.below M3.out); clear b; clear CC LL))
  go_upto_region 5 with (first
    | (go_at_call 35; (with_reducible refine (two_any W3).mono ?_); rintro e X4 ⟨x4, rfl, h, b⟩; have aA := (Below.refl X4.heap.size X4).alloc (Nat.le_refl _) (.cells #[.int .i64 0, .int .i64 0, .int .i64 1, .int .i64 0, .int .i64 1] 3); have CC := hiddenN (homeW2 (X4.alloc (.cells #[.int .i64 0, .int .i64 0, .int .i64 1, .int .i64 0, .int .i64 1] 3)) x4 ⟨X4.heap.size, 0, none⟩ (h.below aA) (at_allocV5 X4 0 0 1 0 1)); have LL := hiddenN (b.trans (aA.mono b.size)); clear h b aA)
    | (go_at_call 21; (with_reducible refine CC.out.mono ?_); rintro e W4 ⟨rfl, b⟩; have L4 := hiddenN (L3.out.trans ((LL.out.trans (b.mono LL.out.size)).mono L3.out.size)); have M4 := hiddenN (LL.out.trans (b.mono LL.out.size)); have R4 := hiddenN (R3.out.below M4.out); have T4 := hiddenN (T3.out.below M4.out); clear b; clear CC LL))
  go_upto_region 6 with (first
    | (go_at_call 35; (with_reducible refine (two_any W4).mono ?_); rintro e X5 ⟨x5, rfl, h, b⟩; have aA := (Below.refl X5.heap.size X5).alloc (Nat.le_refl _) (.cells #[.int .i64 1] 3); have CC := hiddenN (alongW2 (X5.alloc (.cells #[.int .i64 1] 3)) x5 ⟨X5.heap.size, 0, none⟩ (h.below aA) (at_alloc1 X5 1)); have LL := hiddenN (b.trans (aA.mono b.size)); clear h b aA)
    | (go_at_call 11; (with_reducible refine CC.out.mono ?_); rintro e W5 ⟨rfl, b⟩; have L5 := hiddenN (L4.out.trans ((LL.out.trans (b.mono LL.out.size)).mono L4.out.size)); have M5 := hiddenN (LL.out.trans (b.mono LL.out.size)); have R5 := hiddenN (R4.out.below M5.out); have T5 := hiddenN (T4.out.below M5.out); clear b; clear CC LL))
  clear L0 L1 L2 L3 L4 R1 R2 R3 R4 T2 T3 T4 M1 M2 M3 M4 M5
  go_upto_region 7 with fail
  have WL := hiddenN (want_ls W5)
  generalize ((((W5.alloc (.cells #[.int .i64 0, .int .i64 4] 3)).alloc (.cells #[.int .i64 2, .int .i64 2] 3)).alloc (.cells #[.int .i64 4, .int .i64 0] 3)).alloc (.cells #[.int .i64 1, .int .i64 3] 3)).alloc (.cells #[.slice (some ⟨W5.heap.size, 0, none⟩) 2 2, .slice (some ⟨W5.heap.size + 1, 0, none⟩) 2 2, .slice (some ⟨W5.heap.size + 2, 0, none⟩) 2 2, .slice (some ⟨W5.heap.size + 3, 0, none⟩) 2 2] 25) = W6 at *
  obtain ⟨y1, yc1, ev, -⟩ := R5.out
  have ev4 : v1 = .slice y1 4 yc1 := ev
  subst ev4
  have SL := hiddenN (sameLists_any (.slice y1 4 yc1) (.slice (some ⟨W5.heap.size + 4, 0, none⟩) 4 4) _ W6 (R5.out.below WL.out.2) WL.out.1 (by decide) (fun k hk => by
    match k, hk with
    | 0, _ => decide
    | 1, _ => decide
    | 2, _ => decide
    | 3, _ => decide))
  have T6 := hiddenN (T5.out.below WL.out.2)
  have L6 := hiddenN (L5.out.trans (WL.out.2.mono L5.out.size))
  have SLB : Hid (Calls Try.prog 13 #[.slice y1 4 yc1, .slice (some ⟨W5.heap.size + 4, 0, none⟩) 4 4] W6 fun e w' => e = .returned (.bool true) ∧ Below W6.heap.size W6 w') := SL.out.mono fun e w' ⟨e1, m, e2⟩ => ⟨e1, by rw [e2]; exact drewB (Below.refl _ _) m⟩
  clear ev SL R5 T5 L5 WL
  go_wp2_with (first
    | (go_at_call 13; (with_reducible refine SLB.out.mono ?_); rintro e W7 ⟨rfl, a7⟩; have a8 := (Below.refl W7.heap.size W7).alloc (Nat.le_refl _) (.cells #[.int .i64 4, .int .i64 4] 3); have L8 := hiddenN (L6.out.trans ((a7.trans (a8.mono a7.size)).mono L6.out.size)); have SI := hiddenN (same_any a2 (some ⟨W7.heap.size, 0, none⟩) [4, 4] 2 c2 2 (W7.alloc (.cells #[.int .i64 4, .int .i64 4] 3)) rfl (by decide) ((T6.out.below a7).below a8) (at_alloc2 _ 4 4)); clear a7 a8)
    | (go_at_call 20; (with_reducible refine SI.out.mono ?_); rintro e W9 ⟨m9, rfl, rfl⟩))
  go_ret
  exact ⟨by first | rfl | simp, drewB L8.out _⟩
set_option maxRecDepth 100000 in
set_option maxHeartbeats 16000000 in
theorem peaksHome_walk (n : NN) (a : Option Addr) (c : Nat) (a1 : Option Addr) (len1 cap1 : Nat) (zs : List Int) (w : World) (h : ArgN w a c n) (h1 : Arg w a1 len1 cap1 zs) : Calls Try.prog 5 #[.agg #[.int .i64 n.nodes, .slice a n.arcs.length c], .slice a1 len1 cap1] w fun e w' => e = .returned (.bool true) ∧ Below w.heap.size w w' := by
  obtain rfl := h1.size
  have b0 := (Below.refl w.heap.size w).alloc (Nat.le_refl _) (.cells #[.int .i64 n.nodes, .slice a n.arcs.length c] 24)
  have G0 := hiddenN (blkA_new 24 w #[.int .i64 n.nodes, .slice a n.arcs.length c])
  have B0 := hiddenN b0
  have HA := hiddenN h
  have H1 := hiddenN h1
  have hroom : n.arcs.length ≤ 4611686018427387904 := by have := h.room; omega
  have hzl : zs.length ≤ 4611686018427387904 := by have := h1.reach; omega
  have LN : Hid (∀ U, Below w.heap.size w U → Calls Try.prog 9 #[.agg #[.int .i64 n.nodes, .slice a n.arcs.length c]] U (LentE n U)) := fun U hb => lentNet_any n a c U (HA.out.below hb)
  have AW : Hid (∀ U, Calls Try.prog 15 #[] U fun e w' => e = .returned (.bool true) ∧ Below U.heap.size U w') := fun U => awakeP U
  have z0 := G0.out.cell (k := 0) rfl
  have z1 := G0.out.cell (k := 1) rfl
  simp only [List.getElem_toArray, List.getElem_cons_zero, List.getElem_cons_succ] at z0 z1
  clear b0 h h1
  have LD : Hid (∀ U, Below w.heap.size w U → Calls Try.prog 10 #[.slice a1 zs.length cap1] U fun e w' => ∃ gl, e = .returned (.slice (some ⟨gl, 0, none⟩) zs.length (zs.length + 4)) ∧ Lend U.heap.size w' gl zs.length zs ∧ Below U.heap.size U w') := fun U hb => lent_any a1 zs zs.length cap1 U (H1.out.below hb)
  have RH : Hid (∀ U, Below w.heap.size w U → Calls Try.prog 22 #[.agg #[.int .i64 n.nodes, .slice a n.arcs.length c], .slice a1 zs.length cap1] U fun e w' => e = .returned (.tuple #[.bool (homeB n zs), .int .i64 (codeV n zs)]) ∧ Below U.heap.size U w') := fun U hb => rhome_any n a c U (HA.out.below hb).lies hroom a1 cap1 zs (H1.out.below hb).lies hzl
  have PH : Hid (∀ U x y cx cy, AtN U (some x) n.arcs → At U (some y) zs → Calls Try.prog 21 #[.agg #[.int .i64 n.nodes, .slice (some x) n.arcs.length cx], .slice (some y) zs.length cy] U fun e w' => e = .returned (.tuple #[.bool (homeB n zs), .int .i64 (codeV n zs)]) ∧ Below U.heap.size U w') := fun U x y cx cy q1 q2 => home_anyV n (some x) cx U q1 hroom (fun e => by cases e) (some y) cy zs q2 hzl
  generalize homeB n zs = hb at *
  generalize codeV n zs = cd at *
  go_enter Try.func5, Try.ntmps5
  go_upto_region 1 with fail
  generalize w.alloc (.cells #[.int .i64 n.nodes, .slice a n.arcs.length c] 24) = W0 at *
  go_upto_region 2 with (go_at_call 9; (with_reducible refine (LN.out _ B0.out).mono ?_); rintro e W1 ⟨g, gc, rfl, q1, q2⟩; have E1 := hiddenN q1; have L1 := hiddenN (B0.out.trans (q2.mono B0.out.size)); have G1 := hiddenN (G0.out.below q2); clear q1 q2 z0 z1)
  have bM := (Below.refl W1.heap.size W1).alloc (Nat.le_refl _) (.cells #[.int .i64 n.nodes, .slice (some ⟨g, 0, none⟩) n.arcs.length gc] 24)
  have XM := hiddenN (blkA_new 24 W1 #[.int .i64 n.nodes, .slice (some ⟨g, 0, none⟩) n.arcs.length gc])
  have E2 := hiddenN (E1.out.below bM)
  have L2 := hiddenN (L1.out.trans (bM.mono L1.out.size))
  have G2 := hiddenN (G1.out.below bM)
  generalize W1.alloc (.cells #[.int .i64 n.nodes, .slice (some ⟨g, 0, none⟩) n.arcs.length gc] 24) = W2 at *
  clear bM E1 G1 L1
  go_upto_region 3 with (go_at_call 10; (with_reducible refine (LD.out _ L2.out).mono ?_); rintro e W3 ⟨gl, rfl, q1, q2⟩; have D3 := hiddenN q1; have L3 := hiddenN (L2.out.trans (q2.mono L2.out.size)); have G3 := hiddenN (G2.out.below q2); have E3 := hiddenN (E2.out.below q2); have X3 := hiddenN (XM.out.below q2); clear q1 q2)
  have m0 := X3.out.cell (k := 0) rfl; have m1 := X3.out.cell (k := 1) rfl; simp only [List.getElem_toArray, List.getElem_cons_zero, List.getElem_cons_succ] at m0 m1
  clear L2 G2 E2 XM LD LN
  have PH3 := hiddenN (PH.out W3 ⟨g, 0, none⟩ ⟨gl, 0, none⟩ gc (zs.length + 4) E3.out.at D3.out.at)
  go_upto_region 4 with (go_at_call 21; (with_reducible refine PH3.out.mono ?_); rintro e W4 ⟨rfl, q2⟩; have D4 := hiddenN (D3.out.below q2); have L4 := hiddenN (L3.out.trans (q2.mono L3.out.size)); have G4 := hiddenN (G3.out.below q2); have E4 := hiddenN (E3.out.below q2); have X4 := hiddenN (X3.out.below q2); clear q2 m0 m1)
  have z0 := G4.out.cell (k := 0) rfl; have z1 := G4.out.cell (k := 1) rfl; simp only [List.getElem_toArray, List.getElem_cons_zero, List.getElem_cons_succ] at z0 z1
  clear L3 G3 E3 X3 D3 PH PH3
  go_upto_region 5 with (go_at_call 22; (with_reducible refine (RH.out _ L4.out).mono ?_); rintro e W5 ⟨rfl, q2⟩; have D5 := hiddenN (D4.out.below q2); have L5 := hiddenN (L4.out.trans (q2.mono L4.out.size)); have G5 := hiddenN (G4.out.below q2); have E5 := hiddenN (E4.out.below q2); have X5 := hiddenN (X4.out.below q2); clear q2 z0 z1)
  have eb : (hb == hb) = true := by simp
  have ec : (cd == cd) = true := by simp
  clear L4 G4 E4 X4 D4 RH
  go_wp2_with (first
    | (go_at_call 15; (with_reducible refine (AW.out _).mono ?_); rintro e W6 ⟨rfl, q2⟩; have D6 := hiddenN (D5.out.below q2); have L6 := hiddenN (L5.out.trans (q2.mono L5.out.size)); have E6 := hiddenN (E5.out.below q2); have G6 := G5.out.below q2; have X6 := X5.out.below q2; have z0 := G6.cell (k := 0) rfl; have z1 := G6.cell (k := 1) rfl; simp only [List.getElem_toArray, List.getElem_cons_zero, List.getElem_cons_succ] at z0 z1; have m0 := X6.cell (k := 0) rfl; have m1 := X6.cell (k := 1) rfl; simp only [List.getElem_toArray, List.getElem_cons_zero, List.getElem_cons_succ] at m0 m1; have KN := hiddenN (keptNet_any n g gc a c W6 E6.out (HA.out.below L6.out)); clear q2 G6 X6)
    | (go_at_call 16; (with_reducible refine KN.out.mono ?_); rintro e W7 ⟨rfl, q2⟩; have D7 := hiddenN (D6.out.below q2); have L7 := hiddenN (L6.out.trans (q2.mono L6.out.size)); have KP := hiddenN (kept_any gl a1 zs zs.length cap1 _ W7 D7.out (H1.out.below L7.out)); clear q2)
    | (go_at_call 17; (with_reducible refine KP.out.mono ?_); rintro e W8 ⟨m8, rfl, rfl⟩))
  go_ret
  exact ⟨by first | rfl | simp, drewB L7.out _⟩
end Go.Proofs.Ytkgekladndkhkaa

/- Texts of one chain, laid one behind the other. -/
import Derived.Test.YtimioiaoefhabaaGreatPartPackPlaces17
import Derived.Deep.MidRow
import Derived.Test.YtimioiaoefhabaaGreatPartPackPlaces16
import Derived.BigQuiet
namespace Go.Proofs.YtimioiaoefhabaaGreat
open Go.ChangeShapes Go.WideShapes Go.ChangeAt Go.RowKit
def nthOp (S : List (Int × List Int)) (k : Nat) : (Int × List Int) := S.getD k (0, [])
/-- A script that came in. -/
def OpsN (w : World) (a : Option Addr) (S : List (Int × List Int)) : Prop := S = [] ∨ ∃ b off, a = some ⟨b, off, none⟩ ∧ ∀ k, k < S.length → w.cell? ⟨b, off + k * 2, none⟩ = some (.int .i64 (nthOp S k).1) ∧ ∃ x c, w.cell? ⟨b, off + k * 2 + 1, none⟩ = some (.slice x (nthOp S k).2.length c) ∧ Arg w x (nthOp S k).2.length c (nthOp S k).2
theorem OpsN.below {w w' : World} {a : Option Addr} {S : List (Int × List Int)} (h : OpsN w a S) (hb : Below w.heap.size w w') : OpsN w' a S := by
  rcases h with h | ⟨b, off, e, hc⟩
  · exact .inl h
  · refine .inr ⟨b, off, e, fun k hk => ?_⟩
    obtain ⟨h1, x, c, h2, h3⟩ := hc k hk
    exact ⟨cellN_later hb h1, x, c, cellN_later hb h2, h3.below hb⟩
section
variable {H : Type} {enc : TypeId × Value → H} {W : World} {base : Nat} {held : Bool}
end
theorem atN_lt {w : World} {a : Option Addr} {L : List NA} (h : AtN w a L) (hne : L ≠ []) {x : Addr} (hx : a = some x) : x.block < w.heap.size := by
  rcases h with h | ⟨b, off, e, hc⟩
  · exact absurd h hne
  · rw [e] at hx
    cases hx
    exact block_lt_of_cell (hc 0 (List.length_pos_iff.2 hne)).1
/-- All old blocks but a row's are as they were. -/
structure ButO (d : Option Addr) (w w' : World) : Prop where
  os : w'.os = w.os
  tape : w'.tape = w.tape
  output : w'.output = w.output
  size : w.heap.size ≤ w'.heap.size
  block : ∀ k, k < w.heap.size → (∀ x, d = some x → x.block ≠ k) → w'.heap[k]? = w.heap[k]?
theorem ButO.refl (d : Option Addr) (w : World) : ButO d w w := ⟨rfl, rfl, rfl, Nat.le_refl _, fun _ _ _ => rfl⟩
theorem setCells_but (b : Nat) : ∀ (vs : List Value) (o : Nat) (w : World), But b w (w.setCells b o vs)
  | [], _, _ => But.of_below (Below.refl _ _)
  | v :: vs, o, w => (But.set w b o v).trans (setCells_but b vs (o + 1) _)
theorem ButO.but {b : Nat} {w w' w'' : World} (h : ButO (some ⟨b, 0, none⟩) w w') (hb : But b w' w'') : ButO (some ⟨b, 0, none⟩) w w'' := ⟨hb.os.trans h.os, hb.tape.trans h.tape, hb.output.trans h.output, Nat.le_trans h.size hb.size, fun k hk hn => (hb.block k (Nat.lt_of_lt_of_le hk h.size) (fun e => hn _ rfl e.symm)).trans (h.block k hk hn)⟩
theorem Lend.keepN {base : Nat} {w w' : World} {g len : Nat} {zs : List Int} (h : Lend base w g len zs) (hk : w'.heap[g]? = w.heap[g]?) : Lend base w' g len zs := ⟨h.1, h.2.1, h.2.2.keep fun x hx => by cases hx; exact hk⟩
theorem Lend.lt {base : Nat} {w : World} {g len : Nat} {zs : List Int} (h : Lend base w g len zs) : base ≤ g ∧ g < w.heap.size := ⟨h.1, at_lt h.2.2 (by simp) rfl⟩
theorem StE.but {B E g : Nat} {w w' : World} {K : Nat} {n : NN} {T F : List Int} (h : StE B E w K n T F) (hb : But g w w') (hg : g < B ∨ E ≤ g) : StE B E w' K n T F := h.keep (fun k h1 h2 => hb.block k (Nat.lt_of_lt_of_le h2 h.low.2) (by omega)) hb.size
/-- Rows so far, as Along has them. -/
def PAl (B : Nat) (w : World) (v : Value) (R : List (List Int)) : Prop := ∃ A C, TabGV B w v A C R
theorem PAl.keep (B : Nat) (w w' : World) (v : Value) (R : List (List Int)) (h : PAl B w v R) (hk : ∀ k, B ≤ k → k < w.heap.size → w'.heap[k]? = w.heap[k]?) (_ : w.heap.size ≤ w'.heap.size) : PAl B w' v R := by
  obtain ⟨A, C, h⟩ := h
  exact ⟨A, C, h.keep hk⟩
set_option maxRecDepth 100000 in
set_option maxHeartbeats 1000000 in
theorem along1_any (n : NN) (B : Nat) (w : World) (d : Option Addr) (c : Nat) (T : List Int) (h : CapR B w d c T) (hB : B ≤ w.heap.size) (hT : T.length = n.arcs.length) : Calls Tryz.prog 42 #[.slice d n.arcs.length c] w fun e w' => ∃ v, e = .returned v ∧ PAl B w' v [T] ∧ Below B w w' := by
  have Q := hiddenN (tabG_oneV h hB)
  have BB := hiddenN ((Below.refl B w).alloc hB (.cells #[.slice d T.length c] 25))
  rw [hT] at Q BB
  clear h hT
  go_enter Tryz.func42, Tryz.ntmps42
  go_wp2
  go_ret
  exact ⟨_, rfl, ⟨_, _, Q.out⟩, BB.out⟩
set_option maxRecDepth 100000 in
set_option maxHeartbeats 1000000 in
theorem along2_any (n : NN) (B : Nat) (w0 w : World) (v : Value) (R : List (List Int)) (d : Option Addr) (c : Nat) (L : List Int) (h : PAl B w0 v R) (hB : B ≤ w0.heap.size) (hb : Below w0.heap.size w0 w) (hd : CapR w0.heap.size w d c L) (hR : R.length ≤ 1000000) (hL : L.length = n.arcs.length) :
    Calls Tryz.prog 43 #[v, .slice d n.arcs.length c] w fun e w' => ∃ v', e = .returned v' ∧ PAl B w' v' (R ++ [L]) ∧ Below B w w' := by
  obtain ⟨A, C, h⟩ := h
  have bA := (Below.refl w.heap.size w).alloc (Nat.le_refl _) (.cells #[.slice d n.arcs.length c] 25)
  have X := hiddenN (blkA_new 25 w #[.slice d n.arcs.length c])
  have HH := hiddenN h
  have HB := hiddenN (hb.trans (bA.mono hb.size))
  have HD := hiddenN (hd.later bA)
  have HL := hiddenN hL
  have h2 : B ≤ w.heap.size := Nat.le_trans hB hb.size
  have BA := hiddenN (bA.mono h2)
  obtain ⟨N, hN⟩ : ∃ N, n.arcs.length = N := ⟨_, rfl⟩
  rw [hN] at X HL ⊢ BA HB HD
  rw [← HL.out] at X
  clear h hb hd hL bA hN
  have eL := HL.out
  go_enter Tryz.func43, Tryz.ntmps43
  subst eL
  go_wp2_with (at_builtin; (refine wpList_appRow rfl _ _ rfl B v w0 A C R rfl HH.out hB d c L HB.out HD.out w.heap.size rfl X.out hR ?_; intro v' w5 A' C' q1 q2; have Q1 := hiddenN q1; have Q2 := hiddenN q2; clear q1 q2))
  go_ret
  exact ⟨_, rfl, ⟨_, _, Q1.out⟩, BA.out.trans Q2.out⟩
set_option maxRecDepth 100000 in
set_option maxHeartbeats 1000000 in
theorem along_any (n : NN) (a : Option Addr) (c : Nat) (w : World) (h : AtN w a n.arcs) (hroom : n.arcs.length ≤ 4611686018427387904) (hna : a = none → n.arcs.length = 0 ∧ c = 0) (al : Option Addr) (cl : Nat) (zs : List Int) (hz : At w al zs) (hzl : zs.length ≤ 4611686018427387904) :
    Calls Tryz.prog 20 #[.agg #[.int .i64 n.nodes, .slice a n.arcs.length c], .slice al zs.length cl] w (MomE PAl (.slice none 0 0) n zs w) := by
  obtain ⟨ME, hME⟩ : ∃ R, MomE PAl (.slice none 0 0) n zs w = R := ⟨_, rfl⟩
  rw [hME]
  have HME := hiddenN hME
  have b0 := (Below.refl w.heap.size w).alloc (Nat.le_refl _) (.cells #[.int .i64 n.nodes, .slice a n.arcs.length c] 24)
  have G0 := hiddenN (blkA_new 24 w #[.int .i64 n.nodes, .slice a n.arcs.length c])
  have B0 := hiddenN b0
  have M := hiddenN (moments1_any PAl n PAl.keep (along1_any n) (along2_any n) a c _ (h.below b0) hroom hna al cl zs (hz.below b0) hzl)
  have z0 := G0.out.cell (k := 0) rfl
  have z1 := G0.out.cell (k := 1) rfl
  simp only [List.getElem_toArray, List.getElem_cons_zero, List.getElem_cons_succ] at z0 z1
  clear b0 h hz hna hME
  go_enter Tryz.func20, Tryz.ntmps20
  go_upto_region 1 with fail
  generalize w.alloc (.cells #[.int .i64 n.nodes, .slice a n.arcs.length c] 24) = W0 at *
  go_wp2_with (go_at_call 44; (with_reducible refine M.out.mono ?_); intro e W1 hm; have HM := hiddenN hm; clear hm; obtain ⟨r, cd, er⟩ : ∃ r cd, e = .returned (.tuple #[r, .int .i64 cd]) := (by rcases HM.out with ⟨-, B, v, e1, -⟩ | ⟨-, e1, -⟩ <;> exact ⟨_, _, e1⟩); subst er)
  rw [← HME.out]
  rcases HM.out with ⟨k1, B, v, e1, k2, k3, k4, k5⟩ | ⟨k1, e1, k2⟩
  · cases e1
    exact .inl ⟨k1, B, _, rfl, Nat.le_trans B0.out.size k2, k3, k4, B0.out.trans (k5.mono B0.out.size)⟩
  · cases e1
    exact .inr ⟨k1, rfl, B0.out.trans (k2.mono B0.out.size)⟩
theorem max_ifV (x y : Int) : (if x < y then y else x) = max x y := by
  split <;> omega
/-- Of each place the greater one. -/
def zipM (M L : List Int) : List Int := (List.range M.length).map fun i => max (nth M i) (nth L i)
theorem zipM_len (M L : List Int) : (zipM M L).length = M.length := by simp [zipM]
theorem zipM_nth {M L : List Int} {i : Nat} (h : i < M.length) : nth (zipM M L) i = max (nth M i) (nth L i) := by
  unfold zipM nth; rw [List.getD_eq_getElem?_getD, List.getElem?_map, List.getElem?_range h]; rfl
def mxR : List Int → List (List Int) → List Int
  | M, [] => M
  | M, L :: R => mxR (zipM M L) R
def mostF : List (List Int) → List Int
  | [] => []
  | T :: R => mxR T R
theorem mxR_snoc : ∀ (R : List (List Int)) (M L : List Int), mxR M (R ++ [L]) = zipM (mxR M R) L
  | [], _, _ => rfl
  | _ :: R, M, L => by rw [List.cons_append, mxR, mxR, mxR_snoc R]
theorem mostF_snoc {R : List (List Int)} (h : R ≠ []) (L : List Int) : mostF (R ++ [L]) = zipM (mostF R) L := by
  cases R with
  | nil => exact absurd rfl h
  | cons T R => exact mxR_snoc R T L
theorem mxR_len : ∀ (R : List (List Int)) (M : List Int), (mxR M R).length = M.length
  | [], _ => rfl
  | _ :: R, M => by rw [mxR, mxR_len R, zipM_len]
theorem mxR_nth : ∀ (R : List (List Int)) (M : List Int) (i : Nat), i < M.length → nth (mxR M R) i = R.foldl (fun m r => max m (nth r i)) (nth M i)
  | [], _, _, _ => rfl
  | L :: R, M, i, h => by rw [mxR, mxR_nth R _ i (by rw [zipM_len]; exact h), zipM_nth h]; rfl
/-- Where no number is below 0 it is the greatest number of all rows. -/
theorem mostF_nth {T : List Int} {R : List (List Int)} {i : Nat} (h : i < T.length) (h0 : 0 ≤ nth T i) : nth (mostF (T :: R)) i = maxV (T :: R) i := by
  show nth (mxR T R) i = _
  rw [mxR_nth R T i h]
  unfold maxV
  rw [List.foldl_cons, Int.max_eq_right h0]
/-- The greatest numbers so far, as Most has them. -/
def PMo (B : Nat) (w : World) (v : Value) (R : List (List Int)) : Prop := R ≠ [] ∧ ∃ a c, v = .slice a (mostF R).length c ∧ CapR B w a c (mostF R)
theorem PMo.keep (B : Nat) (w w' : World) (v : Value) (R : List (List Int)) (h : PMo B w v R) (hk : ∀ k, B ≤ k → k < w.heap.size → w'.heap[k]? = w.heap[k]?) (_ : w.heap.size ≤ w'.heap.size) : PMo B w' v R := by
  obtain ⟨h0, a, c, h1, h2⟩ := h
  exact ⟨h0, a, c, h1, h2.keep fun x hx => hk _ (h2.lt x hx).1 (h2.lt x hx).2⟩
set_option maxRecDepth 100000 in
set_option maxHeartbeats 1000000 in
theorem most1_any (n : NN) (B : Nat) (w : World) (d : Option Addr) (c : Nat) (T : List Int) (h : CapR B w d c T) (_ : B ≤ w.heap.size) (hT : T.length = n.arcs.length) : Calls Tryz.prog 73 #[.slice d n.arcs.length c] w fun e w' => ∃ v, e = .returned v ∧ PMo B w' v [T] ∧ Below B w w' := by
  have H := hiddenN h
  have HT := hiddenN hT
  clear h hT
  go_enter Tryz.func73, Tryz.ntmps73
  go_wp2
  go_ret
  exact ⟨_, rfl, ⟨by simp, d, c, by show _ = Value.slice d T.length c; rw [HT.out]; rfl, H.out⟩, Below.refl _ _⟩
set_option maxRecDepth 100000 in
set_option maxHeartbeats 4000000 in
theorem greater_any {B : Nat} (w : World) (a d : Option Addr) (c e N : Nat) (M L : List Int) (h : CapR B w a c M) (hB : B ≤ w.heap.size) (hM : M.length = N) (hN : N ≤ 4611686018427387904) (hL : At w d L) (hLl : L.length = N) (hne : ∀ x y, a = some x → d = some y → x.block ≠ y.block) :
    Calls Tryz.prog 75 #[.slice a N c, .slice d N e] w fun e w' => e = .returned (.slice a N c) ∧ CapR B w' a c (zipM M L) ∧ Below B w w' := by
  obtain ⟨PE, hPE⟩ : ∃ R : Ending → World → Prop, (fun e w' => e = .returned (.slice a N c) ∧ CapR B w' a c (zipM M L) ∧ Below B w w') = R := ⟨_, rfl⟩
  rw [hPE]
  have HPE := hiddenN hPE
  have HM := hiddenN hM
  have HLl := hiddenN hLl
  have H := hiddenN h
  have HL := hiddenN hL
  have HNE := hiddenN hne
  clear hPE h hL hne hM hLl
  go_enter Tryz.func75, Tryz.ntmps75
  go_wp2
  go_loopg [8] N (fun gk u wr => ∃ k : Nat, k ≤ N ∧ gk = N - k ∧ u = .int .i64 (k : Int) ∧ CapR B wr a c ((zipM M L).take k ++ M.drop k) ∧ ButO a w wr)
  case atStart => exact ⟨0, Nat.zero_le _, rfl, rfl, by simpa using H.out, ButO.refl _ _⟩
  case round =>
    obtain ⟨k, hk, rfl, rfl, hC, hBt⟩ := hrel
    have BT := hiddenN hBt
    by_cases hlt : k < N
    · have hki : (k : Int) < (N : Int) := by omega
      have hlk : Hid (((zipM M L).take k).length = k) := by show _ = _; rw [List.length_take, zipM_len, HM.out]; omega
      rw [drop_nthV (by rw [HM.out]; exact hlt)] at hC
      obtain ⟨g, eg, hg1, hg2⟩ := hC.there (by rw [List.length_append, List.length_cons]; omega)
      subst eg
      have HC := hiddenN hC
      have HLr : At wr d L := HL.out.keep fun y hy => BT.out.block _ (at_lt HL.out (fun e1 => by have := HLl.out; rw [e1] at this; simp at this; omega) hy) fun x hx e1 => HNE.out x y hx hy e1
      rcases HLr with e1 | ⟨b, off, rfl, hc⟩
      · have := HLl.out; rw [e1] at this; simp at this; omega
      have y1 := hc k (by rw [HLl.out]; exact hlt)
      have y0 := hC.hd (k := k) hlk.out
      have hf := hC.fz k
      have TK := hiddenN (take_snoc (zs := zipM M L) (j := k) (by rw [zipM_len, HM.out]; exact hlt))
      have ZN := hiddenN (zipM_nth (M := M) (L := L) (i := k) (by rw [HM.out]; exact hlt))
      clear hC hBt hc
      generalize nth M k = x at *
      generalize nth L k = y at *
      go_upto_region 4 with fail
      refine wp_region_said 12 (fun i u v => match i with
          | 0 => v = .slice (some ⟨g, 0, none⟩) N c
          | 1 => v = .int .i64 (k : Int)
          | 2 => v = .slice (some ⟨g, 0, none⟩) N c
          | 3 => v = .int .i64 (k : Int)
          | 4 => v = .pointer (some ⟨g, k, none⟩)
          | 5 => v = .int .i64 x
          | 6 => v = .slice (some ⟨b, off, none⟩) N e
          | 7 => v = .int .i64 (k : Int)
          | 8 => v = .pointer (some ⟨b, off + k, none⟩)
          | 9 => v = .int .i64 y
          | 10 => v = .int .i64 (max x y)
          | 11 => v = .pointer (some ⟨g, k, none⟩)
          | _ => True) (by kernel_rfl) (by kernel_rfl) (by kernel_rfl) (by kernel_rfl) ?_ ?_ ?_
      · intro i w v w' h hb
        match i, h with
        | 0, h => exact h
        | 1, h => exact h
        | 2, h => exact h
        | 3, h => exact h
        | 4, h => exact h
        | 5, h => exact h
        | 6, h => exact h
        | 7, h => exact h
        | 8, h => exact h
        | 9, h => exact h
        | 10, h => exact h
        | 11, h => exact h
        | _ + 12, _ => trivial
      · intro i o ρ w' hi ho hb hc hf hfr hdep
        have k0 := cellN_later hb y0
        have k1 := cellN_later hb y1
        match i, hi with
        | 0, _ =>
          simp only [gTA, gCZ, gSI] at ho
          subst ho
          have ts : ρ (.tmp 0) = .slice (some ⟨g, 0, none⟩) N c := hfr 0 (by kernel_rfl)
          simp [go_sem, ts]
          exact ⟨Below.refl _ _, rfl⟩
        | 1, _ =>
          simp only [gTA, gCZ, gCS, gSI] at ho
          subst ho
          have ts : ρ (.tmp 5) = .int .i64 (k : Int) := hfr 5 (by kernel_rfl)
          simp [go_sem, ts]
          exact ⟨Below.refl _ _, rfl⟩
        | 2, _ =>
          simp only [gTA, gCZ, gCS, gSI] at ho
          subst ho
          have ts : ρ (.tmp 0) = .slice (some ⟨g, 0, none⟩) N c := hfr 0 (by kernel_rfl)
          simp [go_sem, ts]
          exact ⟨Below.refl _ _, rfl⟩
        | 3, _ =>
          simp only [gTA, gCZ, gCS, gSI] at ho
          subst ho
          have ts : ρ (.tmp 5) = .int .i64 (k : Int) := hfr 5 (by kernel_rfl)
          simp [go_sem, ts]
          exact ⟨Below.refl _ _, rfl⟩
        | 4, _ =>
          simp only [gTA, gCZ, gCS, gSI] at ho
          subst ho
          have t1 : ρ (.tmp 13) = .slice (some ⟨g, 0, none⟩) N c := hdep 2 13 (by kernel_rfl) (by kernel_rfl)
          have t2 : ρ (.tmp 14) = .int .i64 (k : Int) := hdep 3 14 (by kernel_rfl) (by kernel_rfl)
          simp [go_sem, t1, t2, hki]
          exact ⟨Below.refl _ _, rfl⟩
        | 5, _ =>
          simp only [gTA, gCZ, gCS, gSI] at ho
          subst ho
          have ts : ρ (.tmp 15) = .pointer (some ⟨g, k, none⟩) := hdep 4 15 (by kernel_rfl) (by kernel_rfl)
          simp [go_sem, ts, k0]
          exact ⟨Below.refl _ _, rfl⟩
        | 6, _ =>
          simp only [gTA, gCZ, gCS, gSI] at ho
          subst ho
          have ts : ρ (.tmp 1) = .slice (some ⟨b, off, none⟩) N e := hfr 1 (by kernel_rfl)
          simp [go_sem, ts]
          exact ⟨Below.refl _ _, rfl⟩
        | 7, _ =>
          simp only [gTA, gCZ, gCS, gSI] at ho
          subst ho
          have ts : ρ (.tmp 5) = .int .i64 (k : Int) := hfr 5 (by kernel_rfl)
          simp [go_sem, ts]
          exact ⟨Below.refl _ _, rfl⟩
        | 8, _ =>
          simp only [gTA, gCZ, gCS, gSI] at ho
          subst ho
          have t1 : ρ (.tmp 17) = .slice (some ⟨b, off, none⟩) N e := hdep 6 17 (by kernel_rfl) (by kernel_rfl)
          have t2 : ρ (.tmp 18) = .int .i64 (k : Int) := hdep 7 18 (by kernel_rfl) (by kernel_rfl)
          simp [go_sem, t1, t2, hki]
          exact ⟨Below.refl _ _, rfl⟩
        | 9, _ =>
          simp only [gTA, gCZ, gCS, gSI] at ho
          subst ho
          have ts : ρ (.tmp 19) = .pointer (some ⟨b, off + k, none⟩) := hdep 8 19 (by kernel_rfl) (by kernel_rfl)
          simp [go_sem, ts, k1]
          exact ⟨Below.refl _ _, rfl⟩
        | 10, _ =>
          simp only [gTA, gCZ, gCS, gSI] at ho
          subst ho
          have t1 : ρ (.tmp 16) = .int .i64 x := hdep 5 16 (by kernel_rfl) (by kernel_rfl)
          have t2 : ρ (.tmp 20) = .int .i64 y := hdep 9 20 (by kernel_rfl) (by kernel_rfl)
          simp [go_sem, t1, t2]
          exact ⟨Below.refl _ _, congrArg (Value.int .i64) (max_ifV x y)⟩
        | 11, _ =>
          simp only [gTA, gCZ, gCS, gSI] at ho
          subst ho
          have t1 : ρ (.tmp 11) = .slice (some ⟨g, 0, none⟩) N c := hdep 0 11 (by kernel_rfl) (by kernel_rfl)
          have t2 : ρ (.tmp 12) = .int .i64 (k : Int) := hdep 1 12 (by kernel_rfl) (by kernel_rfl)
          simp [go_sem, t1, t2, hki]
          exact ⟨Below.refl _ _, rfl⟩
      · intro V w9 q9 hS
        have e0 : V 0 = .slice (some ⟨g, 0, none⟩) N c := hS 0 (by decide)
        have e1 : V 1 = .int .i64 (k : Int) := hS 1 (by decide)
        have e2 : V 2 = .slice (some ⟨g, 0, none⟩) N c := hS 2 (by decide)
        have e3 : V 3 = .int .i64 (k : Int) := hS 3 (by decide)
        have e4 : V 4 = .pointer (some ⟨g, k, none⟩) := hS 4 (by decide)
        have e5 : V 5 = .int .i64 x := hS 5 (by decide)
        have e6 : V 6 = .slice (some ⟨b, off, none⟩) N e := hS 6 (by decide)
        have e7 : V 7 = .int .i64 (k : Int) := hS 7 (by decide)
        have e8 : V 8 = .pointer (some ⟨b, off + k, none⟩) := hS 8 (by decide)
        have e9 : V 9 = .int .i64 y := hS 9 (by decide)
        have e10 : V 10 = .int .i64 (max x y) := hS 10 (by decide)
        have e11 : V 11 = .pointer (some ⟨g, k, none⟩) := hS 11 (by decide)
        simp only [List.drop_succ_cons, List.drop_zero, List.take_succ_cons, List.take_zero, puts, e0, e1, e2, e3, e4, e5, e6, e7, e8, e9, e10, e11]
        clear hS e0 e1 e2 e3 e4 e5 e6 e7 e8 e9 e10 e11 V
        simp only [Act.put, List.setIfInBounds_toArray, List.set_cons_zero, List.set_cons_succ]
        have C9 := hiddenN ((HC.out.later q9).set (k := k) (max x y) hlk.out)
        have f9 := (HC.out.later q9).fz k
        have c9 := (HC.out.later q9).hd (k := k) hlk.out
        have B9 := hiddenN ((⟨q9.os.trans BT.out.os, q9.tape.trans BT.out.tape, q9.output.trans BT.out.output, Nat.le_trans BT.out.size q9.size, fun j hj hn => (q9.block j (Nat.lt_of_lt_of_le hj BT.out.size)).trans (BT.out.block j hj hn)⟩ : ButO (some ⟨g, 0, none⟩) w w9).but (But.set w9 g k (.int .i64 (max x y))))
        clear q9 y0 y1 hf HC BT
        go_wp2
        go_roundg (N - (k + 1))
        case measure => omega
        case rel => exact ⟨k + 1, by omega, rfl, by go_num, by rw [TK.out, ZN.out, List.append_assoc]; exact C9.out, B9.out⟩
    · have ek : k = N := by omega
      subst ek
      have hki : ¬ (k : Int) < (k : Int) := by omega
      rw [List.take_of_length_le (by rw [zipM_len, HM.out]; exact Nat.le_refl _), List.drop_eq_nil_of_le (by rw [HM.out]; exact Nat.le_refl _), List.append_nil] at hC
      have HC := hiddenN hC
      clear hC hBt
      go_wp2
      rw [← HPE.out]
      exact ⟨rfl, HC.out, ⟨BT.out.os, BT.out.tape, BT.out.output, BT.out.size, fun j hj => BT.out.block j (Nat.lt_of_lt_of_le hj hB) fun x hx e1 => by have := (H.out.lt x hx).1; omega⟩⟩
set_option maxRecDepth 100000 in
set_option maxHeartbeats 1000000 in
theorem most2_any (n : NN) (hn : n.arcs.length ≤ 4611686018427387904) (B : Nat) (w0 w : World) (v : Value) (R : List (List Int)) (d : Option Addr) (c : Nat) (L : List Int) (h : PMo B w0 v R) (hB : B ≤ w0.heap.size) (hb : Below w0.heap.size w0 w) (hd : CapR w0.heap.size w d c L) (_ : R.length ≤ 1000000) (hL : L.length = n.arcs.length) (hm : (mostF R).length = n.arcs.length) :
    Calls Tryz.prog 75 #[v, .slice d n.arcs.length c] w fun e w' => ∃ v', e = .returned v' ∧ PMo B w' v' (R ++ [L]) ∧ Below B w w' := by
  obtain ⟨h0, a, c0, rfl, h2⟩ := h
  rw [hm]
  refine (greater_any w a d c0 c n.arcs.length (mostF R) L (h2.later hb) (Nat.le_trans hB hb.size) hm hn hd.at hL (fun x y hx hy => by have := (h2.lt x hx).2; have := (hd.lt y hy).1; omega)).mono ?_
  rintro e w' ⟨rfl, q1, q2⟩
  exact ⟨_, rfl, ⟨by simp, a, c0, by rw [mostF_snoc h0, zipM_len, hm], by rw [mostF_snoc h0]; exact q1⟩, q2⟩
def PMs (N B : Nat) (w : World) (v : Value) (R : List (List Int)) : Prop := PMo B w v R ∧ (mostF R).length = N
theorem most_any0 (n : NN) (hn : n.arcs.length ≤ 4611686018427387904) (a : Option Addr) (c : Nat) (w : World) (h : AtN w a n.arcs) (hna : a = none → n.arcs.length = 0 ∧ c = 0) (al : Option Addr) (cl : Nat) (zs : List Int) (hz : At w al zs) (hzl : zs.length ≤ 4611686018427387904) :
    Calls Tryz.prog 74 #[.agg #[.int .i64 n.nodes, .slice a n.arcs.length c], .func (.func 73) #[] #[], .func (.func 75) #[] #[], .slice al zs.length cl] w (MomE (PMs n.arcs.length) (.slice none 0 0) n zs w) :=
  moments2_any (PMs n.arcs.length) n (fun B w w' v R h hk hs => ⟨PMo.keep B w w' v R h.1 hk hs, h.2⟩)
    (fun B w d c T h hB hT => (most1_any n B w d c T h hB hT).mono fun e w' ⟨v, e1, e2, e3⟩ => ⟨v, e1, ⟨e2, hT⟩, e3⟩)
    (fun B w0 w v R d c L h hB hb hd hR hL => (most2_any n hn B w0 w v R d c L h.1 hB hb hd hR hL h.2).mono fun e w' ⟨v', e1, e2, e3⟩ => ⟨v', e1, ⟨e2, by rw [mostF_snoc h.1.1, zipM_len]; exact h.2⟩, e3⟩)
    a c w h hn hna al cl zs hz hzl
set_option maxRecDepth 100000 in
set_option maxHeartbeats 1000000 in
theorem most_any1 (n : NN) (hn : n.arcs.length ≤ 4611686018427387904) (a : Option Addr) (c : Nat) (w : World) (h : AtN w a n.arcs) (hna : a = none → n.arcs.length = 0 ∧ c = 0) (al : Option Addr) (cl : Nat) (zs : List Int) (hz : At w al zs) (hzl : zs.length ≤ 4611686018427387904) :
    Calls Tryz.prog 52 #[.agg #[.int .i64 n.nodes, .slice a n.arcs.length c], .slice al zs.length cl] w (MomE (PMs n.arcs.length) (.slice none 0 0) n zs w) := by
  obtain ⟨ME, hME⟩ : ∃ R, MomE (PMs n.arcs.length) (.slice none 0 0) n zs w = R := ⟨_, rfl⟩
  rw [hME]
  have HME := hiddenN hME
  have b0 := (Below.refl w.heap.size w).alloc (Nat.le_refl _) (.cells #[.int .i64 n.nodes, .slice a n.arcs.length c] 24)
  have G0 := hiddenN (blkA_new 24 w #[.int .i64 n.nodes, .slice a n.arcs.length c])
  have B0 := hiddenN b0
  have M := hiddenN (most_any0 n hn a c _ (h.below b0) hna al cl zs (hz.below b0) hzl)
  have z0 := G0.out.cell (k := 0) rfl
  have z1 := G0.out.cell (k := 1) rfl
  simp only [List.getElem_toArray, List.getElem_cons_zero, List.getElem_cons_succ] at z0 z1
  clear b0 h hz hna hME
  go_enter Tryz.func52, Tryz.ntmps52
  go_upto_region 1 with fail
  generalize w.alloc (.cells #[.int .i64 n.nodes, .slice a n.arcs.length c] 24) = W0 at *
  go_wp2_with (go_at_call 74; (with_reducible refine M.out.mono ?_); intro e W1 hm; have HM := hiddenN hm; clear hm; obtain ⟨r, cd, er⟩ : ∃ r cd, e = .returned (.tuple #[r, .int .i64 cd]) := (by rcases HM.out with ⟨-, B, v, e1, -⟩ | ⟨-, e1, -⟩ <;> exact ⟨_, _, e1⟩); subst er)
  rw [← HME.out]
  rcases HM.out with ⟨k1, B, v, e1, k2, k3, k4, k5⟩ | ⟨k1, e1, k2⟩
  · cases e1
    exact .inl ⟨k1, B, _, rfl, Nat.le_trans B0.out.size k2, k3, k4, B0.out.trans (k5.mono B0.out.size)⟩
  · cases e1
    exact .inr ⟨k1, rfl, B0.out.trans (k2.mono B0.out.size)⟩
theorem Tryz.sizEnds : (Tryz.prog.info? 108).map (·.size) = some 2 := by kernel_rfl
/-- The first row and the last one so far, as Home has them. -/
def PHo (N B : Nat) (w : World) (v : Value) (R : List (List Int)) : Prop := ∃ T L a c b d, v = .agg #[.slice a N c, .slice b N d] ∧ R.head? = some T ∧ R.getLast? = some L ∧ T.length = N ∧ L.length = N ∧ CapR B w a c T ∧ CapR B w b d L
theorem PHo.keep (N B : Nat) (w w' : World) (v : Value) (R : List (List Int)) (h : PHo N B w v R) (hk : ∀ k, B ≤ k → k < w.heap.size → w'.heap[k]? = w.heap[k]?) (_ : w.heap.size ≤ w'.heap.size) : PHo N B w' v R := by
  obtain ⟨T, L, a, c, b, d, h1, h2, h3, h4, h5, h6, h7⟩ := h
  exact ⟨T, L, a, c, b, d, h1, h2, h3, h4, h5, h6.keep fun x hx => hk _ (h6.lt x hx).1 (h6.lt x hx).2, h7.keep fun x hx => hk _ (h7.lt x hx).1 (h7.lt x hx).2⟩
theorem PHo.agg {N B : Nat} {w : World} {v : Value} {R : List (List Int)} (h : PHo N B w v R) : ∃ x y, v = .agg #[x, y] ∧ x.oneCell' = true ∧ y.oneCell' = true := by
  obtain ⟨T, L, a, c, b, d, h1, -⟩ := h
  exact ⟨_, _, h1, rfl, rfl⟩
set_option maxRecDepth 100000 in
set_option maxHeartbeats 1000000 in
theorem home1_any (n : NN) (B : Nat) (w : World) (d : Option Addr) (c : Nat) (T : List Int) (h : CapR B w d c T) (_ : B ≤ w.heap.size) (hT : T.length = n.arcs.length) : Calls Tryz.prog 69 #[.slice d n.arcs.length c] w fun e w' => ∃ v, e = .returned v ∧ PHo n.arcs.length B w' v [T] ∧ Below w.heap.size w w' := by
  have HT := hiddenN hT
  obtain ⟨N, hN⟩ : ∃ N, n.arcs.length = N := ⟨_, rfl⟩
  rw [hN] at HT ⊢
  have b0 := (Below.refl w.heap.size w).alloc (Nat.le_refl _) (.cells #[.slice none 0 0, .slice none 0 0] 108)
  have G0 := hiddenN (blkA_new 108 w #[.slice none 0 0, .slice none 0 0])
  have B0 := hiddenN b0
  have H := hiddenN (h.later b0)
  have HLT : Hid (∀ x, d = some x → x.block < w.heap.size) := fun x hx => (h.lt x hx).2
  clear b0 h hT hN
  go_enter Tryz.func69, Tryz.ntmps69
  go_upto_region 1 with fail
  generalize w.alloc (.cells #[.slice none 0 0, .slice none 0 0] 108) = W0 at *
  go_wp2_with (refine wpList_storeW _ rfl 108 (.tmp 2) (.tmp 5) rfl rfl w.heap.size 108 _ _ rfl rfl G0.out Tryz.sizEnds rfl rfl ?_; intro w8 hN hU; have N8 := hiddenN hN; have U8 := hiddenN hU; clear hN hU)
  have t0 : w8.cell? ⟨w.heap.size, 0, none⟩ = some (.slice d N c) := N8.out.cell rfl
  have t1 : w8.cell? ⟨w.heap.size, 1, none⟩ = some (.slice d N c) := N8.out.cell rfl
  refine bodyPost_ret (v := .agg #[.slice d N c, .slice d N c]) (by simp [results, Tryz.results69, go_sem, t0, t1]) rfl ?_
  have hc := H.out.keep (w' := w8) fun x hx => U8.out.block _ (H.out.lt x hx).2 (Nat.ne_of_lt (HLT.out x hx))
  exact ⟨_, rfl, ⟨T, T, d, c, d, c, rfl, rfl, rfl, HT.out, HT.out, hc, hc⟩, B0.out.trans (U8.out.below (Nat.le_refl _) B0.out.size)⟩
set_option maxRecDepth 100000 in
set_option maxHeartbeats 1000000 in
theorem home2_any (n : NN) (B : Nat) (w0 w : World) (v : Value) (R : List (List Int)) (d : Option Addr) (c : Nat) (L : List Int) (h : PHo n.arcs.length B w0 v R) (hB : B ≤ w0.heap.size) (hb : Below w0.heap.size w0 w) (hd : CapR w0.heap.size w d c L) (_ : R.length ≤ 1000000) (hL : L.length = n.arcs.length) :
    Calls Tryz.prog 70 #[v, .slice d n.arcs.length c] w fun e w' => ∃ v', e = .returned v' ∧ PHo n.arcs.length B w' v' (R ++ [L]) ∧ Below w.heap.size w w' := by
  obtain ⟨N, hN⟩ : ∃ N, n.arcs.length = N := ⟨_, rfl⟩
  rw [hN] at h hL ⊢
  obtain ⟨T, L0, a1, c1, b1, d1, rfl, h2, h3, h4, h5, h6, h7⟩ := h
  have bA := (Below.refl w.heap.size w).alloc (Nat.le_refl _) (.cells #[.slice a1 N c1, .slice b1 N d1] 108)
  have bC := (Below.refl _ _).alloc (Nat.le_refl _) (.cells #[.slice none 0 0, .slice none 0 0] 108) (w := w.alloc (.cells #[.slice a1 N c1, .slice b1 N d1] 108))
  have g0 := (blkA_new 108 w #[.slice a1 N c1, .slice b1 N d1]).below bC
  have g1 := blkA_new 108 (w.alloc (.cells #[.slice a1 N c1, .slice b1 N d1] 108)) #[.slice none 0 0, .slice none 0 0]
  rw [World.size_alloc] at g1
  have G1 := hiddenN g1
  have z0 := g0.cell (k := 0) rfl
  simp only [List.getElem_toArray, List.getElem_cons_zero] at z0
  have BB := hiddenN (bA.trans (bC.mono bA.size))
  have HW : Hid (∀ k, k < w.heap.size → k ≠ w.heap.size + 1) := fun k hk => by omega
  have HT := hiddenN h4
  have HL := hiddenN hL
  have H6 := hiddenN (h6.later hb)
  have H7 := hiddenN (hd.mono hB)
  have HR : Hid ((R ++ [L]).head? = some T ∧ (R ++ [L]).getLast? = some L) := ⟨by cases R with | nil => cases h2 | cons x R => exact h2, by simp⟩
  clear bA bC g0 g1 h2 h3 h4 h5 h6 h7 hd hL hb hN
  go_enter Tryz.func70, Tryz.ntmps70
  go_upto_region 1 with fail
  generalize (w.alloc (.cells #[.slice a1 N c1, .slice b1 N d1] 108)).alloc (.cells #[.slice none 0 0, .slice none 0 0] 108) = W0 at *
  go_wp2_with (refine wpList_storeW _ rfl 108 (.tmp 4) (.tmp 8) rfl rfl (w.heap.size + 1) 108 _ _ rfl rfl G1.out Tryz.sizEnds rfl rfl ?_; intro w8 hN hU; have N8 := hiddenN hN; have U8 := hiddenN hU; clear hN hU)
  have t0 : w8.cell? ⟨w.heap.size + 1, 0, none⟩ = some (.slice a1 N c1) := N8.out.cell rfl
  have t1 : w8.cell? ⟨w.heap.size + 1, 1, none⟩ = some (.slice d N c) := N8.out.cell rfl
  refine bodyPost_ret (v := .agg #[.slice a1 N c1, .slice d N c]) (by simp [results, Tryz.results70, go_sem, t0, t1]) rfl ?_
  have key : ∀ k, k < w.heap.size → w8.heap[k]? = w.heap[k]? := fun k hk => (U8.out.block k (Nat.lt_of_lt_of_le hk BB.out.size) (HW.out k hk)).trans (BB.out.block k hk)
  exact ⟨_, rfl, ⟨T, L, a1, c1, d, c, rfl, HR.out.1, HR.out.2, HT.out, HL.out, H6.out.keep fun x hx => key _ (H6.out.lt x hx).2, H7.out.keep fun x hx => key _ (H7.out.lt x hx).2⟩, BB.out.trans (U8.out.below (Nat.le_succ _) BB.out.size)⟩
/-- The boxes of a run of Home's: the net, the result, nothing. -/
structure BxH (w W : World) (n : NN) (a : Option Addr) (c : Nat) : Prop where
  net : BlkA 24 w.heap.size W #[.int .i64 n.nodes, .slice a n.arcs.length c]
  res : BlkA 108 (w.heap.size + 1) W #[.slice none 0 0, .slice none 0 0]
  non : BlkA 108 (w.heap.size + 2) W #[.slice none 0 0, .slice none 0 0]
  bel : Below w.heap.size w W
theorem BxH.below {w W W' : World} {n : NN} {a : Option Addr} {c B : Nat} (h : BxH w W n a c) (hb : Below B W W') (hB : w.heap.size + 3 ≤ B) : BxH w W' n a c :=
  ⟨h.net.keep (hb.block _ (by omega)), h.res.keep (hb.block _ (by omega)), h.non.keep (hb.block _ (by omega)), h.bel.trans (hb.mono (by omega))⟩
theorem bxH_new (w : World) (n : NN) (a : Option Addr) (c : Nat) : BxH w (((w.alloc (.cells #[.int .i64 n.nodes, .slice a n.arcs.length c] 24)).alloc (.cells #[.slice none 0 0, .slice none 0 0] 108)).alloc (.cells #[.slice none 0 0, .slice none 0 0] 108)) n a c := by
  have b0 := (Below.refl w.heap.size w).alloc (Nat.le_refl _) (.cells #[.int .i64 n.nodes, .slice a n.arcs.length c] 24)
  have b1 := (Below.refl _ _).alloc (Nat.le_refl _) (.cells #[.slice none 0 0, .slice none 0 0] 108) (w := w.alloc (.cells #[.int .i64 n.nodes, .slice a n.arcs.length c] 24))
  have b2 := (Below.refl _ _).alloc (Nat.le_refl _) (.cells #[.slice none 0 0, .slice none 0 0] 108) (w := (w.alloc (.cells #[.int .i64 n.nodes, .slice a n.arcs.length c] 24)).alloc (.cells #[.slice none 0 0, .slice none 0 0] 108))
  have g1 := (blkA_new 108 (w.alloc (.cells #[.int .i64 n.nodes, .slice a n.arcs.length c] 24)) #[.slice none 0 0, .slice none 0 0]).below b2
  have g2 := blkA_new 108 ((w.alloc (.cells #[.int .i64 n.nodes, .slice a n.arcs.length c] 24)).alloc (.cells #[.slice none 0 0, .slice none 0 0] 108)) #[.slice none 0 0, .slice none 0 0]
  rw [World.size_alloc] at g1
  rw [World.size_alloc, World.size_alloc] at g2
  exact ⟨((blkA_new 24 w #[.int .i64 n.nodes, .slice a n.arcs.length c]).below b1).below b2, g1, g2, b0.trans ((b1.mono b0.size).trans (b2.mono (Nat.le_trans b0.size b1.size)))⟩
theorem bxH_size (w : World) (n : NN) (a : Option Addr) (c : Nat) : (((w.alloc (.cells #[.int .i64 n.nodes, .slice a n.arcs.length c] 24)).alloc (.cells #[.slice none 0 0, .slice none 0 0] 108)).alloc (.cells #[.slice none 0 0, .slice none 0 0] 108)).heap.size = w.heap.size + 3 := by rw [World.size_alloc, World.size_alloc, World.size_alloc]
theorem capR_neE {B : Nat} {w : World} {a : Option Addr} {c : Nat} {T : List Int} (h : CapR B w a c T) {sb : Nat} {cs : Array Value} (hs : BlkA 108 sb w cs) : ∀ x, a = some x → x.block ≠ sb := by
  intro x hx e
  rcases h.2 with ⟨e1, -⟩ | ⟨g, cap, cur, e1, -, hh, -⟩
  · injection e1 with e2; rw [e2] at hx; cases hx
  · cases e1; cases hx
    unfold BlkA at hs
    simp only at e
    rw [← e, hh] at hs
    injection hs with h1
    injection h1 with h2 h3
    exact absurd h3 (by decide)
theorem PHo.but {N B : Nat} {w w' : World} {v : Value} {R : List (List Int)} (h : PHo N B w v R) {sb : Nat} {cs : Array Value} (hs : BlkA 108 sb w cs) (hb : But sb w w') : PHo N B w' v R := by
  obtain ⟨T, L, a, c, b, d, h1, h2, h3, h4, h5, h6, h7⟩ := h
  exact ⟨T, L, a, c, b, d, h1, h2, h3, h4, h5, h6.keep fun x hx => hb.block _ (h6.lt x hx).2 (capR_neE h6 hs x hx), h7.keep fun x hx => hb.block _ (h7.lt x hx).2 (capR_neE h7 hs x hx)⟩
/-- A row that a call gave. -/
def RwH (N B : Nat) (u : World) (T : List Int) (v : Value) : Prop := ∃ d c, v = .slice d N c ∧ CapR B u d c T
theorem RwH.later {N B : Nat} {u u' : World} {T : List Int} {v : Value} (h : RwH N B u T v) (hb : Below u.heap.size u u') : RwH N B u' T v := by
  obtain ⟨d, c, h1, h2⟩ := h
  exact ⟨d, c, h1, h2.later hb⟩
set_option maxRecDepth 100000 in
set_option maxHeartbeats 16000000 in
theorem moments3_any (n : NN) (a : Option Addr) (c : Nat) (w : World) (h : AtN w a n.arcs) (hroom : n.arcs.length ≤ 4611686018427387904) (hna : a = none → n.arcs.length = 0 ∧ c = 0) (al : Option Addr) (cl : Nat) (zs : List Int) (hz : At w al zs) (hzl : zs.length ≤ 4611686018427387904) :
    Calls Tryz.prog 71 #[.agg #[.int .i64 n.nodes, .slice a n.arcs.length c], .func (.func 69) #[] #[], .func (.func 70) #[] #[], .slice al zs.length cl] w (MomE (PHo n.arcs.length) (.agg #[.slice none 0 0, .slice none 0 0]) n zs w) := by
  obtain ⟨ME, hME⟩ : ∃ R, MomE (PHo n.arcs.length) (.agg #[.slice none 0 0, .slice none 0 0]) n zs w = R := ⟨_, rfl⟩
  rw [hME]
  have HME := hiddenN hME
  clear hME
  have X0 := hiddenN (bxH_new w n a c)
  have HS0 := hiddenN (bxH_size w n a c)
  have NW := hiddenN (newS_any n a c _ (h.below X0.out.bel) hroom hna)
  have HZ := hiddenN (hz.below X0.out.bel)
  have z0 := X0.out.net.cell (k := 0) rfl
  have z1 := X0.out.net.cell (k := 1) rfl
  simp only [List.getElem_toArray, List.getElem_cons_zero, List.getElem_cons_succ] at z0 z1
  clear h hz hna
  by_cases hc0 : checkN n = 0
  · have NY : Hid (Calls Tryz.prog 62 #[.agg #[.int .i64 n.nodes, .slice a n.arcs.length c]] (((w.alloc (.cells #[.int .i64 n.nodes, .slice a n.arcs.length c] 24)).alloc (.cells #[.slice none 0 0, .slice none 0 0] 108)).alloc (.cells #[.slice none 0 0, .slice none 0 0] 108)) fun e w' => ∃ K E, e = .returned (.tuple #[.pointer (some ⟨K, 0, none⟩), .int .i64 0]) ∧ StE (((w.alloc (.cells #[.int .i64 n.nodes, .slice a n.arcs.length c] 24)).alloc (.cells #[.slice none 0 0, .slice none 0 0] 108)).alloc (.cells #[.slice none 0 0, .slice none 0 0] 108)).heap.size E w' K n (startT n) (List.replicate n.nodes.toNat 0) ∧ Below (((w.alloc (.cells #[.int .i64 n.nodes, .slice a n.arcs.length c] 24)).alloc (.cells #[.slice none 0 0, .slice none 0 0] 108)).alloc (.cells #[.slice none 0 0, .slice none 0 0] 108)).heap.size (((w.alloc (.cells #[.int .i64 n.nodes, .slice a n.arcs.length c] 24)).alloc (.cells #[.slice none 0 0, .slice none 0 0] 108)).alloc (.cells #[.slice none 0 0, .slice none 0 0] 108)) w') := NW.out.mono fun e w' hh => by
      unfold NewE at hh
      rw [if_pos hc0] at hh
      exact hh
    clear NW
    by_cases hl : 2048 < zs.length
    · have CV := hiddenN (code_long hc0 hl)
      have hli : (zs.length : Int) > 2048 := by omega
      clear hc0
      go_enter Tryz.func71, Tryz.ntmps71
      go_upto_region 2 with fail
      generalize ((w.alloc (.cells #[.int .i64 n.nodes, .slice a n.arcs.length c] 24)).alloc (.cells #[.slice none 0 0, .slice none 0 0] 108)).alloc (.cells #[.slice none 0 0, .slice none 0 0] 108) = W0 at *
      go_upto_region 5 with (go_at_call 62; (with_reducible refine NY.out.mono ?_); rintro e W1 ⟨K, E, rfl, s1, b1⟩; have X9 := hiddenN (X0.out.below b1 (by rw [HS0.out]; exact Nat.le_refl _)); clear s1 b1 z0 z1)
      have n0 := X9.out.non.cell (k := 0) rfl; have n1 := X9.out.non.cell (k := 1) rfl; simp only [List.getElem_toArray, List.getElem_cons_zero, List.getElem_cons_succ] at n0 n1
      go_wp2_with (first | (refine wpList_storeW _ rfl 108 (.tmp 8) (.tmp 28) rfl rfl (w.heap.size + 1) 108 _ _ rfl rfl X9.out.res Tryz.sizEnds rfl rfl ?_; intro w8 hN hU; have N8 := hiddenN hN; have U8 := hiddenN hU; clear hN hU))
      have t0 : w8.cell? ⟨w.heap.size + 1, 0, none⟩ = some (.slice none 0 0) := N8.out.cell rfl
      have t1 : w8.cell? ⟨w.heap.size + 1, 1, none⟩ = some (.slice none 0 0) := N8.out.cell rfl
      refine bodyPost_ret (v := .tuple #[.agg #[.slice none 0 0, .slice none 0 0], .int .i64 2]) (by simp [results, Tryz.results71, go_sem, t0, t1]) rfl ?_
      rw [← HME.out]
      exact .inr ⟨by rw [CV.out]; decide, by rw [CV.out], X9.out.bel.trans (U8.out.below (Nat.le_succ _) X9.out.bel.size)⟩
    · have CE := hiddenN (code_err hc0 hl)
      have hli : ¬ (zs.length : Int) > 2048 := by omega
      clear hc0
      go_enter Tryz.func71, Tryz.ntmps71
      go_upto_region 2 with fail
      generalize ((w.alloc (.cells #[.int .i64 n.nodes, .slice a n.arcs.length c] 24)).alloc (.cells #[.slice none 0 0, .slice none 0 0] 108)).alloc (.cells #[.slice none 0 0, .slice none 0 0] 108) = W0 at *
      go_upto_region 3 with (go_at_call 62; (with_reducible refine NY.out.mono ?_); rintro e W1 ⟨K, E, rfl, s1, b1⟩; have S1 := hiddenN s1; have L1 := hiddenN b1; clear s1 b1 z0 z1)
      clear NY
      have HTL := hiddenN S1.out.long.1
      have hEB := S1.out.low
      have h01 : W0.heap.size ≤ W1.heap.size := L1.out.size
      have hs3 : w.heap.size + 3 ≤ W0.heap.size := by rw [HS0.out]; exact Nat.le_refl _
      generalize hT0 : startT n = T0 at *
      have HT0 := hiddenN hT0
      clear hT0
      go_upto_region 8 with (first
        | (go_at_call 63; (with_reducible refine (countsL W1 K n _ _ S1.out).mono ?_); rintro e W2 ⟨d2, c2, rfl, r2, b2⟩; have S2 := hiddenN (S1.out.below b2); have L2 := hiddenN (L1.out.trans (b2.mono h01)); have h12 := b2.size; have FF := hiddenN (home1_any n W1.heap.size W2 d2 c2 T0 r2 b2.size HTL.out); clear r2 b2)
        | (go_at_call 69; (with_reducible refine FF.out.mono ?_); rintro e W3 ⟨v3, rfl, p3, b3⟩; have P3 := hiddenN p3; obtain ⟨vx, vy, rfl, ox, oy⟩ := p3.agg; have OX := hiddenN ox; have OY := hiddenN oy; have S3 := hiddenN (S2.out.below b3); have L3 := hiddenN (L2.out.trans (b3.mono (Nat.le_trans h01 h12))); have h23 := b3.size; have bA := hiddenN ((Below.refl W3.heap.size W3).alloc (Nat.le_refl _) (.cells #[.slice none 0 0, .slice none 0 0] 108)); have XS := hiddenN (blkA_new 108 W3 #[.slice none 0 0, .slice none 0 0]); clear p3 b3 ox oy)
        | (refine wpList_storeW _ rfl 108 (.tmp 13) (.tmp 32) rfl rfl W3.heap.size 108 _ _ rfl rfl XS.out Tryz.sizEnds rfl (by simp [OX.out, OY.out]) ?_; intro w8 hN hU; have N8 := hiddenN hN; have U8 := hiddenN hU; clear hN hU))
      obtain ⟨sb, hsb⟩ : ∃ q, W3.heap.size = q := ⟨_, rfl⟩
      have hsz3 : (W3.alloc (.cells #[.slice none 0 0, .slice none 0 0] 108)).heap.size = W3.heap.size + 1 := World.size_alloc _ _
      have h13 : W1.heap.size ≤ W3.heap.size := Nat.le_trans h12 h23
      have K8 : Hid (∀ k, k < W3.heap.size → w8.heap[k]? = W3.heap[k]?) := fun k hk => (U8.out.block k (Nat.lt_of_lt_of_le hk bA.out.size) (Nat.ne_of_lt hk)).trans (bA.out.block k hk)
      have hs8 : W3.heap.size < w8.heap.size := by have := U8.out.size; omega
      have P8 := hiddenN (PHo.keep _ _ _ w8 _ _ P3.out (fun k _ hk => K8.out k hk) (Nat.le_of_lt hs8))
      have S8 := hiddenN (S3.out.keep (w' := w8) (fun k _ hk => K8.out k (by omega)) (Nat.le_of_lt hs8))
      have L8 := hiddenN (L3.out.trans ((bA.out.mono (Nat.le_trans h01 h13)).trans (U8.out.below (Nat.le_trans h01 h13) (Nat.le_trans (Nat.le_trans h01 h13) bA.out.size))))
      have h18 : W1.heap.size ≤ w8.heap.size := by omega
      have h1s : W1.heap.size ≤ sb := by omega
      have hsl : sb < w8.heap.size := by omega
      rw [hsb] at N8
      have NB : Hid (BlkA 108 sb w8 #[vx, vy]) := N8.out
      rw [hsb]
      have HZ0 : Hid (∀ U, Below W0.heap.size W0 U → At U al zs) := fun U hb => HZ.out.below hb
      have HX0 : Hid (∀ U, Below W0.heap.size W0 U → BxH w U n a c) := fun U hb => X0.out.below hb hs3
      clear HZ X0 S1 S2 S3 P3 L1 L2 L3 FF h12 h23 bA XS N8 U8 K8 hs8 hsz3 OX OY h13 hsb
      generalize vx = ux at *
      generalize vy = uy at *
      go_wp2
      go_loopg [35] zs.length (fun gk u35 wr => ∃ (k : Nat) (T F : List Int) (R : List (List Int)) (vx vy : Value), k ≤ zs.length ∧ gk = zs.length - k ∧ u35 = .int .i64 (k : Int) ∧ errV n T (zs.drop k) = errV n T0 zs ∧ R ++ (rowsV n T (zs.drop k)).drop 1 = rowsV n T0 zs ∧ R.length = k + 1 ∧ BlkA 108 sb wr #[vx, vy] ∧ PHo n.arcs.length W1.heap.size wr (.agg #[vx, vy]) R ∧ StE W0.heap.size E wr K n T F ∧ Below W0.heap.size W0 wr ∧ W1.heap.size ≤ wr.heap.size)
      case atStart => exact ⟨0, T0, _, [T0], ux, uy, Nat.zero_le _, rfl, rfl, by rw [List.drop_zero], by rw [List.drop_zero]; cases zs <;> rfl, rfl, NB.out, P8.out, S8.out, L8.out, h18⟩
      case round =>
        clear P8 S8 L8 h18 NB hsl
        obtain ⟨k, T, F, R, vx, vy, hk, rfl, rfl, he, hR, hRl, hN, hP, hS, hL, hw⟩ := hrel
        have HE := hiddenN he
        have HR := hiddenN hR
        have HRL := hiddenN hRl
        have NR := hiddenN hN
        have PR := hiddenN hP
        have SR := hiddenN hS
        have LR := hiddenN hL
        have hsw := hN.lt
        clear he hR hRl hP hS hL hN
        have X9 := hiddenN (HX0.out _ LR.out)
        have z0 := X9.out.net.cell (k := 0) rfl
        simp only [List.getElem_toArray, List.getElem_cons_zero] at z0
        by_cases hlt : k < zs.length
        · have hki : (k : Int) < (zs.length : Int) := by omega
          have ed := drop_nthV hlt
          rcases HZ0.out _ LR.out with e | ⟨zb, zo, rfl, hc⟩
          · rw [e] at hlt; simp at hlt
          have c0 := hc k hlt
          rw [ed] at HE HR
          generalize nth zs k = v at *
          clear hc ed
          have hkb := HRL.out
          have bA := (Below.refl wr.heap.size wr).alloc (Nat.le_refl _) (.cells #[.int .i64 v] 3)
          have hwA : W0.heap.size ≤ (wr.alloc (.cells #[.int .i64 v] 3)).heap.size := by rw [World.size_alloc]; omega
          have hwB : W1.heap.size ≤ (wr.alloc (.cells #[.int .i64 v] 3)).heap.size := by rw [World.size_alloc]; omega
          have PA := hiddenN (PHo.keep _ _ _ _ _ _ PR.out (fun q _ hq => bA.block q hq) bA.size)
          have LA := hiddenN (LR.out.trans (bA.mono LR.out.size))
          have SA := hiddenN (SR.out.below bA)
          have NA := hiddenN (NR.out.below bA)
          have FA := hiddenN (fires_any (wr.alloc (.cells #[.int .i64 v] 3)) K n T F SA.out (some ⟨wr.heap.size, 0, none⟩) 1 [v] (at_alloc1 wr v) (by simp) (fun x hx _ => by cases hx; exact .inr SR.out.low.2))
          by_cases hv : nodeB n v = true
          · have hvb : 0 ≤ v ∧ v < n.nodes := of_decide_eq_true hv
            have h1 : ¬ v < 0 := by omega
            have h2 : ¬ v ≥ n.nodes := by omega
            by_cases hm : mayN n T v = true
            · have F1 : Hid (Calls Tryz.prog 64 #[.pointer (some ⟨K, 0, none⟩), .slice (some ⟨wr.heap.size, 0, none⟩) 1 1] (wr.alloc (.cells #[.int .i64 v] 3)) fun e w' => e = .returned (.int .i64 1) ∧ StE W0.heap.size E w' K n (fireN n T v) (bumpF F v) ∧ Mid W0.heap.size E (wr.alloc (.cells #[.int .i64 v] 3)) w') := by
                have q := FA.out
                rw [fires_one_yes hm] at q
                exact q
              have HE2 := hiddenN ((err_cons_yes hv hm (zs := zs.drop (k + 1))).symm.trans HE.out)
              have HR2 := hiddenN ((rows_step R (n := n) (T := T) (v := v) (zs := zs.drop (k + 1))).symm.trans HR.out)
              clear hv hvb hm FA HE HR bA X9 SR PR LR NR
              generalize fireN n T v = T' at *
              generalize bumpF F v = F' at *
              go_upto_region 15 with (go_at_call 64; (with_reducible refine F1.out.mono ?_); rintro e W5 ⟨rfl, s5, m5⟩; have S5 := hiddenN s5; have P5 := hiddenN (PHo.keep _ _ _ _ _ _ PA.out (fun q h1 h2 => m5.block q h2 (.inr (by omega))) m5.size); have N5 := hiddenN (NA.out.keep (m5.block sb NA.out.lt (.inr (by omega)))); have L5 := hiddenN (LA.out.trans (m5.below hwA)); have h5 := Nat.le_trans hwB m5.size; clear s5 m5)
              have CT : Hid (∀ U, Below W5.heap.size W5 U → Calls Tryz.prog 63 #[.pointer (some ⟨K, 0, none⟩)] U fun e w' => ∃ (a : Option Addr) (cap : Nat), e = .returned (.slice a n.arcs.length cap) ∧ CapR U.heap.size w' a cap T' ∧ Below U.heap.size U w') := fun U hb => countsL U K n _ _ (S5.out.below hb)
              have HL5 := hiddenN S5.out.long.1
              have NX : Hid (∀ U d c, Below W5.heap.size W5 U → CapR W5.heap.size U d c T' → Calls Tryz.prog 70 #[.agg #[vx, vy], .slice d n.arcs.length c] U fun e w' => ∃ v', e = .returned v' ∧ PHo n.arcs.length W1.heap.size w' v' (R ++ [T']) ∧ Below U.heap.size U w') := fun U d c hb hd => home2_any n W1.heap.size W5 U _ R d c T' P5.out h5 hb hd (by have := HRL.out; omega) HL5.out
              have x0 := N5.out.cell (k := 0) rfl
              have x1 := N5.out.cell (k := 1) rfl
              simp only [List.getElem_toArray, List.getElem_cons_zero, List.getElem_cons_succ] at x0 x1
              clear F1 PA LA SA NA c0 z0 hwA hwB
              refine wp_region_said 5 (fun i u v => match i with
                  | 0 => v = .func (.func 70) #[] #[]
                  | 1 => v = .agg #[vx, vy]
                  | 2 => v = .pointer (some ⟨K, 0, none⟩)
                  | 3 => RwH n.arcs.length W5.heap.size u T' v
                  | 4 => PHo n.arcs.length W1.heap.size u v (R ++ [T'])
                  | _ => True) (by kernel_rfl) (by kernel_rfl) (by kernel_rfl) (by kernel_rfl) ?_ ?_ ?_
              · intro i w v w' h hb
                match i, h with
                | 0, h => exact h
                | 1, h => exact h
                | 2, h => exact h
                | 3, h => exact RwH.later h hb
                | 4, h => exact PHo.keep _ _ _ _ _ _ h (fun q _ hq => hb.block q hq) hb.size
                | _ + 5, _ => trivial
              · intro i o ρ w' hi ho hb hc hf hfr hdep
                have k0 := cellN_later hb x0
                have k1 := cellN_later hb x1
                match i, hi with
                | 0, _ =>
                  simp only [gTA, gCZ, gSI] at ho
                  subst ho
                  have ts : ρ (.tmp 2) = .func (.func 70) #[] #[] := hfr 2 (by kernel_rfl)
                  simp [go_sem, ts]
                  exact ⟨Below.refl _ _, rfl⟩
                | 1, _ =>
                  simp only [gTA, gCZ, gCS, gSI] at ho
                  subst ho
                  have ts : ρ (.tmp 13) = .pointer (some ⟨sb, 0, none⟩) := hfr 13 (by kernel_rfl)
                  simp [go_sem, ts, k0, k1]
                  exact ⟨Below.refl _ _, rfl⟩
                | 2, _ =>
                  simp only [gTA, gCZ, gCS, gSI] at ho
                  subst ho
                  have ts : ρ (.tmp 11) = .pointer (some ⟨K, 0, none⟩) := hfr 11 (by kernel_rfl)
                  simp [go_sem, ts]
                  exact ⟨Below.refl _ _, rfl⟩
                | 3, _ =>
                  simp only [gTA, gCZ, gCS, gSI] at ho
                  subst ho
                  have ts : ρ (.tmp 56) = .pointer (some ⟨K, 0, none⟩) := hdep 2 56 (by kernel_rfl) (by kernel_rfl)
                  simp [go_sem, ts, hf]
                  exact ⟨rfl, (CT.out w' hb).mono fun e w'' ⟨d6, c6, e1, r6, b6⟩ => ⟨_, e1, b6, d6, c6, rfl, r6.mono hb.size⟩⟩
                | 4, _ =>
                  simp only [gTA, gCZ, gCS, gSI] at ho
                  subst ho
                  have t54 : ρ (.tmp 54) = .func (.func 70) #[] #[] := hdep 0 54 (by kernel_rfl) (by kernel_rfl)
                  have t55 : ρ (.tmp 55) = .agg #[vx, vy] := hdep 1 55 (by kernel_rfl) (by kernel_rfl)
                  obtain ⟨d6, c6, t57, r6⟩ : RwH n.arcs.length W5.heap.size w' T' (ρ (.tmp 57)) := hdep 3 57 (by kernel_rfl) (by kernel_rfl)
                  simp [go_sem, t54, t55, t57]
                  exact ⟨rfl, (NX.out w' d6 c6 hb r6).mono fun e w'' ⟨v', e1, p7, b7⟩ => ⟨_, e1, b7, p7⟩⟩
              · intro V w9 q9 hS
                have e0 : V 0 = .func (.func 70) #[] #[] := hS 0 (by decide)
                have e1 : V 1 = .agg #[vx, vy] := hS 1 (by decide)
                have e2 : V 2 = .pointer (some ⟨K, 0, none⟩) := hS 2 (by decide)
                obtain ⟨d6, c6, e3, -⟩ : RwH n.arcs.length W5.heap.size w9 T' (V 3) := hS 3 (by decide)
                have p9 : PHo n.arcs.length W1.heap.size w9 (V 4) (R ++ [T']) := hS 4 (by decide); obtain ⟨wx, wy, e4, ox, oy⟩ := p9.agg; rw [e4] at p9; have P9 := hiddenN p9; have OX := hiddenN ox; have OY := hiddenN oy; clear p9 ox oy
                simp only [List.drop_succ_cons, List.drop_zero, List.take_succ_cons, List.take_zero, puts, e0, e1, e2, e3, e4]
                clear hS e0 e1 e2 e3 e4 V
                simp only [Act.put, List.setIfInBounds_toArray, List.set_cons_zero, List.set_cons_succ]
                have S9 := hiddenN (S5.out.below q9)
                have N9 := hiddenN (N5.out.below q9)
                have L9 := hiddenN (L5.out.trans (q9.mono L5.out.size))
                have h9 := Nat.le_trans h5 q9.size
                clear q9 S5 N5 L5 P5 CT NX x0 x1
                go_wp2_with (refine wpList_storeW _ rfl 108 (.tmp 13) (.tmp 58) rfl rfl sb 108 _ _ rfl rfl N9.out Tryz.sizEnds rfl (by simp [OX.out, OY.out]) ?_; intro w8 hN hU; have N8 := hiddenN hN; have U8 := hiddenN hU; clear hN hU)
                go_roundg (zs.length - (k + 1))
                case measure => omega
                case rel => exact ⟨k + 1, T', F', R ++ [T'], wx, wy, by omega, rfl, by go_num, HE2.out, HR2.out, by rw [List.length_append, HRL.out]; rfl, N8.out, P9.out.but N9.out U8.out, S9.out.but U8.out (.inr (by omega)), L9.out.trans (U8.out.below (by omega) (by omega)), Nat.le_trans h9 U8.out.size⟩
            · have F1 : Hid (Calls Tryz.prog 64 #[.pointer (some ⟨K, 0, none⟩), .slice (some ⟨wr.heap.size, 0, none⟩) 1 1] (wr.alloc (.cells #[.int .i64 v] 3)) fun e w' => e = .returned (.int .i64 0) ∧ StE W0.heap.size E w' K n T F ∧ Mid W0.heap.size E (wr.alloc (.cells #[.int .i64 v] 3)) w') := by
                have q := FA.out
                rw [fires_one_no hm] at q
                exact q
              have CV : Hid (codeV n zs = 180) := by show _ = _; rw [CE.out, ← HE.out, err_cons_may hv hm]; rfl
              clear hv hvb hm FA HE HR bA X9
              go_upto_region 14 with (go_at_call 64; (with_reducible refine F1.out.mono ?_); rintro e W5 ⟨rfl, -, m5⟩; have X9 := hiddenN (HX0.out _ (LA.out.trans (m5.below hwA))); clear m5)
              have n0 := X9.out.non.cell (k := 0) rfl; have n1 := X9.out.non.cell (k := 1) rfl; simp only [List.getElem_toArray, List.getElem_cons_zero, List.getElem_cons_succ] at n0 n1
              go_wp2_with (first | (refine wpList_storeW _ rfl 108 (.tmp 8) (.tmp 53) rfl rfl (w.heap.size + 1) 108 _ _ rfl rfl X9.out.res Tryz.sizEnds rfl rfl ?_; intro w8 hN hU; have N8 := hiddenN hN; have U8 := hiddenN hU; clear hN hU))
              have t0 : w8.cell? ⟨w.heap.size + 1, 0, none⟩ = some (.slice none 0 0) := N8.out.cell rfl
              have t1 : w8.cell? ⟨w.heap.size + 1, 1, none⟩ = some (.slice none 0 0) := N8.out.cell rfl
              refine bodyPost_ret (v := .tuple #[.agg #[.slice none 0 0, .slice none 0 0], .int .i64 180]) (by simp [results, Tryz.results71, go_sem, t0, t1]) rfl ?_
              rw [← HME.out]
              exact .inr ⟨by rw [CV.out]; decide, by rw [CV.out], X9.out.bel.trans (U8.out.below (Nat.le_succ _) X9.out.bel.size)⟩
          · have CV : Hid (codeV n zs = 100) := by show _ = _; rw [CE.out, ← HE.out, err_cons_node hv]; rfl
            have hvb : ¬ (0 ≤ v ∧ v < n.nodes) := fun h => hv (decide_eq_true h)
            clear FA HE HR bA PA LA SA NA hv
            have n0 := X9.out.non.cell (k := 0) rfl; have n1 := X9.out.non.cell (k := 1) rfl; simp only [List.getElem_toArray, List.getElem_cons_zero, List.getElem_cons_succ] at n0 n1
            by_cases h1 : v < 0
            · skip
              go_wp2_with (first | (refine wpList_storeW _ rfl 108 (.tmp 8) (.tmp 47) rfl rfl (w.heap.size + 1) 108 _ _ rfl rfl X9.out.res Tryz.sizEnds rfl rfl ?_; intro w8 hN hU; have N8 := hiddenN hN; have U8 := hiddenN hU; clear hN hU))
              have t0 : w8.cell? ⟨w.heap.size + 1, 0, none⟩ = some (.slice none 0 0) := N8.out.cell rfl
              have t1 : w8.cell? ⟨w.heap.size + 1, 1, none⟩ = some (.slice none 0 0) := N8.out.cell rfl
              refine bodyPost_ret (v := .tuple #[.agg #[.slice none 0 0, .slice none 0 0], .int .i64 100]) (by simp [results, Tryz.results71, go_sem, t0, t1]) rfl ?_
              rw [← HME.out]
              exact .inr ⟨by rw [CV.out]; decide, by rw [CV.out], X9.out.bel.trans (U8.out.below (Nat.le_succ _) X9.out.bel.size)⟩
            · have h2 : v ≥ n.nodes := by omega
              go_wp2_with (first | (refine wpList_storeW _ rfl 108 (.tmp 8) (.tmp 47) rfl rfl (w.heap.size + 1) 108 _ _ rfl rfl X9.out.res Tryz.sizEnds rfl rfl ?_; intro w8 hN hU; have N8 := hiddenN hN; have U8 := hiddenN hU; clear hN hU))
              have t0 : w8.cell? ⟨w.heap.size + 1, 0, none⟩ = some (.slice none 0 0) := N8.out.cell rfl
              have t1 : w8.cell? ⟨w.heap.size + 1, 1, none⟩ = some (.slice none 0 0) := N8.out.cell rfl
              refine bodyPost_ret (v := .tuple #[.agg #[.slice none 0 0, .slice none 0 0], .int .i64 100]) (by simp [results, Tryz.results71, go_sem, t0, t1]) rfl ?_
              rw [← HME.out]
              exact .inr ⟨by rw [CV.out]; decide, by rw [CV.out], X9.out.bel.trans (U8.out.below (Nat.le_succ _) X9.out.bel.size)⟩
        · have ek : zs.length = k := by omega
          have hki : ¬ (k : Int) < (zs.length : Int) := by omega
          have hd : zs.drop k = [] := by rw [← ek]; exact List.drop_length
          have CV : Hid (codeV n zs = 0) := by show _ = _; rw [CE.out, ← HE.out, hd]; rfl
          have HR2 : Hid (R = rowsV n T0 zs) := by
            show _ = _
            have q := HR.out
            rw [hd] at q
            rw [← q, rowsV]
            simp
          have x0 := NR.out.cell (k := 0) rfl
          have x1 := NR.out.cell (k := 1) rfl
          simp only [List.getElem_toArray, List.getElem_cons_zero, List.getElem_cons_succ] at x0 x1
          have OX := hiddenN PR.out.agg
          clear HE HR ek hd
          obtain ⟨qx, qy, eq1, ox, oy⟩ := OX.out
          injection eq1 with eq2
          injection eq2 with eq3
          injection eq3 with eq4 eq5
          injection eq5 with eq6 eq7
          rw [← eq4] at ox
          rw [← eq6] at oy
          have O1 := hiddenN ox
          have O2 := hiddenN oy
          clear eq4 eq6 eq7 ox oy OX
          go_wp2_with (refine wpList_storeW _ rfl 108 (.tmp 8) (.tmp 60) rfl rfl (w.heap.size + 1) 108 _ _ rfl rfl X9.out.res Tryz.sizEnds rfl (by simp [O1.out, O2.out]) ?_; intro w9 hN hU; have N8 := hiddenN hN; have U8 := hiddenN hU; clear hN hU)
          have t0 : w9.cell? ⟨w.heap.size + 1, 0, none⟩ = some vx := N8.out.cell rfl
          have t1 : w9.cell? ⟨w.heap.size + 1, 1, none⟩ = some vy := N8.out.cell rfl
          refine bodyPost_ret (v := .tuple #[.agg #[vx, vy], .int .i64 0]) (by simp [results, Tryz.results71, go_sem, t0, t1]) rfl ?_
          rw [← HME.out]
          refine .inl ⟨CV.out, W1.heap.size, _, rfl, ?_, ?_, ?_, X9.out.bel.trans (U8.out.below (Nat.le_succ _) X9.out.bel.size)⟩
          · omega
          · exact Nat.le_trans hw U8.out.size
          · rw [HT0.out, ← HR2.out]
            exact PHo.keep _ _ _ _ _ _ PR.out (fun q h1 h2 => U8.out.block q h2 (by omega)) U8.out.size
  · have NO : Hid (Calls Tryz.prog 62 #[.agg #[.int .i64 n.nodes, .slice a n.arcs.length c]] (((w.alloc (.cells #[.int .i64 n.nodes, .slice a n.arcs.length c] 24)).alloc (.cells #[.slice none 0 0, .slice none 0 0] 108)).alloc (.cells #[.slice none 0 0, .slice none 0 0] 108)) fun e w' => e = .returned (.tuple #[.pointer none, .int .i64 (checkN n)]) ∧ Below (((w.alloc (.cells #[.int .i64 n.nodes, .slice a n.arcs.length c] 24)).alloc (.cells #[.slice none 0 0, .slice none 0 0] 108)).alloc (.cells #[.slice none 0 0, .slice none 0 0] 108)).heap.size (((w.alloc (.cells #[.int .i64 n.nodes, .slice a n.arcs.length c] 24)).alloc (.cells #[.slice none 0 0, .slice none 0 0] 108)).alloc (.cells #[.slice none 0 0, .slice none 0 0] 108)) w') := NW.out.mono fun e w' hh => by
      unfold NewE at hh
      rw [if_neg hc0] at hh
      exact hh
    have CV := hiddenN (code_bad (zs := zs) hc0)
    have HC0 := hiddenN hc0
    have hcb : (checkN n != 0) = true := by simpa using hc0
    clear NW hc0
    generalize checkN n = cd at *
    go_enter Tryz.func71, Tryz.ntmps71
    go_upto_region 2 with fail
    generalize ((w.alloc (.cells #[.int .i64 n.nodes, .slice a n.arcs.length c] 24)).alloc (.cells #[.slice none 0 0, .slice none 0 0] 108)).alloc (.cells #[.slice none 0 0, .slice none 0 0] 108) = W0 at *
    go_upto_region 4 with (go_at_call 62; (with_reducible refine NO.out.mono ?_); rintro e W1 ⟨rfl, b1⟩; have X9 := hiddenN (X0.out.below b1 (by rw [HS0.out]; exact Nat.le_refl _)); clear b1 z0 z1)
    have n0 := X9.out.non.cell (k := 0) rfl; have n1 := X9.out.non.cell (k := 1) rfl; simp only [List.getElem_toArray, List.getElem_cons_zero, List.getElem_cons_succ] at n0 n1
    go_wp2_with (first | (refine wpList_storeW _ rfl 108 (.tmp 8) (.tmp 23) rfl rfl (w.heap.size + 1) 108 _ _ rfl rfl X9.out.res Tryz.sizEnds rfl rfl ?_; intro w8 hN hU; have N8 := hiddenN hN; have U8 := hiddenN hU; clear hN hU))
    have t0 : w8.cell? ⟨w.heap.size + 1, 0, none⟩ = some (.slice none 0 0) := N8.out.cell rfl
    have t1 : w8.cell? ⟨w.heap.size + 1, 1, none⟩ = some (.slice none 0 0) := N8.out.cell rfl
    refine bodyPost_ret (v := .tuple #[.agg #[.slice none 0 0, .slice none 0 0], .int .i64 cd]) (by simp [results, Tryz.results71, go_sem, t0, t1]) rfl ?_
    rw [← HME.out]
    exact .inr ⟨by rw [CV.out]; exact HC0.out, by rw [CV.out], X9.out.bel.trans (U8.out.below (Nat.le_succ _) X9.out.bel.size)⟩
theorem eq_nthV {xs ys : List Int} (hl : xs.length = ys.length) (h : ∀ k, k < xs.length → nth xs k = nth ys k) : xs = ys := by
  refine List.ext_getElem hl fun k h1 h2 => ?_
  have q := h k h1
  unfold nth at q
  rw [List.getD_eq_getElem?_getD, List.getD_eq_getElem?_getD, List.getElem?_eq_getElem h1, List.getElem?_eq_getElem h2] at q
  exact q
set_option maxRecDepth 100000 in
set_option maxHeartbeats 4000000 in
theorem equal_any (a b : Option Addr) (c d N : Nat) (xs ys : List Int) (w : World) (hx : xs.length = N) (hy : ys.length = N) (hN : N ≤ 4611686018427387904) (h1 : At w a xs) (h2 : At w b ys) :
    Calls Tryz.prog 72 #[.slice a N c, .slice b N d] w fun e w' => e = .returned (.bool (decide (xs = ys))) ∧ ∃ m, w' = w.drewN m := by
  obtain ⟨PE, hPE⟩ : ∃ R : Ending → World → Prop, (fun e w' => e = .returned (.bool (decide (xs = ys))) ∧ ∃ m, w' = w.drewN m) = R := ⟨_, rfl⟩
  rw [hPE]
  have HPE := hiddenN hPE
  have HX := hiddenN hx
  have HY := hiddenN hy
  have H1 := hiddenN h1
  have H2 := hiddenN h2
  have q0 : ((N : Int) != (N : Int)) = false := by simp
  clear hPE hx hy h1 h2
  go_enter Tryz.func72, Tryz.ntmps72
  go_wp2
  clear q0
  go_loopg [13] N (fun gk u wr => ∃ (k m : Nat), k ≤ N ∧ gk = N - k ∧ u = .int .i64 (k : Int) ∧ wr = w.drewN m ∧ ∀ j, j < k → nth xs j = nth ys j)
  case atStart => exact ⟨0, 0, Nat.zero_le _, rfl, rfl, rfl, fun j hj => absurd hj (Nat.not_lt_zero _)⟩
  case round =>
    obtain ⟨k, m, hk, rfl, rfl, rfl, hj⟩ := hrel
    have HJ := hiddenN hj
    clear hj
    by_cases hlt : k < N
    · have hki : (k : Int) < (N : Int) := by omega
      rcases H1.out with e1 | ⟨xb, xo, rfl, hc⟩
      · have := HX.out; rw [e1] at this; simp at this; omega
      rcases H2.out with e1 | ⟨yb, yo, rfl, hd⟩
      · have := HY.out; rw [e1] at this; simp at this; omega
      have c0 := hc k (by rw [HX.out]; exact hlt)
      have c1 := hd k (by rw [HY.out]; exact hlt)
      obtain ⟨x, ex⟩ : ∃ x, nth xs k = x := ⟨_, rfl⟩
      obtain ⟨y, ey⟩ : ∃ y, nth ys k = y := ⟨_, rfl⟩
      rw [ex] at c0
      rw [ey] at c1
      have EX := hiddenN ex
      have EY := hiddenN ey
      clear hc hd ex ey
      go_upto_region 6 with fail
      by_cases hxy : x = y
      · subst hxy
        have q1 : (x != x) = false := by simp
        go_quiet (fail)
        go_wp2
        go_roundg (N - (k + 1))
        case measure => omega
        case rel => exact ⟨k + 1, m + nq, by omega, rfl, by go_num, rfl, fun j hj => by
          by_cases e : j = k
          · subst e; rw [EX.out, EY.out]
          · exact HJ.out j (by omega)⟩
      · have q1 : (x != y) = true := by simpa using hxy
        go_quiet (fail)
        go_wp2
        rw [← HPE.out]
        refine ⟨?_, m + nq, by simp⟩
        have hne : ¬ xs = ys := fun e => hxy (by rw [← EX.out, ← EY.out, e])
        rw [decide_eq_false hne]
        first | rfl | simp
    · have ek : N = k := by omega
      have hki : ¬ (k : Int) < (N : Int) := by omega
      have HE : Hid (xs = ys) := eq_nthV (by rw [HX.out, HY.out]) fun j hj => HJ.out j (by rw [HX.out] at hj; omega)
      clear ek
      go_wp2
      rw [← HPE.out]
      refine ⟨?_, m, rfl⟩
      rw [decide_eq_true HE.out]
/-- What Home answers. -/
def homeB (n : NN) (zs : List Int) : Bool := decide (codeV n zs = 0 ∧ startT n = endV n (startT n) zs)
theorem rows_firstV (n : NN) (zs T : List Int) : (rowsV n T zs).head? = some T := by cases zs <;> rfl
theorem rows_lastV (n : NN) (zs T : List Int) : (rowsV n T zs).getLast? = some (endV n T zs) := by
  rw [List.getLast?_eq_getElem?, rows_len, Nat.add_sub_cancel]
  exact rows_last n zs T
set_option maxRecDepth 100000 in
set_option maxHeartbeats 4000000 in
theorem home_anyV (n : NN) (a : Option Addr) (c : Nat) (w : World) (h : AtN w a n.arcs) (hroom : n.arcs.length ≤ 4611686018427387904) (hna : a = none → n.arcs.length = 0 ∧ c = 0) (al : Option Addr) (cl : Nat) (zs : List Int) (hz : At w al zs) (hzl : zs.length ≤ 4611686018427387904) :
    Calls Tryz.prog 51 #[.agg #[.int .i64 n.nodes, .slice a n.arcs.length c], .slice al zs.length cl] w fun e w' => e = .returned (.tuple #[.bool (homeB n zs), .int .i64 (codeV n zs)]) ∧ Below w.heap.size w w' := by
  obtain ⟨ME, hME⟩ : ∃ R : Ending → World → Prop, (fun e w' => e = .returned (.tuple #[.bool (homeB n zs), .int .i64 (codeV n zs)]) ∧ Below w.heap.size w w') = R := ⟨_, rfl⟩
  rw [hME]
  have HME := hiddenN hME
  have b0 := (Below.refl w.heap.size w).alloc (Nat.le_refl _) (.cells #[.int .i64 n.nodes, .slice a n.arcs.length c] 24)
  have G0 := hiddenN (blkA_new 24 w #[.int .i64 n.nodes, .slice a n.arcs.length c])
  have B0 := hiddenN b0
  have M := hiddenN (moments3_any n a c _ (h.below b0) hroom hna al cl zs (hz.below b0) hzl)
  have z0 := G0.out.cell (k := 0) rfl
  have z1 := G0.out.cell (k := 1) rfl
  simp only [List.getElem_toArray, List.getElem_cons_zero, List.getElem_cons_succ] at z0 z1
  clear b0 h hz hna hME
  obtain ⟨N, hN⟩ : ∃ N, n.arcs.length = N := ⟨_, rfl⟩
  rw [hN] at M G0 B0 z0 z1 hroom ⊢
  have HN := hiddenN hN
  clear hN
  by_cases hc : codeV n zs = 0
  · have MY : Hid (Calls Tryz.prog 71 #[.agg #[.int .i64 n.nodes, .slice a N c], .func (.func 69) #[] #[], .func (.func 70) #[] #[], .slice al zs.length cl] (w.alloc (.cells #[.int .i64 n.nodes, .slice a N c] 24)) fun e w' => ∃ a1 c1 b1 d1, e = .returned (.tuple #[.agg #[.slice a1 N c1, .slice b1 N d1], .int .i64 0]) ∧ At w' a1 (startT n) ∧ At w' b1 (endV n (startT n) zs) ∧ (endV n (startT n) zs).length = N ∧ Below (w.alloc (.cells #[.int .i64 n.nodes, .slice a N c] 24)).heap.size (w.alloc (.cells #[.int .i64 n.nodes, .slice a N c] 24)) w') := M.out.mono fun e w' hh => by
      rcases hh with ⟨-, B, v, e1, -, -, q1, q2⟩ | ⟨k1, -⟩
      · obtain ⟨T, L, a1, c1, b1, d1, rfl, r1, r2, r3, r4, r5, r6⟩ := q1
        rw [rows_firstV] at r1
        rw [rows_lastV] at r2
        cases r1
        cases r2
        exact ⟨a1, c1, b1, d1, e1, r5.at, r6.at, r4, q2⟩
      · exact absurd hc k1
    have HST : Hid ((startT n).length = N) := by show _ = _; unfold startT; rw [List.length_map, HN.out]
    have HB : Hid (homeB n zs = decide (startT n = endV n (startT n) zs)) := by show _ = _; unfold homeB; simp [hc]
    have HC := hiddenN hc
    clear M hc
    generalize codeV n zs = cd at *
    generalize homeB n zs = hb at *
    generalize endV n (startT n) zs = L at *
    generalize startT n = T at *
    go_enter Tryz.func51, Tryz.ntmps51
    go_upto_region 1 with fail
    generalize w.alloc (.cells #[.int .i64 n.nodes, .slice a N c] 24) = W0 at *
    go_upto_region 4 with (first
      | (go_at_call 71; (with_reducible refine MY.out.mono ?_); rintro e W1 ⟨a1, c1, b1, d1, rfl, r1, r2, r3, q2⟩; have R1 := hiddenN r1; have R2 := hiddenN r2; have R3 := hiddenN r3; have B1 := hiddenN q2; have XS := hiddenN (blkA_new 108 W1 #[.slice none 0 0, .slice none 0 0]); have bA := hiddenN ((Below.refl W1.heap.size W1).alloc (Nat.le_refl _) (.cells #[.slice none 0 0, .slice none 0 0] 108)); clear r1 r2 r3 q2)
      | (refine wpList_storeW _ rfl 108 (.tmp 8) (.tmp 16) rfl rfl W1.heap.size 108 _ _ rfl rfl XS.out Tryz.sizEnds rfl rfl ?_; intro w8 hN hU; have N8 := hiddenN hN; have U8 := hiddenN hU; clear hN hU))
    have K8 : Hid (Below W1.heap.size W1 w8) := bA.out.trans (U8.out.below (Nat.le_refl _) bA.out.size)
    have x0 := N8.out.cell (k := 0) rfl
    have x1 := N8.out.cell (k := 1) rfl
    simp only [List.getElem_toArray, List.getElem_cons_zero, List.getElem_cons_succ] at x0 x1
    have EQ := hiddenN (equal_any a1 b1 c1 d1 N T L w8 HST.out R3.out (by omega) (R1.out.below K8.out) (R2.out.below K8.out))
    have L8 := hiddenN (B0.out.trans ((B1.out.trans (K8.out.mono B1.out.size)).mono B0.out.size))
    clear B0 B1 K8 XS bA U8 N8 R1 R2 R3 MY z0 z1
    go_wp2_with (go_at_call 72; (with_reducible refine EQ.out.mono ?_); rintro e W9 ⟨rfl, m, rfl⟩)
    rw [← HME.out]
    exact ⟨by rw [HB.out, HC.out]; rfl, drewB L8.out m⟩
  · have MN : Hid (Calls Tryz.prog 71 #[.agg #[.int .i64 n.nodes, .slice a N c], .func (.func 69) #[] #[], .func (.func 70) #[] #[], .slice al zs.length cl] (w.alloc (.cells #[.int .i64 n.nodes, .slice a N c] 24)) fun e w' => e = .returned (.tuple #[.agg #[.slice none 0 0, .slice none 0 0], .int .i64 (codeV n zs)]) ∧ Below (w.alloc (.cells #[.int .i64 n.nodes, .slice a N c] 24)).heap.size (w.alloc (.cells #[.int .i64 n.nodes, .slice a N c] 24)) w') := M.out.mono fun e w' hh => by
      rcases hh with ⟨k1, -⟩ | ⟨-, e1, q⟩
      · exact absurd k1 hc
      · exact ⟨e1, q⟩
    have HB : Hid (homeB n zs = false) := by show _ = _; unfold homeB; simp [hc]
    have hcb : (codeV n zs == 0) = false := by simpa using hc
    clear M hc
    generalize codeV n zs = cd at *
    generalize homeB n zs = hb at *
    go_enter Tryz.func51, Tryz.ntmps51
    go_upto_region 1 with fail
    generalize w.alloc (.cells #[.int .i64 n.nodes, .slice a N c] 24) = W0 at *
    go_upto_region 4 with (first
      | (go_at_call 71; (with_reducible refine MN.out.mono ?_); rintro e W1 ⟨rfl, q2⟩; have B1 := hiddenN q2; have XS := hiddenN (blkA_new 108 W1 #[.slice none 0 0, .slice none 0 0]); have bA := hiddenN ((Below.refl W1.heap.size W1).alloc (Nat.le_refl _) (.cells #[.slice none 0 0, .slice none 0 0] 108)); clear q2)
      | (refine wpList_storeW _ rfl 108 (.tmp 8) (.tmp 16) rfl rfl W1.heap.size 108 _ _ rfl rfl XS.out Tryz.sizEnds rfl rfl ?_; intro w8 hN hU; have U8 := hiddenN hU; clear hN hU))
    have K8 : Hid (Below W1.heap.size W1 w8) := bA.out.trans (U8.out.below (Nat.le_refl _) bA.out.size)
    have L8 := hiddenN (B0.out.trans ((B1.out.trans (K8.out.mono B1.out.size)).mono B0.out.size))
    clear B0 B1 K8 XS bA U8 MN z0 z1
    go_wp2
    rw [← HME.out]
    exact ⟨by rw [HB.out]; rfl, L8.out⟩
set_option maxRecDepth 100000 in
set_option maxHeartbeats 8000000 in
theorem rcounts10V {B : Nat} (w : World) (n : NN) (a : Option Addr) (c g N : Nat) (T F : List Int) (h : DocS B w n a g N F) (hI : InvN n T F) : Calls Tryz.prog 48 #[.agg #[.int .i64 n.nodes, .slice a n.arcs.length c, .slice (some ⟨g, 0, none⟩) N N]] w fun e w' => ∃ d, e = .returned (.slice (some ⟨d, 0, none⟩) n.arcs.length n.arcs.length) ∧ CapR w.heap.size w' (some ⟨d, 0, none⟩) n.arcs.length T ∧ Below w.heap.size w w' := by
  have ba := (Below.refl w.heap.size w).alloc (Nat.le_refl _) (.cells #[.int .i64 n.nodes, .slice a n.arcs.length c, .slice (some ⟨g, 0, none⟩) N N] 87)
  have X := hiddenN (blkA_new 87 w #[.int .i64 n.nodes, .slice a n.arcs.length c, .slice (some ⟨g, 0, none⟩) N N])
  have H := hiddenN (h.below ba)
  have B0 := hiddenN ba
  have hmost := h.sound.most
  have hTl := hI.lT
  have HE := hiddenN hI.eq
  have x1 := X.out.cell (k := 1) rfl
  simp only [List.getElem_toArray, List.getElem_cons_zero, List.getElem_cons_succ] at x1
  have hmk := run_make_row' (P := Tryz.prog) 25 3 (.int .i64 0) 8 Tryz.underlying25 Tryz.info3 rfl .i64 .i64 n.arcs.length (by omega) (by omega)
  clear ba h hI
  go_enter Tryz.func48, Tryz.ntmps48
  go_upto_region 1 with fail
  generalize w.alloc (.cells #[.int .i64 n.nodes, .slice a n.arcs.length c, .slice (some ⟨g, 0, none⟩) N N] 87) = W0 at *
  have C0 := hiddenN (made_ownN W0 n.arcs.length (by omega) (Nat.le_refl W0.heap.size))
  have b1 := hiddenN ((Below.refl W0.heap.size W0).alloc (Nat.le_refl _) (.cells (madeCells #[.int .i64 0] n.arcs.length) 3))
  go_wp2
  clear hmk x1
  generalize W0.alloc (.cells (madeCells #[.int .i64 0] n.arcs.length) 3) = W1 at *
  go_loopg [4] n.arcs.length (fun gk v4 wr => ∃ i : Nat, i ≤ n.arcs.length ∧ gk = n.arcs.length - i ∧ v4 = .int .i64 (i : Int) ∧ CapR W0.heap.size wr (some ⟨W0.heap.size, 0, none⟩) n.arcs.length (T.take i ++ List.replicate (n.arcs.length - i) 0) ∧ Below W0.heap.size W0 wr)
  case atStart => exact ⟨0, Nat.zero_le _, rfl, rfl, by simpa using C0.out, b1.out⟩
  case round =>
    clear C0 b1
    obtain ⟨i, hi, rfl, rfl, hC, hBw⟩ := hrel
    have HB := hiddenN hBw
    clear hBw
    by_cases hil : i < n.arcs.length
    · have hii : (i : Int) < (n.arcs.length : Int) := by omega
      have es : List.replicate (n.arcs.length - i) (0 : Int) = 0 :: List.replicate (n.arcs.length - (i + 1)) 0 := by
        rw [show n.arcs.length - i = (n.arcs.length - (i + 1)) + 1 by omega, List.replicate_succ]
      rw [es] at hC
      have hlk : (T.take i).length = i := by rw [List.length_take]; omega
      have HC := hiddenN hC
      have XB := hiddenN (X.out.below HB.out)
      have x0 := XB.out.cell (k := 0) rfl
      have x1 := XB.out.cell (k := 1) rfl
      have x2 := XB.out.cell (k := 2) rfl
      simp only [List.getElem_toArray, List.getElem_cons_zero, List.getElem_cons_succ] at x0 x1 x2
      have HX := hiddenN (has10_any wr n a c g N F (H.out.below HB.out) i hil)
      rw [← HE.out i hil] at HX
      have HLK := hiddenN hlk
      have HTN := hiddenN (take_snoc (zs := T) (j := i) (by omega))
      clear hC es hlk
      generalize nth T i = y at *
      go_wp2_with (go_at_call 67; (with_reducible refine HX.out.mono ?_); rintro e U ⟨rfl, b2⟩; have C2 := HC.out.later b2; have cc := C2.hd (k := i) HLK.out; have ff := C2.fz i; have C3 := hiddenN (C2.set (k := i) y HLK.out); have B3 := hiddenN ((HB.out.trans (b2.mono HB.out.size)).setCell (p := ⟨W0.heap.size, i, none⟩) (Nat.le_refl _) (.int .i64 y)); clear b2 C2)
      go_roundg (n.arcs.length - (i + 1))
      case measure => omega
      case rel => exact ⟨i + 1, by omega, rfl, by go_num, by rw [HTN.out, List.append_assoc]; exact C3.out, B3.out⟩
    · have ei : i = n.arcs.length := by omega
      have hii : ¬ (i : Int) < (n.arcs.length : Int) := by omega
      rw [ei, Nat.sub_self, List.replicate_zero, List.append_nil, List.take_of_length_le (by omega)] at hC
      have HC := hiddenN hC
      clear hC
      go_wp2
      go_ret
      exact ⟨W0.heap.size, rfl, HC.out.mono B0.out.size, B0.out.trans (HB.out.mono B0.out.size)⟩
/-- What lies of a run of the document's: the net's box, the state and its box, the rows. -/
structure DrV (w W : World) (n : NN) (a : Option Addr) (c sb g N : Nat) (F : List Int) (v : Value) (R : List (List Int)) (B : Nat) : Prop where
  net : BlkA 24 w.heap.size W #[.int .i64 n.nodes, .slice a n.arcs.length c]
  box : BlkA 87 sb W #[.int .i64 n.nodes, .slice a n.arcs.length c, .slice (some ⟨g, 0, none⟩) N N]
  doc : DocS w.heap.size W n a g N F
  row : PAl B W v R
  bel : Below w.heap.size w W
  ord : w.heap.size < g ∧ g < sb ∧ sb < B ∧ B ≤ W.heap.size
  arg : AtN w a n.arcs
theorem DrV.below {w W W' : World} {n : NN} {a : Option Addr} {c sb g N : Nat} {F : List Int} {v : Value} {R : List (List Int)} {B : Nat} (h : DrV w W n a c sb g N F v R B) (hb : Below W.heap.size W W') : DrV w W' n a c sb g N F v R B :=
  ⟨h.net.below hb, h.box.below hb, h.doc.below hb, PAl.keep _ _ _ _ _ h.row (fun k _ hk => hb.block k hk) hb.size, h.bel.trans (hb.mono h.bel.size), by obtain ⟨h1, h2, h3, h4⟩ := h.ord; exact ⟨h1, h2, h3, Nat.le_trans h4 hb.size⟩, h.arg⟩
theorem DrV.fire {w W W' : World} {n : NN} {a : Option Addr} {c sb g N : Nat} {F F' : List Int} {v : Value} {R : List (List Int)} {B : Nat} (h : DrV w W n a c sb g N F v R B) (hb : But g W W') (hd : DocS w.heap.size W' n a g N F') : DrV w W' n a c sb g N F' v R B := by
  obtain ⟨h1, h2, h3, h4⟩ := h.ord
  exact ⟨h.net.keep (hb.block _ h.net.lt (by omega)), h.box.keep (hb.block _ h.box.lt (by omega)), hd, PAl.keep _ _ _ _ _ h.row (fun k q hk => hb.block k hk (by omega)) hb.size, h.bel.trans (hb.below (by omega) h.bel.size), ⟨h1, h2, h3, Nat.le_trans h4 hb.size⟩, h.arg⟩
theorem DrV.grow {w W W' : World} {n : NN} {a : Option Addr} {c sb g N : Nat} {F : List Int} {v v' : Value} {R R' : List (List Int)} {B : Nat} (h : DrV w W n a c sb g N F v R B) (hb : Below B W W') (hr : PAl B W' v' R') : DrV w W' n a c sb g N F v' R' B := by
  obtain ⟨h1, h2, h3, h4⟩ := h.ord
  refine ⟨h.net.keep (hb.block _ (by omega)), h.box.keep (hb.block _ (by omega)), ?_, hr, h.bel.trans (hb.mono (by omega)), ⟨h1, h2, h3, Nat.le_trans h4 hb.size⟩, h.arg⟩
  have q := h.doc
  exact ⟨h.arg.below (h.bel.trans (hb.mono (by omega))), q.fir.keep fun x hx => by cases hx; exact hb.block _ (by show g < B; omega), q.lF, q.nodes, q.sound, q.far, q.inr⟩
theorem wpList_appRowN {w : World} {ops : Array Oper} {rest : List Oper} {o : Oper} {a : Act} {Q : Exit → Act → World → Prop} (hgd : o.guard = none) (s x : Operand) (ho : o.op = .call { callee := .builtin .append, args := #[s, x], argTypes := #[54, 54] })
    (B : Nat) (v0 : Value) (w0 : World) (A : Nat → Option Addr) (C : Nat → Nat) (O : List (List Int)) (hs : a.eval s = v0) (hT : TabGV B w0 v0 A C O) (hB0 : B ≤ w0.heap.size) (d : Option Addr) (c : Nat) (L : List Int) (hb : Below w0.heap.size w0 w) (hd : CapR w0.heap.size w d c L) (m : Nat) (hm : L.length = m) (k : Nat) (hx : a.eval x = .slice (some ⟨k, 0, none⟩) 1 1) (hk : BlkA 25 k w #[.slice d m c]) (hlen : O.length ≤ 1000000)
    (h : ∀ v' w' A' C', TabGV B w' v' A' C' (O ++ [L]) → Below B w w' → wpList Tryz.prog ops Q rest (a.put o.dst v') w') : wpList Tryz.prog ops Q (o :: rest) a w := by
  subst hm
  exact wpList_appRow hgd s x ho B v0 w0 A C O hs hT hB0 d c L hb hd k hx hk hlen h
set_option maxRecDepth 100000 in
set_option maxHeartbeats 16000000 in
theorem ralong_any (n : NN) (a : Option Addr) (c : Nat) (w : World) (h : AtN w a n.arcs) (hroom : n.arcs.length ≤ 4611686018427387904) (al : Option Addr) (cl : Nat) (zs : List Int) (hz : At w al zs) (hzl : zs.length ≤ 4611686018427387904) :
    Calls Tryz.prog 23 #[.agg #[.int .i64 n.nodes, .slice a n.arcs.length c], .slice al zs.length cl] w (MomE PAl (.slice none 0 0) n zs w) := by
  obtain ⟨ME, hME⟩ : ∃ R, MomE PAl (.slice none 0 0) n zs w = R := ⟨_, rfl⟩
  rw [hME]
  have HME := hiddenN hME
  have b0 := (Below.refl w.heap.size w).alloc (Nat.le_refl _) (.cells #[.int .i64 n.nodes, .slice a n.arcs.length c] 24)
  have G0 := hiddenN (blkA_new 24 w #[.int .i64 n.nodes, .slice a n.arcs.length c])
  have B0 := hiddenN b0
  have CK := hiddenN (rcheck10_any n a c _ (h.below b0) hroom)
  have HA := hiddenN h
  have HZ := hiddenN hz
  have HS0 : Hid ((w.alloc (.cells #[.int .i64 n.nodes, .slice a n.arcs.length c] 24)).heap.size = w.heap.size + 1) := World.size_alloc _ _
  have z0 := G0.out.cell (k := 0) rfl
  have z1 := G0.out.cell (k := 1) rfl
  simp only [List.getElem_toArray, List.getElem_cons_zero, List.getElem_cons_succ] at z0 z1
  clear b0 h hz hME
  by_cases hc0 : checkN n = 0
  · rw [hc0] at CK
    by_cases hl : 2048 < zs.length
    · have CV := hiddenN (code_long hc0 hl)
      have hli : (zs.length : Int) > 2048 := by omega
      clear hc0
      go_enter Tryz.func23, Tryz.ntmps23
      go_upto_region 1 with fail
      generalize w.alloc (.cells #[.int .i64 n.nodes, .slice a n.arcs.length c] 24) = W0 at *
      go_wp2_with (go_at_call 46; (with_reducible refine CK.out.mono ?_); rintro e W1 ⟨rfl, b1⟩; have L1 := hiddenN (B0.out.trans (b1.mono B0.out.size)); clear b1 z0 z1)
      rw [← HME.out]
      exact .inr ⟨by rw [CV.out]; decide, by (rw [CV.out]; try rfl), L1.out⟩
    · have CE := hiddenN (code_err hc0 hl)
      have hli : ¬ (zs.length : Int) > 2048 := by omega
      have HSN := hiddenN (check_sound hc0)
      have hnn := nodes_nat HSN.out
      obtain ⟨N, hNN⟩ : ∃ k, n.nodes.toNat = k := ⟨_, rfl⟩
      have HNI : Hid (n.nodes = (N : Int)) := by show _ = _; omega
      have IV := hiddenN (start_inv HSN.out (T := startT n) rfl)
      rw [hNN] at IV
      clear hc0 hNN hnn
      go_enter Tryz.func23, Tryz.ntmps23
      go_upto_region 1 with fail
      generalize w.alloc (.cells #[.int .i64 n.nodes, .slice a n.arcs.length c] 24) = W0 at *
      go_upto_region 6 with (go_at_call 46; (with_reducible refine CK.out.mono ?_); rintro e W1 ⟨rfl, b1⟩; have G1 := hiddenN (G0.out.below b1); have L1 := hiddenN (B0.out.trans (b1.mono B0.out.size)); have h01 := b1.size; clear b1 z0 z1)
      have z0 := G1.out.cell (k := 0) rfl
      have z1 := G1.out.cell (k := 1) rfl
      simp only [List.getElem_toArray, List.getElem_cons_zero, List.getElem_cons_succ] at z0 z1
      have hfar : ∀ x, a = some x → n.arcs ≠ [] → x.block < w.heap.size := fun x hx hne => atN_lt HA.out hne hx
      have ST := hiddenN (rstart10_any W1 n a c N HSN.out HNI.out (HA.out.below L1.out) (fun x hx hne => by have := hfar x hx hne; have := L1.out.size; omega))
      go_upto_region 7 with (go_at_call 47; (with_reducible refine ST.out.mono ?_); rintro e W2 ⟨g, rfl, d2, b2⟩; have D2 := hiddenN d2; have G2 := hiddenN (G1.out.below b2); have L2 := hiddenN (L1.out.trans (b2.mono L1.out.size)); have h12 := b2.size; clear d2 b2 z0 z1)
      have b3 := (Below.refl W2.heap.size W2).alloc (Nat.le_refl _) (.cells #[.int .i64 n.nodes, .slice a n.arcs.length c, .slice (some ⟨g, 0, none⟩) N N] 87)
      have hs3 : (W2.alloc (.cells #[.int .i64 n.nodes, .slice a n.arcs.length c, .slice (some ⟨g, 0, none⟩) N N] 87)).heap.size = W2.heap.size + 1 := World.size_alloc _ _
      have hg1 := (D2.out.fir.lt _ rfl).1
      have hg2 := (D2.out.fir.lt _ rfl).2
      simp only at hg1 hg2
      have hs0 := HS0.out
      have DR3 : Hid (DrV w (W2.alloc (.cells #[.int .i64 n.nodes, .slice a n.arcs.length c, .slice (some ⟨g, 0, none⟩) N N] 87)) n a c W2.heap.size g N (List.replicate N 0) (.slice none 0 0) [] (W2.heap.size + 1)) :=
        ⟨G2.out.below b3, blkA_new 87 W2 #[.int .i64 n.nodes, .slice a n.arcs.length c, .slice (some ⟨g, 0, none⟩) N N], by
          have q := D2.out.below b3
          exact ⟨q.arcs, q.fir.mono (by omega), q.lF, q.nodes, q.sound, q.far, q.inr⟩, ⟨_, _, tabG_nilV _ _⟩, L2.out.trans (b3.mono L2.out.size), ⟨by omega, hg2, Nat.lt_succ_self _, by rw [hs3]; exact Nat.le_refl _⟩, HA.out⟩
      generalize hT0 : startT n = T0 at *
      have HT0 := hiddenN hT0
      have HF : Hid (∀ x, a = some x → n.arcs ≠ [] → x.block < w.heap.size) := hfar
      clear hT0 b3 hs3 hg1 hg2 hs0 G2 L2 D2 h12 ST G1 L1 hfar CK h01 G0 B0 HS0
      generalize W2.alloc (.cells #[.int .i64 n.nodes, .slice a n.arcs.length c, .slice (some ⟨g, 0, none⟩) N N] 87) = W3 at *
      have x0 := DR3.out.box.cell (k := 0) rfl
      have x1 := DR3.out.box.cell (k := 1) rfl
      have x2 := DR3.out.box.cell (k := 2) rfl
      simp only [List.getElem_toArray, List.getElem_cons_zero, List.getElem_cons_succ] at x0 x1 x2
      have CT := hiddenN (rcounts10V W3 n a c g N T0 (List.replicate N 0) DR3.out.doc IV.out)
      have HTL := hiddenN IV.out.lT
      go_upto_region 9 with (first
        | (go_at_call 48; (with_reducible refine CT.out.mono ?_); rintro e W4 ⟨d4, rfl, r4, b4⟩; have R4 := hiddenN r4; have DR4 := hiddenN (DR3.out.below b4); have BA := hiddenN (b4.trans (((Below.refl W4.heap.size W4).alloc (Nat.le_refl _) (.cells #[.slice (some ⟨d4, 0, none⟩) n.arcs.length n.arcs.length] 25)).mono b4.size)); have BB := hiddenN ((Below.refl W4.heap.size W4).alloc (Nat.le_refl _) (.cells #[.slice (some ⟨d4, 0, none⟩) n.arcs.length n.arcs.length] 25)); have XK := hiddenN (blkA_new 25 W4 #[.slice (some ⟨d4, 0, none⟩) n.arcs.length n.arcs.length]); clear r4 b4 x0 x1 x2)
        | (at_builtin; refine wpList_appRowN rfl _ _ rfl (W2.heap.size + 1) (.slice none 0 0) W3 (fun _ => none) (fun _ => 0) [] rfl (tabG_nilV _ _) DR3.out.ord.2.2.2 (some ⟨d4, 0, none⟩) n.arcs.length T0 BA.out (R4.out.later BB.out) n.arcs.length HTL.out W4.heap.size rfl XK.out (Nat.zero_le _) ?_; intro v5 W5 A5 C5 q1 q2; have DR5 := hiddenN ((DR4.out.below BB.out).grow q2 ⟨_, _, q1⟩); clear q1 q2))
      clear CT DR3 DR4 R4 BA BB XK HTL
      go_wp2
      go_loopg [8, 9] zs.length (fun gk u8 u9 wr => ∃ (k : Nat) (T F : List Int) (R : List (List Int)), k ≤ zs.length ∧ gk = zs.length - k ∧ u9 = .int .i64 (k : Int) ∧ errV n T (zs.drop k) = errV n T0 zs ∧ R ++ (rowsV n T (zs.drop k)).drop 1 = rowsV n T0 zs ∧ R.length = k + 1 ∧ InvN n T F ∧ DrV w wr n a c W2.heap.size g N F u8 R (W2.heap.size + 1))
      case atStart => exact ⟨0, T0, _, [T0], Nat.zero_le _, rfl, rfl, by rw [List.drop_zero], by rw [List.drop_zero]; cases zs <;> rfl, rfl, IV.out, DR5.out⟩
      case round =>
        clear DR5 IV
        obtain ⟨k, T, F, R, hk, rfl, rfl, he, hR, hRl, hI, hD⟩ := hrel
        have HE := hiddenN he
        have HR := hiddenN hR
        have HRL := hiddenN hRl
        have HI := hiddenN hI
        have DR := hiddenN hD
        clear he hR hRl hI hD
        have z0 := DR.out.net.cell (k := 0) rfl
        simp only [List.getElem_toArray, List.getElem_cons_zero] at z0
        by_cases hlt : k < zs.length
        · have hki : (k : Int) < (zs.length : Int) := by omega
          have ed := drop_nthV hlt
          rcases HZ.out with e | ⟨zb, zo, rfl, hc⟩
          · rw [e] at hlt; simp at hlt
          have HC0 : Hid (∀ U, Below w.heap.size w U → U.cell? ⟨zb, zo + k, none⟩ = some (.int .i64 (nth zs k))) := fun U hb => cellN_later hb (hc k hlt)
          rw [ed] at HE HR
          generalize nth zs k = xv at *
          have c0 := HC0.out _ DR.out.bel
          clear hc ed
          go_upto_region 12 with fail
          by_cases hv : nodeB n xv = true
          · have hvb : 0 ≤ xv ∧ xv < n.nodes := of_decide_eq_true hv
            have h1 : decide (xv < 0) = false := by simp; omega
            have h2 : decide (n.nodes ≤ xv) = false := by simp; omega
            go_quiet (fail)
            have b9 := drewB (Below.refl wr.heap.size wr) nq
            have DR4 := hiddenN (DR.out.below b9)
            clear c0
            generalize wr.drewN nq = W4 at *
            clear b9 z0 DR h1 h2
            have c0 := HC0.out _ DR4.out.bel
            go_upto_region 14 with fail
            have x0 := DR4.out.box.cell (k := 0) rfl
            have x1 := DR4.out.box.cell (k := 1) rfl
            have x2 := DR4.out.box.cell (k := 2) rfl
            simp only [List.getElem_toArray, List.getElem_cons_zero, List.getElem_cons_succ] at x0 x1 x2
            have MA : Hid (∀ U, Below W4.heap.size W4 U → Calls Tryz.prog 49 #[.agg #[.int .i64 n.nodes, .slice a n.arcs.length c, .slice (some ⟨g, 0, none⟩) N N], .int .i64 xv] U fun e w' => e = .returned (.bool (mayN n T xv)) ∧ Below U.heap.size U w') := fun U hb => rmay10_any U n a c g N T F (DR4.out.doc.below hb) HI.out xv
            obtain ⟨mb, hmb⟩ : ∃ q, mayN n T xv = q := ⟨_, rfl⟩
            rw [hmb] at MA
            refine wp_region_gen [] (fun d i u z => match i with
                | 0 => z = .agg #[.int .i64 n.nodes, .slice a n.arcs.length c, .slice (some ⟨g, 0, none⟩) N N]
                | 1 => z = .slice (some ⟨zb, zo, none⟩) zs.length cl
                | 2 => z = .int .i64 (k : Int)
                | 3 => z = .pointer (some ⟨zb, zo + k, none⟩)
                | 4 => z = .int .i64 xv
                | 5 => z = .bool mb
                | 6 => z = .bool (!mb)
                | _ => True) (fun _ u => Below W4.heap.size W4 u) (by kernel_rfl) (by kernel_rfl) (by kernel_rfl) ?_ ?_ ?_ ?_ ?_ ?_ (by kernel_rfl)
            · intro d i w v w' h hb
              match i, h with
              | 0, h => exact h
              | 1, h => exact h
              | 2, h => exact h
              | 3, h => exact h
              | 4, h => exact h
              | 5, h => exact h
              | 6, h => exact h
              | _ + 7, _ => trivial
            · intro d u u' h hb
              exact h.trans (hb.mono h.size)
            · exact Below.refl _ _
            · intro d i o ρ w' hm ho hf hg hC hcs hfs hfr hdep
              match i, hm, ho, hf, hg, hfr, hdep with
              | 0, _, ho, hf, hg, hfr, hdep =>
                simp only [gTA, gCZ, gSI] at ho
                subst ho
                refine ⟨fun _ => ?_, fun hw => absurd (show true = false from hw) (by decide)⟩
                have ts : ρ (.tmp 7) = .pointer (some ⟨W2.heap.size, 0, none⟩) := hfr 7 (by kernel_rfl)
                have k0 := cellN_later hC x0
                have k1 := cellN_later hC x1
                have k2 := cellN_later hC x2
                simp [go_sem, ts, k0, k1, k2]
                exact ⟨Below.refl _ _, rfl⟩
              | 1, _, ho, hf, hg, hfr, hdep =>
                simp only [gTA, gCZ, gCS, gSI] at ho
                subst ho
                refine ⟨fun _ => ?_, fun hw => absurd (show true = false from hw) (by decide)⟩
                have ts : ρ (.tmp 1) = .slice (some ⟨zb, zo, none⟩) zs.length cl := hfr 1 (by kernel_rfl)
                simp [go_sem, ts]
                exact ⟨Below.refl _ _, rfl⟩
              | 2, _, ho, hf, hg, hfr, hdep =>
                simp only [gTA, gCZ, gCS, gSI] at ho
                subst ho
                refine ⟨fun _ => ?_, fun hw => absurd (show true = false from hw) (by decide)⟩
                have ts : ρ (.tmp 9) = .int .i64 (k : Int) := hfr 9 (by kernel_rfl)
                simp [go_sem, ts]
                exact ⟨Below.refl _ _, rfl⟩
              | 3, _, ho, hf, hg, hfr, hdep =>
                simp only [gTA, gCZ, gCS, gSI] at ho
                subst ho
                refine ⟨fun _ => ?_, fun hw => absurd (show true = false from hw) (by decide)⟩
                have d0 : ρ (.tmp 46) = .slice (some ⟨zb, zo, none⟩) zs.length cl := hdep 1 46 (by kernel_rfl) (by kernel_rfl)
                have d1 : ρ (.tmp 47) = .int .i64 (k : Int) := hdep 2 47 (by kernel_rfl) (by kernel_rfl)
                simp [go_sem, d0, d1, hki]
                exact ⟨Below.refl _ _, rfl⟩
              | 4, _, ho, hf, hg, hfr, hdep =>
                simp only [gTA, gCZ, gCS, gSI] at ho
                subst ho
                refine ⟨fun _ => ?_, fun hw => absurd (show true = false from hw) (by decide)⟩
                have kc := cellN_later hC c0
                have d0 : ρ (.tmp 48) = .pointer (some ⟨zb, zo + k, none⟩) := hdep 3 48 (by kernel_rfl) (by kernel_rfl)
                simp [go_sem, d0, kc]
                exact ⟨Below.refl _ _, rfl⟩
              | 5, _, ho, hf, hg, hfr, hdep =>
                simp only [gTA, gCZ, gCS, gSI] at ho
                subst ho
                refine ⟨fun _ => ?_, fun hw => absurd (show true = false from hw) (by decide)⟩
                have t1 : ρ (.tmp 45) = .agg #[.int .i64 n.nodes, .slice a n.arcs.length c, .slice (some ⟨g, 0, none⟩) N N] := hdep 0 45 (by kernel_rfl) (by kernel_rfl)
                have t2 : ρ (.tmp 49) = .int .i64 xv := hdep 4 49 (by kernel_rfl) (by kernel_rfl)
                simp [go_sem, t1, t2, hfs]
                exact ⟨rfl, (MA.out w' hC).mono fun e w'' ⟨e1, b6⟩ => ⟨_, e1, b6, rfl⟩⟩
              | 6, _, ho, hf, hg, hfr, hdep =>
                simp only [gTA, gCZ, gCS, gSI] at ho
                subst ho
                refine ⟨fun _ => ?_, fun hw => absurd (show true = false from hw) (by decide)⟩
                have t1 : ρ (.tmp 50) = .bool mb := hdep 5 50 (by kernel_rfl) (by kernel_rfl)
                simp [go_sem, t1]
                exact ⟨Below.refl _ _, rfl⟩
              | n + 7, _, ho, _, _, _, _ => simp at ho
            · intro d i o ρ w' hm ho h0 hf hg hC hcs hfs hfr hdep
              exact absurd hm (by simp)
            · intro V w9 hC9 hS
              have e6 : V 6 = .bool (!mb) := hS 6 (by decide) (by intro h; cases h)
              simp only [puts, e6]
              simp only [Act.put, List.setIfInBounds_toArray, List.set_cons_zero, List.set_cons_succ]
              clear hS e6
              have DR5 := hiddenN (DR4.out.below hC9)
              clear hC9 DR4 x0 x1 x2 c0 MA
              generalize w9 = W5 at *
              cases mb with
              | true =>
                have HE2 := hiddenN ((err_cons_yes hv hmb (zs := zs.drop (k + 1))).symm.trans HE.out)
                have HR2 := hiddenN ((rows_step R (n := n) (T := T) (v := xv) (zs := zs.drop (k + 1))).symm.trans HR.out)
                have HI2 := hiddenN (fire_inv HSN.out HI.out hv)
                have HM := hiddenN hmb
                clear HE HR hv hvb hmb
                go_upto_region 16 with fail
                have x0 := DR5.out.box.cell (k := 0) rfl
                have x1 := DR5.out.box.cell (k := 1) rfl
                have x2 := DR5.out.box.cell (k := 2) rfl
                simp only [List.getElem_toArray, List.getElem_cons_zero, List.getElem_cons_succ] at x0 x1 x2
                have FRR : Hid (∀ U q, Below W5.heap.size W5 U → W5.heap.size ≤ q → At U (some ⟨q, 0, none⟩) [xv] → Calls Tryz.prog 50 #[.agg #[.int .i64 n.nodes, .slice a n.arcs.length c, .slice (some ⟨g, 0, none⟩) N N], .slice (some ⟨q, 0, none⟩) 1 1] U fun e w' => e = .returned (.int .i64 1) ∧ DrV w w' n a c W2.heap.size g N (bumpF F xv) u8 R (W2.heap.size + 1)) := fun U q hb hq hat => by
                  have q0 := rfire10_any U n a c g N T F (DR5.out.below hb).doc HI.out (some ⟨q, 0, none⟩) 1 [xv] hat (by simp) (fun x hx _ => by cases hx; have := DR5.out.ord; show q ≠ g; omega)
                  rw [fires_one_yes HM.out] at q0
                  exact q0.mono fun e w' ⟨e1, e2, e3⟩ => ⟨e1, (DR5.out.below hb).fire e3 e2⟩
                refine wp_region_gen [6] (fun d i u z => match i with
                    | 0 => z = .agg #[.int .i64 n.nodes, .slice a n.arcs.length c, .slice (some ⟨g, 0, none⟩) N N]
                    | 1 => z = .slice (some ⟨zb, zo, none⟩) zs.length cl
                    | 2 => z = .int .i64 (k : Int)
                    | 3 => z = .pointer (some ⟨zb, zo + k, none⟩)
                    | 4 => z = .int .i64 xv
                    | 5 => d 6 = false → ∃ q, z = .slice (some ⟨q, 0, none⟩) 1 1 ∧ W5.heap.size ≤ q ∧ At u (some ⟨q, 0, none⟩) [xv]
                    | 6 => z = .int .i64 1
                    | _ => True) (fun d u => Below w.heap.size w u ∧ (d 6 = false → Below W5.heap.size W5 u) ∧ (d 6 = true → DrV w u n a c W2.heap.size g N (bumpF F xv) u8 R (W2.heap.size + 1))) (by kernel_rfl) (by kernel_rfl) (by kernel_rfl) ?_ ?_ ?_ ?_ ?_ ?_ (by kernel_rfl)
                · intro d i w v w' h hb
                  match i, h with
                  | 0, h => exact h
                  | 1, h => exact h
                  | 2, h => exact h
                  | 3, h => exact h
                  | 4, h => exact h
                  | 5, h => exact fun e => by obtain ⟨q, h1, h2, h3⟩ := h e; exact ⟨q, h1, h2, h3.below hb⟩
                  | 6, h => exact h
                  | _ + 7, _ => trivial
                · intro d u u' h hb
                  exact ⟨h.1.trans (hb.mono h.1.size), fun e => (h.2.1 e).trans (hb.mono (h.2.1 e).size), fun e => (h.2.2 e).below hb⟩
                · exact ⟨DR5.out.bel, fun _ => Below.refl _ _, fun e => absurd e (by decide)⟩
                · intro d i o ρ w' hm ho hf hg hC hcs hfs hfr hdep
                  match i, hm, ho, hf, hg, hfr, hdep with
                  | 0, _, ho, hf, hg, hfr, hdep =>
                    simp only [gTA, gCZ, gSI] at ho
                    subst ho
                    refine ⟨fun _ => ?_, fun hw => absurd (show true = false from hw) (by decide)⟩
                    have ts : ρ (.tmp 7) = .pointer (some ⟨W2.heap.size, 0, none⟩) := hfr 7 (by kernel_rfl)
                    have h6 : d 6 = false := hf 6 (by decide) (by kernel_rfl)
                    have k0 := cellN_later (hC.2.1 h6) x0
                    have k1 := cellN_later (hC.2.1 h6) x1
                    have k2 := cellN_later (hC.2.1 h6) x2
                    simp [go_sem, ts, k0, k1, k2]
                    exact ⟨Below.refl _ _, rfl⟩
                  | 1, _, ho, hf, hg, hfr, hdep =>
                    simp only [gTA, gCZ, gCS, gSI] at ho
                    subst ho
                    refine ⟨fun _ => ?_, fun hw => absurd (show true = false from hw) (by decide)⟩
                    have ts : ρ (.tmp 1) = .slice (some ⟨zb, zo, none⟩) zs.length cl := hfr 1 (by kernel_rfl)
                    simp [go_sem, ts]
                    exact ⟨Below.refl _ _, rfl⟩
                  | 2, _, ho, hf, hg, hfr, hdep =>
                    simp only [gTA, gCZ, gCS, gSI] at ho
                    subst ho
                    refine ⟨fun _ => ?_, fun hw => absurd (show true = false from hw) (by decide)⟩
                    have ts : ρ (.tmp 9) = .int .i64 (k : Int) := hfr 9 (by kernel_rfl)
                    simp [go_sem, ts]
                    exact ⟨Below.refl _ _, rfl⟩
                  | 3, _, ho, hf, hg, hfr, hdep =>
                    simp only [gTA, gCZ, gCS, gSI] at ho
                    subst ho
                    refine ⟨fun _ => ?_, fun hw => absurd (show true = false from hw) (by decide)⟩
                    have d0 : ρ (.tmp 53) = .slice (some ⟨zb, zo, none⟩) zs.length cl := hdep 1 53 (by kernel_rfl) (by kernel_rfl)
                    have d1 : ρ (.tmp 54) = .int .i64 (k : Int) := hdep 2 54 (by kernel_rfl) (by kernel_rfl)
                    simp [go_sem, d0, d1, hki]
                    exact ⟨Below.refl _ _, rfl⟩
                  | 4, _, ho, hf, hg, hfr, hdep =>
                    simp only [gTA, gCZ, gCS, gSI] at ho
                    subst ho
                    refine ⟨fun _ => ?_, fun hw => absurd (show true = false from hw) (by decide)⟩
                    have kc := HC0.out w' hC.1
                    have d0 : ρ (.tmp 55) = .pointer (some ⟨zb, zo + k, none⟩) := hdep 3 55 (by kernel_rfl) (by kernel_rfl)
                    simp [go_sem, d0, kc]
                    exact ⟨Below.refl _ _, rfl⟩
                  | 5, _, ho, hf, hg, hfr, hdep =>
                    simp only [gTA, gCZ, gCS, gSI] at ho
                    subst ho
                    refine ⟨fun _ => ?_, fun hw => absurd (show true = false from hw) (by decide)⟩
                    have h6 : d 6 = false := hf 6 (by decide) (by kernel_rfl)
                    have t1 : ρ (.tmp 56) = .int .i64 xv := hdep 4 56 (by kernel_rfl) (by kernel_rfl)
                    simp [go_sem, t1]
                    exact ⟨(Below.refl _ _).alloc (Nat.le_refl _) _, fun _ => ⟨_, rfl, (hC.2.1 h6).size, at_alloc1 w' xv⟩⟩
                  | 6, hm, _, _, _, _, _ => exact absurd hm (by decide)
                  | n + 7, _, ho, _, _, _, _ => simp at ho
                · intro d i o ρ w' hm ho h0 hf hg hC hcs hfs hfr hdep
                  match i, hm, ho, h0, hf, hg, hfr, hdep with
                  | 0, hm, _, _, _, _, _, _ => exact absurd hm (by decide)
                  | 1, hm, _, _, _, _, _, _ => exact absurd hm (by decide)
                  | 2, hm, _, _, _, _, _, _ => exact absurd hm (by decide)
                  | 3, hm, _, _, _, _, _, _ => exact absurd hm (by decide)
                  | 4, hm, _, _, _, _, _, _ => exact absurd hm (by decide)
                  | 5, hm, _, _, _, _, _, _ => exact absurd hm (by decide)
                  | 6, _, ho, h0, hf, hg, hfr, hdep =>
                    simp only [gTA, gCZ, gCS, gSI] at ho
                    subst ho
                    have t0 : ρ (.tmp 52) = .agg #[.int .i64 n.nodes, .slice a n.arcs.length c, .slice (some ⟨g, 0, none⟩) N N] := hdep 0 52 (by kernel_rfl) (by kernel_rfl)
                    obtain ⟨q, t5, q2, q3⟩ : ∃ q, ρ (.tmp 57) = .slice (some ⟨q, 0, none⟩) 1 1 ∧ W5.heap.size ≤ q ∧ At w' (some ⟨q, 0, none⟩) [xv] := hdep 5 57 (by kernel_rfl) (by kernel_rfl) h0
                    refine ⟨rfl, ?_⟩
                    simp [go_sem, markUpon, t0, t5, hfs]
                    refine (FRR.out w' q (hC.2.1 h0) q2 q3).mono ?_
                    rintro e w'' ⟨rfl, q4⟩
                    refine ⟨_, rfl, ⟨q4.bel, fun e => absurd (show (true : Bool) = false from (doneAt_eq d 6).symm.trans e) (by decide), fun _ => q4⟩, rfl, ?_⟩
                    intro j t hj hs
                    match j, hs with
                    | 0, hs => exact hs
                    | 1, hs => exact hs
                    | 2, hs => exact hs
                    | 3, hs => exact hs
                    | 4, hs => exact hs
                    | 5, hs => exact fun e => absurd (show (true : Bool) = false from (doneAt_eq d 6).symm.trans e) (by decide)
                    | 6, hs => exact hs
                    | _ + 7, _ => trivial
                  | n + 7, _, ho, _, _, _, _, _ => simp at ho
                · intro V w8 hC9 hS
                  simp only [puts]
                  simp only [Act.put, List.setIfInBounds_toArray, List.set_cons_zero, List.set_cons_succ]
                  clear hS 
                  obtain ⟨W6, hW6⟩ : ∃ q, w8 = q := ⟨_, rfl⟩
                  have DR7 := hiddenN (hC9.2.2 (by kernel_rfl))
                  clear hC9 DR5 x0 x1 x2 FRR HI HM
                  rw [hW6] at DR7 ⊢
                  clear hW6
                  generalize fireN n T xv = T' at *
                  generalize bumpF F xv = F' at *
                  have x0 := DR7.out.box.cell (k := 0) rfl
                  have x1 := DR7.out.box.cell (k := 1) rfl
                  have x2 := DR7.out.box.cell (k := 2) rfl
                  simp only [List.getElem_toArray, List.getElem_cons_zero, List.getElem_cons_succ] at x0 x1 x2
                  have CT := hiddenN (rcounts10V W6 n a c g N T' F' DR7.out.doc HI2.out)
                  have HTL := hiddenN HI2.out.lT
                  obtain ⟨A7, C7, hT7⟩ := DR7.out.row
                  have T7 := hiddenN hT7
                  obtain ⟨x7, c7, ev7⟩ := tabG_shapeV hT7
                  subst ev7
                  clear hT7
                  go_wp2_with (first
                    | (go_at_call 48; (with_reducible refine CT.out.mono ?_); rintro e W7 ⟨d4, rfl, r4, b4⟩; have R4 := hiddenN r4; have DR8 := hiddenN (DR7.out.below b4); have BA := hiddenN (b4.trans (((Below.refl W7.heap.size W7).alloc (Nat.le_refl _) (.cells #[.slice (some ⟨d4, 0, none⟩) n.arcs.length n.arcs.length] 25)).mono b4.size)); have BB := hiddenN ((Below.refl W7.heap.size W7).alloc (Nat.le_refl _) (.cells #[.slice (some ⟨d4, 0, none⟩) n.arcs.length n.arcs.length] 25)); have XK := hiddenN (blkA_new 25 W7 #[.slice (some ⟨d4, 0, none⟩) n.arcs.length n.arcs.length]); clear r4 b4 x0 x1 x2)
                    | (at_builtin; refine wpList_appRowN rfl _ _ rfl (W2.heap.size + 1) (.slice x7 R.length c7) W6 A7 C7 R rfl T7.out DR7.out.ord.2.2.2 (some ⟨d4, 0, none⟩) n.arcs.length T' BA.out (R4.out.later BB.out) n.arcs.length HTL.out W7.heap.size rfl XK.out (by have := HRL.out; omega) ?_; intro v9 W9 A9 C9 q1 q2; have DR9 := hiddenN ((DR8.out.below BB.out).grow q2 ⟨_, _, q1⟩); clear q1 q2))
                  go_roundg (zs.length - (k + 1))
                  case measure => omega
                  case rel => exact ⟨k + 1, T', F', R ++ [T'], by omega, rfl, by go_num, HE2.out, HR2.out, by rw [List.length_append, HRL.out]; rfl, HI2.out, DR9.out⟩
              | false =>
                have CV : Hid (codeV n zs = 180) := by show _ = _; rw [CE.out, ← HE.out, err_cons_may hv (by rw [hmb]; decide)]; rfl
                clear HE HR hv hvb hmb
                go_wp2
                rw [← HME.out]
                exact .inr ⟨by rw [CV.out]; decide, by (rw [CV.out]; try rfl), DR5.out.bel⟩
          · have CV : Hid (codeV n zs = 100) := by show _ = _; rw [CE.out, ← HE.out, err_cons_node hv]; rfl
            have hvb : ¬ (0 ≤ xv ∧ xv < n.nodes) := fun h => hv (decide_eq_true h)
            have LR := hiddenN DR.out.bel
            clear HE HR hv DR
            by_cases h0 : xv < 0
            · have h1 : decide (xv < 0) = true := by simpa using h0
              clear h0
              go_quiet (fail)
              go_wp2
              rw [← HME.out]
              exact .inr ⟨by rw [CV.out]; decide, by (rw [CV.out]; try rfl), drewB LR.out _⟩
            · have h1 : decide (xv < 0) = false := by simpa using h0
              have h2 : decide (n.nodes ≤ xv) = true := by simp; omega
              clear h0
              go_quiet (fail)
              go_wp2
              rw [← HME.out]
              exact .inr ⟨by rw [CV.out]; decide, by (rw [CV.out]; try rfl), drewB LR.out _⟩
        · have ek : zs.length = k := by omega
          have hki : ¬ (k : Int) < (zs.length : Int) := by omega
          have hd : zs.drop k = [] := by rw [← ek]; exact List.drop_length
          have CV : Hid (codeV n zs = 0) := by show _ = _; rw [CE.out, ← HE.out, hd]; rfl
          have HR2 : Hid (R = rowsV n T0 zs) := by
            show _ = _
            have q := HR.out
            rw [hd] at q
            rw [← q, rowsV]
            simp
          clear HE HR ek hd
          go_wp2
          rw [← HME.out]
          have q := DR.out.ord
          refine .inl ⟨CV.out, W2.heap.size + 1, _, rfl, by omega, q.2.2.2, ?_, DR.out.bel⟩
          rw [HT0.out, ← HR2.out]
          exact DR.out.row
  · have CV := hiddenN (code_bad (zs := zs) hc0)
    have HC0 := hiddenN hc0
    have hcb : (checkN n != 0) = true := by simpa using hc0
    clear hc0
    generalize checkN n = cd at *
    go_enter Tryz.func23, Tryz.ntmps23
    go_upto_region 1 with fail
    generalize w.alloc (.cells #[.int .i64 n.nodes, .slice a n.arcs.length c] 24) = W0 at *
    go_wp2_with (go_at_call 46; (with_reducible refine CK.out.mono ?_); rintro e W1 ⟨rfl, b1⟩; have L1 := hiddenN (B0.out.trans (b1.mono B0.out.size)); clear b1 z0 z1)
    rw [← HME.out]
    exact .inr ⟨by rw [CV.out]; exact HC0.out, by (rw [CV.out]; try rfl), L1.out⟩
set_option maxRecDepth 100000 in
set_option maxHeartbeats 4000000 in
theorem same_intsV (a b : Option Addr) (c d N : Nat) (xs ys : List Int) (w : World) (hx : xs.length = N) (hy : ys.length = N) (hN : N ≤ 4611686018427387904) (h1 : At w a xs) (h2 : At w b ys) :
    Calls Tryz.prog 28 #[.slice a N c, .slice b N d] w fun e w' => e = .returned (.bool (decide (xs = ys))) ∧ ∃ m, w' = w.drewN m := by
  obtain ⟨PE, hPE⟩ : ∃ R : Ending → World → Prop, (fun e w' => e = .returned (.bool (decide (xs = ys))) ∧ ∃ m, w' = w.drewN m) = R := ⟨_, rfl⟩
  rw [hPE]
  have HPE := hiddenN hPE
  have HX := hiddenN hx
  have HY := hiddenN hy
  have H1 := hiddenN h1
  have H2 := hiddenN h2
  have q0 : ((N : Int) != (N : Int)) = false := by simp
  clear hPE hx hy h1 h2
  go_enter Tryz.func28, Tryz.ntmps28
  go_wp2
  clear q0
  go_loopg [5] N (fun gk u wr => ∃ (k m : Nat), k ≤ N ∧ gk = N - k ∧ u = .int .i64 (k : Int) ∧ wr = w.drewN m ∧ ∀ j, j < k → nth xs j = nth ys j)
  case atStart => exact ⟨0, 0, Nat.zero_le _, rfl, rfl, rfl, fun j hj => absurd hj (Nat.not_lt_zero _)⟩
  case round =>
    obtain ⟨k, m, hk, rfl, rfl, rfl, hj⟩ := hrel
    have HJ := hiddenN hj
    clear hj
    by_cases hlt : k < N
    · have hki : (k : Int) < (N : Int) := by omega
      rcases H1.out with e1 | ⟨xb, xo, rfl, hc⟩
      · have := HX.out; rw [e1] at this; simp at this; omega
      rcases H2.out with e1 | ⟨yb, yo, rfl, hd⟩
      · have := HY.out; rw [e1] at this; simp at this; omega
      have c0 := hc k (by rw [HX.out]; exact hlt)
      have c1 := hd k (by rw [HY.out]; exact hlt)
      obtain ⟨x, ex⟩ : ∃ x, nth xs k = x := ⟨_, rfl⟩
      obtain ⟨y, ey⟩ : ∃ y, nth ys k = y := ⟨_, rfl⟩
      rw [ex] at c0
      rw [ey] at c1
      have EX := hiddenN ex
      have EY := hiddenN ey
      clear hc hd ex ey
      go_upto_region 6 with fail
      by_cases hxy : x = y
      · subst hxy
        have q1 : (x != x) = false := by simp
        go_quiet (fail)
        go_wp2
        go_roundg (N - (k + 1))
        case measure => omega
        case rel => exact ⟨k + 1, m + nq, by omega, rfl, by go_num, rfl, fun j hj => by
          by_cases e : j = k
          · subst e; rw [EX.out, EY.out]
          · exact HJ.out j (by omega)⟩
      · have q1 : (x != y) = true := by simpa using hxy
        go_quiet (fail)
        go_wp2
        rw [← HPE.out]
        refine ⟨?_, m + nq, by simp⟩
        have hne : ¬ xs = ys := fun e => hxy (by rw [← EX.out, ← EY.out, e])
        rw [decide_eq_false hne]
        first | rfl | simp
    · have ek : N = k := by omega
      have hki : ¬ (k : Int) < (N : Int) := by omega
      have HE : Hid (xs = ys) := eq_nthV (by rw [HX.out, HY.out]) fun j hj => HJ.out j (by rw [HX.out] at hj; omega)
      clear ek
      go_wp2
      rw [← HPE.out]
      refine ⟨?_, m, rfl⟩
      rw [decide_eq_true HE.out]
/-- Rows that can be read. -/
def LsV (w : World) (v : Value) (R : List (List Int)) : Prop := ∃ x c, v = .slice x R.length c ∧ (R = [] ∨ ∃ b off, x = some ⟨b, off, none⟩ ∧ ∀ k, k < R.length → ∃ y yc, w.cell? ⟨b, off + k, none⟩ = some (.slice y (nthLV R k).length yc) ∧ At w y (nthLV R k))
theorem LsV.below {w w' : World} {v : Value} {R : List (List Int)} (h : LsV w v R) (hb : Below w.heap.size w w') : LsV w' v R := by
  obtain ⟨x, c, h1, h2⟩ := h
  refine ⟨x, c, h1, ?_⟩
  rcases h2 with h2 | ⟨b, off, h2, h3⟩
  · exact .inl h2
  · refine .inr ⟨b, off, h2, fun k hk => ?_⟩
    obtain ⟨y, yc, h4, h5⟩ := h3 k hk
    exact ⟨y, yc, cellN_later hb h4, h5.below hb⟩
theorem PAl.ls {B : Nat} {w : World} {v : Value} {R : List (List Int)} (h : PAl B w v R) : LsV w v R := by
  obtain ⟨A, C, h⟩ := h
  obtain ⟨x, c, rfl⟩ := tabG_shapeV h
  have q := h.out
  refine ⟨x, c, rfl, ?_⟩
  rcases q.tab with h0 | ⟨g, hx, h1, h2, h3, h4⟩
  · exact .inl h0
  · exact .inr ⟨g, 0, hx, fun k hk => ⟨A k, C k, by rw [Nat.zero_add]; exact h3 k hk, (q.rows k hk).at⟩⟩
theorem end_lenV (n : NN) : ∀ (zs T : List Int), (endV n T zs).length = T.length
  | [], _ => rfl
  | v :: zs, T => by rw [endV, end_lenV n zs, fire_len]
set_option maxRecDepth 100000 in
set_option maxHeartbeats 4000000 in
theorem rhome_any (n : NN) (a : Option Addr) (c : Nat) (w : World) (h : AtN w a n.arcs) (hroom : n.arcs.length ≤ 4611686018427387904) (al : Option Addr) (cl : Nat) (zs : List Int) (hz : At w al zs) (hzl : zs.length ≤ 4611686018427387904) :
    Calls Tryz.prog 34 #[.agg #[.int .i64 n.nodes, .slice a n.arcs.length c], .slice al zs.length cl] w fun e w' => e = .returned (.tuple #[.bool (homeB n zs), .int .i64 (codeV n zs)]) ∧ Below w.heap.size w w' := by
  obtain ⟨ME, hME⟩ : ∃ R : Ending → World → Prop, (fun e w' => e = .returned (.tuple #[.bool (homeB n zs), .int .i64 (codeV n zs)]) ∧ Below w.heap.size w w') = R := ⟨_, rfl⟩
  rw [hME]
  have HME := hiddenN hME
  have b0 := (Below.refl w.heap.size w).alloc (Nat.le_refl _) (.cells #[.int .i64 n.nodes, .slice a n.arcs.length c] 24)
  have G0 := hiddenN (blkA_new 24 w #[.int .i64 n.nodes, .slice a n.arcs.length c])
  have B0 := hiddenN b0
  have M := hiddenN (ralong_any n a c _ (h.below b0) hroom al cl zs (hz.below b0) hzl)
  have z0 := G0.out.cell (k := 0) rfl
  have z1 := G0.out.cell (k := 1) rfl
  simp only [List.getElem_toArray, List.getElem_cons_zero, List.getElem_cons_succ] at z0 z1
  clear b0 h hz hME
  by_cases hc : codeV n zs = 0
  · have hl := (code_zero hc).2.1
    have hS := check_sound (code_zero hc).1
    have he := (code_zero hc).2.2
    have MY : Hid (Calls Tryz.prog 23 #[.agg #[.int .i64 n.nodes, .slice a n.arcs.length c], .slice al zs.length cl] (w.alloc (.cells #[.int .i64 n.nodes, .slice a n.arcs.length c] 24)) fun e w' => ∃ b off rc y1 c1 y2 c2, e = .returned (.tuple #[.slice (some ⟨b, off, none⟩) (zs.length + 1) rc, .int .i64 0]) ∧ w'.cell? ⟨b, off, none⟩ = some (.slice y1 n.arcs.length c1) ∧ At w' y1 (startT n) ∧ w'.cell? ⟨b, off + zs.length, none⟩ = some (.slice y2 n.arcs.length c2) ∧ At w' y2 (endV n (startT n) zs) ∧ Below (w.alloc (.cells #[.int .i64 n.nodes, .slice a n.arcs.length c] 24)).heap.size (w.alloc (.cells #[.int .i64 n.nodes, .slice a n.arcs.length c] 24)) w') := M.out.mono fun e w' hh => by
      rcases hh with ⟨-, B, v, e1, -, -, q1, q2⟩ | ⟨k1, -⟩
      · obtain ⟨x, rc, rfl, q3⟩ := q1.ls
        rcases q3 with q3 | ⟨b, off, rfl, q3⟩
        · exact absurd q3 (rows_ne _ _ _)
        · obtain ⟨y1, c1, r1, r2⟩ := q3 0 (by rw [rows_len]; omega)
          obtain ⟨y2, c2, r3, r4⟩ := q3 zs.length (by rw [rows_len]; omega)
          have e0 : nthLV (rowsV n (startT n) zs) 0 = startT n := by unfold nthLV; rw [List.getD_eq_getElem?_getD, rows_head]; rfl
          have eN : nthLV (rowsV n (startT n) zs) zs.length = endV n (startT n) zs := by unfold nthLV; rw [List.getD_eq_getElem?_getD, rows_last]; rfl
          rw [e0] at r1 r2
          rw [eN] at r3 r4
          have l1 : (startT n).length = n.arcs.length := by unfold startT; rw [List.length_map]
          rw [l1] at r1
          rw [end_lenV, l1] at r3
          rw [rows_len] at e1
          exact ⟨b, off, rc, y1, c1, y2, c2, e1, r1, r2, r3, r4, q2⟩
      · exact absurd hc k1
    have HST : Hid ((startT n).length = n.arcs.length) := by show _ = _; unfold startT; rw [List.length_map]
    have HET : Hid ((endV n (startT n) zs).length = n.arcs.length) := by show _ = _; rw [end_lenV, HST.out]
    have HB : Hid (homeB n zs = decide (startT n = endV n (startT n) zs)) := by show _ = _; unfold homeB; simp [hc]
    have HC := hiddenN hc
    clear M hc hS he
    generalize codeV n zs = cd at *
    generalize homeB n zs = hb at *
    generalize endV n (startT n) zs = L at *
    generalize startT n = T at *
    obtain ⟨N, hN⟩ : ∃ N, zs.length = N := ⟨_, rfl⟩
    rw [hN] at MY hl ⊢
    clear hN
    go_enter Tryz.func34, Tryz.ntmps34
    go_upto_region 1 with fail
    generalize w.alloc (.cells #[.int .i64 n.nodes, .slice a n.arcs.length c] 24) = W0 at *
    go_upto_region 4 with (go_at_call 23; (with_reducible refine MY.out.mono ?_); rintro e W1 ⟨b, off, rc, y1, c1, y2, c2, rfl, r1, r2, r3, r4, b1⟩; have A1 := hiddenN r2; have A2 := hiddenN r4; have L1 := hiddenN (B0.out.trans (b1.mono B0.out.size)); have C1 := hiddenN r1; have C2 := hiddenN r3; clear r1 r2 r3 r4 b1 z0 z1)
    have r1 := C1.out
    have r3 := C2.out
    have SI : Hid (∀ q, Calls Tryz.prog 28 #[.slice y1 n.arcs.length c1, .slice y2 n.arcs.length c2] (W1.drewN q) fun e w' => e = .returned (.bool (decide (T = L))) ∧ ∃ m, w' = (W1.drewN q).drewN m) := fun q => same_intsV y1 y2 c1 c2 n.arcs.length T L _ HST.out HET.out hroom (A1.out.below (drewB (Below.refl _ _) q)) (A2.out.below (drewB (Below.refl _ _) q))
    have hw : IntKind.i64.wrap ((N : Int) + 1 - 1) = (N : Int) := by rw [IntKind.wrap_i64]; omega
    have hw2 : IntKind.i64.wrap (N : Int) = (N : Int) := by rw [IntKind.wrap_i64]; omega
    have hi0 : (0 : Int) < (N : Int) + 1 := by omega
    have hi1 : (N : Int) < (N : Int) + 1 := by omega
    go_quiet (first | (go_at_call 28; (with_reducible refine Calls.quiet_of (SI.out _))))
    go_wp2
    rw [← HME.out]
    exact ⟨by rw [HB.out, HC.out]; try rfl, drewB L1.out _⟩
  · have MN : Hid (Calls Tryz.prog 23 #[.agg #[.int .i64 n.nodes, .slice a n.arcs.length c], .slice al zs.length cl] (w.alloc (.cells #[.int .i64 n.nodes, .slice a n.arcs.length c] 24)) fun e w' => e = .returned (.tuple #[.slice none 0 0, .int .i64 (codeV n zs)]) ∧ Below (w.alloc (.cells #[.int .i64 n.nodes, .slice a n.arcs.length c] 24)).heap.size (w.alloc (.cells #[.int .i64 n.nodes, .slice a n.arcs.length c] 24)) w') := M.out.mono fun e w' hh => by
      rcases hh with ⟨k1, -⟩ | ⟨-, e1, q⟩
      · exact absurd k1 hc
      · exact ⟨e1, q⟩
    have HB : Hid (homeB n zs = false) := by show _ = _; unfold homeB; simp [hc]
    have hcb : (codeV n zs != 0) = true := by simpa using hc
    clear M hc
    generalize codeV n zs = cd at *
    generalize homeB n zs = hb at *
    go_enter Tryz.func34, Tryz.ntmps34
    go_upto_region 1 with fail
    generalize w.alloc (.cells #[.int .i64 n.nodes, .slice a n.arcs.length c] 24) = W0 at *
    go_wp2_with (go_at_call 23; (with_reducible refine MN.out.mono ?_); rintro e W1 ⟨rfl, b1⟩; have L1 := hiddenN (B0.out.trans (b1.mono B0.out.size)); clear b1 z0 z1)
    rw [← HME.out]
    exact ⟨by rw [HB.out]; try rfl, L1.out⟩
end Go.Proofs.YtimioiaoefhabaaGreat

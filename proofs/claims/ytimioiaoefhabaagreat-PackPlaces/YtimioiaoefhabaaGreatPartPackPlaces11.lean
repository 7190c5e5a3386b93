/- Texts of one chain, laid one behind the other. -/
import Derived.Test.YtimioiaoefhabaaGreatPartPackPlaces9
import Derived.Test.YtimioiaoefhabaaGreatPartPackPlaces10
import Derived.Test.YtimioiaoefhabaaGreatPartPackPlaces3
import Derived.Deep.LoopGhost
import Derived.Deep.DeepCutAuto
namespace Go.Proofs.YtimioiaoefhabaaGreat
open Go.ChangeShapes Go.WideShapes Go.ChangeAt Go.RowKit
theorem hiddenN {p : Prop} (h : p) : Hid p := h
/-- A row of arcs, as it lies. -/
def AtN (w : World) (a : Option Addr) (L : List NA) : Prop := L = [] ∨ ∃ b off, a = some ⟨b, off, none⟩ ∧ ∀ k, k < L.length → w.cell? ⟨b, off + k * 5, none⟩ = some (.int .i64 (nthNa L k).f) ∧ w.cell? ⟨b, off + k * 5 + 1, none⟩ = some (.int .i64 (nthNa L k).t) ∧ w.cell? ⟨b, off + k * 5 + 2, none⟩ = some (.int .i64 (nthNa L k).g) ∧ w.cell? ⟨b, off + k * 5 + 3, none⟩ = some (.int .i64 (nthNa L k).k) ∧ w.cell? ⟨b, off + k * 5 + 4, none⟩ = some (.int .i64 (nthNa L k).s)
theorem cellN_keep {B : Nat} {w w' : World} {p : Addr} {v : Value} (hb : Below B w w') (hp : p.block < B) (h : w.cell? p = some v) : w'.cell? p = some v := by rw [hb.cell hp]; exact h
theorem cellN_later {w w' : World} {p : Addr} {v : Value} (hb : Below w.heap.size w w') (h : w.cell? p = some v) : w'.cell? p = some v := cellN_keep hb (block_lt_of_cell h) h
theorem AtN.below {w w' : World} {a : Option Addr} {L : List NA} (h : AtN w a L) (hb : Below w.heap.size w w') : AtN w' a L := by
  rcases h with h | ⟨b, off, e, hc⟩
  · exact .inl h
  · refine .inr ⟨b, off, e, fun k hk => ?_⟩
    obtain ⟨h0, h1, h2, h3, h4⟩ := hc k hk
    exact ⟨cellN_later hb h0, cellN_later hb h1, cellN_later hb h2, cellN_later hb h3, cellN_later hb h4⟩
def inB (x l m : Int) : Bool := decide (l ≤ x) && decide (x ≤ m)
theorem inB_true {x l m : Int} : inB x l m = true ↔ l ≤ x ∧ x ≤ m := by unfold inB; simp
theorem inB_false {x l m : Int} : inB x l m = false ↔ ¬ (l ≤ x ∧ x ≤ m) := by rw [← Bool.not_eq_true, inB_true]
theorem withinN_any (x l m : Int) (w : World) : Calls Tryz.prog 105 #[.int .i64 x, .int .i64 l, .int .i64 m] w fun e w' => e = .returned (.bool (inB x l m)) ∧ w' = w := by
  unfold inB
  by_cases h1 : l ≤ x
  · rw [decide_eq_true h1]
    by_cases h2 : x ≤ m
    · rw [decide_eq_true h2]
      go_enter Tryz.func105, Tryz.ntmps105
      go_wp2
      go_ret
      exact ⟨rfl, rfl⟩
    · rw [decide_eq_false h2]
      go_enter Tryz.func105, Tryz.ntmps105
      go_wp2
      go_ret
      exact ⟨rfl, rfl⟩
  · rw [decide_eq_false h1]
    go_enter Tryz.func105, Tryz.ntmps105
    go_wp2
    go_ret
    exact ⟨rfl, rfl⟩
theorem arcE_eq (m : Int) (a : NA) : arcE m a = if inB a.f 0 (m - 1) = false then 100 else if inB a.t 0 (m - 1) = false then 100 else if inB a.g 1 64 = false then 101 else if inB a.k 1 64 = false then 101 else if inB a.s 0 256 = false then 88 else 0 := by
  unfold arcE
  simp only [inB_false]
  repeat' split
  all_goals first | rfl | omega
set_option maxRecDepth 100000 in
set_option maxHeartbeats 4000000 in
theorem checkArc_any (a : NA) (m : Int) (hm : 1 ≤ m ∧ m ≤ 32) (w : World) : Calls Tryz.prog 106 #[.agg #[.int .i64 a.f, .int .i64 a.t, .int .i64 a.g, .int .i64 a.k, .int .i64 a.s], .int .i64 m] w fun e w' => e = .returned (.int .i64 (arcE m a)) ∧ Below w.heap.size w w' := by
  have H : Hid (∀ x y z w1, Calls Tryz.prog 105 #[.int .i64 x, .int .i64 y, .int .i64 z] w1 fun e w' => e = .returned (.bool (inB x y z)) ∧ w' = w1) := fun x y z w1 => withinN_any x y z w1
  rw [arcE_eq]
  obtain ⟨f, t, g, k, s⟩ := a
  simp only
  have ba := hiddenN ((Below.refl w.heap.size w).alloc (Nat.le_refl _) (.cells #[.int .i64 f, .int .i64 t, .int .i64 g, .int .i64 k, .int .i64 s] 53))
  have g0 := blkA_new 53 w #[.int .i64 f, .int .i64 t, .int .i64 g, .int .i64 k, .int .i64 s]
  have y0 := g0.cell (k := 0) rfl
  have y1 := g0.cell (k := 1) rfl
  have y2 := g0.cell (k := 2) rfl
  have y3 := g0.cell (k := 3) rfl
  have y4 := g0.cell (k := 4) rfl
  have hw : IntKind.i64.wrap (m - 1) = m - 1 := by rw [IntKind.wrap_i64]; omega
  clear g0
  cases h0 : inB f 0 (m - 1) with
  | false =>
    go_enter Tryz.func106, Tryz.ntmps106
    go_wp2_with (go_at_call 105; (with_reducible refine (H.out _ _ _ _).mono ?_); rintro e w' ⟨rfl, rfl⟩; first | rw [h0] | rw [h1] | rw [h2] | rw [h3] | rw [h4])
    go_ret
    exact ⟨by simp, ba.out⟩
  | true =>
    cases h1 : inB t 0 (m - 1) with
    | false =>
      go_enter Tryz.func106, Tryz.ntmps106
      go_wp2_with (go_at_call 105; (with_reducible refine (H.out _ _ _ _).mono ?_); rintro e w' ⟨rfl, rfl⟩; first | rw [h0] | rw [h1] | rw [h2] | rw [h3] | rw [h4])
      go_ret
      exact ⟨by simp, ba.out⟩
    | true =>
      cases h2 : inB g 1 64 with
      | false =>
        go_enter Tryz.func106, Tryz.ntmps106
        go_wp2_with (go_at_call 105; (with_reducible refine (H.out _ _ _ _).mono ?_); rintro e w' ⟨rfl, rfl⟩; first | rw [h0] | rw [h1] | rw [h2] | rw [h3] | rw [h4])
        go_ret
        exact ⟨by simp, ba.out⟩
      | true =>
        cases h3 : inB k 1 64 with
        | false =>
          go_enter Tryz.func106, Tryz.ntmps106
          go_wp2_with (go_at_call 105; (with_reducible refine (H.out _ _ _ _).mono ?_); rintro e w' ⟨rfl, rfl⟩; first | rw [h0] | rw [h1] | rw [h2] | rw [h3] | rw [h4])
          go_ret
          exact ⟨by simp, ba.out⟩
        | true =>
          cases h4 : inB s 0 256 with
          | false =>
            go_enter Tryz.func106, Tryz.ntmps106
            go_wp2_with (go_at_call 105; (with_reducible refine (H.out _ _ _ _).mono ?_); rintro e w' ⟨rfl, rfl⟩; first | rw [h0] | rw [h1] | rw [h2] | rw [h3] | rw [h4])
            go_ret
            exact ⟨by simp, ba.out⟩
          | true =>
            go_enter Tryz.func106, Tryz.ntmps106
            go_wp2_with (go_at_call 105; (with_reducible refine (H.out _ _ _ _).mono ?_); rintro e w' ⟨rfl, rfl⟩; first | rw [h0] | rw [h1] | rw [h2] | rw [h3] | rw [h4])
            go_ret
            exact ⟨by simp, ba.out⟩
set_option maxRecDepth 100000 in
set_option maxHeartbeats 4000000 in
theorem checkN_any (n : NN) (a : Option Addr) (c : Nat) (w : World) (h : AtN w a n.arcs) (hl : n.arcs.length ≤ 4611686018427387904) : Calls Tryz.prog 81 #[.agg #[.int .i64 n.nodes, .slice a n.arcs.length c]] w fun e w' => e = .returned (.int .i64 (checkN n)) ∧ Below w.heap.size w w' := by
  obtain ⟨m, L⟩ := n
  simp only at *
  have H : Hid (∀ x y z w1, Calls Tryz.prog 105 #[.int .i64 x, .int .i64 y, .int .i64 z] w1 fun e w' => e = .returned (.bool (inB x y z)) ∧ w' = w1) := fun x y z w1 => withinN_any x y z w1
  have ba := (Below.refl w.heap.size w).alloc (Nat.le_refl _) (.cells #[.int .i64 m, .slice a L.length c] 24)
  have g0 := hiddenN (blkA_new 24 w #[.int .i64 m, .slice a L.length c])
  have y0 := g0.out.cell (k := 0) rfl
  have y1 := g0.out.cell (k := 1) rfl
  have HA := hiddenN (h.below ba)
  have BA := hiddenN ba
  clear h ba
  by_cases c1 : inB m 1 32 = true
  · have hm := inB_true.1 c1
    by_cases c2 : 96 < L.length
    · have e1 : checkN ⟨m, L⟩ = 81 := by unfold checkN; rw [if_neg (by show ¬ (m < 1 ∨ 32 < m); omega), if_pos c2]
      rw [e1]
      have hk : (96 : Int) < (L.length : Int) := by omega
      go_enter Tryz.func81, Tryz.ntmps81
      go_upto_region 1 with fail
      generalize w.alloc (.cells #[.int .i64 m, .slice a L.length c] 24) = W0 at *
      go_wp2_with (go_at_call 105; (with_reducible refine (H.out _ _ _ _).mono ?_); rintro e w' ⟨rfl, hw'⟩; rw [c1, hw']; clear hw' w')
      go_ret
      exact ⟨rfl, BA.out⟩
    · have hk : ¬ (96 : Int) < (L.length : Int) := by omega
      have e1 : checkN ⟨m, L⟩ = arcsE m L := by unfold checkN; rw [if_neg (by show ¬ (m < 1 ∨ 32 < m); omega), if_neg c2]
      rw [e1]
      have HC : Hid (∀ (x : NA) w1, Calls Tryz.prog 106 #[.agg #[.int .i64 x.f, .int .i64 x.t, .int .i64 x.g, .int .i64 x.k, .int .i64 x.s], .int .i64 m] w1 fun e w' => e = .returned (.int .i64 (arcE m x)) ∧ Below w1.heap.size w1 w') := fun x w1 => checkArc_any x m hm w1
      obtain ⟨N, hN⟩ : ∃ N, L.length = N := ⟨_, rfl⟩
      rw [hN] at g0 y0 y1 hk hl HA BA
      rw [hN]
      go_enter Tryz.func81, Tryz.ntmps81
      go_upto_region 1 with fail
      generalize w.alloc (.cells #[.int .i64 m, .slice a N c] 24) = W0 at *
      go_wp2_with (go_at_call 105; (with_reducible refine (H.out _ _ _ _).mono ?_); rintro e w' ⟨rfl, hw'⟩; rw [c1, hw']; clear hw' w')
      clear y0 y1
      go_loopg [17] N (fun gk v wr => ∃ k : Nat, k ≤ N ∧ gk = N - k ∧ v = .int .i64 (k : Int) ∧ Below W0.heap.size W0 wr ∧ ∀ j, j < k → arcE m (nthNa L j) = 0)
      case atStart => exact ⟨0, Nat.zero_le _, rfl, rfl, Below.refl _ _, fun j hj => by omega⟩
      case round =>
        obtain ⟨k, hk, rfl, rfl, hB, hE⟩ := hrel
        have HB := hiddenN hB
        have HE := hiddenN hE
        clear hB hE
        by_cases hlt : k < N
        · have hki : (k : Int) < (N : Int) := by omega
          rcases HA.out.below HB.out with e | ⟨b, off, rfl, hc⟩
          · rw [e] at hN; simp at hN; omega
          obtain ⟨c0, c1, c2, c3, c4⟩ := hc k (by omega)
          have HX := hiddenN (HC.out (nthNa L k))
          have GG := hiddenN (g0.out.below HB.out)
          have HS := hiddenN (arcs_some (m := m) (L := L) (i := k) (by omega) HE.out)
          have HZ : Hid (arcE m (nthNa L k) = 0 → ∀ j, j < k + 1 → arcE m (nthNa L j) = 0) := fun h0 j hj => by
            by_cases e : j = k
            · subst e; exact h0
            · exact HE.out j (by omega)
          obtain ⟨q, hq⟩ : ∃ q, arcE m (nthNa L k) = q := ⟨_, rfl⟩
          rw [hq] at HX HS HZ
          generalize nthNa L k = x at *
          obtain ⟨f, t, g, kk, s⟩ := x
          simp only at HX c0 c1 c2 c3 c4
          clear hc hq
          go_upto_region 8 with fail
          have bc := (Below.refl wr.heap.size wr).alloc (Nat.le_refl _) (.cells #[.int .i64 f, .int .i64 t, .int .i64 g, .int .i64 kk, .int .i64 s] 53)
          have G2 := hiddenN (GG.out.below bc)
          have y0 := G2.out.cell (k := 0) rfl
          have bx := blkA_new 53 wr #[.int .i64 f, .int .i64 t, .int .i64 g, .int .i64 kk, .int .i64 s]
          have z0 := bx.cell (k := 0) rfl
          have z1 := bx.cell (k := 1) rfl
          have z2 := bx.cell (k := 2) rfl
          have z3 := bx.cell (k := 3) rfl
          have z4 := bx.cell (k := 4) rfl
          have B2 := hiddenN (HB.out.trans (bc.mono HB.out.size))
          clear bc GG bx c0 c1 c2 c3 c4
          generalize wr.alloc (.cells #[.int .i64 f, .int .i64 t, .int .i64 g, .int .i64 kk, .int .i64 s] 53) = W1 at *
          go_wp2_with (go_at_call 106; (with_reducible refine (HX.out _).mono ?_); rintro e w' ⟨rfl, b3⟩; have B3 := hiddenN (B2.out.trans (b3.mono B2.out.size)); clear b3)
          · rename_i hne
            go_ret
            have hq : q ≠ 0 := by simpa using hne
            rw [HS.out hq]
            exact ⟨rfl, BA.out.trans (B3.out.mono BA.out.size)⟩
          · rename_i hne
            go_wp2
            go_roundg (N - (k + 1))
            case measure => omega
            case rel => exact ⟨k + 1, by omega, rfl, by go_num, B3.out, HZ.out (by simpa using hne)⟩
        · have ek : k = N := by omega
          subst ek
          have hki : ¬ (k : Int) < (k : Int) := by omega
          have hz := arcs_none (m := m) (L := L) (fun i hi => HE.out i (by omega))
          go_wp2
          go_ret
          exact ⟨rfl, BA.out.trans (HB.out.mono BA.out.size)⟩
  · have hm : ¬ (1 ≤ m ∧ m ≤ 32) := fun e => c1 (inB_true.2 e)
    have c1 : inB m 1 32 = false := by simpa using c1
    have e1 : checkN ⟨m, L⟩ = 100 := by unfold checkN; rw [if_pos (by show m < 1 ∨ 32 < m; omega)]
    rw [e1]
    go_enter Tryz.func81, Tryz.ntmps81
    go_upto_region 1 with fail
    generalize w.alloc (.cells #[.int .i64 m, .slice a L.length c] 24) = W0 at *
    go_wp2_with (go_at_call 105; (with_reducible refine (H.out _ _ _ _).mono ?_); rintro e w' ⟨rfl, hw'⟩; rw [c1, hw']; clear hw' w')
    go_ret
    exact ⟨rfl, BA.out⟩
/-- All old blocks are as they were, but those from B up to E. -/
structure Mid (B E : Nat) (w w' : World) : Prop where
  os : w'.os = w.os
  tape : w'.tape = w.tape
  output : w'.output = w.output
  size : w.heap.size ≤ w'.heap.size
  block : ∀ k, k < w.heap.size → (k < B ∨ E ≤ k) → w'.heap[k]? = w.heap[k]?
theorem Mid.refl (B E : Nat) (w : World) : Mid B E w w := ⟨rfl, rfl, rfl, Nat.le_refl _, fun _ _ _ => rfl⟩
theorem Mid.of_below {B E : Nat} {w w' : World} (h : Below w.heap.size w w') : Mid B E w w' := ⟨h.os, h.tape, h.output, h.size, fun k hk _ => h.block k hk⟩
theorem Mid.trans {B E : Nat} {a b c : World} (h : Mid B E a b) (k : Mid B E b c) : Mid B E a c :=
  ⟨k.os.trans h.os, k.tape.trans h.tape, k.output.trans h.output, Nat.le_trans h.size k.size, fun i hi hn => (k.block i (by have := h.size; omega) hn).trans (h.block i hi hn)⟩
theorem Mid.set {B E : Nat} (w : World) {K : Nat} (k : Nat) (u : Value) (h : B ≤ K ∧ K < E) : Mid B E w (w.setCell ⟨K, k, none⟩ u) := ⟨rfl, rfl, rfl, by simp [World.setCell], fun i _ hn => Below.heap_setCell _ _ _ _ (by show i ≠ K; omega)⟩
theorem Mid.below {B E : Nat} {w w' : World} (h : Mid B E w w') (hB : B ≤ w.heap.size) : Below B w w' := ⟨h.os, h.tape, h.output, h.size, fun k hk => h.block k (by omega) (.inl hk)⟩
theorem At.keep {w w' : World} {a : Option Addr} {zs : List Int} (h : At w a zs) (hk : ∀ x, a = some x → w'.heap[x.block]? = w.heap[x.block]?) : At w' a zs := by
  rcases h with h | ⟨b, off, e, hc⟩
  · exact .inl h
  · refine .inr ⟨b, off, e, fun k hl => ?_⟩
    have h1 := hc k hl
    have h2 := hk _ e
    simp only at h2
    unfold World.cell? at h1 ⊢
    simp only at h1 ⊢
    rw [h2]; exact h1
theorem AtN.keep {w w' : World} {a : Option Addr} {L : List NA} (h : AtN w a L) (hk : ∀ x, a = some x → w'.heap[x.block]? = w.heap[x.block]?) : AtN w' a L := by
  rcases h with h | ⟨b, off, e, hc⟩
  · exact .inl h
  · have h2 := hk _ e
    simp only at h2
    have key : ∀ k v, w.cell? ⟨b, k, none⟩ = some v → w'.cell? ⟨b, k, none⟩ = some v := fun k v h1 => by
      unfold World.cell? at h1 ⊢
      simp only at h1 ⊢
      rw [h2]; exact h1
    refine .inr ⟨b, off, e, fun k hl => ?_⟩
    obtain ⟨h0, h1, h2, h3, h4⟩ := hc k hl
    exact ⟨key _ _ h0, key _ _ h1, key _ _ h2, key _ _ h3, key _ _ h4⟩
theorem cell_block {w w' : World} {b k : Nat} {v : Value} (h2 : w'.heap[b]? = w.heap[b]?) (h1 : w.cell? ⟨b, k, none⟩ = some v) : w'.cell? ⟨b, k, none⟩ = some v := by
  unfold World.cell? at h1 ⊢
  simp only at h1 ⊢
  rw [h2]; exact h1
/-- The blocks of a state that no firing changes. -/
def Fix (B E : Nat) (aT : Option Addr) (gF k : Nat) : Prop := B ≤ k ∧ k < E ∧ (∀ y, aT = some y → k ≠ y.block) ∧ k ≠ gF
structure StP (B E : Nat) (w : World) (K : Nat) (n : NN) (T F : List Int) (aA : Option Addr) (cA H1 H2 : Nat) (D1 D2 : Nat → Option Addr) (E1 E2 : Nat → Nat) (aT : Option Addr) (cT gF : Nat) : Prop where
  blk : BlkA 124 K w #[.slice aA n.arcs.length cA, .slice (some ⟨H1, 0, none⟩) n.nodes.toNat n.nodes.toNat, .slice (some ⟨H2, 0, none⟩) n.nodes.toNat n.nodes.toNat, .slice aT T.length cT, .slice (some ⟨gF, 0, none⟩) n.nodes.toNat n.nodes.toNat]
  arcs : AtN w aA n.arcs
  ins : ∀ v : Nat, v < n.nodes.toNat → w.cell? ⟨H1, v, none⟩ = some (.slice (D1 v) (inArcsN n v).length (E1 v)) ∧ At w (D1 v) (inArcsN n v)
  outs : ∀ v : Nat, v < n.nodes.toNat → w.cell? ⟨H2, v, none⟩ = some (.slice (D2 v) (outArcsN n v).length (E2 v)) ∧ At w (D2 v) (outArcsN n v)
  tok : CapR B w aT cT T
  fir : CapR B w (some ⟨gF, 0, none⟩) n.nodes.toNat F
  lT : T.length = n.arcs.length
  lF : F.length = n.nodes.toNat
  rT : InR T
  rF : InR F
  sound : SoundN n
  fK : Fix B E aT gF K
  fA : ∀ x, aA = some x → Fix B E aT gF x.block
  f1 : Fix B E aT gF H1
  f2 : Fix B E aT gF H2
  g1 : ∀ v, v < n.nodes.toNat → ∀ x, D1 v = some x → Fix B E aT gF x.block
  g2 : ∀ v, v < n.nodes.toNat → ∀ x, D2 v = some x → Fix B E aT gF x.block
  iT : ∀ y, aT = some y → B ≤ y.block ∧ y.block < E ∧ y.block ≠ gF
  iF : B ≤ gF ∧ gF < E
  low : E ≤ w.heap.size
theorem StP.keep {B E : Nat} {w w' : World} {K : Nat} {n : NN} {T F : List Int} {aA : Option Addr} {cA H1 H2 : Nat} {D1 D2 : Nat → Option Addr} {E1 E2 : Nat → Nat} {aT : Option Addr} {cT gF : Nat} (h : StP B E w K n T F aA cA H1 H2 D1 D2 E1 E2 aT cT gF) (hk : ∀ k, B ≤ k → k < E → w'.heap[k]? = w.heap[k]?) (hs : w.heap.size ≤ w'.heap.size) : StP B E w' K n T F aA cA H1 H2 D1 D2 E1 E2 aT cT gF :=
  ⟨h.blk.keep (hk _ h.fK.1 h.fK.2.1), h.arcs.keep (fun x hx => hk _ (h.fA x hx).1 (h.fA x hx).2.1), fun v hv => ⟨cell_block (hk _ h.f1.1 h.f1.2.1) (h.ins v hv).1, (h.ins v hv).2.keep fun x hx => hk _ (h.g1 v hv x hx).1 (h.g1 v hv x hx).2.1⟩, fun v hv => ⟨cell_block (hk _ h.f2.1 h.f2.2.1) (h.outs v hv).1, (h.outs v hv).2.keep fun x hx => hk _ (h.g2 v hv x hx).1 (h.g2 v hv x hx).2.1⟩,
    h.tok.keep (fun x hx => hk _ (h.iT x hx).1 (h.iT x hx).2.1), h.fir.keep (fun x hx => by cases hx; exact hk _ h.iF.1 h.iF.2), h.lT, h.lF, h.rT, h.rF, h.sound, h.fK, h.fA, h.f1, h.f2, h.g1, h.g2, h.iT, h.iF, Nat.le_trans h.low hs⟩
theorem StP.below {B E : Nat} {w w' : World} {K : Nat} {n : NN} {T F : List Int} {aA : Option Addr} {cA H1 H2 : Nat} {D1 D2 : Nat → Option Addr} {E1 E2 : Nat → Nat} {aT : Option Addr} {cT gF : Nat} (h : StP B E w K n T F aA cA H1 H2 D1 D2 E1 E2 aT cT gF) (hb : Below w.heap.size w w') : StP B E w' K n T F aA cA H1 H2 D1 D2 E1 E2 aT cT gF :=
  h.keep (fun k _ hk => hb.block k (Nat.lt_of_lt_of_le hk h.low)) hb.size
theorem StP.setT {B E : Nat} {w : World} {K : Nat} {n : NN} {T F : List Int} {aA : Option Addr} {cA H1 H2 : Nat} {D1 D2 : Nat → Option Addr} {E1 E2 : Nat → Nat} {gT cT gF : Nat} (h : StP B E w K n T F aA cA H1 H2 D1 D2 E1 E2 (some ⟨gT, 0, none⟩) cT gF) {i : Nat} {x : Int} (hx : -9223372036854775808 ≤ x ∧ x ≤ 9223372036854775807) :
    StP B E (w.setCell ⟨gT, i, none⟩ (.int .i64 x)) K n (T.set i x) F aA cA H1 H2 D1 D2 E1 E2 (some ⟨gT, 0, none⟩) cT gF := by
  have hk : ∀ k, k ≠ gT → (w.setCell ⟨gT, i, none⟩ (.int .i64 x)).heap[k]? = w.heap[k]? := fun k hk => Below.heap_setCell w ⟨gT, i, none⟩ _ k hk
  have nf : ∀ k, Fix B E (some ⟨gT, 0, none⟩) gF k → k ≠ gT := fun k hk => hk.2.2.1 _ rfl
  refine ⟨?_, h.arcs.keep (fun y hy => hk _ (nf _ (h.fA y hy))), fun v hv => ⟨cell_block (hk _ (nf _ h.f1)) (h.ins v hv).1, (h.ins v hv).2.keep fun y hy => hk _ (nf _ (h.g1 v hv y hy))⟩, fun v hv => ⟨cell_block (hk _ (nf _ h.f2)) (h.outs v hv).1, (h.outs v hv).2.keep fun y hy => hk _ (nf _ (h.g2 v hv y hy))⟩,
    h.tok.setAt x, h.fir.keep (fun y hy => by cases hy; exact hk _ (Ne.symm (h.iT _ rfl).2.2)), by rw [List.length_set]; exact h.lT, h.lF, inR_setN h.rT hx, h.rF, h.sound, h.fK, h.fA, h.f1, h.f2, h.g1, h.g2, h.iT, h.iF, by rw [World.size_setCell]; exact h.low⟩
  rw [List.length_set]
  exact h.blk.keep (hk _ (nf _ h.fK))
theorem StP.setF {B E : Nat} {w : World} {K : Nat} {n : NN} {T F : List Int} {aA : Option Addr} {cA H1 H2 : Nat} {D1 D2 : Nat → Option Addr} {E1 E2 : Nat → Nat} {aT : Option Addr} {cT gF : Nat} (h : StP B E w K n T F aA cA H1 H2 D1 D2 E1 E2 aT cT gF) {i : Nat} {x : Int} (hx : -9223372036854775808 ≤ x ∧ x ≤ 9223372036854775807) :
    StP B E (w.setCell ⟨gF, i, none⟩ (.int .i64 x)) K n T (F.set i x) aA cA H1 H2 D1 D2 E1 E2 aT cT gF := by
  have hk : ∀ k, k ≠ gF → (w.setCell ⟨gF, i, none⟩ (.int .i64 x)).heap[k]? = w.heap[k]? := fun k hk => Below.heap_setCell w ⟨gF, i, none⟩ _ k hk
  have nf : ∀ k, Fix B E aT gF k → k ≠ gF := fun k hk => hk.2.2.2
  exact ⟨h.blk.keep (hk _ (nf _ h.fK)), h.arcs.keep (fun y hy => hk _ (nf _ (h.fA y hy))), fun v hv => ⟨cell_block (hk _ (nf _ h.f1)) (h.ins v hv).1, (h.ins v hv).2.keep fun y hy => hk _ (nf _ (h.g1 v hv y hy))⟩, fun v hv => ⟨cell_block (hk _ (nf _ h.f2)) (h.outs v hv).1, (h.outs v hv).2.keep fun y hy => hk _ (nf _ (h.g2 v hv y hy))⟩,
    h.tok.keep (fun y hy => hk _ (h.iT y hy).2.2), h.fir.setAt x, h.lT, by rw [List.length_set]; exact h.lF, h.rT, inR_setN h.rF hx, h.sound, h.fK, h.fA, h.f1, h.f2, h.g1, h.g2, h.iT, h.iF, by rw [World.size_setCell]; exact h.low⟩
def StE (B E : Nat) (w : World) (K : Nat) (n : NN) (T F : List Int) : Prop := ∃ (aA : Option Addr) (cA H1 H2 : Nat) (D1 D2 : Nat → Option Addr) (E1 E2 : Nat → Nat) (aT : Option Addr) (cT gF : Nat), StP B E w K n T F aA cA H1 H2 D1 D2 E1 E2 aT cT gF
theorem StE.keep {B E : Nat} {w w' : World} {K : Nat} {n : NN} {T F : List Int} (h : StE B E w K n T F) (hk : ∀ k, B ≤ k → k < E → w'.heap[k]? = w.heap[k]?) (hs : w.heap.size ≤ w'.heap.size) : StE B E w' K n T F := by
  obtain ⟨aA, cA, H1, H2, D1, D2, E1, E2, aT, cT, gF, h⟩ := h
  exact ⟨_, _, _, _, _, _, _, _, _, _, _, h.keep hk hs⟩
theorem StE.below {B E : Nat} {w w' : World} {K : Nat} {n : NN} {T F : List Int} (h : StE B E w K n T F) (hb : Below w.heap.size w w') : StE B E w' K n T F := by
  obtain ⟨aA, cA, H1, H2, D1, D2, E1, E2, aT, cT, gF, h⟩ := h
  exact ⟨_, _, _, _, _, _, _, _, _, _, _, h.below hb⟩
theorem StE.low {B E : Nat} {w : World} {K : Nat} {n : NN} {T F : List Int} (h : StE B E w K n T F) : B ≤ w.heap.size ∧ E ≤ w.heap.size := by
  obtain ⟨aA, cA, H1, H2, D1, D2, E1, E2, aT, cT, gF, h⟩ := h
  have := h.low; have := h.iF
  exact ⟨by omega, by omega⟩
theorem nodes_nat {n : NN} (h : SoundN n) : ((n.nodes.toNat : Nat) : Int) = n.nodes ∧ 1 ≤ n.nodes.toNat ∧ n.nodes.toNat ≤ 32 := by have := h.nodes; omega
set_option maxRecDepth 100000 in
set_option maxHeartbeats 1000000 in
theorem isNode_any {B E : Nat} (w : World) (K : Nat) (n : NN) (T F : List Int) (h : StE B E w K n T F) (v : Int) : Calls Tryz.prog 108 #[.pointer (some ⟨K, 0, none⟩), .int .i64 v] w fun e w' => e = .returned (.bool (nodeB n v)) ∧ w' = w := by
  obtain ⟨aA, cA, H1, H2, D1, D2, E1, E2, aT, cT, gF, hP⟩ := h
  have y1 := hP.blk.cell (k := 1) rfl
  have hn := nodes_nat hP.sound
  have eb : nodeB n v = inB v 0 ((n.nodes.toNat : Int) - 1) := by
    unfold nodeB inB
    by_cases h1 : 0 ≤ v <;> by_cases h2 : v < n.nodes <;> simp [h1, h2] <;> omega
  rw [eb]
  generalize n.nodes.toNat = N at *
  have hw : IntKind.i64.wrap ((N : Int) - 1) = (N : Int) - 1 := by rw [IntKind.wrap_i64]; omega
  have H : Hid (∀ x y z w1, Calls Tryz.prog 105 #[.int .i64 x, .int .i64 y, .int .i64 z] w1 fun e w' => e = .returned (.bool (inB x y z)) ∧ w' = w1) := fun x y z w1 => withinN_any x y z w1
  clear hP eb hn
  go_enter Tryz.func108, Tryz.ntmps108
  go_wp2_with (go_at_call 105; (with_reducible refine (H.out _ _ _ _).mono ?_); rintro e w' ⟨rfl, hw'⟩; rw [hw']; clear hw' w')
  go_ret
  exact ⟨rfl, rfl⟩
set_option maxRecDepth 100000 in
set_option maxHeartbeats 1000000 in
theorem inArcs_any {B E : Nat} (w : World) (K : Nat) (n : NN) (T F : List Int) (aA : Option Addr) (cA H1 H2 : Nat) (D1 D2 : Nat → Option Addr) (E1 E2 : Nat → Nat) (aT : Option Addr) (cT gF : Nat) (hP : StP B E w K n T F aA cA H1 H2 D1 D2 E1 E2 aT cT gF) (v : Nat) (hv : v < n.nodes.toNat) : Calls Tryz.prog 110 #[.pointer (some ⟨K, 0, none⟩), .int .i64 (v : Int)] w fun e w' => e = .returned (.slice (D1 v) (inArcsN n v).length (E1 v)) ∧ w' = w := by
  have y1 := hP.blk.cell (k := 1) rfl
  have y2 := (hP.ins v hv).1
  generalize n.nodes.toNat = N at *
  have hm : (v : Int) < (N : Int) := by omega
  clear hP
  generalize (inArcsN n v).length = M at *
  generalize D1 v = d at *
  generalize E1 v = c at *
  go_enter Tryz.func110, Tryz.ntmps110
  go_wp2
  go_ret
  exact ⟨rfl, rfl⟩
set_option maxRecDepth 100000 in
set_option maxHeartbeats 1000000 in
theorem outArcs_any {B E : Nat} (w : World) (K : Nat) (n : NN) (T F : List Int) (aA : Option Addr) (cA H1 H2 : Nat) (D1 D2 : Nat → Option Addr) (E1 E2 : Nat → Nat) (aT : Option Addr) (cT gF : Nat) (hP : StP B E w K n T F aA cA H1 H2 D1 D2 E1 E2 aT cT gF) (v : Nat) (hv : v < n.nodes.toNat) : Calls Tryz.prog 111 #[.pointer (some ⟨K, 0, none⟩), .int .i64 (v : Int)] w fun e w' => e = .returned (.slice (D2 v) (outArcsN n v).length (E2 v)) ∧ w' = w := by
  have y1 := hP.blk.cell (k := 2) rfl
  have y2 := (hP.outs v hv).1
  generalize n.nodes.toNat = N at *
  have hm : (v : Int) < (N : Int) := by omega
  clear hP
  generalize (outArcsN n v).length = M at *
  generalize D2 v = d at *
  generalize E2 v = c at *
  go_enter Tryz.func111, Tryz.ntmps111
  go_wp2
  go_ret
  exact ⟨rfl, rfl⟩
set_option maxRecDepth 100000 in
set_option maxHeartbeats 4000000 in
theorem short_any {B E : Nat} (w : World) (K : Nat) (n : NN) (T F : List Int) (h : StE B E w K n T F) (v : Int) : Calls Tryz.prog 109 #[.pointer (some ⟨K, 0, none⟩), .int .i64 v] w fun e w' => e = .returned (.int .i64 (shortN n T v)) ∧ Below w.heap.size w w' := by
  have IN := hiddenN (isNode_any w K n T F h v)
  obtain ⟨aA, cA, H1, H2, D1, D2, E1, E2, aT, cT, gF, hP⟩ := h
  unfold shortN
  cases hb : nodeB n v with
  | false =>
    rw [hb] at IN
    rw [if_neg (by decide)]
    clear hP
    go_enter Tryz.func109, Tryz.ntmps109
    go_wp2_with (go_at_call 108; (with_reducible refine IN.out.mono ?_); rintro e w' ⟨rfl, hw'⟩; rw [hw']; clear hw' w')
    go_ret
    exact ⟨rfl, Below.refl _ _⟩
  | true =>
    rw [hb] at IN
    rw [if_pos rfl]
    have hv : 0 ≤ v ∧ v < n.nodes := of_decide_eq_true hb
    obtain ⟨vn, rfl⟩ : ∃ k : Nat, v = (k : Int) := ⟨v.toNat, by omega⟩
    have hvn : vn < n.nodes.toNat := by omega
    have IA := hiddenN (inArcs_any w K n T F aA cA H1 H2 D1 D2 E1 E2 aT cT gF hP vn hvn)
    have HR := hiddenN (hP.ins vn hvn).2
    have RN := hiddenN (fun q (hq : q < (inArcsN n vn).length) => posU_nth (p := toB vn) (A := n.arcs) (q := n.arcs.length) (k := q) hq)
    have RL : (inArcsN n vn).length ≤ 96 := Nat.le_trans (posU_len _ _ _) hP.sound.most
    have HP := hiddenN hP
    have y0 := hP.blk.cell (k := 0) rfl
    have y3 := hP.blk.cell (k := 3) rfl
    have hlT := hP.lT
    have hmost := hP.sound.most
    clear hP hb hv hvn
    generalize D1 vn = d at *
    generalize E1 vn = c at *
    obtain ⟨R, hR⟩ : ∃ R, inArcsN n vn = R := ⟨_, rfl⟩
    have hR' : posU (toB vn) n.arcs n.arcs.length = R := hR
    rw [hR] at IA HR RN RL ⊢
    obtain ⟨M, hM⟩ : ∃ M, R.length = M := ⟨_, rfl⟩
    rw [hM] at IA RN RL
    rw [hR'] at RN
    clear hR hR'
    go_enter Tryz.func109, Tryz.ntmps109
    go_wp2_with (first | (go_at_call 108; (with_reducible refine IN.out.mono ?_); rintro e w' ⟨rfl, hw'⟩; rw [hw']; clear hw' w') | (go_at_call 110; (with_reducible refine IA.out.mono ?_); rintro e w' ⟨rfl, hw'⟩; rw [hw']; clear hw' w'))
    clear IN IA
    go_loopg [21] M (fun gk u wr => ∃ q : Nat, q ≤ M ∧ gk = M - q ∧ u = .int .i64 (q : Int) ∧ Below w.heap.size w wr ∧ ∀ j, j < q → lackB n.arcs T (nth R j) = false)
    case atStart => exact ⟨0, Nat.zero_le _, rfl, rfl, Below.refl _ _, fun j hj => by omega⟩
    case round =>
      obtain ⟨q, hq, rfl, rfl, hB, hE⟩ := hrel
      have HB := hiddenN hB
      have HE := hiddenN hE
      clear hB hE
      by_cases hlt : q < M
      · have hki : (q : Int) < (M : Int) := by omega
        rcases HR.out.below HB.out with e | ⟨rb, ro, rfl, hc⟩
        · rw [e] at hM; simp at hM; omega
        have c0 := hc q (by omega)
        obtain ⟨ix, hi, hil, -⟩ := RN.out q hlt
        have HS := hiddenN (short_here (A := n.arcs) (T := T) (R := R) (k := q) (by omega) HE.out)
        have HZ : Hid (lackB n.arcs T (nth R q) = false → ∀ j, j < q + 1 → lackB n.arcs T (nth R j) = false) := fun h0 j hj => by
          by_cases e : j = q
          · subst e; exact h0
          · exact HE.out j (by omega)
        rw [hi] at c0 HS HZ
        have lk : lackB n.arcs T (ix : Int) = decide (nth T ix < (nthNa n.arcs ix).k) := by unfold lackB; rw [Int.toNat_natCast]
        rw [lk] at HS HZ
        have hP1 := HP.out.below HB.out
        rcases hP1.arcs with e | ⟨ab, ao, rfl, hca⟩
        · rw [e] at hil; simp at hil
        obtain ⟨-, -, -, c3, -⟩ := hca ix hil
        obtain ⟨gT, rfl, -, -⟩ := hP1.tok.there (by omega)
        rcases hP1.tok.at with e | ⟨tb, tof, et, cT'⟩
        · rw [e] at hlT; simp at hlT; omega
        obtain ⟨rfl, rfl⟩ : gT = tb ∧ 0 = tof := by simp at et; exact ⟨et.1, et.2⟩
        have c5 := cT' ix (by omega)
        rw [Nat.zero_add] at c5
        have z0 := hP1.blk.cell (k := 0) rfl
        have z3 := hP1.blk.cell (k := 3) rfl
        simp only [List.getElem_toArray, List.getElem_cons_zero, List.getElem_cons_succ] at z0 z3
        have hm1 : ix < T.length := by omega
        have hm2 : ix < n.arcs.length := by omega
        generalize n.arcs.length = al at *
        generalize T.length = tl at *
        generalize nth T ix = x at *
        generalize (nthNa n.arcs ix).k = y at *
        clear hca hc cT' et hP1 hi lk y0 y3
        go_upto_region 8 with fail
        refine wp_region_said 16 (fun i u v => match i with
            | 0 => v = .pointer (some ⟨K, 0, none⟩)
            | 1 => v = .pointer (some ⟨K, 0, none⟩)
            | 2 => v = .pointer (some ⟨K, 3, none⟩)
            | 3 => v = .slice (some ⟨gT, 0, none⟩) tl cT
            | 4 => v = .int .i64 (ix : Int)
            | 5 => v = .pointer (some ⟨gT, ix, none⟩)
            | 6 => v = .int .i64 x
            | 7 => v = .pointer (some ⟨K, 0, none⟩)
            | 8 => v = .pointer (some ⟨K, 0, none⟩)
            | 9 => v = .pointer (some ⟨K, 0, none⟩)
            | 10 => v = .pointer (some ⟨K, 0, none⟩)
            | 11 => v = .slice (some ⟨ab, ao, none⟩) al cA
            | 12 => v = .int .i64 (ix : Int)
            | 13 => v = .pointer (some ⟨ab, ao + ix * 5, none⟩)
            | 14 => v = .pointer (some ⟨ab, ao + ix * 5 + 3, none⟩)
            | 15 => v = .int .i64 y
            | _ => True) (by kernel_rfl) (by kernel_rfl) (by kernel_rfl) (by kernel_rfl) ?_ ?_ ?_
        · intro i w v w' h hb
          match i, h with
          | 0, h => exact h
          | 1, h => exact h
          | 2, h => exact h
          | 3, h => exact h
          | 4, h => exact h
          | 5, h => exact h
          | 6, h => exact h
          | 7, h => exact h
          | 8, h => exact h
          | 9, h => exact h
          | 10, h => exact h
          | 11, h => exact h
          | 12, h => exact h
          | 13, h => exact h
          | 14, h => exact h
          | 15, h => exact h
          | _ + 16, _ => trivial
        · intro i o ρ w' hi ho hb hc hf hfr hdep
          have k0 := cellN_later hb z0
          have k3 := cellN_later hb z3
          have kT := cellN_later hb c5
          have kA := cellN_later hb c3
          match i, hi with
          | 0, _ =>
            simp only [gTA, gCZ, gSI] at ho
            subst ho
            have ts : ρ (.tmp 0) = .pointer (some ⟨K, 0, none⟩) := hfr 0 (by kernel_rfl)
            simp [go_sem, ts]
            exact ⟨Below.refl _ _, rfl⟩
          | 1, _ =>
            simp only [gTA, gCZ, gCS, gSI] at ho
            subst ho
            have t0 : ρ (.tmp 25) = .pointer (some ⟨K, 0, none⟩) := hdep 0 25 (by kernel_rfl) (by kernel_rfl)
            simp [go_sem, t0]
            exact ⟨Below.refl _ _, rfl⟩
          | 2, _ =>
            simp only [gTA, gCZ, gCS, gSI] at ho
            subst ho
            have t0 : ρ (.tmp 26) = .pointer (some ⟨K, 0, none⟩) := hdep 1 26 (by kernel_rfl) (by kernel_rfl)
            simp [go_sem, t0]
            exact ⟨Below.refl _ _, rfl⟩
          | 3, _ =>
            simp only [gTA, gCZ, gCS, gSI] at ho
            subst ho
            have ts : ρ (.tmp 27) = .pointer (some ⟨K, 3, none⟩) := hdep 2 27 (by kernel_rfl) (by kernel_rfl)
            simp [go_sem, ts, k3]
            exact ⟨Below.refl _ _, rfl⟩
          | 4, _ =>
            simp only [gTA, gCZ, gCS, gSI] at ho
            subst ho
            have ts : ρ (.tmp 6) = .int .i64 (ix : Int) := hfr 6 (by kernel_rfl)
            simp [go_sem, ts]
            exact ⟨Below.refl _ _, rfl⟩
          | 5, _ =>
            simp only [gTA, gCZ, gCS, gSI] at ho
            subst ho
            have t0 : ρ (.tmp 28) = .slice (some ⟨gT, 0, none⟩) tl cT := hdep 3 28 (by kernel_rfl) (by kernel_rfl)
            have t1 : ρ (.tmp 29) = .int .i64 (ix : Int) := hdep 4 29 (by kernel_rfl) (by kernel_rfl)
            simp [go_sem, t0, t1, hm1]
            exact ⟨Below.refl _ _, rfl⟩
          | 6, _ =>
            simp only [gTA, gCZ, gCS, gSI] at ho
            subst ho
            have ts : ρ (.tmp 30) = .pointer (some ⟨gT, ix, none⟩) := hdep 5 30 (by kernel_rfl) (by kernel_rfl)
            simp [go_sem, ts, kT]
            exact ⟨Below.refl _ _, rfl⟩
          | 7, _ =>
            simp only [gTA, gCZ, gCS, gSI] at ho
            subst ho
            have ts : ρ (.tmp 0) = .pointer (some ⟨K, 0, none⟩) := hfr 0 (by kernel_rfl)
            simp [go_sem, ts]
            exact ⟨Below.refl _ _, rfl⟩
          | 8, _ =>
            simp only [gTA, gCZ, gCS, gSI] at ho
            subst ho
            have t0 : ρ (.tmp 32) = .pointer (some ⟨K, 0, none⟩) := hdep 7 32 (by kernel_rfl) (by kernel_rfl)
            simp [go_sem, t0]
            exact ⟨Below.refl _ _, rfl⟩
          | 9, _ =>
            simp only [gTA, gCZ, gCS, gSI] at ho
            subst ho
            have t0 : ρ (.tmp 33) = .pointer (some ⟨K, 0, none⟩) := hdep 8 33 (by kernel_rfl) (by kernel_rfl)
            simp [go_sem, t0]
            exact ⟨Below.refl _ _, rfl⟩
          | 10, _ =>
            simp only [gTA, gCZ, gCS, gSI] at ho
            subst ho
            have t0 : ρ (.tmp 34) = .pointer (some ⟨K, 0, none⟩) := hdep 9 34 (by kernel_rfl) (by kernel_rfl)
            simp [go_sem, t0]
            exact ⟨Below.refl _ _, rfl⟩
          | 11, _ =>
            simp only [gTA, gCZ, gCS, gSI] at ho
            subst ho
            have ts : ρ (.tmp 35) = .pointer (some ⟨K, 0, none⟩) := hdep 10 35 (by kernel_rfl) (by kernel_rfl)
            simp [go_sem, ts, k0]
            exact ⟨Below.refl _ _, rfl⟩
          | 12, _ =>
            simp only [gTA, gCZ, gCS, gSI] at ho
            subst ho
            have ts : ρ (.tmp 6) = .int .i64 (ix : Int) := hfr 6 (by kernel_rfl)
            simp [go_sem, ts]
            exact ⟨Below.refl _ _, rfl⟩
          | 13, _ =>
            simp only [gTA, gCZ, gCS, gSI] at ho
            subst ho
            have t0 : ρ (.tmp 36) = .slice (some ⟨ab, ao, none⟩) al cA := hdep 11 36 (by kernel_rfl) (by kernel_rfl)
            have t1 : ρ (.tmp 37) = .int .i64 (ix : Int) := hdep 12 37 (by kernel_rfl) (by kernel_rfl)
            simp [go_sem, t0, t1, hm2]
            exact ⟨Below.refl _ _, rfl⟩
          | 14, _ =>
            simp only [gTA, gCZ, gCS, gSI] at ho
            subst ho
            have t0 : ρ (.tmp 38) = .pointer (some ⟨ab, ao + ix * 5, none⟩) := hdep 13 38 (by kernel_rfl) (by kernel_rfl)
            simp [go_sem, t0]
            exact ⟨Below.refl _ _, rfl⟩
          | 15, _ =>
            simp only [gTA, gCZ, gCS, gSI] at ho
            subst ho
            have ts : ρ (.tmp 39) = .pointer (some ⟨ab, ao + ix * 5 + 3, none⟩) := hdep 14 39 (by kernel_rfl) (by kernel_rfl)
            simp [go_sem, ts, kA]
            exact ⟨Below.refl _ _, rfl⟩
          | k + 16, h => exact absurd h (by omega)
        · intro V w9 q9 hS
          have e0 : V 0 = .pointer (some ⟨K, 0, none⟩) := hS 0 (by decide)
          have e1 : V 1 = .pointer (some ⟨K, 0, none⟩) := hS 1 (by decide)
          have e2 : V 2 = .pointer (some ⟨K, 3, none⟩) := hS 2 (by decide)
          have e3 : V 3 = .slice (some ⟨gT, 0, none⟩) tl cT := hS 3 (by decide)
          have e4 : V 4 = .int .i64 (ix : Int) := hS 4 (by decide)
          have e5 : V 5 = .pointer (some ⟨gT, ix, none⟩) := hS 5 (by decide)
          have e6 : V 6 = .int .i64 x := hS 6 (by decide)
          have e7 : V 7 = .pointer (some ⟨K, 0, none⟩) := hS 7 (by decide)
          have e8 : V 8 = .pointer (some ⟨K, 0, none⟩) := hS 8 (by decide)
          have e9 : V 9 = .pointer (some ⟨K, 0, none⟩) := hS 9 (by decide)
          have e10 : V 10 = .pointer (some ⟨K, 0, none⟩) := hS 10 (by decide)
          have e11 : V 11 = .slice (some ⟨ab, ao, none⟩) al cA := hS 11 (by decide)
          have e12 : V 12 = .int .i64 (ix : Int) := hS 12 (by decide)
          have e13 : V 13 = .pointer (some ⟨ab, ao + ix * 5, none⟩) := hS 13 (by decide)
          have e14 : V 14 = .pointer (some ⟨ab, ao + ix * 5 + 3, none⟩) := hS 14 (by decide)
          have e15 : V 15 = .int .i64 y := hS 15 (by decide)
          simp only [List.drop_succ_cons, List.drop_zero, List.take_succ_cons, List.take_zero, puts, e0, e1, e2, e3, e4, e5, e6, e7, e8, e9, e10, e11, e12, e13, e14, e15]
          clear hS e0 e1 e2 e3 e4 e5 e6 e7 e8 e9 e10 e11 e12 e13 e14 e15 V
          have B9 := hiddenN (HB.out.trans (q9.mono HB.out.size))
          clear q9
          by_cases hxy : x < y
          · have hd := decide_eq_true hxy
            rw [hd] at HS
            clear hd
            go_wp2
            go_ret
            rw [HS.out (by first | rfl | trivial)]
            exact ⟨rfl, B9.out⟩
          · have hd := decide_eq_false hxy
            rw [hd] at HZ
            clear hd
            go_wp2
            go_roundg (M - (q + 1))
            case measure => omega
            case rel => exact ⟨q + 1, by omega, rfl, by go_num, B9.out, HZ.out (by first | rfl | trivial)⟩
      · have ek : q = M := by omega
        subst ek
        have hki : ¬ (q : Int) < (q : Int) := by omega
        have HN := hiddenN (short_none (A := n.arcs) (T := T) (R := R) (fun j hj => HE.out j (by omega)))
        go_wp2
        go_ret
        rw [HN.out]
        exact ⟨rfl, HB.out⟩
theorem may_iff (n : NN) (T : List Int) (v : Int) : mayN n T v = (nodeB n v && decide (shortN n T v = -1)) := by
  unfold mayN shortN
  cases h : nodeB n v
  · rfl
  · rw [if_pos rfl]
set_option maxRecDepth 100000 in
set_option maxHeartbeats 2000000 in
theorem may_any {B E : Nat} (w : World) (K : Nat) (n : NN) (T F : List Int) (h : StE B E w K n T F) (v : Int) : Calls Tryz.prog 84 #[.pointer (some ⟨K, 0, none⟩), .int .i64 v] w fun e w' => e = .returned (.bool (mayN n T v)) ∧ Below w.heap.size w w' := by
  have IN := hiddenN (isNode_any w K n T F h v)
  have SH := hiddenN (short_any w K n T F h v)
  rw [may_iff]
  clear h
  generalize shortN n T v = s at *
  cases hb : nodeB n v with
  | false =>
    rw [hb] at IN
    rw [Bool.false_and]
    go_enter Tryz.func84, Tryz.ntmps84
    go_wp2_with (go_at_call 108; (with_reducible refine IN.out.mono ?_); rintro e w' ⟨rfl, hw'⟩; rw [hw']; clear hw' w')
    go_ret
    exact ⟨rfl, Below.refl _ _⟩
  | true =>
    rw [hb] at IN
    rw [Bool.true_and]
    go_enter Tryz.func84, Tryz.ntmps84
    go_wp2_with (first | (go_at_call 108; (with_reducible refine IN.out.mono ?_); rintro e w' ⟨rfl, hw'⟩; rw [hw']; clear hw' w') | (go_at_call 109; (with_reducible refine SH.out.mono ?_); rintro e w' ⟨rfl, b1⟩; have B1 := hiddenN b1; clear b1))
    go_ret
    exact ⟨by by_cases e : s = -1 <;> simp [e], B1.out⟩
end Go.Proofs.YtimioiaoefhabaaGreat

/- Texts of one chain, laid one behind the other. -/
import Derived.Test.YtnlmbffdeknbjaaPartNetOf25
import Derived.Test.YtnlmbffdeknbjaaPartNetOf20
import Derived.Test.YtnlmbffdeknbjaaPartNetOf33
import Derived.Laws.AppendOwnNone
namespace Go.Proofs.Ytnlmbffdeknbjaa
open Go.ChangeShapes Go.WideShapes Go.ChangeAt Go.RowKit
/-- Two states of a net, side by side. -/
structure TwoS (w : World) (n : NN) (B1 E1 K1 B2 E2 K2 : Nat) (T F T' F' : List Int) (U : World) : Prop where
  s : StE B1 E1 U K1 n T F
  t : StE B2 E2 U K2 n T' F'
  bel : Below w.heap.size w U
theorem TwoS.below {w : World} {n : NN} {B1 E1 K1 B2 E2 K2 : Nat} {T F T' F' : List Int} {U U' : World} (h : TwoS w n B1 E1 K1 B2 E2 K2 T F T' F' U) (hb : Below U.heap.size U U') : TwoS w n B1 E1 K1 B2 E2 K2 T F T' F' U' := ⟨h.s.below hb, h.t.below hb, h.bel.trans (hb.mono h.bel.size)⟩
theorem sizNet : (Try.prog.info? 29).map (·.size) = some 2 := by kernel_rfl
set_option maxRecDepth 100000 in
set_option maxHeartbeats 4000000 in
theorem sameNet_any (n : NN) (a b : Option Addr) (ca cb : Nat) (w : World) (ha : AtN w a n.arcs) (hb : AtN w b n.arcs) (hl : n.arcs.length ≤ 4611686018427387904) : Calls Try.prog 6 #[.agg #[.int .i64 n.nodes, .slice a n.arcs.length ca], .agg #[.int .i64 n.nodes, .slice b n.arcs.length cb]] w fun e w' => e = .returned (.bool true) ∧ Below w.heap.size w w' := by
  obtain ⟨m, L⟩ := n
  simp only at *
  obtain ⟨N, hN⟩ : ∃ N, L.length = N := ⟨_, rfl⟩
  rw [hN] at hl ⊢
  have b0 := (Below.refl w.heap.size w).alloc (Nat.le_refl _) (.cells #[.int .i64 m, .slice a N ca] 29)
  have b1 := b0.alloc b0.size (.cells #[.int .i64 m, .slice b N cb] 29)
  have g0 := (blkA_new 29 w #[.int .i64 m, .slice a N ca]).below ((Below.refl _ _).alloc (Nat.le_refl _) (.cells #[.int .i64 m, .slice b N cb] 29))
  have g1 := blkA_new 29 (w.alloc (.cells #[.int .i64 m, .slice a N ca] 29)) #[.int .i64 m, .slice b N cb]
  have hsz : (w.alloc (.cells #[.int .i64 m, .slice a N ca] 29)).heap.size = w.heap.size + 1 := World.size_alloc _ _
  rw [hsz] at g1
  have G0 := hiddenN g0
  have G1 := hiddenN g1
  have HA := hiddenN (ha.below b1)
  have HB := hiddenN (hb.below b1)
  have B1 := hiddenN b1
  clear ha hb b0 b1 g0 g1
  have y0 := G0.out.cell (k := 0) rfl
  have y1 := G0.out.cell (k := 1) rfl
  have z0 := G1.out.cell (k := 0) rfl
  have z1 := G1.out.cell (k := 1) rfl
  simp only [List.getElem_toArray, List.getElem_cons_zero, List.getElem_cons_succ] at y0 y1 z0 z1
  have q0 : (m != m) = false := by simp
  have q1 : ((N : Int) != (N : Int)) = false := by simp
  go_enter Try.func6, Try.ntmps6
  go_upto_region 1 with fail
  generalize (w.alloc (.cells #[.int .i64 m, .slice a N ca] 29)).alloc (.cells #[.int .i64 m, .slice b N cb] 29) = W0 at *
  go_wp2
  clear y0 y1 z0 z1 q0 q1
  go_loopg [5] N (fun gk v wr => ∃ k : Nat, k ≤ N ∧ gk = N - k ∧ v = .int .i64 (k : Int) ∧ Below W0.heap.size W0 wr)
  case atStart => exact ⟨0, Nat.zero_le _, rfl, rfl, Below.refl _ _⟩
  case round =>
    obtain ⟨k, hkN, rfl, rfl, hBr⟩ := hrel
    have BR := hiddenN hBr
    clear hBr
    have y1 := (G0.out.below BR.out).cell (k := 1) rfl
    have z1 := (G1.out.below BR.out).cell (k := 1) rfl
    simp only [List.getElem_toArray, List.getElem_cons_zero, List.getElem_cons_succ] at y1 z1
    by_cases hlt : k < N
    · have hki : (k : Int) < (N : Int) := by omega
      rcases HA.out.below BR.out with e | ⟨ba, oa, rfl, hca⟩
      · rw [e] at hN; simp at hN; omega
      rcases HB.out.below BR.out with e | ⟨bb, ob, rfl, hcb⟩
      · rw [e] at hN; simp at hN; omega
      obtain ⟨a0, a1, a2, a3, a4⟩ := hca k (by omega)
      obtain ⟨b0, b1, b2, b3, b4⟩ := hcb k (by omega)
      generalize nthNa L k = x at *
      obtain ⟨f, t, g, kk, s⟩ := x
      simp only at a0 a1 a2 a3 a4 b0 b1 b2 b3 b4
      have p0 : (f == f) = true := by simp
      have p1 : (t == t) = true := by simp
      have p2 : (g == g) = true := by simp
      have p3 : (kk == kk) = true := by simp
      have p4 : (s == s) = true := by simp
      clear hca hcb
      go_wp2
      go_quiet (fail)
      go_wp2
      go_roundg (N - (k + 1))
      case measure => omega
      case rel => exact ⟨k + 1, by omega, rfl, by go_num, drewB BR.out _⟩
    · have ek : k = N := by omega
      subst ek
      have hki : ¬ (k : Int) < (k : Int) := by omega
      go_wp2
      go_ret
      exact ⟨rfl, B1.out.trans (BR.out.mono B1.out.size)⟩
end Go.Proofs.Ytnlmbffdeknbjaa

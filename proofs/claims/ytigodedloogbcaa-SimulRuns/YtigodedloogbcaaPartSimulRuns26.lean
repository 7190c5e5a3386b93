/- Texts of one chain, laid one behind the other. -/
import Derived.Test.YtigodedloogbcaaPartSimulRuns25
import Derived.Test.YtigodedloogbcaaPartSimulRuns19
import Derived.Test.YtigodedloogbcaaPartSimulRuns20
import Derived.Test.YtigodedloogbcaaPartSimulRuns16
import Derived.Test.YtigodedloogbcaaPartSimulRuns6
import Derived.StillTailTactics
import Derived.Test.YtigodedloogbcaaPartSimulRuns15
import Derived.Test.YtigodedloogbcaaPartSimulRuns13
import Derived.Deep.SlicePairs
import Derived.SizedLaws
namespace Go.Proofs.Ytigodedloogbcaa
open Go.ChangeShapes Go.WideShapes Go.ChangeAt Go.RowKit
set_option maxRecDepth 100000 in
set_option maxHeartbeats 4000000 in
theorem ratio_any {x y : Nat} (hx : 1 ≤ x ∧ x ≤ 9223372036854775807) (hy : 1 ≤ y ∧ y ≤ 9223372036854775807) (w : World) :
    Calls Try.prog 47 #[.int .i64 (x : Int), .int .i64 (y : Int)] w fun e w' => e = .returned (.agg #[.int .i64 (shB x y).1, .int .i64 (shB x y).2]) ∧ Below w.heap.size w w' := by
  have NW : Hid (∀ U, Calls Try.prog 66 #[.int .i64 (x : Int), .int .i64 (y : Int)] U fun e w' => e = .returned (.tuple #[.agg #[.int .i64 (shB x y).1, .int .i64 (shB x y).2], .int .i64 0]) ∧ Below U.heap.size U w') := fun U => by
    have q2 := newF_any (x : Int) (y : Int) U (by omega) (by omega)
    obtain ⟨k1, k2⟩ := shB_fits (x := x) (y := y) (by omega) (by omega)
    have q := newF_yes (n := (x : Int)) (d := (y : Int)) (by omega) (by unfold lowB; exact (by rw [show fitB (lowN x y) = true from k1, show fitB (lowD x y) = true from k2]; rfl))
    unfold NewEnd at q2
    rw [q.1, q.2.1, q.2.2] at q2
    exact q2
  have V0 := hiddenN (var2_new w (.int .i64 0) (.int .i64 0) 98)
  have B0 := hiddenN ((Below.refl w.heap.size w).alloc (Nat.le_refl _) (.cells #[.int .i64 0, .int .i64 0] 98))
  generalize (shB x y).1 = p at *
  generalize (shB x y).2 = q at *
  go_enter Try.func47, Try.ntmps47
  go_wp2_with (go_at_call 66; (with_reducible refine (NW.out _).mono ?_); rintro e W1 ⟨rfl, b1⟩; have L1 := hiddenN (B0.out.trans (b1.mono B0.out.size)); have r := (V0.out.later b1 V0.out.lt).alloc (.cells #[.int .i64 p, .int .i64 q] 98); have d0 := r.c0; have d1 := r.c1; have f0 := r.f0; have f1 := r.f1; clear b1)
  refine bodyPost_ret (v := .agg #[.int .i64 p, .int .i64 q]) (by simp [results, Try.results47, go_sem, d0, d1]) rfl ⟨rfl, ?_⟩
  exact ((L1.out.alloc L1.out.size _).setCell (Nat.le_refl _) _).setCell (Nat.le_refl _) _
/-- Whether all counts are from 1 to MaxRep. -/
def winB : List Int → Bool
  | [] => true
  | z :: zs => decide (1 ≤ z) && decide (z ≤ 4096) && winB zs
theorem winB_iff : ∀ {zs : List Int}, winB zs = true ↔ ∀ k, k < zs.length → 1 ≤ nth zs k ∧ nth zs k ≤ 4096
  | [] => ⟨fun _ k hk => absurd hk (Nat.not_lt_zero _), fun _ => rfl⟩
  | z :: zs => by
    unfold winB
    rw [Bool.and_eq_true, Bool.and_eq_true, decide_eq_true_eq, decide_eq_true_eq, winB_iff]
    constructor
    · rintro ⟨⟨h1, h2⟩, h3⟩ k hk
      match k, hk with
      | 0, _ => exact ⟨h1, h2⟩
      | k + 1, hk => exact h3 k (by simp at hk; omega)
    · intro h
      exact ⟨h 0 (Nat.succ_pos _), fun k hk => h (k + 1) (by simp; omega)⟩
set_option maxRecDepth 100000 in
set_option maxHeartbeats 1000000 in
theorem allWithin_any (a : Option Addr) (zs : List Int) (len cap : Nat) (w : World) (hl : zs.length = len) (hm : len ≤ 4611686018427387904) (h : At w a zs) :
    Calls Try.prog 46 #[.slice a len cap] w fun e w' => e = .returned (.bool (winB zs)) ∧ w = w' := by
  rcases h with h | ⟨b, off, rfl, hc⟩
  · subst h
    subst hl
    go_enter Try.func46, Try.ntmps46
    go_wp2
    go_loop [7] (fun i => i = .int .i64 0) (fun _ => 0)
    case atStart => exact rfl
    case round =>
      subst hrel
      go_wp2
      go_ret
      exact ⟨rfl, rfl⟩
  · have HC := hiddenN hc
    have HL := hiddenN hl
    clear hc hl
    go_enter Try.func46, Try.ntmps46
    go_wp2
    go_loop [7] (fun i => ∃ k : Nat, k ≤ len ∧ i = .int .i64 (k : Int) ∧ winB (zs.drop k) = winB zs) (fun i => match i with | .int _ k => len - k.toNat | _ => 0)
    case atStart => exact ⟨0, Nat.zero_le _, rfl, rfl⟩
    case round =>
      obtain ⟨k, hk, rfl, hs⟩ := hrel
      have HS := hiddenN hs
      clear hs
      by_cases hlt : k < len
      · have c0 := HC.out k (by rw [HL.out]; exact hlt)
        have HD : Hid (zs.drop k = nth zs k :: zs.drop (k + 1)) := drop_nth zs k (by rw [HL.out]; exact hlt)
        generalize nth zs k = z at *
        by_cases h1 : z < 1
        · have HF : Hid (winB zs = false) := by
            show _ = _
            rw [← HS.out, HD.out, winB, decide_eq_false (by omega)]
            rfl
          go_wp2
          go_ret
          exact ⟨by rw [HF.out]; rfl, rfl⟩
        · by_cases h2 : 4096 < z
          · have HF : Hid (winB zs = false) := by
              show _ = _
              rw [← HS.out, HD.out, winB, decide_eq_false (show ¬ z ≤ 4096 by omega), Bool.and_false]
              rfl
            go_wp2
            go_ret
            exact ⟨by rw [HF.out]; rfl, rfl⟩
          · have HN : Hid (winB (zs.drop (k + 1)) = winB zs) := by
              show _ = _
              rw [← HS.out, HD.out, winB, decide_eq_true (show 1 ≤ z by omega), decide_eq_true (show z ≤ 4096 by omega)]
              rfl
            go_wp2
            go_round
            case measure => simp; omega
            case rel => exact ⟨k + 1, by omega, by go_num, HN.out⟩
      · have HF : Hid (winB zs = true) := by
          show _ = _
          rw [← HS.out, List.drop_eq_nil_of_le (by rw [HL.out]; omega)]
          rfl
        go_wp2
        go_ret
        exact ⟨by rw [HF.out]; rfl, rfl⟩
/-- Whether an arc does not balance. -/
def oddB (A : List NA) (c : Nat → Nat) (j : Nat) : Bool := gN A j * c (fN A j) != kN A j * c (tN A j)
theorem oddB_no {A : List NA} {c : Nat → Nat} {j : Nat} : oddB A c j = false ↔ EvB A c j := by unfold oddB EvB; simp
theorem oddB_yes {A : List NA} {c : Nat → Nat} {j : Nat} : oddB A c j = true ↔ ¬ EvB A c j := by unfold oddB EvB; simp
/-- The first arc that does not balance. -/
def fuB (A : List NA) (c : Nat → Nat) : Option Nat := (List.range A.length).find? (oddB A c)
def fuI (A : List NA) (c : Nat → Nat) : Int := match fuB A c with | some i => (i : Int) | none => -1
theorem fuB_hit {A : List NA} {c : Nat → Nat} {i : Nat} (hi : i < A.length) (h : ¬ EvB A c i) (hb : ∀ j, j < i → EvB A c j) : fuB A c = some i := by
  unfold fuB
  rw [List.find?_range_eq_some]
  exact ⟨oddB_yes.2 h, List.mem_range.2 hi, fun j hj => by rw [oddB_no.2 (hb j hj)]; rfl⟩
theorem fuB_none {A : List NA} {c : Nat → Nat} (hb : ∀ j, j < A.length → EvB A c j) : fuB A c = none := by
  unfold fuB
  rw [List.find?_range_eq_none]
  intro j hj
  rw [oddB_no.2 (hb j hj)]; rfl
theorem fuB_all {A : List NA} {c : Nat → Nat} (h : fuB A c = none) : ∀ j, j < A.length → EvB A c j := by
  unfold fuB at h
  rw [List.find?_range_eq_none] at h
  intro j hj
  exact oddB_no.1 (by simpa using h j hj)
/-- Two ratios are the same just if the arc balances. -/
theorem ratio_even {A : List NA} {c : Nat → Nat} {j : Nat} (h1 : 1 ≤ c (fN A j)) (h2 : 1 ≤ kN A j) : ((shB (c (tN A j)) (c (fN A j))).1 = (shB (gN A j) (kN A j)).1 ∧ (shB (c (tN A j)) (c (fN A j))).2 = (shB (gN A j) (kN A j)).2) ↔ EvB A c j := by
  have v1 := shB_valid (x := c (tN A j)) h1
  have v2 := shB_valid (x := gN A j) h2
  have w1 := shB_worth (x := c (tN A j)) h1
  have w2 := shB_worth (x := gN A j) h2
  have p1 := (validB_true.1 v1).1
  have p2 := (validB_true.1 v2).1
  unfold EvB
  generalize c (tN A j) = t at *
  generalize c (fN A j) = f at *
  generalize gN A j = g at *
  generalize kN A j = k at *
  generalize (shB t f).1 = a at *
  generalize (shB t f).2 = b at *
  generalize (shB g k).1 = u at *
  generalize (shB g k).2 = v at *
  constructor
  · rintro ⟨rfl, rfl⟩
    have : ((g * f : Nat) : Int) * b = ((k * t : Nat) : Int) * b := by
      rw [Int.natCast_mul, Int.natCast_mul]
      calc (g : Int) * (f : Int) * b = ((g : Int) * b) * (f : Int) := by ac_rfl
        _ = (a * (k : Int)) * (f : Int) := by rw [w2]
        _ = (a * (f : Int)) * (k : Int) := by ac_rfl
        _ = ((t : Int) * b) * (k : Int) := by rw [w1]
        _ = (k : Int) * (t : Int) * b := by ac_rfl
    exact Int.ofNat_inj.1 (Int.eq_of_mul_eq_mul_right (by omega) this)
  · intro h
    refine valid_same v1 v2 ?_
    have eI : (g : Int) * (f : Int) = (k : Int) * (t : Int) := by rw [← Int.natCast_mul, ← Int.natCast_mul, h]
    have : a * v * ((f : Int) * (k : Int)) = u * b * ((f : Int) * (k : Int)) := by
      calc a * v * ((f : Int) * (k : Int)) = (a * (f : Int)) * (v * (k : Int)) := by ac_rfl
        _ = ((t : Int) * b) * (v * (k : Int)) := by rw [w1]
        _ = ((k : Int) * (t : Int)) * (b * v) := by ac_rfl
        _ = ((g : Int) * (f : Int)) * (b * v) := by rw [eI]
        _ = ((g : Int) * v) * ((f : Int) * b) := by ac_rfl
        _ = (u * (k : Int)) * ((f : Int) * b) := by rw [w2]
        _ = u * b * ((f : Int) * (k : Int)) := by ac_rfl
    refine Int.eq_of_mul_eq_mul_right (fun z0 => ?_) this
    rcases Int.mul_eq_zero.1 z0 with z1 | z1 <;> omega
theorem pairB_beq (x y u v : Int) : ((x == u) = true ∧ (y == v) = true ∧ x = u ∧ y = v) ∨ ((x == u) = false ∧ ¬ (x = u ∧ y = v)) ∨ ((x == u) = true ∧ (y == v) = false ∧ ¬ (x = u ∧ y = v)) := by
  by_cases h1 : x = u
  · by_cases h2 : y = v
    · exact .inl ⟨by simpa using h1, by simpa using h2, h1, h2⟩
    · exact .inr (.inr ⟨by simpa using h1, by simpa using h2, fun h => h2 h.2⟩)
  · exact .inr (.inl ⟨by simpa using h1, fun h => h1 h.1⟩)
/-- Sound arcs, as plain numbers. -/
structure SouB (A : List NA) (N : Nat) : Prop where
  ends : ∀ j, j < A.length → (nthNa A j).f = (fN A j : Int) ∧ (nthNa A j).t = (tN A j : Int) ∧ (nthNa A j).g = (gN A j : Int) ∧ (nthNa A j).k = (kN A j : Int) ∧ fN A j < N ∧ tN A j < N ∧ 1 ≤ gN A j ∧ gN A j ≤ 64 ∧ 1 ≤ kN A j ∧ kN A j ≤ 64
theorem SoundN.souB {n : NN} (h : SoundN n) : SouB n.arcs n.nodes.toNat := ⟨fun j hj => by
  have hs := h.arcs j hj
  have h1 := hs.f
  have h2 := hs.t
  have h3 := hs.g
  have h4 := hs.k
  unfold fN tN gN kN
  refine ⟨?_, ?_, ?_, ?_, ?_, ?_, ?_, ?_, ?_, ?_⟩ <;> omega⟩
set_option maxRecDepth 100000 in
set_option maxHeartbeats 16000000 in
theorem firstUnlike_any (A : List NA) (N : Nat) (c : Nat → Nat) (m : Int) (a r : Option Addr) (ac rc : Nat) (w : World) (hS : SouB A N) (hl : A.length ≤ 1000) (hc : ∀ v, v < N → 1 ≤ c v ∧ c v ≤ 9223372036854775807) (ha : AtN w a A) (hr : At w r (rowF N c)) :
    Calls Try.prog 27 #[.agg #[.int .i64 m, .slice a A.length ac], .slice r N rc] w fun e w' => e = .returned (.int .i64 (fuI A c)) ∧ Below w.heap.size w w' := by
  have b0 := (Below.refl w.heap.size w).alloc (Nat.le_refl _) (.cells #[.int .i64 m, .slice a A.length ac] 24)
  have X0 := hiddenN (blkA_new 24 w #[.int .i64 m, .slice a A.length ac])
  have B0 := hiddenN b0
  have HA := hiddenN (ha.below b0)
  have HR := hiddenN (hr.below b0)
  have HS := hiddenN hS
  have HC := hiddenN hc
  have y1 := X0.out.cell (k := 1) rfl
  simp only [List.getElem_toArray, List.getElem_cons_zero, List.getElem_cons_succ] at y1
  clear b0 ha hr hS hc X0
  obtain ⟨RE, hRE⟩ : ∃ R, (fun (e : Ending) (w' : World) => e = .returned (.int .i64 (fuI A c)) ∧ Below w.heap.size w w') = R := ⟨_, rfl⟩
  rw [hRE]
  have HRE := hiddenN hRE
  clear hRE
  go_enter Try.func27, Try.ntmps27
  go_upto_region 1 with fail
  generalize w.alloc (.cells #[.int .i64 m, .slice a A.length ac] 24) = W0 at *
  go_wp2
  go_loopg [10] A.length (fun gk v wr => ∃ j : Nat, j ≤ A.length ∧ gk = A.length - j ∧ v = .int .i64 (j : Int) ∧ Below W0.heap.size W0 wr ∧ ∀ i, i < j → EvB A c i)
  case atStart => exact ⟨0, Nat.zero_le _, rfl, rfl, Below.refl _ _, fun i hi => absurd hi (Nat.not_lt_zero _)⟩
  case round =>
    obtain ⟨j, hjN, rfl, rfl, hBr, hI⟩ := hrel
    have BR := hiddenN hBr
    have HI := hiddenN hI
    clear hBr hI y1
    by_cases hlt : j < A.length
    · have hki : (j : Int) < (A.length : Int) := by omega
      obtain ⟨e1, e2, e3, e4, hf, ht, g1, g2, k1, k2⟩ := HS.out.ends j hlt
      rcases HA.out.below BR.out with e | ⟨nb, no, en, hcn⟩
      · rw [e] at hlt; exact absurd hlt (Nat.not_lt_zero _)
      obtain ⟨a0, a1, a2, a3, a4⟩ := hcn j hlt
      rw [e1] at a0
      rw [e2] at a1
      rw [e3] at a2
      rw [e4] at a3
      have HAR := HR.out.below BR.out
      rcases HAR with e | ⟨rb, ro, er, hcr⟩
      · have := rowF_len N c
        rw [e] at this
        simp at this
        omega
      have rt := hcr (tN A j) (by rw [rowF_len]; exact ht)
      have rf := hcr (fN A j) (by rw [rowF_len]; exact hf)
      rw [rowF_nth ht] at rt
      rw [rowF_nth hf] at rf
      have RT1 := hiddenN (fun U => ratio_any (x := c (tN A j)) (y := c (fN A j)) (HC.out _ ht) (HC.out _ hf) U)
      have RT2 := hiddenN (fun U => ratio_any (x := gN A j) (y := kN A j) (by omega) (by omega) U)
      have RV := hiddenN (ratio_even (A := A) (c := c) (j := j) (HC.out _ hf).1 k1)
      have HIT : Hid (¬ EvB A c j → fuI A c = (j : Int)) := fun h => by unfold fuI; rw [fuB_hit hlt h HI.out]
      have NX : Hid (EvB A c j → ∀ i, i < j + 1 → EvB A c i) := fun h i hi => by
        by_cases e : i = j
        · rw [e]; exact h
        · exact HI.out i (by omega)
      subst en
      subst er
      clear hcn hcr e1 e2 e3 e4 g1 g2 k1 k2 HI
      have htN : (tN A j) < N := ht
      have hfN : (fN A j) < N := hf
      clear hf ht
      generalize EvB A c j = EV at *
      generalize c (tN A j) = ct at *
      generalize c (fN A j) = cf at *
      generalize tN A j = t at *
      generalize fN A j = f at *
      generalize (shB ct cf).1 = p1 at *
      generalize (shB ct cf).2 = q1 at *
      generalize (shB (gN A j) (kN A j)).1 = p2 at *
      generalize (shB (gN A j) (kN A j)).2 = q2 at *
      generalize gN A j = g at *
      generalize kN A j = k at *
      generalize (nthNa A j).s = z at *
      go_upto_region 4 with fail
      have bs := (Below.refl wr.heap.size wr).alloc (Nat.le_refl _) (.cells #[.int .i64 (f : Int), .int .i64 (t : Int), .int .i64 (g : Int), .int .i64 (k : Int), .int .i64 z] 64)
      have XS := hiddenN (blkA_new 64 wr #[.int .i64 (f : Int), .int .i64 (t : Int), .int .i64 (g : Int), .int .i64 (k : Int), .int .i64 z])
      have L1 := hiddenN (BR.out.trans (bs.mono BR.out.size))
      replace rt := cellN_later bs rt
      replace rf := cellN_later bs rf
      obtain ⟨ab, hab⟩ : ∃ q, wr.heap.size = q := ⟨_, rfl⟩
      rw [hab] at XS ⊢
      generalize wr.alloc (.cells #[.int .i64 (f : Int), .int .i64 (t : Int), .int .i64 (g : Int), .int .i64 (k : Int), .int .i64 z] 64) = W1 at *
      clear bs hab a0 a1 a2 a3 a4 BR
      have x0 := XS.out.cell (k := 0) rfl
      have x1 := XS.out.cell (k := 1) rfl
      have x2 := XS.out.cell (k := 2) rfl
      have x3 := XS.out.cell (k := 3) rfl
      simp only [List.getElem_toArray, List.getElem_cons_zero, List.getElem_cons_succ] at x0 x1 x2 x3
      clear XS
      rcases pairB_beq p1 q1 p2 q2 with ⟨z1, z2, z3⟩ | ⟨z1, z3⟩ | ⟨z1, z2, z3⟩
      · replace NX := hiddenN (NX.out (RV.out.1 z3))
        clear HIT RV z3
        refine wp_region_gen [] (fun d_ i u_ z_ => match i with
            | 0 => z_ = .slice (some ⟨rb, ro, none⟩) N rc
            | 1 => z_ = .pointer (some ⟨ab, 1, none⟩)
            | 2 => z_ = .int .i64 (t : Int)
            | 3 => z_ = .pointer (some ⟨rb, ro + t, none⟩)
            | 4 => z_ = .int .i64 (ct : Int)
            | 5 => z_ = .slice (some ⟨rb, ro, none⟩) N rc
            | 6 => z_ = .pointer (some ⟨ab, 0, none⟩)
            | 7 => z_ = .int .i64 (f : Int)
            | 8 => z_ = .pointer (some ⟨rb, ro + f, none⟩)
            | 9 => z_ = .int .i64 (cf : Int)
            | 10 => z_ = .agg #[.int .i64 p1, .int .i64 q1]
            | 11 => z_ = .pointer (some ⟨ab, 2, none⟩)
            | 12 => z_ = .int .i64 (g : Int)
            | 13 => z_ = .pointer (some ⟨ab, 3, none⟩)
            | 14 => z_ = .int .i64 (k : Int)
            | 15 => z_ = .agg #[.int .i64 p2, .int .i64 q2]
            | 16 => z_ = .bool false
            | _ => True) (fun d_ u_ => Below W1.heap.size W1 u_) (by kernel_rfl) (by kernel_rfl) (by kernel_rfl) ?_ ?_ ?_ ?_ ?_ ?_ (by kernel_rfl)
        · intro d_ i w_ v_ w' h hb
          match i, h with
          | 0, h => exact h
          | 1, h => exact h
          | 2, h => exact h
          | 3, h => exact h
          | 4, h => exact h
          | 5, h => exact h
          | 6, h => exact h
          | 7, h => exact h
          | 8, h => exact h
          | 9, h => exact h
          | 10, h => exact h
          | 11, h => exact h
          | 12, h => exact h
          | 13, h => exact h
          | 14, h => exact h
          | 15, h => exact h
          | 16, h => exact h
          | _ + 17, _ => trivial
        · intro d_ u_ u' h hb
          exact h.trans (hb.mono h.size)
        · exact Below.refl _ _
        · intro d_ i o ρ w' hm ho hf hg hC hcs hfs hfr hdep
          match i, hm, ho, hf, hg, hfr, hdep with
          | 0, _, ho, hf, hg, hfr, hdep =>
            simp only [gTA, gCZ, gSI] at ho
            subst ho
            refine ⟨fun _ => ?_, fun hw => absurd (show true = false from hw) (by decide)⟩
            have ts : ρ (.tmp 1) = .slice (some ⟨rb, ro, none⟩) N rc := hfr 1 (by kernel_rfl)
            simp [go_sem, ts]
            exact ⟨Below.refl _ _, rfl⟩
          | 1, _, ho, hf, hg, hfr, hdep =>
            simp only [gTA, gCZ, gCS, gSI] at ho
            subst ho
            refine ⟨fun _ => ?_, fun hw => absurd (show true = false from hw) (by decide)⟩
            have ts : ρ (.tmp 6) = .pointer (some ⟨ab, 0, none⟩) := hfr 6 (by kernel_rfl)
            simp [go_sem, ts]
            exact ⟨Below.refl _ _, rfl⟩
          | 2, _, ho, hf, hg, hfr, hdep =>
            simp only [gTA, gCZ, gCS, gSI] at ho
            subst ho
            refine ⟨fun _ => ?_, fun hw => absurd (show true = false from hw) (by decide)⟩
            have kc := cellN_later hC x1
            have d0 : ρ (.tmp 16) = .pointer (some ⟨ab, 1, none⟩) := hdep 1 16 (by kernel_rfl) (by kernel_rfl)
            simp [go_sem, d0, kc]
            exact ⟨Below.refl _ _, rfl⟩
          | 3, _, ho, hf, hg, hfr, hdep =>
            simp only [gTA, gCZ, gCS, gSI] at ho
            subst ho
            refine ⟨fun _ => ?_, fun hw => absurd (show true = false from hw) (by decide)⟩
            have d0 : ρ (.tmp 15) = .slice (some ⟨rb, ro, none⟩) N rc := hdep 0 15 (by kernel_rfl) (by kernel_rfl)
            have d1 : ρ (.tmp 17) = .int .i64 (t : Int) := hdep 2 17 (by kernel_rfl) (by kernel_rfl)
            simp [go_sem, d0, d1, htN]
            exact ⟨Below.refl _ _, rfl⟩
          | 4, _, ho, hf, hg, hfr, hdep =>
            simp only [gTA, gCZ, gCS, gSI] at ho
            subst ho
            refine ⟨fun _ => ?_, fun hw => absurd (show true = false from hw) (by decide)⟩
            have kc := cellN_later hC rt
            have d0 : ρ (.tmp 18) = .pointer (some ⟨rb, ro + t, none⟩) := hdep 3 18 (by kernel_rfl) (by kernel_rfl)
            simp [go_sem, d0, kc]
            exact ⟨Below.refl _ _, rfl⟩
          | 5, _, ho, hf, hg, hfr, hdep =>
            simp only [gTA, gCZ, gCS, gSI] at ho
            subst ho
            refine ⟨fun _ => ?_, fun hw => absurd (show true = false from hw) (by decide)⟩
            have ts : ρ (.tmp 1) = .slice (some ⟨rb, ro, none⟩) N rc := hfr 1 (by kernel_rfl)
            simp [go_sem, ts]
            exact ⟨Below.refl _ _, rfl⟩
          | 6, _, ho, hf, hg, hfr, hdep =>
            simp only [gTA, gCZ, gCS, gSI] at ho
            subst ho
            refine ⟨fun _ => ?_, fun hw => absurd (show true = false from hw) (by decide)⟩
            have ts : ρ (.tmp 6) = .pointer (some ⟨ab, 0, none⟩) := hfr 6 (by kernel_rfl)
            simp [go_sem, ts]
            exact ⟨Below.refl _ _, rfl⟩
          | 7, _, ho, hf, hg, hfr, hdep =>
            simp only [gTA, gCZ, gCS, gSI] at ho
            subst ho
            refine ⟨fun _ => ?_, fun hw => absurd (show true = false from hw) (by decide)⟩
            have kc := cellN_later hC x0
            have d0 : ρ (.tmp 21) = .pointer (some ⟨ab, 0, none⟩) := hdep 6 21 (by kernel_rfl) (by kernel_rfl)
            simp [go_sem, d0, kc]
            exact ⟨Below.refl _ _, rfl⟩
          | 8, _, ho, hf, hg, hfr, hdep =>
            simp only [gTA, gCZ, gCS, gSI] at ho
            subst ho
            refine ⟨fun _ => ?_, fun hw => absurd (show true = false from hw) (by decide)⟩
            have d0 : ρ (.tmp 20) = .slice (some ⟨rb, ro, none⟩) N rc := hdep 5 20 (by kernel_rfl) (by kernel_rfl)
            have d1 : ρ (.tmp 22) = .int .i64 (f : Int) := hdep 7 22 (by kernel_rfl) (by kernel_rfl)
            simp [go_sem, d0, d1, hfN]
            exact ⟨Below.refl _ _, rfl⟩
          | 9, _, ho, hf, hg, hfr, hdep =>
            simp only [gTA, gCZ, gCS, gSI] at ho
            subst ho
            refine ⟨fun _ => ?_, fun hw => absurd (show true = false from hw) (by decide)⟩
            have kc := cellN_later hC rf
            have d0 : ρ (.tmp 23) = .pointer (some ⟨rb, ro + f, none⟩) := hdep 8 23 (by kernel_rfl) (by kernel_rfl)
            simp [go_sem, d0, kc]
            exact ⟨Below.refl _ _, rfl⟩
          | 10, _, ho, hf, hg, hfr, hdep =>
            simp only [gTA, gCZ, gCS, gSI] at ho
            subst ho
            refine ⟨fun _ => ?_, fun hw => absurd (show true = false from hw) (by decide)⟩
            have t0 : ρ (.tmp 19) = .int .i64 (ct : Int) := hdep 4 19 (by kernel_rfl) (by kernel_rfl)
            have t1 : ρ (.tmp 24) = .int .i64 (cf : Int) := hdep 9 24 (by kernel_rfl) (by kernel_rfl)
            simp [go_sem, t0, t1, hfs]
            exact ⟨rfl, (RT1.out w').mono fun e' w'' hh => ⟨_, hh.1, hh.2, rfl⟩⟩
          | 11, _, ho, hf, hg, hfr, hdep =>
            simp only [gTA, gCZ, gCS, gSI] at ho
            subst ho
            refine ⟨fun _ => ?_, fun hw => absurd (show true = false from hw) (by decide)⟩
            have ts : ρ (.tmp 6) = .pointer (some ⟨ab, 0, none⟩) := hfr 6 (by kernel_rfl)
            simp [go_sem, ts]
            exact ⟨Below.refl _ _, rfl⟩
          | 12, _, ho, hf, hg, hfr, hdep =>
            simp only [gTA, gCZ, gCS, gSI] at ho
            subst ho
            refine ⟨fun _ => ?_, fun hw => absurd (show true = false from hw) (by decide)⟩
            have kc := cellN_later hC x2
            have d0 : ρ (.tmp 26) = .pointer (some ⟨ab, 2, none⟩) := hdep 11 26 (by kernel_rfl) (by kernel_rfl)
            simp [go_sem, d0, kc]
            exact ⟨Below.refl _ _, rfl⟩
          | 13, _, ho, hf, hg, hfr, hdep =>
            simp only [gTA, gCZ, gCS, gSI] at ho
            subst ho
            refine ⟨fun _ => ?_, fun hw => absurd (show true = false from hw) (by decide)⟩
            have ts : ρ (.tmp 6) = .pointer (some ⟨ab, 0, none⟩) := hfr 6 (by kernel_rfl)
            simp [go_sem, ts]
            exact ⟨Below.refl _ _, rfl⟩
          | 14, _, ho, hf, hg, hfr, hdep =>
            simp only [gTA, gCZ, gCS, gSI] at ho
            subst ho
            refine ⟨fun _ => ?_, fun hw => absurd (show true = false from hw) (by decide)⟩
            have kc := cellN_later hC x3
            have d0 : ρ (.tmp 28) = .pointer (some ⟨ab, 3, none⟩) := hdep 13 28 (by kernel_rfl) (by kernel_rfl)
            simp [go_sem, d0, kc]
            exact ⟨Below.refl _ _, rfl⟩
          | 15, _, ho, hf, hg, hfr, hdep =>
            simp only [gTA, gCZ, gCS, gSI] at ho
            subst ho
            refine ⟨fun _ => ?_, fun hw => absurd (show true = false from hw) (by decide)⟩
            have t0 : ρ (.tmp 27) = .int .i64 (g : Int) := hdep 12 27 (by kernel_rfl) (by kernel_rfl)
            have t1 : ρ (.tmp 29) = .int .i64 (k : Int) := hdep 14 29 (by kernel_rfl) (by kernel_rfl)
            simp [go_sem, t0, t1, hfs]
            exact ⟨rfl, (RT2.out w').mono fun e' w'' hh => ⟨_, hh.1, hh.2, rfl⟩⟩
          | 16, _, ho, hf, hg, hfr, hdep =>
            simp only [gTA, gCZ, gCS, gSI] at ho
            subst ho
            refine ⟨fun _ => ?_, fun hw => absurd (show true = false from hw) (by decide)⟩
            have d0 : ρ (.tmp 25) = .agg #[.int .i64 p1, .int .i64 q1] := hdep 10 25 (by kernel_rfl) (by kernel_rfl)
            have d1 : ρ (.tmp 30) = .agg #[.int .i64 p2, .int .i64 q2] := hdep 15 30 (by kernel_rfl) (by kernel_rfl)
            simp [go_sem, d0, d1, z1, z2]
            exact ⟨Below.refl _ _, rfl⟩
          | n + 17, _, ho, _, _, _, _ => simp at ho
        · intro d_ i o ρ w' hm ho h0 hf hg hC hcs hfs hfr hdep
          exact absurd hm (by simp)
        · intro U1 W2 hC2 hS
          have e0 : U1 0 = .slice (some ⟨rb, ro, none⟩) N rc := hS 0 (by decide) (by intro h; cases h)
          have e1 : U1 1 = .pointer (some ⟨ab, 1, none⟩) := hS 1 (by decide) (by intro h; cases h)
          have e2 : U1 2 = .int .i64 (t : Int) := hS 2 (by decide) (by intro h; cases h)
          have e3 : U1 3 = .pointer (some ⟨rb, ro + t, none⟩) := hS 3 (by decide) (by intro h; cases h)
          have e4 : U1 4 = .int .i64 (ct : Int) := hS 4 (by decide) (by intro h; cases h)
          have e5 : U1 5 = .slice (some ⟨rb, ro, none⟩) N rc := hS 5 (by decide) (by intro h; cases h)
          have e6 : U1 6 = .pointer (some ⟨ab, 0, none⟩) := hS 6 (by decide) (by intro h; cases h)
          have e7 : U1 7 = .int .i64 (f : Int) := hS 7 (by decide) (by intro h; cases h)
          have e8 : U1 8 = .pointer (some ⟨rb, ro + f, none⟩) := hS 8 (by decide) (by intro h; cases h)
          have e9 : U1 9 = .int .i64 (cf : Int) := hS 9 (by decide) (by intro h; cases h)
          have e10 : U1 10 = .agg #[.int .i64 p1, .int .i64 q1] := hS 10 (by decide) (by intro h; cases h)
          have e11 : U1 11 = .pointer (some ⟨ab, 2, none⟩) := hS 11 (by decide) (by intro h; cases h)
          have e12 : U1 12 = .int .i64 (g : Int) := hS 12 (by decide) (by intro h; cases h)
          have e13 : U1 13 = .pointer (some ⟨ab, 3, none⟩) := hS 13 (by decide) (by intro h; cases h)
          have e14 : U1 14 = .int .i64 (k : Int) := hS 14 (by decide) (by intro h; cases h)
          have e15 : U1 15 = .agg #[.int .i64 p2, .int .i64 q2] := hS 15 (by decide) (by intro h; cases h)
          have e16 : U1 16 = .bool false := hS 16 (by decide) (by intro h; cases h)
          simp only [puts, e0, e1, e2, e3, e4, e5, e6, e7, e8, e9, e10, e11, e12, e13, e14, e15, e16]
          simp only [Act.put, List.setIfInBounds_toArray, List.set_cons_zero, List.set_cons_succ]
          clear hS e0 e1 e2 e3 e4 e5 e6 e7 e8 e9 e10 e11 e12 e13 e14 e15 e16
          have L2 := hiddenN (L1.out.trans (hC2.mono L1.out.size))
          clear hC2 x0 x1 x2 x3 rt rf
          go_wp2
          go_roundg (A.length - (j + 1))
          case measure => omega
          case rel => exact ⟨j + 1, by omega, rfl, by go_num, L2.out, NX.out⟩
      · replace HIT := hiddenN (HIT.out fun h => z3 (RV.out.2 h))
        clear NX RV z3
        refine wp_region_gen [] (fun d_ i u_ z_ => match i with
            | 0 => z_ = .slice (some ⟨rb, ro, none⟩) N rc
            | 1 => z_ = .pointer (some ⟨ab, 1, none⟩)
            | 2 => z_ = .int .i64 (t : Int)
            | 3 => z_ = .pointer (some ⟨rb, ro + t, none⟩)
            | 4 => z_ = .int .i64 (ct : Int)
            | 5 => z_ = .slice (some ⟨rb, ro, none⟩) N rc
            | 6 => z_ = .pointer (some ⟨ab, 0, none⟩)
            | 7 => z_ = .int .i64 (f : Int)
            | 8 => z_ = .pointer (some ⟨rb, ro + f, none⟩)
            | 9 => z_ = .int .i64 (cf : Int)
            | 10 => z_ = .agg #[.int .i64 p1, .int .i64 q1]
            | 11 => z_ = .pointer (some ⟨ab, 2, none⟩)
            | 12 => z_ = .int .i64 (g : Int)
            | 13 => z_ = .pointer (some ⟨ab, 3, none⟩)
            | 14 => z_ = .int .i64 (k : Int)
            | 15 => z_ = .agg #[.int .i64 p2, .int .i64 q2]
            | 16 => z_ = .bool true
            | _ => True) (fun d_ u_ => Below W1.heap.size W1 u_) (by kernel_rfl) (by kernel_rfl) (by kernel_rfl) ?_ ?_ ?_ ?_ ?_ ?_ (by kernel_rfl)
        · intro d_ i w_ v_ w' h hb
          match i, h with
          | 0, h => exact h
          | 1, h => exact h
          | 2, h => exact h
          | 3, h => exact h
          | 4, h => exact h
          | 5, h => exact h
          | 6, h => exact h
          | 7, h => exact h
          | 8, h => exact h
          | 9, h => exact h
          | 10, h => exact h
          | 11, h => exact h
          | 12, h => exact h
          | 13, h => exact h
          | 14, h => exact h
          | 15, h => exact h
          | 16, h => exact h
          | _ + 17, _ => trivial
        · intro d_ u_ u' h hb
          exact h.trans (hb.mono h.size)
        · exact Below.refl _ _
        · intro d_ i o ρ w' hm ho hf hg hC hcs hfs hfr hdep
          match i, hm, ho, hf, hg, hfr, hdep with
          | 0, _, ho, hf, hg, hfr, hdep =>
            simp only [gTA, gCZ, gSI] at ho
            subst ho
            refine ⟨fun _ => ?_, fun hw => absurd (show true = false from hw) (by decide)⟩
            have ts : ρ (.tmp 1) = .slice (some ⟨rb, ro, none⟩) N rc := hfr 1 (by kernel_rfl)
            simp [go_sem, ts]
            exact ⟨Below.refl _ _, rfl⟩
          | 1, _, ho, hf, hg, hfr, hdep =>
            simp only [gTA, gCZ, gCS, gSI] at ho
            subst ho
            refine ⟨fun _ => ?_, fun hw => absurd (show true = false from hw) (by decide)⟩
            have ts : ρ (.tmp 6) = .pointer (some ⟨ab, 0, none⟩) := hfr 6 (by kernel_rfl)
            simp [go_sem, ts]
            exact ⟨Below.refl _ _, rfl⟩
          | 2, _, ho, hf, hg, hfr, hdep =>
            simp only [gTA, gCZ, gCS, gSI] at ho
            subst ho
            refine ⟨fun _ => ?_, fun hw => absurd (show true = false from hw) (by decide)⟩
            have kc := cellN_later hC x1
            have d0 : ρ (.tmp 16) = .pointer (some ⟨ab, 1, none⟩) := hdep 1 16 (by kernel_rfl) (by kernel_rfl)
            simp [go_sem, d0, kc]
            exact ⟨Below.refl _ _, rfl⟩
          | 3, _, ho, hf, hg, hfr, hdep =>
            simp only [gTA, gCZ, gCS, gSI] at ho
            subst ho
            refine ⟨fun _ => ?_, fun hw => absurd (show true = false from hw) (by decide)⟩
            have d0 : ρ (.tmp 15) = .slice (some ⟨rb, ro, none⟩) N rc := hdep 0 15 (by kernel_rfl) (by kernel_rfl)
            have d1 : ρ (.tmp 17) = .int .i64 (t : Int) := hdep 2 17 (by kernel_rfl) (by kernel_rfl)
            simp [go_sem, d0, d1, htN]
            exact ⟨Below.refl _ _, rfl⟩
          | 4, _, ho, hf, hg, hfr, hdep =>
            simp only [gTA, gCZ, gCS, gSI] at ho
            subst ho
            refine ⟨fun _ => ?_, fun hw => absurd (show true = false from hw) (by decide)⟩
            have kc := cellN_later hC rt
            have d0 : ρ (.tmp 18) = .pointer (some ⟨rb, ro + t, none⟩) := hdep 3 18 (by kernel_rfl) (by kernel_rfl)
            simp [go_sem, d0, kc]
            exact ⟨Below.refl _ _, rfl⟩
          | 5, _, ho, hf, hg, hfr, hdep =>
            simp only [gTA, gCZ, gCS, gSI] at ho
            subst ho
            refine ⟨fun _ => ?_, fun hw => absurd (show true = false from hw) (by decide)⟩
            have ts : ρ (.tmp 1) = .slice (some ⟨rb, ro, none⟩) N rc := hfr 1 (by kernel_rfl)
            simp [go_sem, ts]
            exact ⟨Below.refl _ _, rfl⟩
          | 6, _, ho, hf, hg, hfr, hdep =>
            simp only [gTA, gCZ, gCS, gSI] at ho
            subst ho
            refine ⟨fun _ => ?_, fun hw => absurd (show true = false from hw) (by decide)⟩
            have ts : ρ (.tmp 6) = .pointer (some ⟨ab, 0, none⟩) := hfr 6 (by kernel_rfl)
            simp [go_sem, ts]
            exact ⟨Below.refl _ _, rfl⟩
          | 7, _, ho, hf, hg, hfr, hdep =>
            simp only [gTA, gCZ, gCS, gSI] at ho
            subst ho
            refine ⟨fun _ => ?_, fun hw => absurd (show true = false from hw) (by decide)⟩
            have kc := cellN_later hC x0
            have d0 : ρ (.tmp 21) = .pointer (some ⟨ab, 0, none⟩) := hdep 6 21 (by kernel_rfl) (by kernel_rfl)
            simp [go_sem, d0, kc]
            exact ⟨Below.refl _ _, rfl⟩
          | 8, _, ho, hf, hg, hfr, hdep =>
            simp only [gTA, gCZ, gCS, gSI] at ho
            subst ho
            refine ⟨fun _ => ?_, fun hw => absurd (show true = false from hw) (by decide)⟩
            have d0 : ρ (.tmp 20) = .slice (some ⟨rb, ro, none⟩) N rc := hdep 5 20 (by kernel_rfl) (by kernel_rfl)
            have d1 : ρ (.tmp 22) = .int .i64 (f : Int) := hdep 7 22 (by kernel_rfl) (by kernel_rfl)
            simp [go_sem, d0, d1, hfN]
            exact ⟨Below.refl _ _, rfl⟩
          | 9, _, ho, hf, hg, hfr, hdep =>
            simp only [gTA, gCZ, gCS, gSI] at ho
            subst ho
            refine ⟨fun _ => ?_, fun hw => absurd (show true = false from hw) (by decide)⟩
            have kc := cellN_later hC rf
            have d0 : ρ (.tmp 23) = .pointer (some ⟨rb, ro + f, none⟩) := hdep 8 23 (by kernel_rfl) (by kernel_rfl)
            simp [go_sem, d0, kc]
            exact ⟨Below.refl _ _, rfl⟩
          | 10, _, ho, hf, hg, hfr, hdep =>
            simp only [gTA, gCZ, gCS, gSI] at ho
            subst ho
            refine ⟨fun _ => ?_, fun hw => absurd (show true = false from hw) (by decide)⟩
            have t0 : ρ (.tmp 19) = .int .i64 (ct : Int) := hdep 4 19 (by kernel_rfl) (by kernel_rfl)
            have t1 : ρ (.tmp 24) = .int .i64 (cf : Int) := hdep 9 24 (by kernel_rfl) (by kernel_rfl)
            simp [go_sem, t0, t1, hfs]
            exact ⟨rfl, (RT1.out w').mono fun e' w'' hh => ⟨_, hh.1, hh.2, rfl⟩⟩
          | 11, _, ho, hf, hg, hfr, hdep =>
            simp only [gTA, gCZ, gCS, gSI] at ho
            subst ho
            refine ⟨fun _ => ?_, fun hw => absurd (show true = false from hw) (by decide)⟩
            have ts : ρ (.tmp 6) = .pointer (some ⟨ab, 0, none⟩) := hfr 6 (by kernel_rfl)
            simp [go_sem, ts]
            exact ⟨Below.refl _ _, rfl⟩
          | 12, _, ho, hf, hg, hfr, hdep =>
            simp only [gTA, gCZ, gCS, gSI] at ho
            subst ho
            refine ⟨fun _ => ?_, fun hw => absurd (show true = false from hw) (by decide)⟩
            have kc := cellN_later hC x2
            have d0 : ρ (.tmp 26) = .pointer (some ⟨ab, 2, none⟩) := hdep 11 26 (by kernel_rfl) (by kernel_rfl)
            simp [go_sem, d0, kc]
            exact ⟨Below.refl _ _, rfl⟩
          | 13, _, ho, hf, hg, hfr, hdep =>
            simp only [gTA, gCZ, gCS, gSI] at ho
            subst ho
            refine ⟨fun _ => ?_, fun hw => absurd (show true = false from hw) (by decide)⟩
            have ts : ρ (.tmp 6) = .pointer (some ⟨ab, 0, none⟩) := hfr 6 (by kernel_rfl)
            simp [go_sem, ts]
            exact ⟨Below.refl _ _, rfl⟩
          | 14, _, ho, hf, hg, hfr, hdep =>
            simp only [gTA, gCZ, gCS, gSI] at ho
            subst ho
            refine ⟨fun _ => ?_, fun hw => absurd (show true = false from hw) (by decide)⟩
            have kc := cellN_later hC x3
            have d0 : ρ (.tmp 28) = .pointer (some ⟨ab, 3, none⟩) := hdep 13 28 (by kernel_rfl) (by kernel_rfl)
            simp [go_sem, d0, kc]
            exact ⟨Below.refl _ _, rfl⟩
          | 15, _, ho, hf, hg, hfr, hdep =>
            simp only [gTA, gCZ, gCS, gSI] at ho
            subst ho
            refine ⟨fun _ => ?_, fun hw => absurd (show true = false from hw) (by decide)⟩
            have t0 : ρ (.tmp 27) = .int .i64 (g : Int) := hdep 12 27 (by kernel_rfl) (by kernel_rfl)
            have t1 : ρ (.tmp 29) = .int .i64 (k : Int) := hdep 14 29 (by kernel_rfl) (by kernel_rfl)
            simp [go_sem, t0, t1, hfs]
            exact ⟨rfl, (RT2.out w').mono fun e' w'' hh => ⟨_, hh.1, hh.2, rfl⟩⟩
          | 16, _, ho, hf, hg, hfr, hdep =>
            simp only [gTA, gCZ, gCS, gSI] at ho
            subst ho
            refine ⟨fun _ => ?_, fun hw => absurd (show true = false from hw) (by decide)⟩
            have d0 : ρ (.tmp 25) = .agg #[.int .i64 p1, .int .i64 q1] := hdep 10 25 (by kernel_rfl) (by kernel_rfl)
            have d1 : ρ (.tmp 30) = .agg #[.int .i64 p2, .int .i64 q2] := hdep 15 30 (by kernel_rfl) (by kernel_rfl)
            simp [go_sem, d0, d1, z1]
            exact ⟨Below.refl _ _, rfl⟩
          | n + 17, _, ho, _, _, _, _ => simp at ho
        · intro d_ i o ρ w' hm ho h0 hf hg hC hcs hfs hfr hdep
          exact absurd hm (by simp)
        · intro U1 W2 hC2 hS
          have e0 : U1 0 = .slice (some ⟨rb, ro, none⟩) N rc := hS 0 (by decide) (by intro h; cases h)
          have e1 : U1 1 = .pointer (some ⟨ab, 1, none⟩) := hS 1 (by decide) (by intro h; cases h)
          have e2 : U1 2 = .int .i64 (t : Int) := hS 2 (by decide) (by intro h; cases h)
          have e3 : U1 3 = .pointer (some ⟨rb, ro + t, none⟩) := hS 3 (by decide) (by intro h; cases h)
          have e4 : U1 4 = .int .i64 (ct : Int) := hS 4 (by decide) (by intro h; cases h)
          have e5 : U1 5 = .slice (some ⟨rb, ro, none⟩) N rc := hS 5 (by decide) (by intro h; cases h)
          have e6 : U1 6 = .pointer (some ⟨ab, 0, none⟩) := hS 6 (by decide) (by intro h; cases h)
          have e7 : U1 7 = .int .i64 (f : Int) := hS 7 (by decide) (by intro h; cases h)
          have e8 : U1 8 = .pointer (some ⟨rb, ro + f, none⟩) := hS 8 (by decide) (by intro h; cases h)
          have e9 : U1 9 = .int .i64 (cf : Int) := hS 9 (by decide) (by intro h; cases h)
          have e10 : U1 10 = .agg #[.int .i64 p1, .int .i64 q1] := hS 10 (by decide) (by intro h; cases h)
          have e11 : U1 11 = .pointer (some ⟨ab, 2, none⟩) := hS 11 (by decide) (by intro h; cases h)
          have e12 : U1 12 = .int .i64 (g : Int) := hS 12 (by decide) (by intro h; cases h)
          have e13 : U1 13 = .pointer (some ⟨ab, 3, none⟩) := hS 13 (by decide) (by intro h; cases h)
          have e14 : U1 14 = .int .i64 (k : Int) := hS 14 (by decide) (by intro h; cases h)
          have e15 : U1 15 = .agg #[.int .i64 p2, .int .i64 q2] := hS 15 (by decide) (by intro h; cases h)
          have e16 : U1 16 = .bool true := hS 16 (by decide) (by intro h; cases h)
          simp only [puts, e0, e1, e2, e3, e4, e5, e6, e7, e8, e9, e10, e11, e12, e13, e14, e15, e16]
          simp only [Act.put, List.setIfInBounds_toArray, List.set_cons_zero, List.set_cons_succ]
          clear hS e0 e1 e2 e3 e4 e5 e6 e7 e8 e9 e10 e11 e12 e13 e14 e15 e16
          have L2 := hiddenN (L1.out.trans (hC2.mono L1.out.size))
          clear hC2 x0 x1 x2 x3 rt rf
          go_wp2
          rw [← HRE.out, HIT.out]
          exact ⟨rfl, B0.out.trans (L2.out.mono B0.out.size)⟩
      · replace HIT := hiddenN (HIT.out fun h => z3 (RV.out.2 h))
        clear NX RV z3
        refine wp_region_gen [] (fun d_ i u_ z_ => match i with
            | 0 => z_ = .slice (some ⟨rb, ro, none⟩) N rc
            | 1 => z_ = .pointer (some ⟨ab, 1, none⟩)
            | 2 => z_ = .int .i64 (t : Int)
            | 3 => z_ = .pointer (some ⟨rb, ro + t, none⟩)
            | 4 => z_ = .int .i64 (ct : Int)
            | 5 => z_ = .slice (some ⟨rb, ro, none⟩) N rc
            | 6 => z_ = .pointer (some ⟨ab, 0, none⟩)
            | 7 => z_ = .int .i64 (f : Int)
            | 8 => z_ = .pointer (some ⟨rb, ro + f, none⟩)
            | 9 => z_ = .int .i64 (cf : Int)
            | 10 => z_ = .agg #[.int .i64 p1, .int .i64 q1]
            | 11 => z_ = .pointer (some ⟨ab, 2, none⟩)
            | 12 => z_ = .int .i64 (g : Int)
            | 13 => z_ = .pointer (some ⟨ab, 3, none⟩)
            | 14 => z_ = .int .i64 (k : Int)
            | 15 => z_ = .agg #[.int .i64 p2, .int .i64 q2]
            | 16 => z_ = .bool true
            | _ => True) (fun d_ u_ => Below W1.heap.size W1 u_) (by kernel_rfl) (by kernel_rfl) (by kernel_rfl) ?_ ?_ ?_ ?_ ?_ ?_ (by kernel_rfl)
        · intro d_ i w_ v_ w' h hb
          match i, h with
          | 0, h => exact h
          | 1, h => exact h
          | 2, h => exact h
          | 3, h => exact h
          | 4, h => exact h
          | 5, h => exact h
          | 6, h => exact h
          | 7, h => exact h
          | 8, h => exact h
          | 9, h => exact h
          | 10, h => exact h
          | 11, h => exact h
          | 12, h => exact h
          | 13, h => exact h
          | 14, h => exact h
          | 15, h => exact h
          | 16, h => exact h
          | _ + 17, _ => trivial
        · intro d_ u_ u' h hb
          exact h.trans (hb.mono h.size)
        · exact Below.refl _ _
        · intro d_ i o ρ w' hm ho hf hg hC hcs hfs hfr hdep
          match i, hm, ho, hf, hg, hfr, hdep with
          | 0, _, ho, hf, hg, hfr, hdep =>
            simp only [gTA, gCZ, gSI] at ho
            subst ho
            refine ⟨fun _ => ?_, fun hw => absurd (show true = false from hw) (by decide)⟩
            have ts : ρ (.tmp 1) = .slice (some ⟨rb, ro, none⟩) N rc := hfr 1 (by kernel_rfl)
            simp [go_sem, ts]
            exact ⟨Below.refl _ _, rfl⟩
          | 1, _, ho, hf, hg, hfr, hdep =>
            simp only [gTA, gCZ, gCS, gSI] at ho
            subst ho
            refine ⟨fun _ => ?_, fun hw => absurd (show true = false from hw) (by decide)⟩
            have ts : ρ (.tmp 6) = .pointer (some ⟨ab, 0, none⟩) := hfr 6 (by kernel_rfl)
            simp [go_sem, ts]
            exact ⟨Below.refl _ _, rfl⟩
          | 2, _, ho, hf, hg, hfr, hdep =>
            simp only [gTA, gCZ, gCS, gSI] at ho
            subst ho
            refine ⟨fun _ => ?_, fun hw => absurd (show true = false from hw) (by decide)⟩
            have kc := cellN_later hC x1
            have d0 : ρ (.tmp 16) = .pointer (some ⟨ab, 1, none⟩) := hdep 1 16 (by kernel_rfl) (by kernel_rfl)
            simp [go_sem, d0, kc]
            exact ⟨Below.refl _ _, rfl⟩
          | 3, _, ho, hf, hg, hfr, hdep =>
            simp only [gTA, gCZ, gCS, gSI] at ho
            subst ho
            refine ⟨fun _ => ?_, fun hw => absurd (show true = false from hw) (by decide)⟩
            have d0 : ρ (.tmp 15) = .slice (some ⟨rb, ro, none⟩) N rc := hdep 0 15 (by kernel_rfl) (by kernel_rfl)
            have d1 : ρ (.tmp 17) = .int .i64 (t : Int) := hdep 2 17 (by kernel_rfl) (by kernel_rfl)
            simp [go_sem, d0, d1, htN]
            exact ⟨Below.refl _ _, rfl⟩
          | 4, _, ho, hf, hg, hfr, hdep =>
            simp only [gTA, gCZ, gCS, gSI] at ho
            subst ho
            refine ⟨fun _ => ?_, fun hw => absurd (show true = false from hw) (by decide)⟩
            have kc := cellN_later hC rt
            have d0 : ρ (.tmp 18) = .pointer (some ⟨rb, ro + t, none⟩) := hdep 3 18 (by kernel_rfl) (by kernel_rfl)
            simp [go_sem, d0, kc]
            exact ⟨Below.refl _ _, rfl⟩
          | 5, _, ho, hf, hg, hfr, hdep =>
            simp only [gTA, gCZ, gCS, gSI] at ho
            subst ho
            refine ⟨fun _ => ?_, fun hw => absurd (show true = false from hw) (by decide)⟩
            have ts : ρ (.tmp 1) = .slice (some ⟨rb, ro, none⟩) N rc := hfr 1 (by kernel_rfl)
            simp [go_sem, ts]
            exact ⟨Below.refl _ _, rfl⟩
          | 6, _, ho, hf, hg, hfr, hdep =>
            simp only [gTA, gCZ, gCS, gSI] at ho
            subst ho
            refine ⟨fun _ => ?_, fun hw => absurd (show true = false from hw) (by decide)⟩
            have ts : ρ (.tmp 6) = .pointer (some ⟨ab, 0, none⟩) := hfr 6 (by kernel_rfl)
            simp [go_sem, ts]
            exact ⟨Below.refl _ _, rfl⟩
          | 7, _, ho, hf, hg, hfr, hdep =>
            simp only [gTA, gCZ, gCS, gSI] at ho
            subst ho
            refine ⟨fun _ => ?_, fun hw => absurd (show true = false from hw) (by decide)⟩
            have kc := cellN_later hC x0
            have d0 : ρ (.tmp 21) = .pointer (some ⟨ab, 0, none⟩) := hdep 6 21 (by kernel_rfl) (by kernel_rfl)
            simp [go_sem, d0, kc]
            exact ⟨Below.refl _ _, rfl⟩
          | 8, _, ho, hf, hg, hfr, hdep =>
            simp only [gTA, gCZ, gCS, gSI] at ho
            subst ho
            refine ⟨fun _ => ?_, fun hw => absurd (show true = false from hw) (by decide)⟩
            have d0 : ρ (.tmp 20) = .slice (some ⟨rb, ro, none⟩) N rc := hdep 5 20 (by kernel_rfl) (by kernel_rfl)
            have d1 : ρ (.tmp 22) = .int .i64 (f : Int) := hdep 7 22 (by kernel_rfl) (by kernel_rfl)
            simp [go_sem, d0, d1, hfN]
            exact ⟨Below.refl _ _, rfl⟩
          | 9, _, ho, hf, hg, hfr, hdep =>
            simp only [gTA, gCZ, gCS, gSI] at ho
            subst ho
            refine ⟨fun _ => ?_, fun hw => absurd (show true = false from hw) (by decide)⟩
            have kc := cellN_later hC rf
            have d0 : ρ (.tmp 23) = .pointer (some ⟨rb, ro + f, none⟩) := hdep 8 23 (by kernel_rfl) (by kernel_rfl)
            simp [go_sem, d0, kc]
            exact ⟨Below.refl _ _, rfl⟩
          | 10, _, ho, hf, hg, hfr, hdep =>
            simp only [gTA, gCZ, gCS, gSI] at ho
            subst ho
            refine ⟨fun _ => ?_, fun hw => absurd (show true = false from hw) (by decide)⟩
            have t0 : ρ (.tmp 19) = .int .i64 (ct : Int) := hdep 4 19 (by kernel_rfl) (by kernel_rfl)
            have t1 : ρ (.tmp 24) = .int .i64 (cf : Int) := hdep 9 24 (by kernel_rfl) (by kernel_rfl)
            simp [go_sem, t0, t1, hfs]
            exact ⟨rfl, (RT1.out w').mono fun e' w'' hh => ⟨_, hh.1, hh.2, rfl⟩⟩
          | 11, _, ho, hf, hg, hfr, hdep =>
            simp only [gTA, gCZ, gCS, gSI] at ho
            subst ho
            refine ⟨fun _ => ?_, fun hw => absurd (show true = false from hw) (by decide)⟩
            have ts : ρ (.tmp 6) = .pointer (some ⟨ab, 0, none⟩) := hfr 6 (by kernel_rfl)
            simp [go_sem, ts]
            exact ⟨Below.refl _ _, rfl⟩
          | 12, _, ho, hf, hg, hfr, hdep =>
            simp only [gTA, gCZ, gCS, gSI] at ho
            subst ho
            refine ⟨fun _ => ?_, fun hw => absurd (show true = false from hw) (by decide)⟩
            have kc := cellN_later hC x2
            have d0 : ρ (.tmp 26) = .pointer (some ⟨ab, 2, none⟩) := hdep 11 26 (by kernel_rfl) (by kernel_rfl)
            simp [go_sem, d0, kc]
            exact ⟨Below.refl _ _, rfl⟩
          | 13, _, ho, hf, hg, hfr, hdep =>
            simp only [gTA, gCZ, gCS, gSI] at ho
            subst ho
            refine ⟨fun _ => ?_, fun hw => absurd (show true = false from hw) (by decide)⟩
            have ts : ρ (.tmp 6) = .pointer (some ⟨ab, 0, none⟩) := hfr 6 (by kernel_rfl)
            simp [go_sem, ts]
            exact ⟨Below.refl _ _, rfl⟩
          | 14, _, ho, hf, hg, hfr, hdep =>
            simp only [gTA, gCZ, gCS, gSI] at ho
            subst ho
            refine ⟨fun _ => ?_, fun hw => absurd (show true = false from hw) (by decide)⟩
            have kc := cellN_later hC x3
            have d0 : ρ (.tmp 28) = .pointer (some ⟨ab, 3, none⟩) := hdep 13 28 (by kernel_rfl) (by kernel_rfl)
            simp [go_sem, d0, kc]
            exact ⟨Below.refl _ _, rfl⟩
          | 15, _, ho, hf, hg, hfr, hdep =>
            simp only [gTA, gCZ, gCS, gSI] at ho
            subst ho
            refine ⟨fun _ => ?_, fun hw => absurd (show true = false from hw) (by decide)⟩
            have t0 : ρ (.tmp 27) = .int .i64 (g : Int) := hdep 12 27 (by kernel_rfl) (by kernel_rfl)
            have t1 : ρ (.tmp 29) = .int .i64 (k : Int) := hdep 14 29 (by kernel_rfl) (by kernel_rfl)
            simp [go_sem, t0, t1, hfs]
            exact ⟨rfl, (RT2.out w').mono fun e' w'' hh => ⟨_, hh.1, hh.2, rfl⟩⟩
          | 16, _, ho, hf, hg, hfr, hdep =>
            simp only [gTA, gCZ, gCS, gSI] at ho
            subst ho
            refine ⟨fun _ => ?_, fun hw => absurd (show true = false from hw) (by decide)⟩
            have d0 : ρ (.tmp 25) = .agg #[.int .i64 p1, .int .i64 q1] := hdep 10 25 (by kernel_rfl) (by kernel_rfl)
            have d1 : ρ (.tmp 30) = .agg #[.int .i64 p2, .int .i64 q2] := hdep 15 30 (by kernel_rfl) (by kernel_rfl)
            simp [go_sem, d0, d1, z1, z2]
            exact ⟨Below.refl _ _, rfl⟩
          | n + 17, _, ho, _, _, _, _ => simp at ho
        · intro d_ i o ρ w' hm ho h0 hf hg hC hcs hfs hfr hdep
          exact absurd hm (by simp)
        · intro U1 W2 hC2 hS
          have e0 : U1 0 = .slice (some ⟨rb, ro, none⟩) N rc := hS 0 (by decide) (by intro h; cases h)
          have e1 : U1 1 = .pointer (some ⟨ab, 1, none⟩) := hS 1 (by decide) (by intro h; cases h)
          have e2 : U1 2 = .int .i64 (t : Int) := hS 2 (by decide) (by intro h; cases h)
          have e3 : U1 3 = .pointer (some ⟨rb, ro + t, none⟩) := hS 3 (by decide) (by intro h; cases h)
          have e4 : U1 4 = .int .i64 (ct : Int) := hS 4 (by decide) (by intro h; cases h)
          have e5 : U1 5 = .slice (some ⟨rb, ro, none⟩) N rc := hS 5 (by decide) (by intro h; cases h)
          have e6 : U1 6 = .pointer (some ⟨ab, 0, none⟩) := hS 6 (by decide) (by intro h; cases h)
          have e7 : U1 7 = .int .i64 (f : Int) := hS 7 (by decide) (by intro h; cases h)
          have e8 : U1 8 = .pointer (some ⟨rb, ro + f, none⟩) := hS 8 (by decide) (by intro h; cases h)
          have e9 : U1 9 = .int .i64 (cf : Int) := hS 9 (by decide) (by intro h; cases h)
          have e10 : U1 10 = .agg #[.int .i64 p1, .int .i64 q1] := hS 10 (by decide) (by intro h; cases h)
          have e11 : U1 11 = .pointer (some ⟨ab, 2, none⟩) := hS 11 (by decide) (by intro h; cases h)
          have e12 : U1 12 = .int .i64 (g : Int) := hS 12 (by decide) (by intro h; cases h)
          have e13 : U1 13 = .pointer (some ⟨ab, 3, none⟩) := hS 13 (by decide) (by intro h; cases h)
          have e14 : U1 14 = .int .i64 (k : Int) := hS 14 (by decide) (by intro h; cases h)
          have e15 : U1 15 = .agg #[.int .i64 p2, .int .i64 q2] := hS 15 (by decide) (by intro h; cases h)
          have e16 : U1 16 = .bool true := hS 16 (by decide) (by intro h; cases h)
          simp only [puts, e0, e1, e2, e3, e4, e5, e6, e7, e8, e9, e10, e11, e12, e13, e14, e15, e16]
          simp only [Act.put, List.setIfInBounds_toArray, List.set_cons_zero, List.set_cons_succ]
          clear hS e0 e1 e2 e3 e4 e5 e6 e7 e8 e9 e10 e11 e12 e13 e14 e15 e16
          have L2 := hiddenN (L1.out.trans (hC2.mono L1.out.size))
          clear hC2 x0 x1 x2 x3 rt rf
          go_wp2
          rw [← HRE.out, HIT.out]
          exact ⟨rfl, B0.out.trans (L2.out.mono B0.out.size)⟩
    · have ej : j = A.length := by omega
      have hki : ¬ (j : Int) < (A.length : Int) := by omega
      have HF : Hid (fuI A c = -1) := by show _ = _; unfold fuI; rw [fuB_none (fun i hi => HI.out i (by omega))]
      go_wp2
      rw [← HRE.out, HF.out]
      exact ⟨rfl, B0.out.trans (BR.out.mono B0.out.size)⟩
/-- The shares, where a node is come to; else noughts. -/
def stB (c H : Nat → Nat) (V : Nat → Bool) (v : Nat) : Int × Int := if V v = true then shB (c v) (c (H v)) else (0, 0)
structure ShaB (w : World) (sb N : Nat) (s : Nat → Int × Int) : Prop where
  ex : ∃ cs, BlkA 98 sb w cs ∧ ∀ v, v < N → cs[v * 2]? = some (.int .i64 (s v).1) ∧ cs[v * 2 + 1]? = some (.int .i64 (s v).2)
theorem ShaB.cell {w : World} {sb N : Nat} {s : Nat → Int × Int} (h : ShaB w sb N s) {v : Nat} (hv : v < N) : w.cell? ⟨sb, v * 2, none⟩ = some (.int .i64 (s v).1) ∧ w.cell? ⟨sb, v * 2 + 1, none⟩ = some (.int .i64 (s v).2) := by
  obtain ⟨cs, hb, hc⟩ := h.ex
  exact ⟨hb.cell (hc v hv).1, hb.cell (hc v hv).2⟩
theorem ShaB.frozen {w : World} {sb N : Nat} {s : Nat → Int × Int} (h : ShaB w sb N s) (k : Nat) : w.frozen? ⟨sb, k, none⟩ = false := by
  obtain ⟨cs, hb, hc⟩ := h.ex
  exact hb.frozen k
theorem ShaB.lt {w : World} {sb N : Nat} {s : Nat → Int × Int} (h : ShaB w sb N s) : sb < w.heap.size := by
  obtain ⟨cs, hb, hc⟩ := h.ex
  exact hb.lt
theorem ShaB.keep {w w' : World} {sb N : Nat} {s : Nat → Int × Int} (h : ShaB w sb N s) (hk : w'.heap[sb]? = w.heap[sb]?) : ShaB w' sb N s := by
  obtain ⟨cs, hb, hc⟩ := h.ex
  exact ⟨cs, hb.keep hk, hc⟩
theorem ShaB.below {w w' : World} {sb N : Nat} {s : Nat → Int × Int} (h : ShaB w sb N s) (hb : Below w.heap.size w w') : ShaB w' sb N s := h.keep (hb.block _ h.lt)
theorem ShaB.put {w : World} {sb N : Nat} {c H : Nat → Nat} {V : Nat → Bool} (h : ShaB w sb N (stB c H V)) {x : Nat} (hx : x < N) : ShaB ((w.setCell ⟨sb, x * 2, none⟩ (.int .i64 (shB (c x) (c (H x))).1)).setCell ⟨sb, x * 2 + 1, none⟩ (.int .i64 (shB (c x) (c (H x))).2)) sb N (stB c H (putB V x)) := by
  obtain ⟨cs, hb, hc⟩ := h.ex
  refine ⟨_, (hb.set _ _).set _ _, fun v hv => ?_⟩
  obtain ⟨h1, h2⟩ := hc v hv
  have l1 := (Array.getElem?_eq_some_iff.1 h1).1
  have l2 := (Array.getElem?_eq_some_iff.1 h2).1
  by_cases e : v = x
  · subst e
    have es : stB c H (putB V v) v = shB (c v) (c (H v)) := by unfold stB; rw [if_pos (putB_at V v)]
    rw [es]
    simp [l1, l2]
  · have es : stB c H (putB V x) v = stB c H V v := by unfold stB putB; rw [if_neg e]
    rw [es]
    have n1 : ¬ x * 2 = v * 2 := by omega
    have n2 : ¬ x * 2 + 1 = v * 2 := by omega
    have n3 : ¬ x * 2 = v * 2 + 1 := by omega
    have n4 : ¬ x * 2 + 1 = v * 2 + 1 := by omega
    simp only [Array.getElem?_setIfInBounds, if_neg n1, if_neg n2, if_neg n3, if_neg n4]
    exact ⟨h1, h2⟩
/-- What ask leans on. -/
structure AskF (w : World) (lb fb nb rb sb N : Nat) (A : List NA) (T : List Nat) (aa ta : Option Addr) (ac tc : Nat) : Prop where
  lc : w.cell? ⟨lb, 0, none⟩ = some (.slice (some ⟨sb, 0, none⟩) N N)
  tcl : w.cell? ⟨fb, 0, none⟩ = some (.slice ta T.length tc)
  nc : w.cell? ⟨nb, 1, none⟩ = some (.slice aa A.length ac)
  rc : w.cell? ⟨rb, 0, none⟩ = some (.func (.func 62) #[] #[.pointer (some ⟨lb, 0, none⟩), .pointer (some ⟨fb, 0, none⟩), .pointer (some ⟨nb, 0, none⟩), .pointer (some ⟨rb, 0, none⟩)])
  tat : ∀ k, k < T.length → ∃ b off, ta = some ⟨b, off, none⟩ ∧ b ≠ sb ∧ ∀ k, (h : k < T.length) → w.cell? ⟨b, off + k, none⟩ = some (.int .i64 (T[k] : Int))
  nat : ∀ k, k < A.length → ∃ b off, aa = some ⟨b, off, none⟩ ∧ b ≠ sb ∧ ∀ k, k < A.length → w.cell? ⟨b, off + k * 5, none⟩ = some (.int .i64 (nthNa A k).f) ∧ w.cell? ⟨b, off + k * 5 + 1, none⟩ = some (.int .i64 (nthNa A k).t) ∧ w.cell? ⟨b, off + k * 5 + 2, none⟩ = some (.int .i64 (nthNa A k).g) ∧ w.cell? ⟨b, off + k * 5 + 3, none⟩ = some (.int .i64 (nthNa A k).k) ∧ w.cell? ⟨b, off + k * 5 + 4, none⟩ = some (.int .i64 (nthNa A k).s)
  ne : lb ≠ sb ∧ fb ≠ sb ∧ nb ≠ sb ∧ rb ≠ sb
theorem cell_but2 {w w' : World} {K b o : Nat} {v : Value} (k : But K w w') (hn : b ≠ K) (h : w.cell? ⟨b, o, none⟩ = some v) : w'.cell? ⟨b, o, none⟩ = some v := cellF_block h (k.block _ (block_lt_of_cell h) hn)
theorem AskF.keep {w w' : World} {lb fb nb rb sb N : Nat} {A : List NA} {T : List Nat} {aa ta : Option Addr} {ac tc : Nat} (h : AskF w lb fb nb rb sb N A T aa ta ac tc) (k : But sb w w') : AskF w' lb fb nb rb sb N A T aa ta ac tc := by
  obtain ⟨n1, n2, n3, n4⟩ := h.ne
  refine ⟨cell_but2 k n1 h.lc, cell_but2 k n2 h.tcl, cell_but2 k n3 h.nc, cell_but2 k n4 h.rc, fun i hi => ?_, fun i hi => ?_, h.ne⟩
  · obtain ⟨b, off, h1, h2, h3⟩ := h.tat i hi
    exact ⟨b, off, h1, h2, fun j hj => cell_but2 k h2 (h3 j hj)⟩
  · obtain ⟨b, off, h1, h2, h3⟩ := h.nat i hi
    exact ⟨b, off, h1, h2, fun j hj => ⟨cell_but2 k h2 (h3 j hj).1, cell_but2 k h2 (h3 j hj).2.1, cell_but2 k h2 (h3 j hj).2.2.1, cell_but2 k h2 (h3 j hj).2.2.2.1, cell_but2 k h2 (h3 j hj).2.2.2.2⟩⟩
def fitA (c H : Nat → Nat) (U : Nat → Bool) : Prop := ∀ v, U v = true → fitB (shB (c v) (c (H v))).1 = true ∧ fitB (shB (c v) (c (H v))).2 = true
theorem fitA.put {c H : Nat → Nat} {V : Nat → Bool} {x : Nat} (h : fitA c H V) (hx : fitB (shB (c x) (c (H x))).1 = true ∧ fitB (shB (c x) (c (H x))).2 = true) : fitA c H (putB V x) := fun v hv => by
  unfold putB at hv
  split at hv
  · rename_i e; rw [e]; exact hx
  · exact h v hv
/-- The loop of ask. -/
structure LpA (w wr : World) (xb sb N : Nat) (A : List NA) (T : List Nat) (c H : Nat → Nat) (V U : Nat → Bool) (v q : Nat) (p1 q1 : Int) : Prop where
  but : But sb w wr
  sub : subB V U
  here : U v = true
  clo : cloB A T V U (some v)
  far : ∀ i, i < q → ∀ (h : i < T.length), ∀ y, crossF A T[i] v = some y → U y.1 = true
  sha : ShaB wr sb N (stB c H U)
  fit : fitA c H U
  box : BlkA 98 xb wr #[.int .i64 p1, .int .i64 q1]
  hom : ∀ u, U u = true → V u = false → H u = H v
theorem LpA.step {w wr wr' : World} {xb sb N : Nat} {A : List NA} {T : List Nat} {c H : Nat → Nat} {V U U' : Nat → Bool} {v q : Nat} {p1 q1 : Int} (h : LpA w wr xb sb N A T c H V U v q p1 q1) (hx : xb ≠ sb) (hb : But sb wr wr') (hs : subB U U') (hc : cloB A T U U' none) (sh : ShaB wr' sb N (stB c H U')) (ft : fitA c H U') (hh : ∀ u, U' u = true → U u = false → H u = H v) (hq : ∀ (h : q < T.length), ∀ y, crossF A T[q] v = some y → U' y.1 = true) : LpA w wr' xb sb N A T c H V U' v (q + 1) p1 q1 :=
  ⟨h.but.trans hb, h.sub.trans hs, hs _ h.here, cloB_next h.clo hc hs, fun i hi hT y hy => by
    by_cases e : i = q
    · subst e; exact hq hT y hy
    · exact hs _ (h.far i (by omega) hT y hy), sh, ft, h.box.keep (hb.block _ h.box.lt hx), fun u h1 h2 => by
    cases hu : U u with
    | true => exact h.hom u hu h2
    | false => exact hh u h1 hu⟩
theorem LpA.same {w wr wr' : World} {xb sb N : Nat} {A : List NA} {T : List Nat} {c H : Nat → Nat} {V U : Nat → Bool} {v q : Nat} {p1 q1 : Int} (h : LpA w wr xb sb N A T c H V U v q p1 q1) (hx : xb ≠ sb) (hb : Below wr.heap.size wr wr') (hq : ∀ (h : q < T.length), ∀ y, crossF A T[q] v = some y → U y.1 = true) : LpA w wr' xb sb N A T c H V U v (q + 1) p1 q1 :=
  h.step hx (But.of_below hb) (fun _ hv => hv) (fun u h1 h2 => by rw [h1] at h2; cases h2) (h.sha.below hb) h.fit (fun u h1 h2 => by rw [h1] at h2; cases h2) hq
theorem ShaB.congr {w : World} {sb N : Nat} {s s' : Nat → Int × Int} (h : ShaB w sb N s) (he : ∀ v, v < N → s v = s' v) : ShaB w sb N s' := by
  obtain ⟨cs, hb, hc⟩ := h.ex
  exact ⟨cs, hb, fun v hv => by rw [← he v hv]; exact hc v hv⟩
def stepT (x : Int × Bool) : List Value := [.int .i64 x.1, .bool x.2]
def flatT : List (Int × Bool) → List Value
  | [] => []
  | x :: L => stepT x ++ flatT L
def celT (x : Int × Bool) (j : Nat) : Value := if j = 0 then .int .i64 x.1 else .bool x.2
theorem flatT_len : ∀ (L : List (Int × Bool)), (flatT L).length = L.length * 2
  | [] => rfl
  | x :: L => by show (stepT x ++ flatT L).length = _; rw [List.length_append, flatT_len L, List.length_cons]; show 2 + _ = _; omega
theorem flatT_get : ∀ {L : List (Int × Bool)} {k j : Nat}, k < L.length → j < 2 → (flatT L)[k * 2 + j]? = some (celT (nthT L k) j)
  | [], k, j, hk, _ => absurd hk (Nat.not_lt_zero _)
  | a :: L, 0, j, _, hj => by
    show (stepT a ++ flatT L)[0 * 2 + j]? = _
    rw [Nat.zero_mul, Nat.zero_add, List.getElem?_append_left (by show j < 2; exact hj)]
    match j, hj with
    | 0, _ => rfl
    | 1, _ => rfl
  | a :: L, k + 1, j, hk, hj => by
    show (stepT a ++ flatT L)[(k + 1) * 2 + j]? = _
    rw [List.getElem?_append_right (by show 2 ≤ _; omega)]
    have e : (k + 1) * 2 + j - (stepT a).length = k * 2 + j := by show (k + 1) * 2 + j - 2 = _; omega
    rw [e]
    exact flatT_get (Nat.lt_of_succ_lt_succ hk) hj
/-- Steps as they lie. -/
def AtT (w : World) (a : Option Addr) (L : List (Int × Bool)) : Prop := L = [] ∨ ∃ b off, a = some ⟨b, off, none⟩ ∧ ∀ k, k < L.length → w.cell? ⟨b, off + k * 2, none⟩ = some (.int .i64 (nthT L k).1) ∧ w.cell? ⟨b, off + k * 2 + 1, none⟩ = some (.bool (nthT L k).2)
theorem AtT.below {w w' : World} {a : Option Addr} {L : List (Int × Bool)} (h : AtT w a L) (hb : Below w.heap.size w w') : AtT w' a L := by
  rcases h with h | ⟨b, off, e, hc⟩
  · exact .inl h
  · exact .inr ⟨b, off, e, fun k hk => ⟨cellN_later hb (hc k hk).1, cellN_later hb (hc k hk).2⟩⟩
theorem AtT.flat {w : World} {ad : Addr} {L : List (Int × Bool)} (h : AtT w (some ad) L) : ∀ j u, (flatT L)[j]? = some u → w.cell? (ad.add j) = some u := by
  intro j u hu
  have hj : j < L.length * 2 := by rw [← flatT_len]; exact (List.getElem?_eq_some_iff.1 hu).1
  rcases h with e | ⟨b, off, e, hc⟩
  · subst e; simp at hj
  · cases e
    have hk : j / 2 < L.length := by omega
    have e1 : j = j / 2 * 2 + j % 2 := by omega
    have hr : j % 2 < 2 := Nat.mod_lt _ (by decide)
    have h1 := flatT_get (L := L) hk hr
    rw [← e1, hu] at h1
    cases h1
    obtain ⟨c0, c1⟩ := hc (j / 2) hk
    have ea : (⟨b, off, none⟩ : Addr).add j = ⟨b, off + j / 2 * 2 + j % 2, none⟩ := by
      have e2 : off + j / 2 * 2 + j % 2 = off + j := by omega
      rw [e2]
      simp [Addr.add]
    rw [ea]
    clear ea e1
    generalize j / 2 = k at *
    generalize j % 2 = r at *
    match r, hr with
    | 0, _ => exact c0
    | 1, _ => exact c1
/-- A row of steps of a call's own, with room behind it. -/
def CapT (B : Nat) (w : World) (a : Option Addr) (c : Nat) (L : List (Int × Bool)) : Prop := w.ownsRow B 103 2 (.slice a L.length c) L.length (flatT L)
theorem CapT.nil (B : Nat) (w : World) : CapT B w none 0 [] := World.ownsRow_nil _ _ _ _
theorem CapT.at {B : Nat} {w : World} {a : Option Addr} {c : Nat} {L : List (Int × Bool)} (h : CapT B w a c L) : AtT w a L := by
  unfold CapT at h
  rcases h.2 with ⟨hv, hn⟩ | ⟨g, cap, cur, hv, hg, hh, hc, hm, hs, ht⟩
  · exact .inl (List.eq_nil_of_length_eq_zero hn)
  · cases hv
    refine .inr ⟨g, 0, rfl, fun k hk => ?_⟩
    have key : ∀ j, j < 2 → w.cell? ⟨g, k * 2 + j, none⟩ = some (celT (nthT L k) j) := fun j hj => by
      rw [h.cellAt (k * 2 + j) (by omega), flatT_get hk hj]
    rw [Nat.zero_add]
    exact ⟨key 0 (by decide), key 1 (by decide)⟩
theorem CapT.lt {B : Nat} {w : World} {a : Option Addr} {c : Nat} {L : List (Int × Bool)} (h : CapT B w a c L) : ∀ x, a = some x → B ≤ x.block ∧ x.block < w.heap.size := by
  intro x hx
  rcases h.2 with ⟨hv, hn⟩ | ⟨g, cap, cur, hv, hg, hh, hc, hm, hs, ht⟩
  · simp at hv; rw [hv.1] at hx; cases hx
  · cases hv
    cases hx
    exact ⟨hg, (Array.getElem?_eq_some_iff.1 hh).1⟩
theorem CapT.none {B : Nat} {w : World} {a : Option Addr} {c : Nat} {L : List (Int × Bool)} (h : CapT B w a c L) : a = Option.none → L.length = 0 ∧ c = 0 := by
  intro e
  rcases h.2 with ⟨hv, hn⟩ | ⟨g, cap, cur, hv, hg, hh, hc, hm, hs, ht⟩
  · simp at hv; exact ⟨hn, hv.2.2⟩
  · subst e; cases hv
theorem CapT.keep {B : Nat} {w w' : World} {a : Option Addr} {c : Nat} {L : List (Int × Bool)} (h : CapT B w a c L) (hk : ∀ x, a = some x → w'.heap[x.block]? = w.heap[x.block]?) : CapT B w' a c L := by
  refine ⟨h.1, ?_⟩
  rcases h.2 with h2 | ⟨g, cap, cur, hv, hg, hh, r⟩
  · exact .inl h2
  · refine .inr ⟨g, cap, cur, hv, hg, ?_, r⟩
    cases hv
    rw [hk _ rfl]; exact hh
theorem CapT.later {B : Nat} {w w' : World} {a : Option Addr} {c : Nat} {L : List (Int × Bool)} (h : CapT B w a c L) (hb : Below w.heap.size w w') : CapT B w' a c L := h.keep fun x hx => hb.block _ (h.lt x hx).2
theorem CapT.mono {B B' : Nat} {w : World} {a : Option Addr} {c : Nat} {L : List (Int × Bool)} (h : CapT B w a c L) (hB : B' ≤ B) : CapT B' w a c L := by
  refine ⟨h.1, ?_⟩
  rcases h.2 with h2 | ⟨g, cap, cur, hv, hg, r⟩
  · exact .inl h2
  · exact .inr ⟨g, cap, cur, hv, Nat.le_trans hB hg, r⟩
theorem CapT.room {B : Nat} {w : World} {a : Option Addr} {c : Nat} {L : List (Int × Bool)} (h : CapT B w a c L) : L.length ≤ c ∧ c ≤ maxLen := by
  rcases h.2 with ⟨hv, hn⟩ | ⟨g, cap, cur, hv, hg, hh, hc, hm, r⟩
  · simp at hv; exact ⟨by omega, by omega⟩
  · cases hv; exact ⟨hc, hm⟩
def SlT (B : Nat) (P : List (Int × Bool)) (u : World) (z : Value) : Prop := ∃ d c, z = .slice d P.length c ∧ CapT B u d c P
def ElT (j : Int) (b : Bool) (u : World) (z : Value) : Prop := ∃ g, z = .slice (some ⟨g, 0, none⟩) 1 1 ∧ u.cell? ⟨g, 0, none⟩ = some (.int .i64 j) ∧ u.cell? ⟨g, 1, none⟩ = some (.bool b)
theorem SlT.later {B : Nat} {P : List (Int × Bool)} {u u' : World} {z : Value} (h : SlT B P u z) (hb : Below u.heap.size u u') : SlT B P u' z := by
  obtain ⟨d, c, h1, h2⟩ := h
  exact ⟨d, c, h1, h2.later hb⟩
theorem ElT.later {j : Int} {b : Bool} {u u' : World} {z : Value} (h : ElT j b u z) (hb : Below u.heap.size u u') : ElT j b u' z := by
  obtain ⟨g, h1, h2, h3⟩ := h
  exact ⟨g, h1, cellN_later hb h2, cellN_later hb h3⟩
/-- What a walk is told of steps that came in. -/
structure ArgT (w : World) (a : Option Addr) (len cap : Nat) (L : List (Int × Bool)) : Prop where
  len : L.length = len
  lies : AtT w a L
  none : a = Option.none → L.length = 0 ∧ cap = 0
  room : L.length * 16 ≤ 140737488351232
  cap : L.length ≤ cap
theorem ArgT.below {w w' : World} {a : Option Addr} {len cap : Nat} {L : List (Int × Bool)} (h : ArgT w a len cap L) (hb : Below w.heap.size w w') : ArgT w' a len cap L := ⟨h.len, h.lies.below hb, h.none, h.room, h.cap⟩
section
variable {H : Type} {enc : TypeId × Value → H} {W : World} {base : Nat} {held : Bool}
end
theorem GrwN.below {B Q : Nat} {V u : World} {d0 : Option Addr} {L : List Int} {d : Option Addr} {c : Nat} (h : GrwN B V d0 L u d c) (hQ : Q ≤ V.heap.size) (h0 : ∀ y, d0 = some y → Q ≤ y.block) : Below Q V u :=
  ⟨h.os, h.tape, h.output, h.size, fun k hk => h.keep k (by omega) (fun y hy => by have := h0 y hy; omega)⟩
/-- Two rows of a call's own, apart. -/
structure TwR (B : Nat) (w : World) (d1 : Option Addr) (c1 : Nat) (xs : List Int) (d2 : Option Addr) (c2 : Nat) (ys : List Int) : Prop where
  r1 : CapR B w d1 c1 xs
  r2 : CapR B w d2 c2 ys
  ne : ∀ x y, d1 = some x → d2 = some y → x.block ≠ y.block
theorem TwR.nil (B : Nat) (w : World) : TwR B w none 0 [] none 0 [] := ⟨CapR.nil _ _, CapR.nil _ _, fun x y h => by cases h⟩
theorem TwR.later {B : Nat} {w w' : World} {d1 : Option Addr} {c1 : Nat} {xs : List Int} {d2 : Option Addr} {c2 : Nat} {ys : List Int} (h : TwR B w d1 c1 xs d2 c2 ys) (hb : Below w.heap.size w w') : TwR B w' d1 c1 xs d2 c2 ys := ⟨h.r1.later hb, h.r2.later hb, h.ne⟩
theorem TwR.grow {B : Nat} {w w' : World} {d1 : Option Addr} {c1 : Nat} {xs : List Int} {d2 : Option Addr} {c2 : Nat} {ys zs : List Int} {d : Option Addr} {c : Nat} (h : TwR B w d1 c1 xs d2 c2 ys) (hg : GrwN B w d1 zs w' d c) : TwR B w' d c zs d2 c2 ys := by
  refine ⟨hg.own, h.r2.keep fun x hx => hg.keep _ (h.r2.lt x hx).2 (fun y hy => h.ne y x hy hx), fun x y hx hy => ?_⟩
  rcases hg.new x hx with e | e
  · exact h.ne x y e hy
  · have := (h.r2.lt y hy).2
    omega
def frV (x : Int × Int) : List Value := [.int .i64 x.1, .int .i64 x.2]
def flatX : List (Int × Int) → List Value
  | [] => []
  | x :: L => frV x ++ flatX L
def nthX (L : List (Int × Int)) (k : Nat) : Int × Int := L.getD k (0, 0)
def celX (x : Int × Int) (j : Nat) : Value := if j = 0 then .int .i64 x.1 else .int .i64 x.2
theorem flatX_len : ∀ (L : List (Int × Int)), (flatX L).length = L.length * 2
  | [] => rfl
  | x :: L => by show (frV x ++ flatX L).length = _; rw [List.length_append, flatX_len L, List.length_cons]; show 2 + _ = _; omega
theorem flatX_get : ∀ {L : List (Int × Int)} {k j : Nat}, k < L.length → j < 2 → (flatX L)[k * 2 + j]? = some (celX (nthX L k) j)
  | [], k, j, hk, _ => absurd hk (Nat.not_lt_zero _)
  | a :: L, 0, j, _, hj => by
    show (frV a ++ flatX L)[0 * 2 + j]? = _
    rw [Nat.zero_mul, Nat.zero_add, List.getElem?_append_left (by show j < 2; exact hj)]
    match j, hj with
    | 0, _ => rfl
    | 1, _ => rfl
  | a :: L, k + 1, j, hk, hj => by
    show (frV a ++ flatX L)[(k + 1) * 2 + j]? = _
    rw [List.getElem?_append_right (by show 2 ≤ _; omega)]
    have e : (k + 1) * 2 + j - (frV a).length = k * 2 + j := by show (k + 1) * 2 + j - 2 = _; omega
    rw [e]
    exact flatX_get (Nat.lt_of_succ_lt_succ hk) hj
/-- Steps as they lie. -/
def AtX (w : World) (a : Option Addr) (L : List (Int × Int)) : Prop := L = [] ∨ ∃ b off, a = some ⟨b, off, none⟩ ∧ ∀ k, k < L.length → w.cell? ⟨b, off + k * 2, none⟩ = some (.int .i64 (nthX L k).1) ∧ w.cell? ⟨b, off + k * 2 + 1, none⟩ = some (.int .i64 (nthX L k).2)
theorem AtX.below {w w' : World} {a : Option Addr} {L : List (Int × Int)} (h : AtX w a L) (hb : Below w.heap.size w w') : AtX w' a L := by
  rcases h with h | ⟨b, off, e, hc⟩
  · exact .inl h
  · exact .inr ⟨b, off, e, fun k hk => ⟨cellN_later hb (hc k hk).1, cellN_later hb (hc k hk).2⟩⟩
theorem AtX.flat {w : World} {ad : Addr} {L : List (Int × Int)} (h : AtX w (some ad) L) : ∀ j u, (flatX L)[j]? = some u → w.cell? (ad.add j) = some u := by
  intro j u hu
  have hj : j < L.length * 2 := by rw [← flatX_len]; exact (List.getElem?_eq_some_iff.1 hu).1
  rcases h with e | ⟨b, off, e, hc⟩
  · subst e; simp at hj
  · cases e
    have hk : j / 2 < L.length := by omega
    have e1 : j = j / 2 * 2 + j % 2 := by omega
    have hr : j % 2 < 2 := Nat.mod_lt _ (by decide)
    have h1 := flatX_get (L := L) hk hr
    rw [← e1, hu] at h1
    cases h1
    obtain ⟨c0, c1⟩ := hc (j / 2) hk
    have ea : (⟨b, off, none⟩ : Addr).add j = ⟨b, off + j / 2 * 2 + j % 2, none⟩ := by
      have e2 : off + j / 2 * 2 + j % 2 = off + j := by omega
      rw [e2]
      simp [Addr.add]
    rw [ea]
    clear ea e1
    generalize j / 2 = k at *
    generalize j % 2 = r at *
    match r, hr with
    | 0, _ => exact c0
    | 1, _ => exact c1
/-- A row of steps of a call's own, with room behind it. -/
def CapX (B : Nat) (w : World) (a : Option Addr) (c : Nat) (L : List (Int × Int)) : Prop := w.ownsRow B 98 2 (.slice a L.length c) L.length (flatX L)
theorem CapX.nil (B : Nat) (w : World) : CapX B w none 0 [] := World.ownsRow_nil _ _ _ _
theorem CapX.at {B : Nat} {w : World} {a : Option Addr} {c : Nat} {L : List (Int × Int)} (h : CapX B w a c L) : AtX w a L := by
  unfold CapX at h
  rcases h.2 with ⟨hv, hn⟩ | ⟨g, cap, cur, hv, hg, hh, hc, hm, hs, ht⟩
  · exact .inl (List.eq_nil_of_length_eq_zero hn)
  · cases hv
    refine .inr ⟨g, 0, rfl, fun k hk => ?_⟩
    have key : ∀ j, j < 2 → w.cell? ⟨g, k * 2 + j, none⟩ = some (celX (nthX L k) j) := fun j hj => by
      rw [h.cellAt (k * 2 + j) (by omega), flatX_get hk hj]
    rw [Nat.zero_add]
    exact ⟨key 0 (by decide), key 1 (by decide)⟩
theorem CapX.lt {B : Nat} {w : World} {a : Option Addr} {c : Nat} {L : List (Int × Int)} (h : CapX B w a c L) : ∀ x, a = some x → B ≤ x.block ∧ x.block < w.heap.size := by
  intro x hx
  rcases h.2 with ⟨hv, hn⟩ | ⟨g, cap, cur, hv, hg, hh, hc, hm, hs, ht⟩
  · simp at hv; rw [hv.1] at hx; cases hx
  · cases hv
    cases hx
    exact ⟨hg, (Array.getElem?_eq_some_iff.1 hh).1⟩
theorem CapX.none {B : Nat} {w : World} {a : Option Addr} {c : Nat} {L : List (Int × Int)} (h : CapX B w a c L) : a = Option.none → L.length = 0 ∧ c = 0 := by
  intro e
  rcases h.2 with ⟨hv, hn⟩ | ⟨g, cap, cur, hv, hg, hh, hc, hm, hs, ht⟩
  · simp at hv; exact ⟨hn, hv.2.2⟩
  · subst e; cases hv
theorem CapX.keep {B : Nat} {w w' : World} {a : Option Addr} {c : Nat} {L : List (Int × Int)} (h : CapX B w a c L) (hk : ∀ x, a = some x → w'.heap[x.block]? = w.heap[x.block]?) : CapX B w' a c L := by
  refine ⟨h.1, ?_⟩
  rcases h.2 with h2 | ⟨g, cap, cur, hv, hg, hh, r⟩
  · exact .inl h2
  · refine .inr ⟨g, cap, cur, hv, hg, ?_, r⟩
    cases hv
    rw [hk _ rfl]; exact hh
theorem CapX.later {B : Nat} {w w' : World} {a : Option Addr} {c : Nat} {L : List (Int × Int)} (h : CapX B w a c L) (hb : Below w.heap.size w w') : CapX B w' a c L := h.keep fun x hx => hb.block _ (h.lt x hx).2
theorem CapX.mono {B B' : Nat} {w : World} {a : Option Addr} {c : Nat} {L : List (Int × Int)} (h : CapX B w a c L) (hB : B' ≤ B) : CapX B' w a c L := by
  refine ⟨h.1, ?_⟩
  rcases h.2 with h2 | ⟨g, cap, cur, hv, hg, r⟩
  · exact .inl h2
  · exact .inr ⟨g, cap, cur, hv, Nat.le_trans hB hg, r⟩
/-- A row of fractions has grown; all else stays. -/
structure GrwX (B : Nat) (V : World) (d0 : Option Addr) (L : List (Int × Int)) (u : World) (d : Option Addr) (c : Nat) : Prop where
  own : CapX B u d c L
  keep : ∀ k, k < V.heap.size → (∀ y, d0 = some y → y.block ≠ k) → u.heap[k]? = V.heap[k]?
  new : ∀ z, d = some z → d0 = some z ∨ V.heap.size ≤ z.block
  size : V.heap.size ≤ u.heap.size
  os : u.os = V.os
  tape : u.tape = V.tape
  output : u.output = V.output
theorem GrwX.below {B Q : Nat} {V u : World} {d0 : Option Addr} {L : List (Int × Int)} {d : Option Addr} {c : Nat} (h : GrwX B V d0 L u d c) (hQ : Q ≤ V.heap.size) (h0 : ∀ y, d0 = some y → Q ≤ y.block) : Below Q V u :=
  ⟨h.os, h.tape, h.output, h.size, fun k hk => h.keep k (by omega) (fun y hy => by have := h0 y hy; omega)⟩
/-- A row of ints and a row of fractions of a call's own, apart. -/
structure TwX (B : Nat) (w : World) (d1 : Option Addr) (c1 : Nat) (xs : List Int) (d2 : Option Addr) (c2 : Nat) (ys : List (Int × Int)) : Prop where
  r1 : CapR B w d1 c1 xs
  r2 : CapX B w d2 c2 ys
  ne : ∀ x y, d1 = some x → d2 = some y → x.block ≠ y.block
theorem TwX.nil (B : Nat) (w : World) : TwX B w none 0 [] none 0 [] := ⟨CapR.nil _ _, CapX.nil _ _, fun x y h => by cases h⟩
theorem TwX.later {B : Nat} {w w' : World} {d1 : Option Addr} {c1 : Nat} {xs : List Int} {d2 : Option Addr} {c2 : Nat} {ys : List (Int × Int)} (h : TwX B w d1 c1 xs d2 c2 ys) (hb : Below w.heap.size w w') : TwX B w' d1 c1 xs d2 c2 ys := ⟨h.r1.later hb, h.r2.later hb, h.ne⟩
theorem rowF_congr {N : Nat} {f g : Nat → Nat} (h : ∀ v, v < N → f v = g v) : rowF N f = rowF N g := by
  unfold rowF
  exact List.map_congr_left fun v hv => by rw [h v (List.mem_range.1 hv)]
/-- The counts written so far. -/
structure WrtB (B g N : Nat) (wr : World) (c f : Nat → Nat) (M : List Nat) (i : Nat) : Prop where
  ex : ∃ F, CapR B wr (some ⟨g, 0, none⟩) N (rowF N F) ∧ (∀ v, v ∈ M.take i → F v = c v) ∧ ∀ v, v ∉ M.take i → F v = f v
theorem WrtB.step {B g N : Nat} {wr : World} {c f : Nat → Nat} {M : List Nat} {i : Nat} (h : WrtB B g N wr c f M i) (hi : i < M.length) : WrtB B g N (wr.setCell ⟨g, M[i], none⟩ (.int .i64 (c M[i] : Int))) c f M (i + 1) := by
  obtain ⟨F, h1, h2, h3⟩ := h.ex
  refine ⟨updF F M[i] (c M[i]), by rw [← rowF_set]; exact h1.setAt _, fun v hv => ?_, fun v hv => ?_⟩
  · rw [List.take_add_one, List.getElem?_eq_getElem hi] at hv
    unfold updF
    by_cases e : v = M[i]
    · rw [if_pos e, e]
    · rw [if_neg e]
      rcases List.mem_append.1 hv with q | q
      · exact h2 v q
      · exact absurd (by simpa using q) e
  · rw [List.take_add_one, List.getElem?_eq_getElem hi] at hv
    have e : ¬ v = M[i] := fun e => hv (List.mem_append_right _ (by simp [e]))
    unfold updF
    rw [if_neg e]
    exact h3 v (fun q => hv (List.mem_append_left _ q))
theorem WrtB.fin {B g N : Nat} {wr : World} {c f H : Nat → Nat} {h i : Nat} (q : WrtB B g N wr c f (memB H N h) i) (hi : (memB H N h).length ≤ i) : CapR B wr (some ⟨g, 0, none⟩) N (rowF N (fun v => if H v = h then c v else f v)) := by
  obtain ⟨F, h1, h2, h3⟩ := q.ex
  rw [List.take_of_length_le hi] at h2 h3
  rw [rowF_congr (g := F)]
  · exact h1
  · intro v hv
    by_cases e : H v = h
    · rw [if_pos e, h2 v (memB_in.2 ⟨hv, e⟩)]
    · rw [if_neg e, h3 v (fun q => e (memB_in.1 q).2)]
theorem SouB.arc {A : List NA} {N : Nat} (h : SouB A N) : ∀ j, j < A.length → fN A j < N ∧ tN A j < N := fun j hj => by
  obtain ⟨-, -, -, -, h1, h2, -⟩ := h.ends j hj
  exact ⟨h1, h2⟩
def natB (R : List Int) : Nat → Nat := fun v => (nth R v).toNat
def hoB (n : NN) (R : List Int) : Bool := decide (checkN n = 0) && (decide ((R.length : Int) = n.nodes) && (winB R && (fuB n.arcs (natB R)).isNone))
def hoE (n : NN) (R : List Int) : Int := if checkN n = 0 then (if (R.length : Int) = n.nodes then 0 else 1) else checkN n
theorem row_nat {R : List Int} (h : winB R = true) : rowF R.length (natB R) = R := by
  have hw := winB_iff.1 h
  apply List.ext_getElem
  · rw [rowF_len]
  · intro k h1 h2
    have h3 := hw k h2
    have e1 := rowF_nth (n := R.length) (f := natB R) (k := k) h2
    unfold nth at e1
    rw [List.getD_eq_getElem?_getD, List.getElem?_eq_getElem h1] at e1
    have e2 : nth R k = R[k] := by unfold nth; rw [List.getD_eq_getElem?_getD, List.getElem?_eq_getElem h2]; rfl
    simp only [Option.getD_some] at e1
    rw [e1]
    unfold natB
    rw [e2] at h3 ⊢
    omega
theorem ho_bad {n : NN} {R : List Int} (h : ¬ checkN n = 0) : hoB n R = false ∧ hoE n R = checkN n := by unfold hoB hoE; rw [if_neg h, decide_eq_false h]; exact ⟨rfl, rfl⟩
theorem ho_len {n : NN} {R : List Int} (h : checkN n = 0) (hl : ¬ (R.length : Int) = n.nodes) : hoB n R = false ∧ hoE n R = 1 := by unfold hoB hoE; rw [if_pos h, if_neg hl, decide_eq_true h, decide_eq_false hl]; exact ⟨rfl, rfl⟩
theorem ho_win {n : NN} {R : List Int} (h : checkN n = 0) (hl : (R.length : Int) = n.nodes) (hw : winB R = false) : hoB n R = false ∧ hoE n R = 0 := by unfold hoB hoE; rw [if_pos h, if_pos hl, decide_eq_true h, decide_eq_true hl, hw]; exact ⟨rfl, rfl⟩
theorem ho_fu {n : NN} {R : List Int} (h : checkN n = 0) (hl : (R.length : Int) = n.nodes) (hw : winB R = true) : hoB n R = (fuB n.arcs (natB R)).isNone ∧ hoE n R = 0 := by unfold hoB hoE; rw [if_pos h, if_pos hl, decide_eq_true h, decide_eq_true hl, hw]; exact ⟨rfl, rfl⟩
set_option maxRecDepth 100000 in
set_option maxHeartbeats 8000000 in
theorem holds_any (n : NN) (a : Option Addr) (c : Nat) (R : List Int) (r : Option Addr) (rc : Nat) (w : World) (h : AtN w a n.arcs) (hl : n.arcs.length ≤ 4611686018427387904) (hr : At w r R) (hR : R.length ≤ 4611686018427387904) :
    Calls Try.prog 32 #[.agg #[.int .i64 n.nodes, .slice a n.arcs.length c], .slice r R.length rc] w fun e w' => e = .returned (.tuple #[.bool (hoB n R), .int .i64 (hoE n R)]) ∧ Below w.heap.size w w' := by
  have b0 := (Below.refl w.heap.size w).alloc (Nat.le_refl _) (.cells #[.int .i64 n.nodes, .slice a n.arcs.length c] 24)
  have X0 := hiddenN (blkA_new 24 w #[.int .i64 n.nodes, .slice a n.arcs.length c])
  have B0 := hiddenN b0
  have HA := hiddenN (h.below b0)
  have HR := hiddenN (hr.below b0)
  have CH := hiddenN (checkN_any n a c _ (h.below b0) hl)
  have AL := hiddenN (fun (U : World) (hU : At U r R) => allWithin_any r R R.length rc U rfl hR hU)
  clear b0 h hr
  have y0 := X0.out.cell (k := 0) rfl
  have y1 := X0.out.cell (k := 1) rfl
  simp only [List.getElem_toArray, List.getElem_cons_zero, List.getElem_cons_succ] at y0 y1
  obtain ⟨RE, hRE⟩ : ∃ Q, (fun (e : Ending) (w' : World) => e = .returned (.tuple #[.bool (hoB n R), .int .i64 (hoE n R)]) ∧ Below w.heap.size w w') = Q := ⟨_, rfl⟩
  rw [hRE]
  have HRE := hiddenN hRE
  clear hRE
  by_cases hc : checkN n = 0
  · have hS := check_sound hc
    have SB := hiddenN hS.souB
    have hN := hS.nodes
    have hM := hS.most
    rw [hc] at CH
    by_cases hle : (R.length : Int) = n.nodes
    · have hlb : ((R.length : Int) != n.nodes) = false := by simpa using hle
      cases hw : winB R with
      | false =>
        have V := hiddenN (ho_win hc hle hw)
        rw [hw] at AL
        clear hc hS hle hw
        go_enter Try.func32, Try.ntmps32
        go_upto_region 1 with fail
        generalize w.alloc (.cells #[.int .i64 n.nodes, .slice a n.arcs.length c] 24) = W0 at *
        go_wp2_with (first
          | (go_at_call 46; (with_reducible refine (AL.out W1 (HR.out.below B1.out)).mono ?_); rintro e W2 ⟨rfl, eW⟩; have EW := hiddenN eW; clear eW)
          | (go_at_call 42; (with_reducible refine CH.out.mono ?_); rintro e W1 ⟨rfl, b1⟩; have B1 := hiddenN b1; have N1 := hiddenN (X0.out.below b1); have L1 := hiddenN (B0.out.trans (b1.mono B0.out.size)); have y0 := N1.out.cell (k := 0) rfl; have y1 := N1.out.cell (k := 1) rfl; simp only [List.getElem_toArray, List.getElem_cons_zero, List.getElem_cons_succ] at y0 y1; clear b1))
        rw [← HRE.out]
        exact ⟨by rw [V.out.1, V.out.2]; rfl, by rw [← EW.out]; exact L1.out⟩
      | true =>
        have V := hiddenN (ho_fu hc hle hw)
        have hM1 : n.arcs.length ≤ 1000 := by omega
        have eN : n.nodes.toNat = R.length := by omega
        have HW := hiddenN (winB_iff.1 hw)
        have FU := hiddenN (fun (U : World) (g2 : AtN U a n.arcs) (g3 : At U r (rowF R.length (natB R))) => firstUnlike_any n.arcs R.length (natB R) n.nodes a r c rc U (by rw [← eN]; exact SB.out) hM1 (fun v hv => by
          have := HW.out v hv
          unfold natB
          omega) g2 g3)
        rw [row_nat hw] at FU
        rw [hw] at AL
        have FI : Hid (fuI n.arcs (natB R) = -1 ∧ (fuB n.arcs (natB R)).isNone = true ∨ (∃ i : Nat, fuI n.arcs (natB R) = (i : Int)) ∧ (fuB n.arcs (natB R)).isNone = false) := by
          show _ ∨ _
          unfold fuI
          cases fuB n.arcs (natB R) with
          | none => exact .inl ⟨rfl, rfl⟩
          | some i => exact .inr ⟨⟨i, rfl⟩, rfl⟩
        clear hc hS hle hw eN HW
        rcases FI.out with ⟨q1, q2⟩ | ⟨⟨i, q1⟩, q2⟩
        · rw [q1] at FU
          rw [q2] at V
          clear q1 q2 FI
          go_enter Try.func32, Try.ntmps32
          go_upto_region 1 with fail
          generalize w.alloc (.cells #[.int .i64 n.nodes, .slice a n.arcs.length c] 24) = W0 at *
          go_wp2_with (first
            | (go_at_call 27; (with_reducible refine (FU.out _ (HA.out.below (by rw [← EW.out]; exact B1.out)) (HR.out.below (by rw [← EW.out]; exact B1.out))).mono ?_); rintro e W3 ⟨rfl, b3⟩; have L3 := hiddenN (L1.out.trans ((show Below W1.heap.size W1 W3 by have := b3; rw [← EW.out] at this; exact this).mono L1.out.size)); clear b3)
            | (go_at_call 46; (with_reducible refine (AL.out W1 (HR.out.below B1.out)).mono ?_); rintro e W2 ⟨rfl, eW⟩; have EW := hiddenN eW; have y0 : W2.cell? ⟨w.heap.size, 0, none⟩ = _ := (congrArg (fun q => World.cell? q ⟨w.heap.size, 0, none⟩) eW).symm.trans y0; have y1 : W2.cell? ⟨w.heap.size, 1, none⟩ = _ := (congrArg (fun q => World.cell? q ⟨w.heap.size, 1, none⟩) eW).symm.trans y1; clear eW)
            | (go_at_call 42; (with_reducible refine CH.out.mono ?_); rintro e W1 ⟨rfl, b1⟩; have B1 := hiddenN b1; have N1 := hiddenN (X0.out.below b1); have L1 := hiddenN (B0.out.trans (b1.mono B0.out.size)); have y0 := N1.out.cell (k := 0) rfl; have y1 := N1.out.cell (k := 1) rfl; simp only [List.getElem_toArray, List.getElem_cons_zero, List.getElem_cons_succ] at y0 y1; clear b1))
          rw [← HRE.out]
          exact ⟨by rw [V.out.1, V.out.2]; rfl, L3.out⟩
        · rw [q1] at FU
          rw [q2] at V
          have hne : ((i : Int) == -1) = false := by simp
          clear q1 q2 FI
          go_enter Try.func32, Try.ntmps32
          go_upto_region 1 with fail
          generalize w.alloc (.cells #[.int .i64 n.nodes, .slice a n.arcs.length c] 24) = W0 at *
          go_wp2_with (first
            | (go_at_call 27; (with_reducible refine (FU.out _ (HA.out.below (by rw [← EW.out]; exact B1.out)) (HR.out.below (by rw [← EW.out]; exact B1.out))).mono ?_); rintro e W3 ⟨rfl, b3⟩; have L3 := hiddenN (L1.out.trans ((show Below W1.heap.size W1 W3 by have := b3; rw [← EW.out] at this; exact this).mono L1.out.size)); clear b3)
            | (go_at_call 46; (with_reducible refine (AL.out W1 (HR.out.below B1.out)).mono ?_); rintro e W2 ⟨rfl, eW⟩; have EW := hiddenN eW; have y0 : W2.cell? ⟨w.heap.size, 0, none⟩ = _ := (congrArg (fun q => World.cell? q ⟨w.heap.size, 0, none⟩) eW).symm.trans y0; have y1 : W2.cell? ⟨w.heap.size, 1, none⟩ = _ := (congrArg (fun q => World.cell? q ⟨w.heap.size, 1, none⟩) eW).symm.trans y1; clear eW)
            | (go_at_call 42; (with_reducible refine CH.out.mono ?_); rintro e W1 ⟨rfl, b1⟩; have B1 := hiddenN b1; have N1 := hiddenN (X0.out.below b1); have L1 := hiddenN (B0.out.trans (b1.mono B0.out.size)); have y0 := N1.out.cell (k := 0) rfl; have y1 := N1.out.cell (k := 1) rfl; simp only [List.getElem_toArray, List.getElem_cons_zero, List.getElem_cons_succ] at y0 y1; clear b1))
          rw [← HRE.out]
          exact ⟨by rw [V.out.1, V.out.2]; rfl, L3.out⟩
    · have hlb : ((R.length : Int) != n.nodes) = true := by simpa using hle
      have V := hiddenN (ho_len hc hle)
      clear hc hS hle
      go_enter Try.func32, Try.ntmps32
      go_upto_region 1 with fail
      generalize w.alloc (.cells #[.int .i64 n.nodes, .slice a n.arcs.length c] 24) = W0 at *
      go_wp2_with (go_at_call 42; (with_reducible refine CH.out.mono ?_); rintro e W1 ⟨rfl, b1⟩; have B1 := hiddenN b1; have N1 := hiddenN (X0.out.below b1); have L1 := hiddenN (B0.out.trans (b1.mono B0.out.size)); have y0 := N1.out.cell (k := 0) rfl; have y1 := N1.out.cell (k := 1) rfl; simp only [List.getElem_toArray, List.getElem_cons_zero, List.getElem_cons_succ] at y0 y1; clear b1)
      rw [← HRE.out]
      exact ⟨by rw [V.out.1, V.out.2]; rfl, L1.out⟩
  · have V := hiddenN (ho_bad (R := R) hc)
    have hcb : (checkN n != 0) = true := by simpa using hc
    clear hc
    generalize checkN n = cd at *
    go_enter Try.func32, Try.ntmps32
    go_upto_region 1 with fail
    generalize w.alloc (.cells #[.int .i64 n.nodes, .slice a n.arcs.length c] 24) = W0 at *
    go_wp2_with (go_at_call 42; (with_reducible refine CH.out.mono ?_); rintro e W1 ⟨rfl, b1⟩; have L1 := hiddenN (B0.out.trans (b1.mono B0.out.size)); clear b1)
    rw [← HRE.out]
    exact ⟨by rw [V.out.1, V.out.2]; rfl, L1.out⟩
def netB1 : NN := ⟨2, [⟨0, 1, 2, 3, 0⟩]⟩
end Go.Proofs.Ytigodedloogbcaa

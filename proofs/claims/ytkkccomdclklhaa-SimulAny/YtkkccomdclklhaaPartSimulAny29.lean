/- Texts of one chain, laid one behind the other. -/
import Derived.Test.YtkkccomdclklhaaPartSimulAny28
namespace Go.Proofs.Ytkkccomdclklhaa
open Go.ChangeShapes Go.WideShapes Go.ChangeAt Go.RowKit
/-- A state that firings within the counts came to. -/
structure InU (n : NN) (R F0 T F : List Int) (m : Int) : Prop where
  eq : EqN n m T F
  top : LeU n F R
  sum : sumU F = m
  low : ∀ (T1 F1 : List Int) (m1 : Int), EqN n m1 T1 F1 → EndU n R T1 F1 → LeU n F0 F1 → LeU n F F1
theorem InU.few {n : NN} {R F0 T F : List Int} {m : Int} (h : InU n R F0 T F m) (hR : R.length = n.nodes.toNat) : m ≤ sumU R := by
  rw [← h.sum]
  exact sum_le (by rw [h.eq.lF, hR]) fun k hk => h.top k (by rw [← h.eq.lF]; exact hk)
theorem InU.start {n : NN} {R : List Int} (hg : GoodU n R) : InU n R (List.replicate n.nodes.toNat 0) (startT n) (List.replicate n.nodes.toNat 0) 0 :=
  ⟨start_eqU (check_sound hg.check), fun k hk => by rw [nth_rep0]; have := hg.win k (by rw [hg.len]; exact hk); omega, sum_zero _, fun _ _ _ _ _ h => h⟩
theorem InU.step {n : NN} {R F0 T F : List Int} {m : Int} (h : InU n R F0 T F m) (hS : SoundN n) (hR : R.length = n.nodes.toNat) (h2 : sumU R ≤ 2048) {v : Int} (hv : mayN n T v = true) (hl : nth F v.toNat < nth R v.toNat) : InU n R F0 (fireN n T v) (bumpF F v) (m + 1) := by
  have hm := h.few hR
  have hnb := may_node hv
  have hn := node_in hnb
  refine ⟨fire_eqL hS h.eq (by omega) hv, fun k hk => ?_, by rw [sum_bump h.eq (by omega) hnb, h.sum], fun T1 F1 m1 q1 q2 q3 => step_le hS (MoreU.refl n) h.eq q1 q2 (by omega) (h.low T1 F1 m1 q1 q2 q3) hl hv⟩
  rw [bump_eq h.eq (by omega) hn.1 hk]
  have := h.top k hk
  by_cases e : (k : Int) = v
  · have e2 : v.toNat = k := by omega
    rw [e2] at hl; rw [if_pos e]; omega
  · rw [if_neg e]; omega
/-- Within a round: v nodes were asked. -/
structure RdU (n : NN) (R F0 Ts Fs : List Int) (v : Nat) (b : Bool) (T F : List Int) (m : Int) : Prop where
  inn : InU n R F0 T F m
  same : ∀ u, v ≤ u → u < n.nodes.toNat → nth F u = nth Fs u
  no : b = false → T = Ts ∧ F = Fs ∧ ∀ u : Nat, u < v → nth Fs u < nth R u → mayN n Ts (u : Int) = false
  yes : b = true → sumU Fs + 1 ≤ m
theorem RdU.skip {n : NN} {R F0 Ts Fs T F : List Int} {v : Nat} {b : Bool} {m : Int} (h : RdU n R F0 Ts Fs v b T F m) (hv : v < n.nodes.toNat) (hno : nth Fs v < nth R v → mayN n T (v : Int) = false) : RdU n R F0 Ts Fs (v + 1) b T F m :=
  ⟨h.inn, fun u hu hN => h.same u (by omega) hN, fun e => ⟨(h.no e).1, (h.no e).2.1, fun u hu hl => by
    rcases Nat.lt_succ_iff_lt_or_eq.1 hu with h1 | rfl
    · exact (h.no e).2.2 u h1 hl
    · have := hno hl; rwa [(h.no e).1] at this⟩, h.yes⟩
theorem RdU.fire {n : NN} {R F0 Ts Fs T F : List Int} {v : Nat} {b : Bool} {m : Int} (h : RdU n R F0 Ts Fs v b T F m) (hS : SoundN n) (hR : R.length = n.nodes.toNat) (h2 : sumU R ≤ 2048) (hv : v < n.nodes.toNat) (hm : mayN n T (v : Int) = true) (hl : nth Fs v < nth R v) : RdU n R F0 Ts Fs (v + 1) true (fireN n T (v : Int)) (bumpF F (v : Int)) (m + 1) := by
  have hs := h.same v (Nat.le_refl _) hv
  have hst := h.inn.step hS hR h2 hm (by rw [Int.toNat_natCast, hs]; exact hl)
  have hmm := h.inn.few hR
  refine ⟨hst, fun u hu hN => ?_, fun e => (by cases e), fun _ => ?_⟩
  · rw [bump_eq h.inn.eq (by omega) (by omega) hN, if_neg (by omega), h.same u (by omega) hN]; omega
  · cases b with
    | true => have := h.yes rfl; omega
    | false =>
      have := (h.no rfl).2.1
      rw [← this, h.inn.sum]
      exact Int.le_refl _
def GoE (B E K : Nat) (n : NN) (R F0 : List Int) (w : World) (e : Ending) (w' : World) : Prop := ∃ T F m, e = .returned (.bool true) ∧ StE B E w' K n T F ∧ InU n R F0 T F m ∧ EndU n R T F ∧ Below B w w'
set_option maxRecDepth 100000 in
set_option maxHeartbeats 16000000 in
theorem go1_any {B E : Nat} (w : World) (K : Nat) (n : NN) (T F F0 R : List Int) (m : Int) (r : Option Addr) (rc : Nat) (h : StE B E w K n T F) (hS : SoundN n) (hR : R.length = n.nodes.toNat) (h2 : sumU R ≤ 2048) (hI : InU n R F0 T F m) (hr : At w r R) (hrB : ∀ x, r = some x → x.block < B) :
    Calls Try.prog 19 #[.pointer (some ⟨K, 0, none⟩), .int .i64 n.nodes, .slice r R.length rc] w (GoE B E K n R F0 w) := by
  obtain ⟨RE, hRE⟩ : ∃ Q, GoE B E K n R F0 w = Q := ⟨_, rfl⟩
  rw [hRE]
  have HRE := hiddenN hRE
  have hnn := nodes_nat hS
  obtain ⟨N, hN⟩ : ∃ N, n.nodes.toNat = N := ⟨_, rfl⟩
  have HNt := hiddenN hN
  have hnN : n.nodes = (N : Int) := by omega
  rw [hR, hN, hnN]
  rcases hr with e | ⟨rb, ro, rfl, hcr⟩
  · rw [e] at hR; simp at hR; omega
  have HCR := hiddenN hcr
  have hrb : rb < B := hrB _ rfl
  have H0 := hiddenN h
  have HI := hiddenN hI
  have HR := hiddenN hR
  have hN1 : 1 ≤ N ∧ N ≤ 32 := by omega
  have HBW : Hid (∀ (W : World), Below B w W → ∀ u, u < N → W.cell? ⟨rb, ro + u, none⟩ = some (.int .i64 (nth R u))) := fun W hW u hu => cell_block (hW.block _ hrb) (HCR.out u (by rw [HR.out, HNt.out]; exact hu))
  have hB0 := h.low.1
  clear hRE h hI hcr hN hR hrB hnn hnN
  go_enter Try.func19, Try.ntmps19
  go_upto_region 2 with fail
  go_loopg [7] 2049 (fun gk u7 wr => ∃ (q : Nat) (T1 F1 : List Int) (m1 : Int), q ≤ 2049 ∧ gk = 2049 - q ∧ u7 = .int .i64 (q : Int) ∧ StE B E wr K n T1 F1 ∧ InU n R F0 T1 F1 m1 ∧ (q : Int) ≤ m1 ∧ Below B w wr)
  case atStart => exact ⟨0, T, F, m, by decide, rfl, rfl, H0.out, HI.out, by have := HI.out.eq.fs 0 (by have := HNt.out; omega); omega, Below.refl _ _⟩
  case round =>
    clear H0 HI
    obtain ⟨q, Ts, Fs, ms, hq, rfl, rfl, hSt, hIn, hqm, hbw⟩ := hrel
    have hmR := hIn.few HR.out
    have hq48 : (q : Int) ≤ 2048 := by omega
    have SS := hiddenN hSt
    have IS := hiddenN hIn
    have BS := hiddenN hbw
    have FD := hiddenN (fired_any wr K n Ts Fs hSt)
    unfold RowEndN at FD
    have hFl := hIn.eq.lF
    rw [HNt.out] at hFl
    rw [hFl] at FD
    have hBr0 : B ≤ wr.heap.size := hSt.low.1
    clear hSt hIn hbw
    go_upto_region 5 with (go_at_call 18; (with_reducible refine FD.out.mono ?_); rintro e w1 ⟨aF, cF, rfl, hf1, b1⟩; have F1 := hiddenN hf1; have B1 := hiddenN b1; clear hf1 b1)
    obtain ⟨gF, ea, hg1, hg2⟩ := F1.out.there (by rw [hFl]; omega)
    subst ea
    have S1 := hiddenN (SS.out.below B1.out)
    have C1 := hiddenN (F1.out.mono SS.out.low.2)
    have BT := hiddenN (BS.out.trans (B1.out.mono hBr0))
    have HFS : Hid (∀ u, u < N → nth Fs u = nth Fs u) := fun _ _ => rfl
    clear FD F1 SS B1 BS
    go_upto_region 9 with fail
    have RN : Hid (RdU n R F0 Ts Fs 0 false Ts Fs ms) := ⟨IS.out, fun _ _ _ => rfl, fun _ => ⟨rfl, rfl, fun u hu => absurd hu (Nat.not_lt_zero _)⟩, fun e => (by cases e)⟩
    go_loopg [9, 10] N (fun gk u9 u10 wr => ∃ (v : Nat) (b : Bool) (T1 F1 : List Int) (m1 : Int), v ≤ N ∧ gk = N - v ∧ u9 = .bool b ∧ u10 = .int .i64 (v : Int) ∧ StE B E wr K n T1 F1 ∧ CapR E wr (some ⟨gF, 0, none⟩) cF Fs ∧ Below B w wr ∧ RdU n R F0 Ts Fs v b T1 F1 m1)
    case atStart => exact ⟨0, false, Ts, Fs, ms, Nat.zero_le _, rfl, rfl, rfl, S1.out, C1.out, BT.out, RN.out⟩
    case round =>
      clear S1 C1 BT RN
      obtain ⟨vn, b, T1, F1, m1, hv, rfl, rfl, rfl, hst, hcp, hbw, hrd⟩ := hrel
      have S1 := hiddenN hst
      have C1 := hiddenN hcp
      have B1 := hiddenN hbw
      have R1 := hiddenN hrd
      have hBr : B ≤ wr.heap.size := hst.low.1
      have hEr : E ≤ wr.heap.size := hst.low.2
      clear hst hcp hbw hrd
      by_cases hlt : vn < N
      · have hvN : vn < N := hlt
        have hvI : (vn : Int) < (N : Int) := by omega
        have hvT : vn < n.nodes.toNat := by rw [HNt.out]; exact hlt
        rcases C1.out.at with e | ⟨fb, fo, ef, hcf⟩
        · rw [e] at hFl; simp at hFl; omega
        cases ef
        have c0 := hcf vn (by rw [hFl]; exact hlt)
        rw [Nat.zero_add] at c0
        have c1 := HBW.out wr B1.out vn hlt
        have hlc0 := block_lt_of_cell c0
        have hlc1 := block_lt_of_cell c1
        have hnc0 : gF < B ∨ E ≤ gF := .inr (C1.out.lt _ rfl).1
        have hnc1 : rb < B ∨ E ≤ rb := .inl hrb
        clear hcf
        by_cases hxy : nth Fs vn < nth R vn
        · have FIa := hiddenN (fun (W : World) (hW : Below wr.heap.size wr W) (g : Nat) (hg : E ≤ g) (hA : At W (some ⟨g, 0, none⟩) [(vn : Int)]) => fires_any W K n T1 F1 (S1.out.below hW) (some ⟨g, 0, none⟩) 1 [(vn : Int)] hA (by simp) (fun y hy _ => by cases hy; exact .inr hg))
          cases hm : mayN n T1 (vn : Int) with
          | true =>
            have RND := hiddenN (R1.out.fire hS HR.out h2 hvT hm hxy)
            have FI : Hid (∀ (W : World), Below wr.heap.size wr W → ∀ g, E ≤ g → At W (some ⟨g, 0, none⟩) [(vn : Int)] → Calls Try.prog 14 #[.pointer (some ⟨K, 0, none⟩), .slice (some ⟨g, 0, none⟩) 1 1] W fun e w' => e = .returned (.int .i64 1) ∧ StE B E w' K n (fireN n T1 (vn : Int)) (bumpF F1 (vn : Int)) ∧ Mid B E W w') := fun W hW g hg hA => by
              have := FIa.out W hW g hg hA
              rw [fires_one, if_pos hm] at this
              exact this
            clear FIa hm
            generalize fireN n T1 (vn : Int) = T2 at *
            generalize bumpF F1 (vn : Int) = F2 at *
            generalize nth Fs vn = x at *
            generalize nth R vn = y at *
            go_upto_region 11 with fail
            refine wp_region_gen [13] (fun d i u z => match i with
                | 0 => z = .slice (some ⟨gF, 0, none⟩) N cF
                | 1 => z = .int .i64 (vn : Int)
                | 2 => z = .pointer (some ⟨gF, vn, none⟩)
                | 3 => z = .int .i64 x
                | 4 => z = .slice (some ⟨rb, ro, none⟩) N rc
                | 5 => z = .int .i64 (vn : Int)
                | 6 => z = .pointer (some ⟨rb, ro + vn, none⟩)
                | 7 => z = .int .i64 y
                | 8 => z = .bool true
                | 9 => z = .bool true
                | 10 => z = .pointer (some ⟨K, 0, none⟩)
                | 11 => z = .int .i64 (vn : Int)
                | 12 => (d 13 = false → ∃ g, z = .slice (some ⟨g, 0, none⟩) 1 1 ∧ E ≤ g ∧ At u (some ⟨g, 0, none⟩) [(vn : Int)])
                | 13 => (d 13 = true ∧ z = .int .i64 1)
                | 14 => (d 13 = true ∧ z = .bool true)
                | 15 => (d 13 = true ∧ z = .bool true)
                | _ => True) (fun d u => (d 13 = false → Below wr.heap.size wr u) ∧ (d 13 = true → StE B E u K n T2 F2 ∧ Mid B E wr u) ∧ Mid B E wr u) (by kernel_rfl) (by kernel_rfl) (by kernel_rfl) ?_ ?_ ?_ ?_ ?_ ?_ (by kernel_rfl)
            · intro d i w v w' h hb
              match i, h with
              | 0, h => exact h
              | 1, h => exact h
              | 2, h => exact h
              | 3, h => exact h
              | 4, h => exact h
              | 5, h => exact h
              | 6, h => exact h
              | 7, h => exact h
              | 8, h => exact h
              | 9, h => exact h
              | 10, h => exact h
              | 11, h => exact h
              | 12, h => exact fun e => by obtain ⟨g, h1, h2, h3⟩ := h e; exact ⟨g, h1, h2, h3.below hb⟩
              | 13, h => exact h
              | 14, h => exact h
              | 15, h => exact h
              | _ + 16, _ => trivial
            · intro d u u' h hb
              exact ⟨fun e => (h.1 e).trans (hb.mono (h.1 e).size), fun e => ⟨(h.2.1 e).1.below hb, (h.2.1 e).2.trans (Mid.of_below hb)⟩, h.2.2.trans (Mid.of_below hb)⟩
            · exact ⟨fun _ => Below.refl _ _, fun e => absurd e (by decide), Mid.refl _ _ _⟩
            · intro d i o ρ w' hm ho hf hg hC hcs hfs hfr hdep
              match i, hm, ho, hf, hg, hfr, hdep with
              | 0, _, ho, hf, hg, hfr, hdep =>
                simp only [gTA, gCZ, gSI] at ho
                subst ho
                refine ⟨fun _ => ?_, fun hw => absurd (show true = false from hw) (by decide)⟩
                have ts : ρ (.tmp 8) = .slice (some ⟨gF, 0, none⟩) N cF := hfr 8 (by kernel_rfl)
                simp [go_sem, ts]
                exact ⟨Below.refl _ _, rfl⟩
              | 1, _, ho, hf, hg, hfr, hdep =>
                simp only [gTA, gCZ, gCS, gSI] at ho
                subst ho
                refine ⟨fun _ => ?_, fun hw => absurd (show true = false from hw) (by decide)⟩
                have ts : ρ (.tmp 10) = .int .i64 (vn : Int) := hfr 10 (by kernel_rfl)
                simp [go_sem, ts]
                exact ⟨Below.refl _ _, rfl⟩
              | 2, _, ho, hf, hg, hfr, hdep =>
                simp only [gTA, gCZ, gCS, gSI] at ho
                subst ho
                refine ⟨fun _ => ?_, fun hw => absurd (show true = false from hw) (by decide)⟩
                have d0 : ρ (.tmp 32) = .slice (some ⟨gF, 0, none⟩) N cF := hdep 0 32 (by kernel_rfl) (by kernel_rfl)
                have d1 : ρ (.tmp 33) = .int .i64 (vn : Int) := hdep 1 33 (by kernel_rfl) (by kernel_rfl)
                simp [go_sem, d0, d1, hvN]
                exact ⟨Below.refl _ _, rfl⟩
              | 3, _, ho, hf, hg, hfr, hdep =>
                simp only [gTA, gCZ, gCS, gSI] at ho
                subst ho
                refine ⟨fun _ => ?_, fun hw => absurd (show true = false from hw) (by decide)⟩
                have cc := cell_block (hC.2.2.block _ hlc0 hnc0) c0
                have d0 : ρ (.tmp 34) = .pointer (some ⟨gF, vn, none⟩) := hdep 2 34 (by kernel_rfl) (by kernel_rfl)
                simp [go_sem, d0, cc]
                exact ⟨Below.refl _ _, rfl⟩
              | 4, _, ho, hf, hg, hfr, hdep =>
                simp only [gTA, gCZ, gCS, gSI] at ho
                subst ho
                refine ⟨fun _ => ?_, fun hw => absurd (show true = false from hw) (by decide)⟩
                have ts : ρ (.tmp 2) = .slice (some ⟨rb, ro, none⟩) N rc := hfr 2 (by kernel_rfl)
                simp [go_sem, ts]
                exact ⟨Below.refl _ _, rfl⟩
              | 5, _, ho, hf, hg, hfr, hdep =>
                simp only [gTA, gCZ, gCS, gSI] at ho
                subst ho
                refine ⟨fun _ => ?_, fun hw => absurd (show true = false from hw) (by decide)⟩
                have ts : ρ (.tmp 10) = .int .i64 (vn : Int) := hfr 10 (by kernel_rfl)
                simp [go_sem, ts]
                exact ⟨Below.refl _ _, rfl⟩
              | 6, _, ho, hf, hg, hfr, hdep =>
                simp only [gTA, gCZ, gCS, gSI] at ho
                subst ho
                refine ⟨fun _ => ?_, fun hw => absurd (show true = false from hw) (by decide)⟩
                have d0 : ρ (.tmp 36) = .slice (some ⟨rb, ro, none⟩) N rc := hdep 4 36 (by kernel_rfl) (by kernel_rfl)
                have d1 : ρ (.tmp 37) = .int .i64 (vn : Int) := hdep 5 37 (by kernel_rfl) (by kernel_rfl)
                simp [go_sem, d0, d1, hvN]
                exact ⟨Below.refl _ _, rfl⟩
              | 7, _, ho, hf, hg, hfr, hdep =>
                simp only [gTA, gCZ, gCS, gSI] at ho
                subst ho
                refine ⟨fun _ => ?_, fun hw => absurd (show true = false from hw) (by decide)⟩
                have cc := cell_block (hC.2.2.block _ hlc1 hnc1) c1
                have d0 : ρ (.tmp 38) = .pointer (some ⟨rb, ro + vn, none⟩) := hdep 6 38 (by kernel_rfl) (by kernel_rfl)
                simp [go_sem, d0, cc]
                exact ⟨Below.refl _ _, rfl⟩
              | 8, _, ho, hf, hg, hfr, hdep =>
                simp only [gTA, gCZ, gCS, gSI] at ho
                subst ho
                refine ⟨fun _ => ?_, fun hw => absurd (show true = false from hw) (by decide)⟩
                have d0 : ρ (.tmp 35) = .int .i64 x := hdep 3 35 (by kernel_rfl) (by kernel_rfl)
                have d1 : ρ (.tmp 39) = .int .i64 y := hdep 7 39 (by kernel_rfl) (by kernel_rfl)
                simp [go_sem, d0, d1, hxy]
                exact ⟨Below.refl _ _, rfl⟩
              | 9, _, ho, hf, hg, hfr, hdep =>
                simp only [gTA, gCZ, gCS, gSI] at ho
                subst ho
                refine ⟨fun _ => ?_, fun hw => absurd (show true = false from hw) (by decide)⟩
                have d0 : ρ (.tmp 40) = .bool true := hdep 8 40 (by kernel_rfl) (by kernel_rfl)
                simp [go_sem, d0]
                exact ⟨Below.refl _ _, rfl⟩
              | 10, _, ho, hf, hg, hfr, hdep =>
                simp only [gTA, gCZ, gCS, gSI] at ho
                subst ho
                have gd : ρ (.tmp 41) = .bool true := hdep 9 41 (by kernel_rfl) (by kernel_rfl)
                refine ⟨fun _ => ?_, fun hw => absurd (show (match ρ (.tmp 41) with | .bool c => c == true | _ => false) = false from hw) (by rw [gd]; decide)⟩
                clear gd
                have ts : ρ (.tmp 0) = .pointer (some ⟨K, 0, none⟩) := hfr 0 (by kernel_rfl)
                simp [go_sem, ts]
                exact ⟨Below.refl _ _, rfl⟩
              | 11, _, ho, hf, hg, hfr, hdep =>
                simp only [gTA, gCZ, gCS, gSI] at ho
                subst ho
                have gd : ρ (.tmp 41) = .bool true := hdep 9 41 (by kernel_rfl) (by kernel_rfl)
                refine ⟨fun _ => ?_, fun hw => absurd (show (match ρ (.tmp 41) with | .bool c => c == true | _ => false) = false from hw) (by rw [gd]; decide)⟩
                clear gd
                have ts : ρ (.tmp 10) = .int .i64 (vn : Int) := hfr 10 (by kernel_rfl)
                simp [go_sem, ts]
                exact ⟨Below.refl _ _, rfl⟩
              | 12, _, ho, hf, hg, hfr, hdep =>
                simp only [gTA, gCZ, gCS, gSI] at ho
                subst ho
                have gd : ρ (.tmp 41) = .bool true := hdep 9 41 (by kernel_rfl) (by kernel_rfl)
                refine ⟨fun _ => ?_, fun hw => absurd (show (match ρ (.tmp 41) with | .bool c => c == true | _ => false) = false from hw) (by rw [gd]; decide)⟩
                clear gd
                have t0 : ρ (.tmp 43) = .int .i64 (vn : Int) := hdep 11 43 (by kernel_rfl) (by kernel_rfl)
                simp [go_sem, t0]
                exact ⟨(Below.refl _ _).alloc (Nat.le_refl _) _, fun _ => ⟨w'.heap.size, rfl, Nat.le_trans hEr hC.2.2.size, at_alloc1 w' (vn : Int)⟩⟩
              | 13, hm, _, _, _, _, _ => exact absurd hm (by decide)
              | 14, _, ho, hf, hg, hfr, hdep =>
                simp only [gTA, gCZ, gCS, gSI] at ho
                subst ho
                have gd : ρ (.tmp 41) = .bool true := hdep 9 41 (by kernel_rfl) (by kernel_rfl)
                refine ⟨fun _ => ?_, fun hw => absurd (show (match ρ (.tmp 41) with | .bool c => c == true | _ => false) = false from hw) (by rw [gd]; decide)⟩
                clear gd
                obtain ⟨qd, t0⟩ : d 13 = true ∧ ρ (.tmp 45) = .int .i64 1 := hdep 13 45 (by kernel_rfl) (by kernel_rfl)
                simp [go_sem, t0, hcs]
                exact ⟨Below.refl _ _, qd, rfl⟩
              | 15, _, ho, hf, hg, hfr, hdep =>
                simp only [gTA, gCZ, gCS, gSI] at ho
                subst ho
                refine ⟨fun _ => ?_, fun hw => absurd (show true = false from hw) (by decide)⟩
                have t0 : ρ (.tmp 41) = .bool true := hdep 9 41 (by kernel_rfl) (by kernel_rfl)
                obtain ⟨qd, t1⟩ : d 13 = true ∧ ρ (.tmp 46) = .bool true := hdep 14 46 (by kernel_rfl) (by kernel_rfl)
                simp [go_sem, t0, t1]
                exact ⟨Below.refl _ _, qd, rfl⟩
              | n + 16, _, ho, _, _, _, _ => simp at ho
            · intro d i o ρ w' hm ho h0 hf hg hC hcs hfs hfr hdep
              match i, hm, ho, h0, hf, hg, hfr, hdep with
              | 0, hm, _, _, _, _, _, _ => exact absurd hm (by decide)
              | 1, hm, _, _, _, _, _, _ => exact absurd hm (by decide)
              | 2, hm, _, _, _, _, _, _ => exact absurd hm (by decide)
              | 3, hm, _, _, _, _, _, _ => exact absurd hm (by decide)
              | 4, hm, _, _, _, _, _, _ => exact absurd hm (by decide)
              | 5, hm, _, _, _, _, _, _ => exact absurd hm (by decide)
              | 6, hm, _, _, _, _, _, _ => exact absurd hm (by decide)
              | 7, hm, _, _, _, _, _, _ => exact absurd hm (by decide)
              | 8, hm, _, _, _, _, _, _ => exact absurd hm (by decide)
              | 9, hm, _, _, _, _, _, _ => exact absurd hm (by decide)
              | 10, hm, _, _, _, _, _, _ => exact absurd hm (by decide)
              | 11, hm, _, _, _, _, _, _ => exact absurd hm (by decide)
              | 12, hm, _, _, _, _, _, _ => exact absurd hm (by decide)
              | 13, _, ho, h0, hf, hg, hfr, hdep =>
                simp only [gTA, gCZ, gCS, gSI] at ho
                subst ho
                have gd : ρ (.tmp 41) = .bool true := hdep 9 41 (by kernel_rfl) (by kernel_rfl)
                have t0 : ρ (.tmp 42) = .pointer (some ⟨K, 0, none⟩) := hdep 10 42 (by kernel_rfl) (by kernel_rfl)
                obtain ⟨g, t1, hg, ht⟩ : ∃ g, ρ (.tmp 44) = .slice (some ⟨g, 0, none⟩) 1 1 ∧ E ≤ g ∧ At w' (some ⟨g, 0, none⟩) [(vn : Int)] := hdep 12 44 (by kernel_rfl) (by kernel_rfl) h0
                have FIw := FI.out w' (hC.1 h0) g hg ht
                refine ⟨?_, ?_⟩
                · show (match ρ (.tmp 41) with | .bool c => c == true | _ => false) = true
                  rw [gd]; rfl
                simp [go_sem, markUpon, t0, t1, hfs]
                refine FIw.mono ?_
                rintro e w'' ⟨rfl, q1, q2⟩
                refine ⟨_, rfl, ⟨fun e => absurd e (by rw [doneAt_eq]; decide), fun _ => ⟨q1, (Mid.of_below (hC.1 h0)).trans q2⟩, (Mid.of_below (hC.1 h0)).trans q2⟩, ⟨doneAt_eq _ _, rfl⟩, ?_⟩
                intro i t hi hs
                match i, hi, hs with
                | 0, _, hs => exact hs
                | 1, _, hs => exact hs
                | 2, _, hs => exact hs
                | 3, _, hs => exact hs
                | 4, _, hs => exact hs
                | 5, _, hs => exact hs
                | 6, _, hs => exact hs
                | 7, _, hs => exact hs
                | 8, _, hs => exact hs
                | 9, _, hs => exact hs
                | 10, _, hs => exact hs
                | 11, _, hs => exact hs
                | 12, _, hs => exact fun e => absurd e (by rw [doneAt_eq]; decide)
                | 13, _, hs => exact absurd hs.1 (by rw [h0]; decide)
                | 14, _, hs => exact absurd hs.1 (by rw [h0]; decide)
                | 15, _, hs => exact absurd hs.1 (by rw [h0]; decide)
                | _ + 16, _, _ => trivial
              | 14, hm, _, _, _, _, _, _ => exact absurd hm (by decide)
              | 15, hm, _, _, _, _, _, _ => exact absurd hm (by decide)
              | n + 16, _, ho, _, _, _, _, _ => simp at ho
            · intro U2 W2 hC2 hS
              have e15 : U2 15 = .bool true := (hS 15 (by decide) (by intro h; cases h)).2
              simp only [puts, e15]
              simp only [Act.put, List.setIfInBounds_toArray, List.set_cons_zero, List.set_cons_succ]
              clear hS e15
              obtain ⟨s2, m2⟩ := hC2.2.1 rfl
              have S9 := hiddenN s2
              have B9 := hiddenN (B1.out.trans (m2.below hBr))
              have C9 := hiddenN (C1.out.keep fun y hy => m2.block _ (C1.out.lt y hy).2 (.inr (C1.out.lt y hy).1))
              clear hC2 s2 m2
              go_wp2
              go_roundg (N - (vn + 1))
              case measure => omega
              case rel => exact ⟨vn + 1, true, _, _, m1 + 1, by omega, rfl, rfl, by go_num, S9.out, C9.out, B9.out, RND.out⟩
          | false =>
            have RND := hiddenN (R1.out.skip hvT (fun _ => hm))
            have FI : Hid (∀ (W : World), Below wr.heap.size wr W → ∀ g, E ≤ g → At W (some ⟨g, 0, none⟩) [(vn : Int)] → Calls Try.prog 14 #[.pointer (some ⟨K, 0, none⟩), .slice (some ⟨g, 0, none⟩) 1 1] W fun e w' => e = .returned (.int .i64 0) ∧ StE B E w' K n T1 F1 ∧ Mid B E W w') := fun W hW g hg hA => by
              have := FIa.out W hW g hg hA
              rw [fires_one, if_neg (by rw [hm]; decide)] at this
              exact this
            clear FIa hm
            obtain ⟨T2, hT2⟩ : ∃ q, T1 = q := ⟨_, rfl⟩
            obtain ⟨F2, hF2⟩ : ∃ q, F1 = q := ⟨_, rfl⟩
            subst hT2
            subst hF2
            generalize nth Fs vn = x at *
            generalize nth R vn = y at *
            go_upto_region 11 with fail
            refine wp_region_gen [13] (fun d i u z => match i with
                | 0 => z = .slice (some ⟨gF, 0, none⟩) N cF
                | 1 => z = .int .i64 (vn : Int)
                | 2 => z = .pointer (some ⟨gF, vn, none⟩)
                | 3 => z = .int .i64 x
                | 4 => z = .slice (some ⟨rb, ro, none⟩) N rc
                | 5 => z = .int .i64 (vn : Int)
                | 6 => z = .pointer (some ⟨rb, ro + vn, none⟩)
                | 7 => z = .int .i64 y
                | 8 => z = .bool true
                | 9 => z = .bool true
                | 10 => z = .pointer (some ⟨K, 0, none⟩)
                | 11 => z = .int .i64 (vn : Int)
                | 12 => (d 13 = false → ∃ g, z = .slice (some ⟨g, 0, none⟩) 1 1 ∧ E ≤ g ∧ At u (some ⟨g, 0, none⟩) [(vn : Int)])
                | 13 => (d 13 = true ∧ z = .int .i64 0)
                | 14 => (d 13 = true ∧ z = .bool false)
                | 15 => (d 13 = true ∧ z = .bool false)
                | _ => True) (fun d u => (d 13 = false → Below wr.heap.size wr u) ∧ (d 13 = true → StE B E u K n T1 F1 ∧ Mid B E wr u) ∧ Mid B E wr u) (by kernel_rfl) (by kernel_rfl) (by kernel_rfl) ?_ ?_ ?_ ?_ ?_ ?_ (by kernel_rfl)
            · intro d i w v w' h hb
              match i, h with
              | 0, h => exact h
              | 1, h => exact h
              | 2, h => exact h
              | 3, h => exact h
              | 4, h => exact h
              | 5, h => exact h
              | 6, h => exact h
              | 7, h => exact h
              | 8, h => exact h
              | 9, h => exact h
              | 10, h => exact h
              | 11, h => exact h
              | 12, h => exact fun e => by obtain ⟨g, h1, h2, h3⟩ := h e; exact ⟨g, h1, h2, h3.below hb⟩
              | 13, h => exact h
              | 14, h => exact h
              | 15, h => exact h
              | _ + 16, _ => trivial
            · intro d u u' h hb
              exact ⟨fun e => (h.1 e).trans (hb.mono (h.1 e).size), fun e => ⟨(h.2.1 e).1.below hb, (h.2.1 e).2.trans (Mid.of_below hb)⟩, h.2.2.trans (Mid.of_below hb)⟩
            · exact ⟨fun _ => Below.refl _ _, fun e => absurd e (by decide), Mid.refl _ _ _⟩
            · intro d i o ρ w' hm ho hf hg hC hcs hfs hfr hdep
              match i, hm, ho, hf, hg, hfr, hdep with
              | 0, _, ho, hf, hg, hfr, hdep =>
                simp only [gTA, gCZ, gSI] at ho
                subst ho
                refine ⟨fun _ => ?_, fun hw => absurd (show true = false from hw) (by decide)⟩
                have ts : ρ (.tmp 8) = .slice (some ⟨gF, 0, none⟩) N cF := hfr 8 (by kernel_rfl)
                simp [go_sem, ts]
                exact ⟨Below.refl _ _, rfl⟩
              | 1, _, ho, hf, hg, hfr, hdep =>
                simp only [gTA, gCZ, gCS, gSI] at ho
                subst ho
                refine ⟨fun _ => ?_, fun hw => absurd (show true = false from hw) (by decide)⟩
                have ts : ρ (.tmp 10) = .int .i64 (vn : Int) := hfr 10 (by kernel_rfl)
                simp [go_sem, ts]
                exact ⟨Below.refl _ _, rfl⟩
              | 2, _, ho, hf, hg, hfr, hdep =>
                simp only [gTA, gCZ, gCS, gSI] at ho
                subst ho
                refine ⟨fun _ => ?_, fun hw => absurd (show true = false from hw) (by decide)⟩
                have d0 : ρ (.tmp 32) = .slice (some ⟨gF, 0, none⟩) N cF := hdep 0 32 (by kernel_rfl) (by kernel_rfl)
                have d1 : ρ (.tmp 33) = .int .i64 (vn : Int) := hdep 1 33 (by kernel_rfl) (by kernel_rfl)
                simp [go_sem, d0, d1, hvN]
                exact ⟨Below.refl _ _, rfl⟩
              | 3, _, ho, hf, hg, hfr, hdep =>
                simp only [gTA, gCZ, gCS, gSI] at ho
                subst ho
                refine ⟨fun _ => ?_, fun hw => absurd (show true = false from hw) (by decide)⟩
                have cc := cell_block (hC.2.2.block _ hlc0 hnc0) c0
                have d0 : ρ (.tmp 34) = .pointer (some ⟨gF, vn, none⟩) := hdep 2 34 (by kernel_rfl) (by kernel_rfl)
                simp [go_sem, d0, cc]
                exact ⟨Below.refl _ _, rfl⟩
              | 4, _, ho, hf, hg, hfr, hdep =>
                simp only [gTA, gCZ, gCS, gSI] at ho
                subst ho
                refine ⟨fun _ => ?_, fun hw => absurd (show true = false from hw) (by decide)⟩
                have ts : ρ (.tmp 2) = .slice (some ⟨rb, ro, none⟩) N rc := hfr 2 (by kernel_rfl)
                simp [go_sem, ts]
                exact ⟨Below.refl _ _, rfl⟩
              | 5, _, ho, hf, hg, hfr, hdep =>
                simp only [gTA, gCZ, gCS, gSI] at ho
                subst ho
                refine ⟨fun _ => ?_, fun hw => absurd (show true = false from hw) (by decide)⟩
                have ts : ρ (.tmp 10) = .int .i64 (vn : Int) := hfr 10 (by kernel_rfl)
                simp [go_sem, ts]
                exact ⟨Below.refl _ _, rfl⟩
              | 6, _, ho, hf, hg, hfr, hdep =>
                simp only [gTA, gCZ, gCS, gSI] at ho
                subst ho
                refine ⟨fun _ => ?_, fun hw => absurd (show true = false from hw) (by decide)⟩
                have d0 : ρ (.tmp 36) = .slice (some ⟨rb, ro, none⟩) N rc := hdep 4 36 (by kernel_rfl) (by kernel_rfl)
                have d1 : ρ (.tmp 37) = .int .i64 (vn : Int) := hdep 5 37 (by kernel_rfl) (by kernel_rfl)
                simp [go_sem, d0, d1, hvN]
                exact ⟨Below.refl _ _, rfl⟩
              | 7, _, ho, hf, hg, hfr, hdep =>
                simp only [gTA, gCZ, gCS, gSI] at ho
                subst ho
                refine ⟨fun _ => ?_, fun hw => absurd (show true = false from hw) (by decide)⟩
                have cc := cell_block (hC.2.2.block _ hlc1 hnc1) c1
                have d0 : ρ (.tmp 38) = .pointer (some ⟨rb, ro + vn, none⟩) := hdep 6 38 (by kernel_rfl) (by kernel_rfl)
                simp [go_sem, d0, cc]
                exact ⟨Below.refl _ _, rfl⟩
              | 8, _, ho, hf, hg, hfr, hdep =>
                simp only [gTA, gCZ, gCS, gSI] at ho
                subst ho
                refine ⟨fun _ => ?_, fun hw => absurd (show true = false from hw) (by decide)⟩
                have d0 : ρ (.tmp 35) = .int .i64 x := hdep 3 35 (by kernel_rfl) (by kernel_rfl)
                have d1 : ρ (.tmp 39) = .int .i64 y := hdep 7 39 (by kernel_rfl) (by kernel_rfl)
                simp [go_sem, d0, d1, hxy]
                exact ⟨Below.refl _ _, rfl⟩
              | 9, _, ho, hf, hg, hfr, hdep =>
                simp only [gTA, gCZ, gCS, gSI] at ho
                subst ho
                refine ⟨fun _ => ?_, fun hw => absurd (show true = false from hw) (by decide)⟩
                have d0 : ρ (.tmp 40) = .bool true := hdep 8 40 (by kernel_rfl) (by kernel_rfl)
                simp [go_sem, d0]
                exact ⟨Below.refl _ _, rfl⟩
              | 10, _, ho, hf, hg, hfr, hdep =>
                simp only [gTA, gCZ, gCS, gSI] at ho
                subst ho
                have gd : ρ (.tmp 41) = .bool true := hdep 9 41 (by kernel_rfl) (by kernel_rfl)
                refine ⟨fun _ => ?_, fun hw => absurd (show (match ρ (.tmp 41) with | .bool c => c == true | _ => false) = false from hw) (by rw [gd]; decide)⟩
                clear gd
                have ts : ρ (.tmp 0) = .pointer (some ⟨K, 0, none⟩) := hfr 0 (by kernel_rfl)
                simp [go_sem, ts]
                exact ⟨Below.refl _ _, rfl⟩
              | 11, _, ho, hf, hg, hfr, hdep =>
                simp only [gTA, gCZ, gCS, gSI] at ho
                subst ho
                have gd : ρ (.tmp 41) = .bool true := hdep 9 41 (by kernel_rfl) (by kernel_rfl)
                refine ⟨fun _ => ?_, fun hw => absurd (show (match ρ (.tmp 41) with | .bool c => c == true | _ => false) = false from hw) (by rw [gd]; decide)⟩
                clear gd
                have ts : ρ (.tmp 10) = .int .i64 (vn : Int) := hfr 10 (by kernel_rfl)
                simp [go_sem, ts]
                exact ⟨Below.refl _ _, rfl⟩
              | 12, _, ho, hf, hg, hfr, hdep =>
                simp only [gTA, gCZ, gCS, gSI] at ho
                subst ho
                have gd : ρ (.tmp 41) = .bool true := hdep 9 41 (by kernel_rfl) (by kernel_rfl)
                refine ⟨fun _ => ?_, fun hw => absurd (show (match ρ (.tmp 41) with | .bool c => c == true | _ => false) = false from hw) (by rw [gd]; decide)⟩
                clear gd
                have t0 : ρ (.tmp 43) = .int .i64 (vn : Int) := hdep 11 43 (by kernel_rfl) (by kernel_rfl)
                simp [go_sem, t0]
                exact ⟨(Below.refl _ _).alloc (Nat.le_refl _) _, fun _ => ⟨w'.heap.size, rfl, Nat.le_trans hEr hC.2.2.size, at_alloc1 w' (vn : Int)⟩⟩
              | 13, hm, _, _, _, _, _ => exact absurd hm (by decide)
              | 14, _, ho, hf, hg, hfr, hdep =>
                simp only [gTA, gCZ, gCS, gSI] at ho
                subst ho
                have gd : ρ (.tmp 41) = .bool true := hdep 9 41 (by kernel_rfl) (by kernel_rfl)
                refine ⟨fun _ => ?_, fun hw => absurd (show (match ρ (.tmp 41) with | .bool c => c == true | _ => false) = false from hw) (by rw [gd]; decide)⟩
                clear gd
                obtain ⟨qd, t0⟩ : d 13 = true ∧ ρ (.tmp 45) = .int .i64 0 := hdep 13 45 (by kernel_rfl) (by kernel_rfl)
                simp [go_sem, t0, hcs]
                exact ⟨Below.refl _ _, qd, rfl⟩
              | 15, _, ho, hf, hg, hfr, hdep =>
                simp only [gTA, gCZ, gCS, gSI] at ho
                subst ho
                refine ⟨fun _ => ?_, fun hw => absurd (show true = false from hw) (by decide)⟩
                have t0 : ρ (.tmp 41) = .bool true := hdep 9 41 (by kernel_rfl) (by kernel_rfl)
                obtain ⟨qd, t1⟩ : d 13 = true ∧ ρ (.tmp 46) = .bool false := hdep 14 46 (by kernel_rfl) (by kernel_rfl)
                simp [go_sem, t0, t1]
                exact ⟨Below.refl _ _, qd, rfl⟩
              | n + 16, _, ho, _, _, _, _ => simp at ho
            · intro d i o ρ w' hm ho h0 hf hg hC hcs hfs hfr hdep
              match i, hm, ho, h0, hf, hg, hfr, hdep with
              | 0, hm, _, _, _, _, _, _ => exact absurd hm (by decide)
              | 1, hm, _, _, _, _, _, _ => exact absurd hm (by decide)
              | 2, hm, _, _, _, _, _, _ => exact absurd hm (by decide)
              | 3, hm, _, _, _, _, _, _ => exact absurd hm (by decide)
              | 4, hm, _, _, _, _, _, _ => exact absurd hm (by decide)
              | 5, hm, _, _, _, _, _, _ => exact absurd hm (by decide)
              | 6, hm, _, _, _, _, _, _ => exact absurd hm (by decide)
              | 7, hm, _, _, _, _, _, _ => exact absurd hm (by decide)
              | 8, hm, _, _, _, _, _, _ => exact absurd hm (by decide)
              | 9, hm, _, _, _, _, _, _ => exact absurd hm (by decide)
              | 10, hm, _, _, _, _, _, _ => exact absurd hm (by decide)
              | 11, hm, _, _, _, _, _, _ => exact absurd hm (by decide)
              | 12, hm, _, _, _, _, _, _ => exact absurd hm (by decide)
              | 13, _, ho, h0, hf, hg, hfr, hdep =>
                simp only [gTA, gCZ, gCS, gSI] at ho
                subst ho
                have gd : ρ (.tmp 41) = .bool true := hdep 9 41 (by kernel_rfl) (by kernel_rfl)
                have t0 : ρ (.tmp 42) = .pointer (some ⟨K, 0, none⟩) := hdep 10 42 (by kernel_rfl) (by kernel_rfl)
                obtain ⟨g, t1, hg, ht⟩ : ∃ g, ρ (.tmp 44) = .slice (some ⟨g, 0, none⟩) 1 1 ∧ E ≤ g ∧ At w' (some ⟨g, 0, none⟩) [(vn : Int)] := hdep 12 44 (by kernel_rfl) (by kernel_rfl) h0
                have FIw := FI.out w' (hC.1 h0) g hg ht
                refine ⟨?_, ?_⟩
                · show (match ρ (.tmp 41) with | .bool c => c == true | _ => false) = true
                  rw [gd]; rfl
                simp [go_sem, markUpon, t0, t1, hfs]
                refine FIw.mono ?_
                rintro e w'' ⟨rfl, q1, q2⟩
                refine ⟨_, rfl, ⟨fun e => absurd e (by rw [doneAt_eq]; decide), fun _ => ⟨q1, (Mid.of_below (hC.1 h0)).trans q2⟩, (Mid.of_below (hC.1 h0)).trans q2⟩, ⟨doneAt_eq _ _, rfl⟩, ?_⟩
                intro i t hi hs
                match i, hi, hs with
                | 0, _, hs => exact hs
                | 1, _, hs => exact hs
                | 2, _, hs => exact hs
                | 3, _, hs => exact hs
                | 4, _, hs => exact hs
                | 5, _, hs => exact hs
                | 6, _, hs => exact hs
                | 7, _, hs => exact hs
                | 8, _, hs => exact hs
                | 9, _, hs => exact hs
                | 10, _, hs => exact hs
                | 11, _, hs => exact hs
                | 12, _, hs => exact fun e => absurd e (by rw [doneAt_eq]; decide)
                | 13, _, hs => exact absurd hs.1 (by rw [h0]; decide)
                | 14, _, hs => exact absurd hs.1 (by rw [h0]; decide)
                | 15, _, hs => exact absurd hs.1 (by rw [h0]; decide)
                | _ + 16, _, _ => trivial
              | 14, hm, _, _, _, _, _, _ => exact absurd hm (by decide)
              | 15, hm, _, _, _, _, _, _ => exact absurd hm (by decide)
              | n + 16, _, ho, _, _, _, _, _ => simp at ho
            · intro U2 W2 hC2 hS
              have e15 : U2 15 = .bool false := (hS 15 (by decide) (by intro h; cases h)).2
              simp only [puts, e15]
              simp only [Act.put, List.setIfInBounds_toArray, List.set_cons_zero, List.set_cons_succ]
              clear hS e15
              obtain ⟨s2, m2⟩ := hC2.2.1 rfl
              have S9 := hiddenN s2
              have B9 := hiddenN (B1.out.trans (m2.below hBr))
              have C9 := hiddenN (C1.out.keep fun y hy => m2.block _ (C1.out.lt y hy).2 (.inr (C1.out.lt y hy).1))
              clear hC2 s2 m2
              go_wp2
              go_roundg (N - (vn + 1))
              case measure => omega
              case rel => exact ⟨vn + 1, b, _, _, m1, by omega, rfl, rfl, by go_num, S9.out, C9.out, B9.out, RND.out⟩
        · have RND := hiddenN (R1.out.skip hvT (fun hl => absurd hl hxy))
          generalize nth Fs vn = x at *
          generalize nth R vn = y at *
          have hyx : y ≤ x := by omega
          go_upto_region 11 with fail
          refine wp_region_gen [] (fun d i u z => match i with
              | 0 => z = .slice (some ⟨gF, 0, none⟩) N cF
              | 1 => z = .int .i64 (vn : Int)
              | 2 => z = .pointer (some ⟨gF, vn, none⟩)
              | 3 => z = .int .i64 x
              | 4 => z = .slice (some ⟨rb, ro, none⟩) N rc
              | 5 => z = .int .i64 (vn : Int)
              | 6 => z = .pointer (some ⟨rb, ro + vn, none⟩)
              | 7 => z = .int .i64 y
              | 8 => z = .bool false
              | 9 => z = .bool false
              | 10 => z = undef
              | 11 => z = undef
              | 12 => z = undef
              | 13 => z = undef
              | 14 => z = undef
              | 15 => z = .bool false
              | _ => True) (fun d u => Below wr.heap.size wr u) (by kernel_rfl) (by kernel_rfl) (by kernel_rfl) ?_ ?_ ?_ ?_ ?_ ?_ (by kernel_rfl)
          · intro d i w v w' h hb
            match i, h with
            | 0, h => exact h
            | 1, h => exact h
            | 2, h => exact h
            | 3, h => exact h
            | 4, h => exact h
            | 5, h => exact h
            | 6, h => exact h
            | 7, h => exact h
            | 8, h => exact h
            | 9, h => exact h
            | 10, h => exact h
            | 11, h => exact h
            | 12, h => exact h
            | 13, h => exact h
            | 14, h => exact h
            | 15, h => exact h
            | _ + 16, _ => trivial
          · intro d u u' h hb
            exact h.trans (hb.mono h.size)
          · exact Below.refl _ _
          · intro d i o ρ w' hm ho hf hg hC hcs hfs hfr hdep
            match i, hm, ho, hf, hg, hfr, hdep with
            | 0, _, ho, hf, hg, hfr, hdep =>
              simp only [gTA, gCZ, gSI] at ho
              subst ho
              refine ⟨fun _ => ?_, fun hw => absurd (show true = false from hw) (by decide)⟩
              have ts : ρ (.tmp 8) = .slice (some ⟨gF, 0, none⟩) N cF := hfr 8 (by kernel_rfl)
              simp [go_sem, ts]
              exact ⟨Below.refl _ _, rfl⟩
            | 1, _, ho, hf, hg, hfr, hdep =>
              simp only [gTA, gCZ, gCS, gSI] at ho
              subst ho
              refine ⟨fun _ => ?_, fun hw => absurd (show true = false from hw) (by decide)⟩
              have ts : ρ (.tmp 10) = .int .i64 (vn : Int) := hfr 10 (by kernel_rfl)
              simp [go_sem, ts]
              exact ⟨Below.refl _ _, rfl⟩
            | 2, _, ho, hf, hg, hfr, hdep =>
              simp only [gTA, gCZ, gCS, gSI] at ho
              subst ho
              refine ⟨fun _ => ?_, fun hw => absurd (show true = false from hw) (by decide)⟩
              have d0 : ρ (.tmp 32) = .slice (some ⟨gF, 0, none⟩) N cF := hdep 0 32 (by kernel_rfl) (by kernel_rfl)
              have d1 : ρ (.tmp 33) = .int .i64 (vn : Int) := hdep 1 33 (by kernel_rfl) (by kernel_rfl)
              simp [go_sem, d0, d1, hvN]
              exact ⟨Below.refl _ _, rfl⟩
            | 3, _, ho, hf, hg, hfr, hdep =>
              simp only [gTA, gCZ, gCS, gSI] at ho
              subst ho
              refine ⟨fun _ => ?_, fun hw => absurd (show true = false from hw) (by decide)⟩
              have cc := cellN_later hC c0
              have d0 : ρ (.tmp 34) = .pointer (some ⟨gF, vn, none⟩) := hdep 2 34 (by kernel_rfl) (by kernel_rfl)
              simp [go_sem, d0, cc]
              exact ⟨Below.refl _ _, rfl⟩
            | 4, _, ho, hf, hg, hfr, hdep =>
              simp only [gTA, gCZ, gCS, gSI] at ho
              subst ho
              refine ⟨fun _ => ?_, fun hw => absurd (show true = false from hw) (by decide)⟩
              have ts : ρ (.tmp 2) = .slice (some ⟨rb, ro, none⟩) N rc := hfr 2 (by kernel_rfl)
              simp [go_sem, ts]
              exact ⟨Below.refl _ _, rfl⟩
            | 5, _, ho, hf, hg, hfr, hdep =>
              simp only [gTA, gCZ, gCS, gSI] at ho
              subst ho
              refine ⟨fun _ => ?_, fun hw => absurd (show true = false from hw) (by decide)⟩
              have ts : ρ (.tmp 10) = .int .i64 (vn : Int) := hfr 10 (by kernel_rfl)
              simp [go_sem, ts]
              exact ⟨Below.refl _ _, rfl⟩
            | 6, _, ho, hf, hg, hfr, hdep =>
              simp only [gTA, gCZ, gCS, gSI] at ho
              subst ho
              refine ⟨fun _ => ?_, fun hw => absurd (show true = false from hw) (by decide)⟩
              have d0 : ρ (.tmp 36) = .slice (some ⟨rb, ro, none⟩) N rc := hdep 4 36 (by kernel_rfl) (by kernel_rfl)
              have d1 : ρ (.tmp 37) = .int .i64 (vn : Int) := hdep 5 37 (by kernel_rfl) (by kernel_rfl)
              simp [go_sem, d0, d1, hvN]
              exact ⟨Below.refl _ _, rfl⟩
            | 7, _, ho, hf, hg, hfr, hdep =>
              simp only [gTA, gCZ, gCS, gSI] at ho
              subst ho
              refine ⟨fun _ => ?_, fun hw => absurd (show true = false from hw) (by decide)⟩
              have cc := cellN_later hC c1
              have d0 : ρ (.tmp 38) = .pointer (some ⟨rb, ro + vn, none⟩) := hdep 6 38 (by kernel_rfl) (by kernel_rfl)
              simp [go_sem, d0, cc]
              exact ⟨Below.refl _ _, rfl⟩
            | 8, _, ho, hf, hg, hfr, hdep =>
              simp only [gTA, gCZ, gCS, gSI] at ho
              subst ho
              refine ⟨fun _ => ?_, fun hw => absurd (show true = false from hw) (by decide)⟩
              have d0 : ρ (.tmp 35) = .int .i64 x := hdep 3 35 (by kernel_rfl) (by kernel_rfl)
              have d1 : ρ (.tmp 39) = .int .i64 y := hdep 7 39 (by kernel_rfl) (by kernel_rfl)
              simp [go_sem, d0, d1, hxy]
              exact ⟨Below.refl _ _, rfl⟩
            | 9, _, ho, hf, hg, hfr, hdep =>
              simp only [gTA, gCZ, gCS, gSI] at ho
              subst ho
              refine ⟨fun _ => ?_, fun hw => absurd (show true = false from hw) (by decide)⟩
              have d0 : ρ (.tmp 40) = .bool false := hdep 8 40 (by kernel_rfl) (by kernel_rfl)
              simp [go_sem, d0]
              exact ⟨Below.refl _ _, rfl⟩
            | 10, _, ho, hf, hg, hfr, hdep =>
              simp only [gTA, gCZ, gCS, gSI] at ho
              subst ho
              have gd : ρ (.tmp 41) = .bool false := hdep 9 41 (by kernel_rfl) (by kernel_rfl)
              exact ⟨fun hw => absurd (show (match ρ (.tmp 41) with | .bool c => c == true | _ => false) = true from hw) (by rw [gd]; decide), fun _ => rfl⟩
            | 11, _, ho, hf, hg, hfr, hdep =>
              simp only [gTA, gCZ, gCS, gSI] at ho
              subst ho
              have gd : ρ (.tmp 41) = .bool false := hdep 9 41 (by kernel_rfl) (by kernel_rfl)
              exact ⟨fun hw => absurd (show (match ρ (.tmp 41) with | .bool c => c == true | _ => false) = true from hw) (by rw [gd]; decide), fun _ => rfl⟩
            | 12, _, ho, hf, hg, hfr, hdep =>
              simp only [gTA, gCZ, gCS, gSI] at ho
              subst ho
              have gd : ρ (.tmp 41) = .bool false := hdep 9 41 (by kernel_rfl) (by kernel_rfl)
              exact ⟨fun hw => absurd (show (match ρ (.tmp 41) with | .bool c => c == true | _ => false) = true from hw) (by rw [gd]; decide), fun _ => rfl⟩
            | 13, _, ho, hf, hg, hfr, hdep =>
              simp only [gTA, gCZ, gCS, gSI] at ho
              subst ho
              have gd : ρ (.tmp 41) = .bool false := hdep 9 41 (by kernel_rfl) (by kernel_rfl)
              exact ⟨fun hw => absurd (show (match ρ (.tmp 41) with | .bool c => c == true | _ => false) = true from hw) (by rw [gd]; decide), fun _ => rfl⟩
            | 14, _, ho, hf, hg, hfr, hdep =>
              simp only [gTA, gCZ, gCS, gSI] at ho
              subst ho
              have gd : ρ (.tmp 41) = .bool false := hdep 9 41 (by kernel_rfl) (by kernel_rfl)
              exact ⟨fun hw => absurd (show (match ρ (.tmp 41) with | .bool c => c == true | _ => false) = true from hw) (by rw [gd]; decide), fun _ => rfl⟩
            | 15, _, ho, hf, hg, hfr, hdep =>
              simp only [gTA, gCZ, gCS, gSI] at ho
              subst ho
              refine ⟨fun _ => ?_, fun hw => absurd (show true = false from hw) (by decide)⟩
              have d0 : ρ (.tmp 41) = .bool false := hdep 9 41 (by kernel_rfl) (by kernel_rfl)
              simp [go_sem, d0, hcs]
              exact ⟨Below.refl _ _, rfl⟩
            | n + 16, _, ho, _, _, _, _ => simp at ho
          · intro d i o ρ w' hm ho h0 hf hg hC hcs hfs hfr hdep
            exact absurd hm (by simp)
          · intro V w9 hC9 hS
            have e15 : V 15 = .bool false := hS 15 (by decide) (by intro h; cases h)
            simp only [puts, e15]
            simp only [Act.put, List.setIfInBounds_toArray, List.set_cons_zero, List.set_cons_succ]
            clear hS e15
            have S9 := hiddenN (S1.out.below hC9)
            have B9 := hiddenN (B1.out.trans (hC9.mono hBr))
            have C9 := hiddenN (C1.out.later hC9)
            clear hC9
            go_wp2
            go_roundg (N - (vn + 1))
            case measure => omega
            case rel => exact ⟨vn + 1, b, T1, F1, m1, by omega, rfl, rfl, by go_num, S9.out, C9.out, B9.out, RND.out⟩
      · have ek : vn = N := by omega
        subst ek
        cases b with
        | false =>
          obtain ⟨rfl, rfl, hno⟩ := R1.out.no rfl
          have HE : Hid (EndU n R T1 F1) := fun v hvb hl => by
            have hn := node_in hvb
            have e : v = ((v.toNat : Nat) : Int) := by omega
            rw [e]
            exact hno v.toNat (by have := HNt.out; omega) hl
          have I2 := hiddenN R1.out.inn
          clear hno R1
          go_wp2
          rw [← HRE.out]
          exact ⟨T1, F1, m1, rfl, S1.out, I2.out, HE.out, B1.out⟩
        | true =>
          have hy := R1.out.yes rfl
          have I2 := hiddenN R1.out.inn
          have hsm := IS.out.sum
          clear R1
          go_wp2
          go_roundg (2049 - (q + 1))
          case measure => omega
          case rel => exact ⟨q + 1, T1, F1, m1, by omega, rfl, by go_num, S1.out, I2.out, by push_cast; omega, B1.out⟩
set_option maxHeartbeats 1000000 in
theorem same_ints (U : World) (X Y : List Int) (d1 d2 : Option Addr) (k1 k2 N : Nat) (h1 : X.length = N) (h2 : Y.length = N) (hN : 1 ≤ N) (hm : N ≤ 4611686018427387904) (q1 : At U d1 X) (q2 : At U d2 Y) :
    Calls Try.prog 15 #[.slice d1 N k1, .slice d2 N k2] U fun e w' => e = .returned (.bool (decide (X = Y))) ∧ Below U.heap.size U w' := by
  have hee : ((N : Int) != (N : Int)) = false := by simp
  rcases q1 with e | ⟨b1, off1, rfl, hc1⟩
  · rw [e] at h1; simp at h1; omega
  rcases q2 with e | ⟨b2, off2, rfl, hc2⟩
  · rw [e] at h2; simp at h2; omega
  have HC1 := hiddenN hc1
  have HC2 := hiddenN hc2
  have H1 := hiddenN h1
  have H2 := hiddenN h2
  clear hc1 hc2 h1 h2
  go_enter Try.func15, Try.ntmps15
  go_wp2
  go_loopw [5] (fun i wr => ∃ k n : Nat, k ≤ N ∧ wr = U.drewN n ∧ i = .int .i64 k ∧ ∀ j, j < k → nth X j = nth Y j) (fun i _ => N - (intOf i).toNat)
  case atStart => exact ⟨0, 0, Nat.zero_le _, rfl, rfl, fun j hj => absurd hj (Nat.not_lt_zero _)⟩
  case round =>
    obtain ⟨k, n, hk, rfl, rfl, hs⟩ := hrel
    have HS := hiddenN hs
    clear hs
    by_cases hlt : k < N
    · have g1 := HC1.out k (by rw [H1.out]; exact hlt)
      have g2 := HC2.out k (by rw [H2.out]; exact hlt)
      have hki : (k : Int) < (N : Int) := by omega
      by_cases e : nth X k = nth Y k
      · have HN : Hid (∀ j, j < k + 1 → nth X j = nth Y j) := fun j hj => by
          rcases Nat.lt_succ_iff_lt_or_eq.1 hj with h1 | rfl
          · exact HS.out j h1
          · exact e
        rw [← e] at g2
        have hnn : (nth X k != nth X k) = false := by simp
        clear e
        generalize nth X k = x at *
        go_wp2
        go_quiet (fail)
        go_wp2
        go_roundw
        case rel => exact ⟨k + 1, n + nq, by omega, rfl, by go_num, HN.out⟩
        case measure => simp [intOf]; omega
      · have HF : Hid (X ≠ Y) := fun h => e (by rw [h])
        have hnn : (nth X k != nth Y k) = true := by simpa using e
        clear e
        generalize nth X k = x at *
        generalize nth Y k = y at *
        go_wp2
        go_quiet (fail)
        go_wp2
        go_ret
        exact ⟨by rw [decide_eq_false HF.out]; rfl, by first | exact drewB (Below.refl _ _) (n + nq) | exact drewB (drewB (Below.refl _ _) n) nq⟩
    · have ek : k = N := by omega
      subst ek
      have HF : Hid (X = Y) := list_eq (by rw [H1.out, H2.out]) fun i hi => HS.out i (by rw [← H1.out]; exact hi)
      go_wp2
      go_ret
      exact ⟨by rw [decide_eq_true HF.out]; rfl, drewB (Below.refl _ _) _⟩
theorem any_end {n : NN} {R T F : List Int} {m : Int} (he : errU n R [] = 0) (hI : InU n R (List.replicate n.nodes.toNat 0) T F m) (hE : EndU n R T F) : F = (finU n R []).2.2 := by
  have hf := fin_of he
  exact (same_fired hI.eq hf.eq (hI.low _ _ _ hf.eq hf.fin (start_le hf.eq)) (fin_le hf (MoreU.refl n) hI.eq hE)).1
set_option maxRecDepth 100000 in
set_option maxHeartbeats 16000000 in
theorem simulAny_walk (n : NN) (a : Option Addr) (c : Nat) (a1 : Option Addr) (len1 cap1 : Nat) (R : List Int) (a2 : Option Addr) (len2 cap2 : Nat) (Q : List Int) (w : World) (h : ArgN w a c n) (h1 : Arg w a1 len1 cap1 R) (h2 : Arg w a2 len2 cap2 Q) : Calls Try.prog 6 #[.agg #[.int .i64 n.nodes, .slice a n.arcs.length c], .slice a1 len1 cap1, .slice a2 len2 cap2] w fun e w' => e = .returned (.bool true) ∧ Below w.heap.size w w' := by
  have e1 := h1.size
  have e2 := h2.size
  subst e1
  subst e2
  have hroom : n.arcs.length ≤ 4611686018427387904 := by have := h.room; omega
  have hR1 : R.length ≤ 4611686018427387904 := by have := h1.reach; omega
  have hP1 : Q.length ≤ 4611686018427387904 := by have := h2.reach; omega
  have SR : Hid (∀ (Q : List Int) (q : Option Addr) (qc : Nat) (U : World), Below w.heap.size w U → At U q Q → Q.length ≤ 4611686018427387904 → Calls Try.prog 8 #[.agg #[.int .i64 n.nodes, .slice a n.arcs.length c], .slice a1 R.length cap1, .slice q Q.length qc] U (RunE n R Q U)) := fun Q q qc U hU hq hQ => simRun_any n a c R a1 cap1 Q q qc U (h.lies.below hU) hroom h.none (h1.lies.below hU) hR1 h1.none hq hQ
  have AW := hiddenN awake15
  have b0 := (Below.refl w.heap.size w).alloc (Nat.le_refl _) (.cells #[.int .i64 n.nodes, .slice a n.arcs.length c] 24)
  have X0 := hiddenN (blkA_new 24 w #[.int .i64 n.nodes, .slice a n.arcs.length c])
  have B0 := hiddenN b0
  have HA := hiddenN (h.lies.below b0)
  have HR := hiddenN (h1.lies.below b0)
  have HP := hiddenN (h2.lies.below b0)
  have S1 : Hid (∀ U, Below w.heap.size w U → Calls Try.prog 8 #[.agg #[.int .i64 n.nodes, .slice a n.arcs.length c], .slice a1 R.length cap1, .slice none 0 0] U (RunE n R [] U)) := fun U hU => SR.out [] none 0 U hU (.inl rfl) (by decide)
  have NW := hiddenN (fun hc U hU => newS_yes n a c w h hc U hU)
  have HQ0 := hiddenN h2.lies
  have HR0 := hiddenN h1.lies
  have y0 := X0.out.cell (k := 0) rfl
  have y1 := X0.out.cell (k := 1) rfl
  simp only [List.getElem_toArray, List.getElem_cons_zero, List.getElem_cons_succ] at y0 y1
  unfold RunE at S1
  obtain ⟨x, hx⟩ : ∃ x, errU n R [] = x := ⟨_, rfl⟩
  have HX := hiddenN hx
  rw [hx] at S1
  generalize hl1 : (lisU n R []).length = l1 at *
  generalize hl2 : (stkU n R []).length = l2 at *
  have T2 := hiddenN hl2
  clear b0 h h1 h2 hx SR HA HR HP hl1 hl2
  go_enter Try.func6, Try.ntmps6
  go_upto_region 1 with fail
  generalize (w.alloc (.cells #[.int .i64 n.nodes, .slice a n.arcs.length c] 24)) = W0 at *
  go_upto_region 2 with (go_at_call 8; (with_reducible refine (S1.out W0 B0.out).mono ?_); rintro e W1 ⟨d1, c1, d2, c2, rfl, -, -, b1⟩; have L1 := hiddenN (B0.out.trans (b1.mono B0.out.size)); have N1 := hiddenN (X0.out.below b1); clear b1)
  have b2 := (Below.refl W1.heap.size W1).alloc (Nat.le_refl _) (.cells #[.slice d1 l1 c1, .slice d2 l2 c2] 28)
  have X2 := hiddenN (blkA_new 28 W1 #[.slice d1 l1 c1, .slice d2 l2 c2])
  have L2 := hiddenN (L1.out.trans (b2.mono L1.out.size))
  have N2 := hiddenN (N1.out.below b2)
  obtain ⟨x1, hx1⟩ : ∃ q, W1.heap.size = q := ⟨_, rfl⟩
  rw [hx1] at X2 ⊢
  clear b2 y0 y1 L1 N1 S1 X0 B0 hx1
  generalize W1.alloc (.cells #[.slice d1 l1 c1, .slice d2 l2 c2] 28) = W2 at *
  by_cases he : x = 0
  · subst he
    have hf := fin_of HX.out
    have hg := hf.good
    have hS := hf.sound
    have hnn := nodes_nat hS
    have h48 := hf.few
    have hRl := hg.len
    have y0 := N2.out.cell (k := 0) rfl
    have y1 := N2.out.cell (k := 1) rfl
    simp only [List.getElem_toArray, List.getElem_cons_zero, List.getElem_cons_succ] at y0 y1
    have NW2 := hiddenN (NW.out hg.check W2 L2.out)
    have IN0 := hiddenN (InU.start hg)
    obtain ⟨N, hN⟩ : ∃ N, n.nodes.toNat = N := ⟨_, rfl⟩
    have HNt := hiddenN hN
    have hN1 : 1 ≤ N ∧ N ≤ 32 := by omega
    have HRl : Hid (R.length = N) := by show _ = _; omega
    have HS := hiddenN hS
    have HEQ := hiddenN hf
    rw [HRl.out]
    obtain ⟨len, hlen⟩ : ∃ q, Q.length = q := ⟨_, rfl⟩
    have HQL := hiddenN hlen
    rw [hlen] at hP1 ⊢
    clear NW hf hg hS hnn hN hRl hlen
    go_upto_region 5 with (go_at_call 10; (with_reducible refine NW2.out.mono ?_); rintro e W3 ⟨K, E, rfl, s3, b3⟩; have S3 := hiddenN s3; have B3 := hiddenN b3; clear s3 b3)
    obtain ⟨B, hB⟩ : ∃ q, W2.heap.size = q := ⟨_, rfl⟩
    have HB := hiddenN hB
    rw [hB] at S3 B3
    have X3 := hiddenN (X2.out.keep (B3.out.block _ (by rw [← hB]; exact X2.out.lt)))
    have N3 := hiddenN (N2.out.keep (B3.out.block _ (by rw [← hB]; exact N2.out.lt)))
    have hxB : x1 < B := by rw [← hB]; exact X2.out.lt
    have hnB : w.heap.size < B := by rw [← hB]; exact N2.out.lt
    have hwB : w.heap.size ≤ B := by omega
    have L3 := hiddenN (L2.out.trans (B3.out.mono hwB))
    clear NW2 y0 y1 X2 N2 hB
    go_upto_region 8 with fail
    go_loopg [11] len (fun gk u wr => ∃ (k : Nat) (T1 F1 : List Int) (m1 : Int), k ≤ len ∧ gk = len - k ∧ u = .int .i64 (k : Int) ∧ StE B E wr K n T1 F1 ∧ InU n R (List.replicate n.nodes.toNat 0) T1 F1 m1 ∧ Below B W3 wr)
    case atStart => exact ⟨0, _, _, 0, Nat.zero_le _, rfl, rfl, S3.out, IN0.out, Below.refl _ _⟩
    case round =>
      obtain ⟨k, T1, F1, m1, hk, rfl, rfl, hst, hin, hbw⟩ := hrel
      have S0 := hiddenN hst
      have I1 := hiddenN hin
      have B0 := hiddenN hbw
      have hBr := hst.low.1
      clear hst hin hbw
      by_cases hlt : k < len
      · have hkQ : k < Q.length := by rw [HQL.out]; exact hlt
        have hkN : k < len := hlt
        have hkI : (k : Int) < (len : Int) := by omega
        have FD := hiddenN (fired_any wr K n T1 F1 S0.out)
        unfold RowEndN at FD
        have hFl := I1.out.eq.lF
        rw [HNt.out] at hFl
        rw [hFl] at FD
        have hne : Q ≠ [] := fun e => by rw [e] at hkQ; exact absurd hkQ (Nat.not_lt_zero _)
        rcases HQ0.out with e | ⟨qb, qo, eq2, hcq⟩
        · exact absurd e hne
        subst eq2
        have hqb : qb < w.heap.size := block_lt_of_cell (hcq k hkQ)
        go_upto_region 11 with (go_at_call 18; (with_reducible refine FD.out.mono ?_); rintro e W1 ⟨aF, cF, rfl, hf1, b1⟩; have FF := hiddenN hf1; have BB := hiddenN b1; clear hf1 b1)
        obtain ⟨gF, ea, hg1, hg2⟩ := FF.out.there (by rw [hFl]; omega)
        subst ea
        have S1 := hiddenN (S0.out.below BB.out)
        have B1 := hiddenN (B0.out.trans (BB.out.mono hBr))
        have hB1 : B ≤ W1.heap.size := Nat.le_trans hBr BB.out.size
        have LW := hiddenN (L3.out.trans (B1.out.mono hwB))
        have c0 := cell_block (LW.out.block _ hqb) (hcq k hkQ)
        clear FD S0 B0 BB hcq
        obtain ⟨z, hz⟩ : ∃ z, nth Q k = z := ⟨_, rfl⟩
        rw [hz] at c0
        clear hz
        by_cases hz : z < 0
        · have hz' : ¬ (0 ≤ z) := by omega
          go_quiet (fail)
          have hC9 := drewB (Below.refl W1.heap.size W1) nq
          generalize W1.drewN nq = w9 at *
          have S9 := hiddenN (S1.out.below hC9)
          have B9 := hiddenN (B1.out.trans (hC9.mono hB1))
          clear hC9
          go_wp2
          go_roundg (len - (k + 1))
          case measure => omega
          case rel => exact ⟨k + 1, T1, F1, m1, by omega, rfl, by go_num, S9.out, I1.out, B9.out⟩
        · obtain ⟨zn, rfl⟩ : ∃ zn : Nat, z = (zn : Int) := ⟨z.toNat, by omega⟩
          by_cases hzN : zn < N
          · rcases FF.out.at with e | ⟨fb, fo, ef, hcf⟩
            · rw [e] at hFl; simp at hFl; omega
            cases ef
            have c1 := hcf zn (by rw [hFl]; exact hzN)
            rw [Nat.zero_add] at c1
            rcases HR0.out with e | ⟨rb, ro, eR, hcr⟩
            · have := HRl.out; rw [e] at this; simp at this; omega
            have hzR : zn < R.length := by rw [HRl.out]; exact hzN
            have hrb : rb < w.heap.size := block_lt_of_cell (hcr zn hzR)
            have c2 := cell_block (LW.out.block _ hrb) (hcr zn hzR)
            subst eR
            clear hcf hcr
            by_cases hxy : nth F1 zn < nth R zn
            · have FIa := hiddenN (fun (W : World) (hW : Below W1.heap.size W1 W) => fires_any (W.alloc (.cells #[.int .i64 (zn : Int)] 3)) K n T1 F1 ((S1.out.below hW).below ((Below.refl W.heap.size W).alloc (Nat.le_refl _) _)) (some ⟨W.heap.size, 0, none⟩) 1 [(zn : Int)] (at_alloc1 W (zn : Int)) (by simp) (fun y hy _ => by cases hy; exact .inr (Nat.le_trans S1.out.low.2 hW.size)))
              have IS := hiddenN (fun hm => I1.out.step HS.out (by rw [HRl.out, HNt.out]) h48 (v := (zn : Int)) hm (by rw [Int.toNat_natCast]; exact hxy))
              have FI : Hid (∀ (W : World), Below W1.heap.size W1 W → Calls Try.prog 14 #[.pointer (some ⟨K, 0, none⟩), .slice (some ⟨W.heap.size, 0, none⟩) 1 1] (W.alloc (.cells #[.int .i64 (zn : Int)] 3)) fun e w' => ∃ (r : Int) (T2 F2 : List Int) (m2 : Int), e = .returned (.int .i64 r) ∧ StE B E w' K n T2 F2 ∧ InU n R (List.replicate n.nodes.toNat 0) T2 F2 m2 ∧ Mid B E (W.alloc (.cells #[.int .i64 (zn : Int)] 3)) w') := fun W hW => by
                have hh := FIa.out W hW
                rw [fires_one] at hh
                cases hm : mayN n T1 (zn : Int) with
                | true =>
                  rw [hm, if_pos rfl] at hh
                  refine Calls.mono hh ?_
                  rintro e w' ⟨q1, q2, q3⟩
                  exact ⟨_, _, _, _, q1, q2, IS.out hm, q3⟩
                | false =>
                  rw [hm, if_neg (by decide)] at hh
                  refine Calls.mono hh ?_
                  rintro e w' ⟨q1, q2, q3⟩
                  exact ⟨_, _, _, _, q1, q2, I1.out, q3⟩
              clear FIa IS
              generalize nth F1 zn = x at *
              generalize nth R zn = y at *
              go_quiet (fail)
              have hC9 := drewB (Below.refl W1.heap.size W1) nq
              generalize W1.drewN nq = w9 at *
              have c9 := cellN_later hC9 c0
              have b9 := (Below.refl w9.heap.size w9).alloc (Nat.le_refl _) (.cells #[.int .i64 (zn : Int)] 3)
              have B9 := hiddenN (B1.out.trans ((hC9.trans (b9.mono hC9.size)).mono hB1))
              have F9 := hiddenN (FI.out w9 hC9)
              have hB9 : B ≤ (w9.alloc (.cells #[.int .i64 (zn : Int)] 3)).heap.size := Nat.le_trans hB1 (Nat.le_trans hC9.size b9.size)
              clear hC9 b9 FI
              go_wp2_with (go_at_call 14; (with_reducible refine F9.out.mono ?_); rintro e wA ⟨r, T2, F2, m2, rfl, q1, q2, q3⟩; have SA := hiddenN q1; have IA := hiddenN q2; have BA := hiddenN (B9.out.trans (q3.below hB9)); clear q1 q2 q3)
              go_roundg (len - (k + 1))
              case measure => omega
              case rel => exact ⟨k + 1, T2, F2, m2, by omega, rfl, by go_num, SA.out, IA.out, BA.out⟩
            · have hyx : nth R zn ≤ nth F1 zn := by omega
              generalize nth F1 zn = x at *
              generalize nth R zn = y at *
              go_quiet (fail)
              have hC9 := drewB (Below.refl W1.heap.size W1) nq
              generalize W1.drewN nq = w9 at *
              have S9 := hiddenN (S1.out.below hC9)
              have B9 := hiddenN (B1.out.trans (hC9.mono hB1))
              clear hC9
              go_wp2
              go_roundg (len - (k + 1))
              case measure => omega
              case rel => exact ⟨k + 1, T1, F1, m1, by omega, rfl, by go_num, S9.out, I1.out, B9.out⟩
          · 
            go_quiet (fail)
            have hC9 := drewB (Below.refl W1.heap.size W1) nq
            generalize W1.drewN nq = w9 at *
            have S9 := hiddenN (S1.out.below hC9)
            have B9 := hiddenN (B1.out.trans (hC9.mono hB1))
            clear hC9
            go_wp2
            go_roundg (len - (k + 1))
            case measure => omega
            case rel => exact ⟨k + 1, T1, F1, m1, by omega, rfl, by go_num, S9.out, I1.out, B9.out⟩
      · have ek : k = len := by omega
        subst ek
        have LW := hiddenN (L3.out.trans (B0.out.mono hwB))
        have X4 := hiddenN (X3.out.keep (B0.out.block _ hxB))
        have N4 := hiddenN (N3.out.keep (B0.out.block _ hnB))
        have y0 := N4.out.cell (k := 0) rfl
        simp only [List.getElem_toArray, List.getElem_cons_zero] at y0
        have G1 : Hid (Calls Try.prog 19 #[.pointer (some ⟨K, 0, none⟩), .int .i64 n.nodes, .slice a1 N cap1] wr (GoE B E K n R (List.replicate n.nodes.toNat 0) wr)) := by
          have := go1_any wr K n T1 F1 (List.replicate n.nodes.toNat 0) R m1 a1 cap1 S0.out HS.out (by rw [HRl.out, HNt.out]) h48 I1.out (HR0.out.below LW.out) (fun x hx => by
            rcases HR0.out with e | ⟨rb, ro, eR, hcr⟩
            · have := HRl.out; rw [e] at this; simp at this; omega
            · rw [eR] at hx; cases hx
              have := block_lt_of_cell (hcr 0 (by rw [HRl.out]; omega))
              simp only at this
              show rb < B
              omega)
          rw [HRl.out] at this
          exact this
        unfold GoE at G1
        have FDa := hiddenN (fun (W : World) (T F : List Int) (hs : StE B E W K n T F) => fired_any W K n T F hs)
        unfold RowEndN at FDa
        have hl2 : Hid (l2 = (bloU n R []).length) := by show _ = _; rw [← T2.out]; unfold stkU; rw [if_pos HX.out]
        have HSI := hiddenN (fun (U : World) (X Y : List Int) (d1 d2 : Option Addr) (k1 k2 : Nat) (h1 : X.length = N) (h2 : Y.length = N) (q1 : At U d1 X) (q2 : At U d2 Y) => same_ints U X Y d1 d2 k1 k2 N h1 h2 hN1.1 (by omega) q1 q2)
        go_upto_region 15 with (go_at_call 19; (with_reducible refine G1.out.mono ?_); rintro e W5 ⟨TE, FE, mE, rfl, q1, q2, q3, q4⟩; have S5 := hiddenN q1; have I5 := hiddenN q2; have E5 := hiddenN q3; have B5 := hiddenN q4; clear q1 q2 q3 q4)
        have EF := hiddenN (any_end HX.out I5.out E5.out)
        have hFl := I5.out.eq.lF
        rw [HNt.out] at hFl
        have FD := hiddenN (FDa.out W5 TE FE S5.out)
        rw [hFl] at FD
        have hB5 := S5.out.low.1
        have X5 := hiddenN (X4.out.keep (B5.out.block _ hxB))
        have L5 := hiddenN (LW.out.trans (B5.out.mono hwB))
        have BN := blo_nil HEQ.out
        rw [← EF.out] at BN
        clear FDa G1 I5 E5 EF S0 I1 B0 X4 N4 y0
        by_cases hFR : FE = R
        · have hl0 : l2 = 0 := by rw [hl2.out, BN.2 hFR]; rfl
          subst hl0
          rw [hFR] at FD
          have FD2 : Hid (Calls Try.prog 18 #[.pointer (some ⟨K, 0, none⟩)] W5 fun e w' => ∃ (a : Option Addr) (cap : Nat), e = .returned (.slice a N cap) ∧ At w' a R ∧ Below W5.heap.size W5 w') := FD.out.mono (by rintro e w' ⟨a', cap, q1, q2, q3⟩; exact ⟨a', cap, q1, q2.at, q3⟩)
          clear FD BN
          go_wp2_with (first
            | (go_at_call 18; (with_reducible refine FD2.out.mono ?_); rintro e W6 ⟨aF, cF, rfl, q1, q2⟩; have L6 := hiddenN (L5.out.trans (q2.mono L5.out.size)); have X6 := hiddenN (X5.out.below q2); have SI := hiddenN (HSI.out W6 R R aF a1 cF cap1 HRl.out HRl.out q1 (HR0.out.below L6.out)); rw [decide_eq_true (show R = R from rfl)] at SI; clear q1 q2)
            | (go_at_call 15; (with_reducible refine SI.out.mono ?_); rintro e W7 ⟨rfl, b7⟩; have L7 := hiddenN (L6.out.trans (b7.mono L6.out.size)); have z1 := (X6.out.below b7).cell (k := 1) rfl; simp only [List.getElem_toArray, List.getElem_cons_zero, List.getElem_cons_succ] at z1; clear b7)
            | (go_at_call 9; (with_reducible refine (AW.out _).mono ?_); rintro e W8 ⟨rfl, bw⟩; have L8 := hiddenN (L7.out.trans (bw.mono L7.out.size)); clear bw))
          go_ret
          exact ⟨by first | rfl | simp, L8.out⟩
        · have hl0 : l2 ≠ 0 := fun e => hFR (BN.1 (List.eq_nil_of_length_eq_zero (by rw [← hl2.out]; exact e)))
          have hlb : ((l2 : Int) == 0) = false := by simpa using hl0
          have FD2 : Hid (Calls Try.prog 18 #[.pointer (some ⟨K, 0, none⟩)] W5 fun e w' => ∃ (a : Option Addr) (cap : Nat), e = .returned (.slice a N cap) ∧ At w' a FE ∧ Below W5.heap.size W5 w') := FD.out.mono (by rintro e w' ⟨a', cap, q1, q2, q3⟩; exact ⟨a', cap, q1, q2.at, q3⟩)
          clear FD BN
          go_wp2_with (first
            | (go_at_call 18; (with_reducible refine FD2.out.mono ?_); rintro e W6 ⟨aF, cF, rfl, q1, q2⟩; have L6 := hiddenN (L5.out.trans (q2.mono L5.out.size)); have X6 := hiddenN (X5.out.below q2); have SI := hiddenN (HSI.out W6 FE R aF a1 cF cap1 hFl HRl.out q1 (HR0.out.below L6.out)); rw [decide_eq_false hFR] at SI; clear q1 q2)
            | (go_at_call 15; (with_reducible refine SI.out.mono ?_); rintro e W7 ⟨rfl, b7⟩; have L7 := hiddenN (L6.out.trans (b7.mono L6.out.size)); have z1 := (X6.out.below b7).cell (k := 1) rfl; simp only [List.getElem_toArray, List.getElem_cons_zero, List.getElem_cons_succ] at z1; clear b7)
            | (go_at_call 9; (with_reducible refine (AW.out _).mono ?_); rintro e W8 ⟨rfl, bw⟩; have L8 := hiddenN (L7.out.trans (bw.mono L7.out.size)); clear bw))
          go_ret
          exact ⟨by first | rfl | simp, L8.out⟩
  · have hne : (x != 0) = true := by simpa using he
    clear NW
    go_wp2_with (go_at_call 9; (with_reducible refine (AW.out _).mono ?_); rintro e W6 ⟨rfl, bw⟩; have L6 := hiddenN (L2.out.trans (bw.mono L2.out.size)); clear bw)
    go_ret
    exact ⟨by first | rfl | simp, L6.out⟩
end Go.Proofs.Ytkkccomdclklhaa

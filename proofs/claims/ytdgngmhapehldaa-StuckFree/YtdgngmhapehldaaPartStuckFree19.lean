/- Texts of one chain, laid one behind the other. -/
import Derived.Test.YtdgngmhapehldaaPartStuckFree17
import Derived.Test.YtdgngmhapehldaaPartStuckFree18
namespace Go.Proofs.Ytdgngmhapehldaa
open Go.ChangeShapes Go.WideShapes Go.ChangeAt Go.RowKit
/- Firing one node; the equation and the blocks go on. -/
theorem fire1K {B E K : Nat} {n : NN} {T F : List Int} (U : World) (h : StE B E U K n T F) (v : Int) :
    Calls Try.prog 15 #[.pointer (some ⟨K, 0, none⟩), .slice (some ⟨U.heap.size, 0, none⟩) 1 1] (U.alloc (.cells #[.int .i64 v] 3)) fun e w' => (∃ x, e = .returned x) ∧ StE B E w' K n (firesN n [v] T F).2.1 (firesN n [v] T F).2.2 ∧ Mid B E U w' := by
  have ba := (Below.refl U.heap.size U).alloc (Nat.le_refl _) (.cells #[.int .i64 v] 3)
  have hlow := h.low
  have r := fires_any (U.alloc (.cells #[.int .i64 v] 3)) K n T F (h.below ba) (some ⟨U.heap.size, 0, none⟩) 1 [v] (at_alloc1 U v) (by simp) (fun x hx _ => by cases hx; exact .inr hlow.2)
  refine r.mono ?_
  rintro e w' ⟨h1, h2, h3⟩
  exact ⟨⟨_, h1⟩, h2, (Mid.of_below ba).trans h3⟩
theorem fire1_eq {n : NN} {T F : List Int} {m : Int} (hS : SoundN n) (h : EqN n m T F) (hm : m ≤ 1125899906842624) (v : Int) : EqN n (m + 1) (firesN n [v] T F).2.1 (firesN n [v] T F).2.2 := by
  rw [fires_one]
  by_cases hv : mayN n T v = true
  · rw [if_pos hv]; exact fire_eqL hS h hm hv
  · rw [if_neg hv]; exact h.more (by omega)
theorem fire1_hold {n : NN} {L : List BK} {T F : List Int} {m : Int} (hz : conK n L = 0) (h : EqN n m T F) (hm : m ≤ 1125899906842624) (hH : HoldK L F) (v : Int) : HoldK L (firesN n [v] T F).2.2 := by
  rw [fires_one]
  by_cases hv : mayN n T v = true
  · rw [if_pos hv]; exact hold_step hz h hm hH hv
  · rw [if_neg hv]; exact hH
set_option maxRecDepth 100000 in
set_option maxHeartbeats 16000000 in
theorem stuckFree_walk (n : NN) (a : Option Addr) (c : Nat) (b : BK) (w : World) (h : ArgN w a c n) (hb : InK b) : Calls Try.prog 6 #[.agg #[.int .i64 n.nodes, .slice a n.arcs.length c], bkV b] w fun e w' => e = .returned (.bool true) ∧ Below w.heap.size w w' := by
  have b0 := (Below.refl w.heap.size w).alloc (Nat.le_refl _) (.cells #[.int .i64 n.nodes, .slice a n.arcs.length c] 24)
  have G0 := hiddenN (blkA_new 24 w #[.int .i64 n.nodes, .slice a n.arcs.length c])
  have B0 := hiddenN b0
  have AW : Hid (∀ U, Calls Try.prog 13 #[] U fun e w' => e = .returned (.bool true) ∧ Below U.heap.size U w') := fun U => awake14 U
  have z0 := G0.out.cell (k := 0) rfl
  have z1 := G0.out.cell (k := 1) rfl
  simp only [List.getElem_toArray, List.getElem_cons_zero, List.getElem_cons_succ] at z0 z1
  clear b0
  obtain ⟨bn, bf, ba⟩ := b
  unfold bkV bkA
  simp only
  have CF : Hid (∀ U, Below w.heap.size w U → Calls Try.prog 9 #[.agg #[.int .i64 n.nodes, .slice a n.arcs.length c], .slice (some ⟨U.heap.size, 0, none⟩) 1 1] (U.alloc (.cells #[.int .i64 bn, .int .i64 bf, .int .i64 ba] 42)) (ConE U (conK n [⟨bn, bf, ba⟩]))) := fun U hb1 => conf_new n a c ⟨bn, bf, ba⟩ U (h.lies.below hb1) (by have := h.room; omega) hb
  have hs1 : (w.alloc (.cells #[.int .i64 n.nodes, .slice a n.arcs.length c] 24)).heap.size = w.heap.size + 1 := World.size_alloc _ _
  have b2 := (Below.refl (w.alloc (.cells #[.int .i64 n.nodes, .slice a n.arcs.length c] 24)).heap.size (w.alloc (.cells #[.int .i64 n.nodes, .slice a n.arcs.length c] 24))).alloc (Nat.le_refl _) (.cells #[.int .i64 bn, .int .i64 bf, .int .i64 ba] 42)
  have GB := hiddenN (blkA_new 42 (w.alloc (.cells #[.int .i64 n.nodes, .slice a n.arcs.length c] 24)) #[.int .i64 bn, .int .i64 bf, .int .i64 ba])
  rw [hs1] at GB
  have GN := hiddenN (G0.out.below b2)
  have B1 := hiddenN (B0.out.trans (b2.mono B0.out.size))
  have n0 := GN.out.cell (k := 0) rfl
  have n1 := GN.out.cell (k := 1) rfl
  have q0 := GB.out.cell (k := 0) rfl
  have q1 := GB.out.cell (k := 1) rfl
  have q2 := GB.out.cell (k := 2) rfl
  simp only [List.getElem_toArray, List.getElem_cons_zero, List.getElem_cons_succ] at n0 n1 q0 q1 q2
  clear b2 hs1 G0 B0 z0 z1
  by_cases hc0 : checkN n = 0
  · have NY : Hid (∀ U, Below w.heap.size w U → Calls Try.prog 14 #[.agg #[.int .i64 n.nodes, .slice a n.arcs.length c]] U fun e w' => ∃ K E, e = .returned (.tuple #[.pointer (some ⟨K, 0, none⟩), .int .i64 0]) ∧ StE U.heap.size E w' K n (startT n) (List.replicate n.nodes.toNat 0) ∧ Below U.heap.size U w') := fun U hb => new_yes n a c w h hc0 U hb
    have HA := hiddenN h.lies
    have HS := hiddenN (check_sound hc0)
    have HC := hiddenN hc0
    have ONE := hiddenN (one_con (b := ⟨bn, bf, ba⟩) hc0)
    have NOT : Hid (¬ ConK n [⟨bn, bf, ba⟩] → conK n [⟨bn, bf, ba⟩] = 140) := fun hh => con_not hc0 hh
    have E0 := hiddenN (start_eq (check_sound hc0) rfl : EqN n 0 (startT n) (List.replicate n.nodes.toNat 0))
    have H0 : Hid (conK n [⟨bn, bf, ba⟩] = 0 → HoldK [⟨bn, bf, ba⟩] (List.replicate n.nodes.toNat 0)) := fun hc => hold_start hc
    have AL : Hid (n.arcs.length ≤ 4611686018427387904) := by have := h.room; show _ ≤ _; omega
    clear h hc0
    obtain ⟨ce, CEQ⟩ : ∃ ce, conK n [⟨bn, bf, ba⟩] = ce := ⟨_, rfl⟩
    rw [CEQ] at CF
    have CEH := hiddenN CEQ
    clear CEQ
    generalize startT n = T0 at *
    generalize List.replicate n.nodes.toNat (0 : Int) = F0 at *
    go_enter Try.func6, Try.ntmps6
    go_upto_region 1 with fail
    generalize (w.alloc (.cells #[.int .i64 n.nodes, .slice a n.arcs.length c] 24)).alloc (.cells #[.int .i64 bn, .int .i64 bf, .int .i64 ba] 42) = W0 at *
    go_upto_region 7 with (first
      | (go_at_call 9; (with_reducible refine (CF.out _ B1.out).mono ?_); rintro e w2 ⟨rfl, b2⟩; have B2 := hiddenN (B1.out.trans (b2.mono B1.out.size)); have GN2 := hiddenN (GN.out.below b2); have GB2 := hiddenN (GB.out.below b2); have y0 := GN2.out.cell (k := 0) rfl; have y1 := GN2.out.cell (k := 1) rfl; simp only [List.getElem_toArray, List.getElem_cons_zero, List.getElem_cons_succ] at y0 y1; clear b2 CF)
      | (go_at_call 14; (with_reducible refine (NY.out _ B2.out).mono ?_); rintro e W1 ⟨K, E, rfl, s1, b1⟩; have S1 := hiddenN s1; have L1 := hiddenN (B2.out.trans (b1.mono B2.out.size)); have GN3 := hiddenN (GN2.out.below b1); have GB3 := hiddenN (GB2.out.below b1); clear s1 b1))
    have hgB : w.heap.size + 1 < w2.heap.size := GB2.out.lt
    clear n0 n1 q0 q1 q2 y0 y1 GN GB GN2 GB2 NY B1
    have hBB : w.heap.size ≤ w2.heap.size := B2.out.size
    obtain ⟨B, hB⟩ : ∃ B, w2.heap.size = B := ⟨_, rfl⟩
    rw [hB] at S1 hBB hgB
    clear hB B2
    have n0 := GN3.out.cell (k := 0) rfl
    have n1 := GN3.out.cell (k := 1) rfl
    have q0 := GB3.out.cell (k := 0) rfl
    have q1 := GB3.out.cell (k := 1) rfl
    have q2 := GB3.out.cell (k := 2) rfl
    simp only [List.getElem_toArray, List.getElem_cons_zero, List.getElem_cons_succ] at n0 n1 q0 q1 q2
    by_cases hA1 : 0 ≤ ba ∧ ba < (n.arcs.length : Int)
    · obtain ⟨i, rfl⟩ : ∃ i : Nat, ba = (i : Int) := ⟨ba.toNat, by omega⟩
      have hil : i < n.arcs.length := by omega
      have hilI : (i : Int) < (n.arcs.length : Int) := by omega
      have hi0 : decide ((i : Int) < 0) = false := decide_eq_false (by omega)
      have hi1 : decide (n.arcs.length ≤ i) = false := decide_eq_false (by omega)
      clear hA1
      rcases HA.out.below L1.out with e | ⟨ab, ao, rfl, hcc⟩
      · rw [e] at hil; exact absurd hil (Nat.not_lt_zero _)
      obtain ⟨a0, a1, a2, a3, a4⟩ := hcc i hil
      have hsa := HS.out.arcs i hil
      have ONI : Hid (ConK n [⟨bn, bf, i⟩] ↔ limK n ⟨bn, bf, i⟩ = true ∧ (nthNa n.arcs i).t = bn ∧ (nthNa n.arcs i).f = bn) := ONE.out
      have LOO : Hid ((nthNa n.arcs i).f = bn → [(⟨bn, bf, i⟩ : BK)].any (looK n [⟨bn, bf, i⟩]) = decide ((nthNa n.arcs i).k * (bf + 1) ≤ (nthNa n.arcs i).s + (nthNa n.arcs i).g * bf)) := fun e => one_loo (b := ⟨bn, bf, i⟩) e
      clear hcc ONE
      have LIM : Hid (limK n ⟨bn, bf, i⟩ = true ↔ 0 ≤ bf ∧ bf ≤ 4096) := limK_iff.trans ⟨fun q => ⟨q.1, q.2.1⟩, fun q => ⟨q.1, q.2, by show (0 : Int) ≤ (i : Int); omega, by show (i : Int) < _; omega⟩⟩
      have HSA := hiddenN hsa
      clear hsa
      generalize nthNa n.arcs i = x at *
      obtain ⟨f, t, g, k, s⟩ := x
      simp only at a0 a1 a2 a3 a4 ONI LOO
      cases hf : f == bn with
      | false =>
        have CEQ : ce = 140 := by rw [← CEH.out]; exact NOT.out fun hh => by have := (ONI.out.1 hh).2.2; rw [this] at hf; simp at hf
        subst CEQ
        have hfn : (f != bn) = true := by simpa using hf
        go_quiet (fail)
        go_wp2_with (go_at_call 13; (with_reducible refine (AW.out _).mono ?_); rintro e w9 ⟨rfl, b9⟩; have L9 := hiddenN ((drewB L1.out _).trans (b9.mono (drewB L1.out _).size)); clear b9)
        go_ret
        exact ⟨by first | rfl | simp, L9.out⟩
      | true =>
        have hfn : (f != bn) = false := by simpa using hf
        have hfe : f = bn := by simpa using hf
        clear hf
        cases ht : t == bn with
        | false =>
          have CEQ : ce = 140 := by rw [← CEH.out]; exact NOT.out fun hh => by have := (ONI.out.1 hh).2.1; rw [this] at ht; simp at ht
          subst CEQ
          have htn : (t != bn) = true := by simpa using ht
          clear hfe
          go_quiet (fail)
          go_wp2_with (go_at_call 13; (with_reducible refine (AW.out _).mono ?_); rintro e w9 ⟨rfl, b9⟩; have L9 := hiddenN ((drewB L1.out _).trans (b9.mono (drewB L1.out _).size)); clear b9)
          go_ret
          exact ⟨by first | rfl | simp, L9.out⟩
        | true =>
          have htn : (t != bn) = false := by simpa using ht
          have hte : t = bn := by simpa using ht
          clear ht
          cases h1 : decide (bf < 0) with
          | true =>
            have CEQ : ce = 140 := by rw [← CEH.out]; exact NOT.out fun hh => by have := LIM.out.1 (ONI.out.1 hh).1; have := of_decide_eq_true h1; omega
            subst CEQ
            clear hfe hte
            go_quiet (fail)
            go_wp2_with (go_at_call 13; (with_reducible refine (AW.out _).mono ?_); rintro e w9 ⟨rfl, b9⟩; have L9 := hiddenN ((drewB L1.out _).trans (b9.mono (drewB L1.out _).size)); clear b9)
            go_ret
            exact ⟨by first | rfl | simp, L9.out⟩
          | false =>
            cases h2 : decide (4096 < bf) with
            | true =>
              have CEQ : ce = 140 := by rw [← CEH.out]; exact NOT.out fun hh => by have := LIM.out.1 (ONI.out.1 hh).1; have := of_decide_eq_true h2; omega
              subst CEQ
              clear hfe hte
              go_quiet (fail)
              go_wp2_with (go_at_call 13; (with_reducible refine (AW.out _).mono ?_); rintro e w9 ⟨rfl, b9⟩; have L9 := hiddenN ((drewB L1.out _).trans (b9.mono (drewB L1.out _).size)); clear b9)
              go_ret
              exact ⟨by first | rfl | simp, L9.out⟩
            | false =>
              subst hfe
              subst hte
              have hv0 := HSA.out.f
              simp only at hv0
              have g1 := HSA.out.g
              have k1 := HSA.out.k
              have s1 := HSA.out.s
              simp only at g1 k1 s1
              have f1 : 0 ≤ bf ∧ bf ≤ 4096 := ⟨by have := of_decide_eq_false h1; omega, by have := of_decide_eq_false h2; omega⟩
              have CK := hiddenN (ONI.out.2 ⟨LIM.out.2 f1, rfl, rfl⟩)
              have CO := hiddenN (con_ok CK.out)
              rw [LOO.out rfl, CEH.out] at CO
              have p1 := mul_small (x := g) (y := bf) (a := 64) (b := 4096) (by omega) (by omega) (by decide)
              have p2 := mul_small (x := k) (y := bf + 1) (a := 64) (b := 4097) (by omega) (by omega) (by decide)
              have u1 : wrap64 (g * bf) = g * bf := wrap64_id (by omega)
              have u2 : wrap64 (s + g * bf) = s + g * bf := wrap64_id (by omega)
              have u3 : wrap64 (bf + 1) = bf + 1 := wrap64_id (by omega)
              have u4 : wrap64 (k * (bf + 1)) = k * (bf + 1) := wrap64_id (by omega)
              clear g1 k1 s1 p1 p2 LOO LIM ONI NOT CK HSA
              go_quiet (fail)
              go_upto_region 9 with fail
              have dB := drewB (Below.refl W1.heap.size W1) nq
              have GN4 := hiddenN (GN3.out.below dB)
              have GB4 := hiddenN (GB3.out.below dB)
              have S4 := hiddenN (S1.out.below dB)
              have L4 := hiddenN (L1.out.trans (dB.mono L1.out.size))
              have a0 := cellN_later dB a0
              have a1 := cellN_later dB a1
              have a2 := cellN_later dB a2
              have a3 := cellN_later dB a3
              have a4 := cellN_later dB a4
              have n0 := cellN_later dB n0
              have n1 := cellN_later dB n1
              have q0 := cellN_later dB q0
              have q1 := cellN_later dB q1
              have q2 := cellN_later dB q2
              clear dB GN3 GB3 S1 L1
              generalize W1.drewN nq = W2 at *
              have b3 := (Below.refl W2.heap.size W2).alloc (Nat.le_refl _) (.cells #[.int .i64 t, .int .i64 t, .int .i64 g, .int .i64 k, .int .i64 s] 45)
              have XA := blkA_new 45 W2 #[.int .i64 t, .int .i64 t, .int .i64 g, .int .i64 k, .int .i64 s]
              have x2 := XA.cell (k := 2) rfl
              have x3 := XA.cell (k := 3) rfl
              have x4 := XA.cell (k := 4) rfl
              have GN5 := hiddenN (GN4.out.below b3)
              have GB5 := hiddenN (GB4.out.below b3)
              have S5 := hiddenN (S4.out.below b3)
              have L5 := hiddenN (L4.out.trans (b3.mono L4.out.size))
              have r1 := cellN_later b3 q1
              simp only [List.getElem_toArray, List.getElem_cons_zero, List.getElem_cons_succ] at x2 x3 x4
              clear b3 XA GN4 GB4 S4 L4
              go_upto_region 10 with fail
              generalize W2.alloc (.cells #[.int .i64 t, .int .i64 t, .int .i64 g, .int .i64 k, .int .i64 s] 45) = W3 at *
              clear a0 a1 a2 a3 a4 n0 n1 q0 q1 q2
              cases hd : decide (k * (bf + 1) ≤ s + g * bf) with
              | true =>
                have CEQ := CO.out
                rw [hd, if_pos rfl] at CEQ
                subst CEQ
                have LZ := L5
                go_wp2_with (go_at_call 13; (with_reducible refine (AW.out _).mono ?_); rintro e w9 ⟨rfl, b9⟩; have L9 := hiddenN (LZ.out.trans (b9.mono LZ.out.size)); clear b9)
                go_ret
                exact ⟨by first | rfl | simp, L9.out⟩
              | false =>
                have CEQ := CO.out
                rw [hd, if_neg (by decide)] at CEQ
                subst CEQ
                have HH0 := hiddenN (H0.out CEH.out)
                obtain ⟨v, rfl⟩ : ∃ v : Nat, t = (v : Int) := ⟨t.toNat, by omega⟩
                obtain ⟨N, hN⟩ : ∃ N : Nat, n.nodes = (N : Int) := ⟨n.nodes.toNat, by have := HS.out.nodes; omega⟩
                have hvN : v < N := by omega
                have HN := hiddenN hN
                have HF1 := hiddenN f1
                clear hv0 hN f1 CO H0 hfn htn
                go_wp2
                clear x2 x3 x4 r1 hd u1 u2 u3 u4
                go_loopg [9] 64 (fun gk v9 wr => ∃ (q : Nat) (T F : List Int), q ≤ 64 ∧ gk = 64 - q ∧ v9 = .int .i64 (q : Int) ∧ StE B E wr K n T F ∧ EqN n (q : Int) T F ∧ HoldK [⟨(v : Int), bf, (i : Int)⟩] F ∧ BlkA 24 w.heap.size wr #[.int .i64 n.nodes, .slice (some ⟨ab, ao, none⟩) n.arcs.length c] ∧ BlkA 42 (w.heap.size + 1) wr #[.int .i64 (v : Int), .int .i64 bf, .int .i64 (i : Int)] ∧ Below w.heap.size w wr)
                case atStart => exact ⟨0, T0, F0, by omega, rfl, rfl, S5.out, E0.out, HH0.out, GN5.out, GB5.out, L5.out⟩
                case round =>
                  clear S5 E0 HH0 GN5 GB5 L5
                  obtain ⟨q, T, F, hq, rfl, rfl, hSt, hEq, hHo, hGN, hGB, hB⟩ := hrel
                  have ST := hiddenN hSt
                  have EQ := hiddenN hEq
                  have HO := hiddenN hHo
                  have GN := hiddenN hGN
                  have GB := hiddenN hGB
                  have BW := hiddenN hB
                  clear hSt hEq hHo hGN hGB hB
                  have n0 := GN.out.cell (k := 0) rfl
                  have q0 := GB.out.cell (k := 0) rfl
                  have q1 := GB.out.cell (k := 1) rfl
                  simp only [List.getElem_toArray, List.getElem_cons_zero, List.getElem_cons_succ] at n0 q0 q1
                  by_cases hqq : (q : Int) ≤ bf ∧ q < 64
                  · obtain ⟨hqb, hq6⟩ := hqq
                    have hd1 : decide ((q : Int) ≤ bf) = true := decide_eq_true hqb
                    have hd2 : (q : Int) < 64 := by omega
                    have F1 := hiddenN (fire1K wr ST.out (v : Int))
                    have E1 := hiddenN (fire1_eq HS.out EQ.out (by omega) (v : Int))
                    have H1 := hiddenN (fire1_hold CEH.out EQ.out (by omega) HO.out (v : Int))
                    have hlow := ST.out.low.1
                    generalize (firesN n [(v : Int)] T F).2.1 = T' at *
                    generalize (firesN n [(v : Int)] T F).2.2 = F' at *
                    clear EQ HO hqb
                    go_wp2_with (go_at_call 15; (with_reducible refine F1.out.mono ?_); rintro e W3 ⟨⟨xr, rfl⟩, s3, m3⟩; have S3 := hiddenN s3; have V3 := hiddenN (BW.out.trans ((m3.below hlow).mono hBB)); have G3 := hiddenN (GN.out.keep (m3.block _ GN.out.lt (.inl (by omega)))); have G4 := hiddenN (GB.out.keep (m3.block _ GB.out.lt (.inl (by omega)))); clear s3 m3)
                    go_roundg (64 - (q + 1))
                    case measure => omega
                    case rel => exact ⟨q + 1, T', F', by omega, rfl, by go_num, S3.out, E1.out, H1.out, G3.out, G4.out, V3.out⟩
                  · have hFN : F.length = N := by have := EQ.out.lF; have := HN.out; omega
                    have FD : Hid (Calls Try.prog 16 #[.pointer (some ⟨K, 0, none⟩)] wr fun e w' => ∃ a7 c7, e = .returned (.slice a7 N c7) ∧ At w' a7 F ∧ Below wr.heap.size wr w') := (fired_any wr K n T F ST.out).mono fun e w' hh => by
                      obtain ⟨a7, c7, h1, h2, h3⟩ := hh
                      exact ⟨a7, c7, by rw [← hFN]; exact h1, h2.at, h3⟩
                    have hyf : nth F v ≤ bf := by
                      have := HO.out _ (List.mem_singleton.2 rfl)
                      simpa using this
                    have HFN := hiddenN hFN
                    clear hFN EQ HO ST
                    cases hd1 : decide ((q : Int) ≤ bf) with
                    | false =>
                      go_upto_region 17 with (go_at_call 16; (with_reducible refine FD.out.mono ?_); rintro e W5 ⟨a7, c7, rfl, h7, b7⟩; have A7 := hiddenN h7; have GN6 := hiddenN (GN.out.below b7); have GB6 := hiddenN (GB.out.below b7); have L6 := hiddenN (BW.out.trans (b7.mono BW.out.size)); clear h7 b7)
                      have hx := HFN.out
                      rcases A7.out with e | ⟨fb, fo, ea, hcf⟩
                      · rw [e] at hx; simp at hx; omega
                      have f0 := hcf v (by omega)
                      subst ea
                      have hvI : (v : Int) < (N : Int) := by omega
                      clear hcf hx n0 q0 q1
                      generalize nth F v = y at *
                      have n0 := GN6.out.cell (k := 0) rfl
                      have q0 := GB6.out.cell (k := 0) rfl
                      have q1 := GB6.out.cell (k := 1) rfl
                      simp only [List.getElem_toArray, List.getElem_cons_zero, List.getElem_cons_succ] at n0 q0 q1
                      rw [HN.out] at n0
                      refine wp_region_gen [] (fun d_ i_ u_ z_ => match i_ with
                          | 0 => z_ = .int .i64 0
                          | 1 => z_ = .bool true
                          | 2 => z_ = .bool true
                          | 3 => z_ = .slice (some ⟨fb, fo, none⟩) N c7
                          | 4 => z_ = .int .i64 (N : Int)
                          | 5 => z_ = .pointer (some ⟨w.heap.size, 0, none⟩)
                          | 6 => z_ = .int .i64 (N : Int)
                          | 7 => z_ = .bool true
                          | 8 => z_ = .bool true
                          | 9 => z_ = .bool true
                          | 10 => z_ = .slice (some ⟨fb, fo, none⟩) N c7
                          | 11 => z_ = .pointer (some ⟨w.heap.size + 1, 0, none⟩)
                          | 12 => z_ = .int .i64 (v : Int)
                          | 13 => z_ = .pointer (some ⟨fb, fo + v, none⟩)
                          | 14 => z_ = .int .i64 y
                          | 15 => z_ = .pointer (some ⟨w.heap.size + 1, 1, none⟩)
                          | 16 => z_ = .int .i64 bf
                          | 17 => z_ = .bool true
                          | 18 => z_ = .bool true
                          | 19 => z_ = .bool true
                          | 20 => z_ = .bool true
                          | 21 => z_ = .bool true
                          | 22 => z_ = .bool true
                          | _ => True) (fun d_ u_ => Below W5.heap.size W5 u_) (by kernel_rfl) (by kernel_rfl) (by kernel_rfl) ?_ ?_ ?_ ?_ ?_ ?_ (by kernel_rfl)
                      · intro d_ i_ w_ v_ w' h hb
                        match i_, h with
                        | 0, h => exact h
                        | 1, h => exact h
                        | 2, h => exact h
                        | 3, h => exact h
                        | 4, h => exact h
                        | 5, h => exact h
                        | 6, h => exact h
                        | 7, h => exact h
                        | 8, h => exact h
                        | 9, h => exact h
                        | 10, h => exact h
                        | 11, h => exact h
                        | 12, h => exact h
                        | 13, h => exact h
                        | 14, h => exact h
                        | 15, h => exact h
                        | 16, h => exact h
                        | 17, h => exact h
                        | 18, h => exact h
                        | 19, h => exact h
                        | 20, h => exact h
                        | 21, h => exact h
                        | 22, h => exact h
                        | _ + 23, _ => trivial
                      · intro d_ u_ u' h hb
                        exact h.trans (hb.mono h.size)
                      · exact Below.refl _ _
                      · intro d_ i_ o ρ w' hm ho hf hg hC hcs hfs hfr hdep
                        match i_, hm, ho, hf, hg, hfr, hdep with
                        | 0, _, ho, hf, hg, hfr, hdep =>
                          simp only [gTA, gCZ, gSI] at ho
                          subst ho
                          refine ⟨fun _ => ?_, fun hw => absurd (show true = false from hw) (by decide)⟩
                          have ts : ρ (.tmp 5) = .int .i64 0 := hfr 5 (by kernel_rfl)
                          simp [go_sem, ts]
                          exact ⟨Below.refl _ _, rfl⟩
                        | 1, _, ho, hf, hg, hfr, hdep =>
                          simp only [gTA, gCZ, gCS, gSI] at ho
                          subst ho
                          refine ⟨fun _ => ?_, fun hw => absurd (show true = false from hw) (by decide)⟩
                          have d0 : ρ (.tmp 123) = .int .i64 0 := hdep 0 123 (by kernel_rfl) (by kernel_rfl)
                          simp [go_sem, d0, hcs]
                          exact ⟨Below.refl _ _, rfl⟩
                        | 2, _, ho, hf, hg, hfr, hdep =>
                          simp only [gTA, gCZ, gCS, gSI] at ho
                          subst ho
                          refine ⟨fun _ => ?_, fun hw => absurd (show true = false from hw) (by decide)⟩
                          have d0 : ρ (.tmp 124) = .bool true := hdep 1 124 (by kernel_rfl) (by kernel_rfl)
                          simp [go_sem, d0]
                          exact ⟨Below.refl _ _, rfl⟩
                        | 3, _, ho, hf, hg, hfr, hdep =>
                          simp only [gTA, gCZ, gCS, gSI] at ho
                          subst ho
                          have gd : ρ (.tmp 125) = .bool true := hdep 2 125 (by kernel_rfl) (by kernel_rfl)
                          refine ⟨fun _ => ?_, fun hw => absurd (show (match ρ (.tmp 125) with | .bool c => c == true | _ => false) = false from hw) (by rw [gd]; decide)⟩
                          clear gd
                          have ts : ρ (.tmp 10) = .slice (some ⟨fb, fo, none⟩) N c7 := hfr 10 (by kernel_rfl)
                          simp [go_sem, ts]
                          exact ⟨Below.refl _ _, rfl⟩
                        | 4, _, ho, hf, hg, hfr, hdep =>
                          simp only [gTA, gCZ, gCS, gSI] at ho
                          subst ho
                          have gd : ρ (.tmp 125) = .bool true := hdep 2 125 (by kernel_rfl) (by kernel_rfl)
                          refine ⟨fun _ => ?_, fun hw => absurd (show (match ρ (.tmp 125) with | .bool c => c == true | _ => false) = false from hw) (by rw [gd]; decide)⟩
                          clear gd
                          have d0 : ρ (.tmp 126) = .slice (some ⟨fb, fo, none⟩) N c7 := hdep 3 126 (by kernel_rfl) (by kernel_rfl)
                          simp [go_sem, d0]
                          exact ⟨Below.refl _ _, rfl⟩
                        | 5, _, ho, hf, hg, hfr, hdep =>
                          simp only [gTA, gCZ, gCS, gSI] at ho
                          subst ho
                          have gd : ρ (.tmp 125) = .bool true := hdep 2 125 (by kernel_rfl) (by kernel_rfl)
                          refine ⟨fun _ => ?_, fun hw => absurd (show (match ρ (.tmp 125) with | .bool c => c == true | _ => false) = false from hw) (by rw [gd]; decide)⟩
                          clear gd
                          have ts : ρ (.tmp 2) = .pointer (some ⟨w.heap.size, 0, none⟩) := hfr 2 (by kernel_rfl)
                          simp [go_sem, ts]
                          exact ⟨Below.refl _ _, rfl⟩
                        | 6, _, ho, hf, hg, hfr, hdep =>
                          simp only [gTA, gCZ, gCS, gSI] at ho
                          subst ho
                          have gd : ρ (.tmp 125) = .bool true := hdep 2 125 (by kernel_rfl) (by kernel_rfl)
                          refine ⟨fun _ => ?_, fun hw => absurd (show (match ρ (.tmp 125) with | .bool c => c == true | _ => false) = false from hw) (by rw [gd]; decide)⟩
                          clear gd
                          have kc := cellN_later hC n0
                          have d0 : ρ (.tmp 128) = .pointer (some ⟨w.heap.size, 0, none⟩) := hdep 5 128 (by kernel_rfl) (by kernel_rfl)
                          simp [go_sem, d0, kc]
                          exact ⟨Below.refl _ _, rfl⟩
                        | 7, _, ho, hf, hg, hfr, hdep =>
                          simp only [gTA, gCZ, gCS, gSI] at ho
                          subst ho
                          have gd : ρ (.tmp 125) = .bool true := hdep 2 125 (by kernel_rfl) (by kernel_rfl)
                          refine ⟨fun _ => ?_, fun hw => absurd (show (match ρ (.tmp 125) with | .bool c => c == true | _ => false) = false from hw) (by rw [gd]; decide)⟩
                          clear gd
                          have d0 : ρ (.tmp 127) = .int .i64 (N : Int) := hdep 4 127 (by kernel_rfl) (by kernel_rfl)
                          have d1 : ρ (.tmp 129) = .int .i64 (N : Int) := hdep 6 129 (by kernel_rfl) (by kernel_rfl)
                          simp [go_sem, d0, d1]
                          exact ⟨Below.refl _ _, rfl⟩
                        | 8, _, ho, hf, hg, hfr, hdep =>
                          simp only [gTA, gCZ, gCS, gSI] at ho
                          subst ho
                          refine ⟨fun _ => ?_, fun hw => absurd (show true = false from hw) (by decide)⟩
                          have d0 : ρ (.tmp 125) = .bool true := hdep 2 125 (by kernel_rfl) (by kernel_rfl)
                          have d1 : ρ (.tmp 130) = .bool true := hdep 7 130 (by kernel_rfl) (by kernel_rfl)
                          simp [go_sem, d0, d1]
                          exact ⟨Below.refl _ _, rfl⟩
                        | 9, _, ho, hf, hg, hfr, hdep =>
                          simp only [gTA, gCZ, gCS, gSI] at ho
                          subst ho
                          refine ⟨fun _ => ?_, fun hw => absurd (show true = false from hw) (by decide)⟩
                          have d0 : ρ (.tmp 131) = .bool true := hdep 8 131 (by kernel_rfl) (by kernel_rfl)
                          simp [go_sem, d0]
                          exact ⟨Below.refl _ _, rfl⟩
                        | 10, _, ho, hf, hg, hfr, hdep =>
                          simp only [gTA, gCZ, gCS, gSI] at ho
                          subst ho
                          have gd : ρ (.tmp 132) = .bool true := hdep 9 132 (by kernel_rfl) (by kernel_rfl)
                          refine ⟨fun _ => ?_, fun hw => absurd (show (match ρ (.tmp 132) with | .bool c => c == true | _ => false) = false from hw) (by rw [gd]; decide)⟩
                          clear gd
                          have ts : ρ (.tmp 10) = .slice (some ⟨fb, fo, none⟩) N c7 := hfr 10 (by kernel_rfl)
                          simp [go_sem, ts]
                          exact ⟨Below.refl _ _, rfl⟩
                        | 11, _, ho, hf, hg, hfr, hdep =>
                          simp only [gTA, gCZ, gCS, gSI] at ho
                          subst ho
                          have gd : ρ (.tmp 132) = .bool true := hdep 9 132 (by kernel_rfl) (by kernel_rfl)
                          refine ⟨fun _ => ?_, fun hw => absurd (show (match ρ (.tmp 132) with | .bool c => c == true | _ => false) = false from hw) (by rw [gd]; decide)⟩
                          clear gd
                          have ts : ρ (.tmp 3) = .pointer (some ⟨w.heap.size + 1, 0, none⟩) := hfr 3 (by kernel_rfl)
                          simp [go_sem, ts]
                          exact ⟨Below.refl _ _, rfl⟩
                        | 12, _, ho, hf, hg, hfr, hdep =>
                          simp only [gTA, gCZ, gCS, gSI] at ho
                          subst ho
                          have gd : ρ (.tmp 132) = .bool true := hdep 9 132 (by kernel_rfl) (by kernel_rfl)
                          refine ⟨fun _ => ?_, fun hw => absurd (show (match ρ (.tmp 132) with | .bool c => c == true | _ => false) = false from hw) (by rw [gd]; decide)⟩
                          clear gd
                          have kc := cellN_later hC q0
                          have d0 : ρ (.tmp 134) = .pointer (some ⟨w.heap.size + 1, 0, none⟩) := hdep 11 134 (by kernel_rfl) (by kernel_rfl)
                          simp [go_sem, d0, kc]
                          exact ⟨Below.refl _ _, rfl⟩
                        | 13, _, ho, hf, hg, hfr, hdep =>
                          simp only [gTA, gCZ, gCS, gSI] at ho
                          subst ho
                          have gd : ρ (.tmp 132) = .bool true := hdep 9 132 (by kernel_rfl) (by kernel_rfl)
                          refine ⟨fun _ => ?_, fun hw => absurd (show (match ρ (.tmp 132) with | .bool c => c == true | _ => false) = false from hw) (by rw [gd]; decide)⟩
                          clear gd
                          have d0 : ρ (.tmp 133) = .slice (some ⟨fb, fo, none⟩) N c7 := hdep 10 133 (by kernel_rfl) (by kernel_rfl)
                          have d1 : ρ (.tmp 135) = .int .i64 (v : Int) := hdep 12 135 (by kernel_rfl) (by kernel_rfl)
                          simp [go_sem, d0, d1, hvI]
                          exact ⟨Below.refl _ _, rfl⟩
                        | 14, _, ho, hf, hg, hfr, hdep =>
                          simp only [gTA, gCZ, gCS, gSI] at ho
                          subst ho
                          have gd : ρ (.tmp 132) = .bool true := hdep 9 132 (by kernel_rfl) (by kernel_rfl)
                          refine ⟨fun _ => ?_, fun hw => absurd (show (match ρ (.tmp 132) with | .bool c => c == true | _ => false) = false from hw) (by rw [gd]; decide)⟩
                          clear gd
                          have kc := cellN_later hC f0
                          have d0 : ρ (.tmp 136) = .pointer (some ⟨fb, fo + v, none⟩) := hdep 13 136 (by kernel_rfl) (by kernel_rfl)
                          simp [go_sem, d0, kc]
                          exact ⟨Below.refl _ _, rfl⟩
                        | 15, _, ho, hf, hg, hfr, hdep =>
                          simp only [gTA, gCZ, gCS, gSI] at ho
                          subst ho
                          have gd : ρ (.tmp 132) = .bool true := hdep 9 132 (by kernel_rfl) (by kernel_rfl)
                          refine ⟨fun _ => ?_, fun hw => absurd (show (match ρ (.tmp 132) with | .bool c => c == true | _ => false) = false from hw) (by rw [gd]; decide)⟩
                          clear gd
                          have ts : ρ (.tmp 3) = .pointer (some ⟨w.heap.size + 1, 0, none⟩) := hfr 3 (by kernel_rfl)
                          simp [go_sem, ts]
                          exact ⟨Below.refl _ _, rfl⟩
                        | 16, _, ho, hf, hg, hfr, hdep =>
                          simp only [gTA, gCZ, gCS, gSI] at ho
                          subst ho
                          have gd : ρ (.tmp 132) = .bool true := hdep 9 132 (by kernel_rfl) (by kernel_rfl)
                          refine ⟨fun _ => ?_, fun hw => absurd (show (match ρ (.tmp 132) with | .bool c => c == true | _ => false) = false from hw) (by rw [gd]; decide)⟩
                          clear gd
                          have kc := cellN_later hC q1
                          have d0 : ρ (.tmp 138) = .pointer (some ⟨w.heap.size + 1, 1, none⟩) := hdep 15 138 (by kernel_rfl) (by kernel_rfl)
                          simp [go_sem, d0, kc]
                          exact ⟨Below.refl _ _, rfl⟩
                        | 17, _, ho, hf, hg, hfr, hdep =>
                          simp only [gTA, gCZ, gCS, gSI] at ho
                          subst ho
                          have gd : ρ (.tmp 132) = .bool true := hdep 9 132 (by kernel_rfl) (by kernel_rfl)
                          refine ⟨fun _ => ?_, fun hw => absurd (show (match ρ (.tmp 132) with | .bool c => c == true | _ => false) = false from hw) (by rw [gd]; decide)⟩
                          clear gd
                          have d0 : ρ (.tmp 137) = .int .i64 y := hdep 14 137 (by kernel_rfl) (by kernel_rfl)
                          have d1 : ρ (.tmp 139) = .int .i64 bf := hdep 16 139 (by kernel_rfl) (by kernel_rfl)
                          simp [go_sem, d0, d1, hyf]
                          exact ⟨Below.refl _ _, rfl⟩
                        | 18, _, ho, hf, hg, hfr, hdep =>
                          simp only [gTA, gCZ, gCS, gSI] at ho
                          subst ho
                          refine ⟨fun _ => ?_, fun hw => absurd (show true = false from hw) (by decide)⟩
                          have d0 : ρ (.tmp 132) = .bool true := hdep 9 132 (by kernel_rfl) (by kernel_rfl)
                          have d1 : ρ (.tmp 140) = .bool true := hdep 17 140 (by kernel_rfl) (by kernel_rfl)
                          simp [go_sem, d0, d1]
                          exact ⟨Below.refl _ _, rfl⟩
                        | 19, _, ho, hf, hg, hfr, hdep =>
                          simp only [gTA, gCZ, gCS, gSI] at ho
                          subst ho
                          refine ⟨fun _ => ?_, fun hw => absurd (show true = false from hw) (by decide)⟩
                          have d0 : ρ (.tmp 141) = .bool true := hdep 18 141 (by kernel_rfl) (by kernel_rfl)
                          simp [go_sem, d0]
                          exact ⟨Below.refl _ _, rfl⟩
                        | 20, _, ho, hf, hg, hfr, hdep =>
                          simp only [gTA, gCZ, gCS, gSI] at ho
                          subst ho
                          have gd : ρ (.tmp 142) = .bool true := hdep 19 142 (by kernel_rfl) (by kernel_rfl)
                          refine ⟨fun _ => ?_, fun hw => absurd (show (match ρ (.tmp 142) with | .bool c => c == true | _ => false) = false from hw) (by rw [gd]; decide)⟩
                          clear gd
                          simp [go_sem, hfs]
                          exact ⟨rfl, (AW.out w').mono fun e' w'' hh => ⟨_, hh.1, hh.2, rfl⟩⟩
                        | 21, _, ho, hf, hg, hfr, hdep =>
                          simp only [gTA, gCZ, gCS, gSI] at ho
                          subst ho
                          refine ⟨fun _ => ?_, fun hw => absurd (show true = false from hw) (by decide)⟩
                          have d0 : ρ (.tmp 142) = .bool true := hdep 19 142 (by kernel_rfl) (by kernel_rfl)
                          have d1 : ρ (.tmp 143) = .bool true := hdep 20 143 (by kernel_rfl) (by kernel_rfl)
                          simp [go_sem, d0, d1]
                          exact ⟨Below.refl _ _, rfl⟩
                        | 22, _, ho, hf, hg, hfr, hdep =>
                          simp only [gTA, gCZ, gCS, gSI] at ho
                          subst ho
                          refine ⟨fun _ => ?_, fun hw => absurd (show true = false from hw) (by decide)⟩
                          have d0 : ρ (.tmp 144) = .bool true := hdep 21 144 (by kernel_rfl) (by kernel_rfl)
                          simp [go_sem, d0]
                          exact ⟨Below.refl _ _, rfl⟩
                        | n + 23, _, ho, _, _, _, _ => simp at ho
                      · intro d_ i_ o ρ w' hm ho h0 hf hg hC hcs hfs hfr hdep
                        exact absurd hm (by simp)
                      · intro U1 W6 hC6 hS
                        have e22 : U1 22 = .bool true := hS 22 (by decide) (by intro h; cases h)
                        simp only [puts, e22]
                        simp only [Act.put, List.setIfInBounds_toArray, List.set_cons_zero, List.set_cons_succ]
                        clear hS e22
                        have L7 := hiddenN (L6.out.trans (hC6.mono L6.out.size))
                        go_wp2
                        go_ret
                        exact ⟨by first | rfl | simp, L7.out⟩
                    | true =>
                      have hd2 : ¬ (q : Int) < 64 := by have := of_decide_eq_true hd1; omega
                      go_upto_region 17 with (go_at_call 16; (with_reducible refine FD.out.mono ?_); rintro e W5 ⟨a7, c7, rfl, h7, b7⟩; have A7 := hiddenN h7; have GN6 := hiddenN (GN.out.below b7); have GB6 := hiddenN (GB.out.below b7); have L6 := hiddenN (BW.out.trans (b7.mono BW.out.size)); clear h7 b7)
                      have hx := HFN.out
                      rcases A7.out with e | ⟨fb, fo, ea, hcf⟩
                      · rw [e] at hx; simp at hx; omega
                      have f0 := hcf v (by omega)
                      subst ea
                      have hvI : (v : Int) < (N : Int) := by omega
                      clear hcf hx n0 q0 q1
                      generalize nth F v = y at *
                      have n0 := GN6.out.cell (k := 0) rfl
                      have q0 := GB6.out.cell (k := 0) rfl
                      have q1 := GB6.out.cell (k := 1) rfl
                      simp only [List.getElem_toArray, List.getElem_cons_zero, List.getElem_cons_succ] at n0 q0 q1
                      rw [HN.out] at n0
                      refine wp_region_gen [] (fun d_ i_ u_ z_ => match i_ with
                          | 0 => z_ = .int .i64 0
                          | 1 => z_ = .bool true
                          | 2 => z_ = .bool true
                          | 3 => z_ = .slice (some ⟨fb, fo, none⟩) N c7
                          | 4 => z_ = .int .i64 (N : Int)
                          | 5 => z_ = .pointer (some ⟨w.heap.size, 0, none⟩)
                          | 6 => z_ = .int .i64 (N : Int)
                          | 7 => z_ = .bool true
                          | 8 => z_ = .bool true
                          | 9 => z_ = .bool true
                          | 10 => z_ = .slice (some ⟨fb, fo, none⟩) N c7
                          | 11 => z_ = .pointer (some ⟨w.heap.size + 1, 0, none⟩)
                          | 12 => z_ = .int .i64 (v : Int)
                          | 13 => z_ = .pointer (some ⟨fb, fo + v, none⟩)
                          | 14 => z_ = .int .i64 y
                          | 15 => z_ = .pointer (some ⟨w.heap.size + 1, 1, none⟩)
                          | 16 => z_ = .int .i64 bf
                          | 17 => z_ = .bool true
                          | 18 => z_ = .bool true
                          | 19 => z_ = .bool true
                          | 20 => z_ = .bool true
                          | 21 => z_ = .bool true
                          | 22 => z_ = .bool true
                          | _ => True) (fun d_ u_ => Below W5.heap.size W5 u_) (by kernel_rfl) (by kernel_rfl) (by kernel_rfl) ?_ ?_ ?_ ?_ ?_ ?_ (by kernel_rfl)
                      · intro d_ i_ w_ v_ w' h hb
                        match i_, h with
                        | 0, h => exact h
                        | 1, h => exact h
                        | 2, h => exact h
                        | 3, h => exact h
                        | 4, h => exact h
                        | 5, h => exact h
                        | 6, h => exact h
                        | 7, h => exact h
                        | 8, h => exact h
                        | 9, h => exact h
                        | 10, h => exact h
                        | 11, h => exact h
                        | 12, h => exact h
                        | 13, h => exact h
                        | 14, h => exact h
                        | 15, h => exact h
                        | 16, h => exact h
                        | 17, h => exact h
                        | 18, h => exact h
                        | 19, h => exact h
                        | 20, h => exact h
                        | 21, h => exact h
                        | 22, h => exact h
                        | _ + 23, _ => trivial
                      · intro d_ u_ u' h hb
                        exact h.trans (hb.mono h.size)
                      · exact Below.refl _ _
                      · intro d_ i_ o ρ w' hm ho hf hg hC hcs hfs hfr hdep
                        match i_, hm, ho, hf, hg, hfr, hdep with
                        | 0, _, ho, hf, hg, hfr, hdep =>
                          simp only [gTA, gCZ, gSI] at ho
                          subst ho
                          refine ⟨fun _ => ?_, fun hw => absurd (show true = false from hw) (by decide)⟩
                          have ts : ρ (.tmp 5) = .int .i64 0 := hfr 5 (by kernel_rfl)
                          simp [go_sem, ts]
                          exact ⟨Below.refl _ _, rfl⟩
                        | 1, _, ho, hf, hg, hfr, hdep =>
                          simp only [gTA, gCZ, gCS, gSI] at ho
                          subst ho
                          refine ⟨fun _ => ?_, fun hw => absurd (show true = false from hw) (by decide)⟩
                          have d0 : ρ (.tmp 123) = .int .i64 0 := hdep 0 123 (by kernel_rfl) (by kernel_rfl)
                          simp [go_sem, d0, hcs]
                          exact ⟨Below.refl _ _, rfl⟩
                        | 2, _, ho, hf, hg, hfr, hdep =>
                          simp only [gTA, gCZ, gCS, gSI] at ho
                          subst ho
                          refine ⟨fun _ => ?_, fun hw => absurd (show true = false from hw) (by decide)⟩
                          have d0 : ρ (.tmp 124) = .bool true := hdep 1 124 (by kernel_rfl) (by kernel_rfl)
                          simp [go_sem, d0]
                          exact ⟨Below.refl _ _, rfl⟩
                        | 3, _, ho, hf, hg, hfr, hdep =>
                          simp only [gTA, gCZ, gCS, gSI] at ho
                          subst ho
                          have gd : ρ (.tmp 125) = .bool true := hdep 2 125 (by kernel_rfl) (by kernel_rfl)
                          refine ⟨fun _ => ?_, fun hw => absurd (show (match ρ (.tmp 125) with | .bool c => c == true | _ => false) = false from hw) (by rw [gd]; decide)⟩
                          clear gd
                          have ts : ρ (.tmp 10) = .slice (some ⟨fb, fo, none⟩) N c7 := hfr 10 (by kernel_rfl)
                          simp [go_sem, ts]
                          exact ⟨Below.refl _ _, rfl⟩
                        | 4, _, ho, hf, hg, hfr, hdep =>
                          simp only [gTA, gCZ, gCS, gSI] at ho
                          subst ho
                          have gd : ρ (.tmp 125) = .bool true := hdep 2 125 (by kernel_rfl) (by kernel_rfl)
                          refine ⟨fun _ => ?_, fun hw => absurd (show (match ρ (.tmp 125) with | .bool c => c == true | _ => false) = false from hw) (by rw [gd]; decide)⟩
                          clear gd
                          have d0 : ρ (.tmp 126) = .slice (some ⟨fb, fo, none⟩) N c7 := hdep 3 126 (by kernel_rfl) (by kernel_rfl)
                          simp [go_sem, d0]
                          exact ⟨Below.refl _ _, rfl⟩
                        | 5, _, ho, hf, hg, hfr, hdep =>
                          simp only [gTA, gCZ, gCS, gSI] at ho
                          subst ho
                          have gd : ρ (.tmp 125) = .bool true := hdep 2 125 (by kernel_rfl) (by kernel_rfl)
                          refine ⟨fun _ => ?_, fun hw => absurd (show (match ρ (.tmp 125) with | .bool c => c == true | _ => false) = false from hw) (by rw [gd]; decide)⟩
                          clear gd
                          have ts : ρ (.tmp 2) = .pointer (some ⟨w.heap.size, 0, none⟩) := hfr 2 (by kernel_rfl)
                          simp [go_sem, ts]
                          exact ⟨Below.refl _ _, rfl⟩
                        | 6, _, ho, hf, hg, hfr, hdep =>
                          simp only [gTA, gCZ, gCS, gSI] at ho
                          subst ho
                          have gd : ρ (.tmp 125) = .bool true := hdep 2 125 (by kernel_rfl) (by kernel_rfl)
                          refine ⟨fun _ => ?_, fun hw => absurd (show (match ρ (.tmp 125) with | .bool c => c == true | _ => false) = false from hw) (by rw [gd]; decide)⟩
                          clear gd
                          have kc := cellN_later hC n0
                          have d0 : ρ (.tmp 128) = .pointer (some ⟨w.heap.size, 0, none⟩) := hdep 5 128 (by kernel_rfl) (by kernel_rfl)
                          simp [go_sem, d0, kc]
                          exact ⟨Below.refl _ _, rfl⟩
                        | 7, _, ho, hf, hg, hfr, hdep =>
                          simp only [gTA, gCZ, gCS, gSI] at ho
                          subst ho
                          have gd : ρ (.tmp 125) = .bool true := hdep 2 125 (by kernel_rfl) (by kernel_rfl)
                          refine ⟨fun _ => ?_, fun hw => absurd (show (match ρ (.tmp 125) with | .bool c => c == true | _ => false) = false from hw) (by rw [gd]; decide)⟩
                          clear gd
                          have d0 : ρ (.tmp 127) = .int .i64 (N : Int) := hdep 4 127 (by kernel_rfl) (by kernel_rfl)
                          have d1 : ρ (.tmp 129) = .int .i64 (N : Int) := hdep 6 129 (by kernel_rfl) (by kernel_rfl)
                          simp [go_sem, d0, d1]
                          exact ⟨Below.refl _ _, rfl⟩
                        | 8, _, ho, hf, hg, hfr, hdep =>
                          simp only [gTA, gCZ, gCS, gSI] at ho
                          subst ho
                          refine ⟨fun _ => ?_, fun hw => absurd (show true = false from hw) (by decide)⟩
                          have d0 : ρ (.tmp 125) = .bool true := hdep 2 125 (by kernel_rfl) (by kernel_rfl)
                          have d1 : ρ (.tmp 130) = .bool true := hdep 7 130 (by kernel_rfl) (by kernel_rfl)
                          simp [go_sem, d0, d1]
                          exact ⟨Below.refl _ _, rfl⟩
                        | 9, _, ho, hf, hg, hfr, hdep =>
                          simp only [gTA, gCZ, gCS, gSI] at ho
                          subst ho
                          refine ⟨fun _ => ?_, fun hw => absurd (show true = false from hw) (by decide)⟩
                          have d0 : ρ (.tmp 131) = .bool true := hdep 8 131 (by kernel_rfl) (by kernel_rfl)
                          simp [go_sem, d0]
                          exact ⟨Below.refl _ _, rfl⟩
                        | 10, _, ho, hf, hg, hfr, hdep =>
                          simp only [gTA, gCZ, gCS, gSI] at ho
                          subst ho
                          have gd : ρ (.tmp 132) = .bool true := hdep 9 132 (by kernel_rfl) (by kernel_rfl)
                          refine ⟨fun _ => ?_, fun hw => absurd (show (match ρ (.tmp 132) with | .bool c => c == true | _ => false) = false from hw) (by rw [gd]; decide)⟩
                          clear gd
                          have ts : ρ (.tmp 10) = .slice (some ⟨fb, fo, none⟩) N c7 := hfr 10 (by kernel_rfl)
                          simp [go_sem, ts]
                          exact ⟨Below.refl _ _, rfl⟩
                        | 11, _, ho, hf, hg, hfr, hdep =>
                          simp only [gTA, gCZ, gCS, gSI] at ho
                          subst ho
                          have gd : ρ (.tmp 132) = .bool true := hdep 9 132 (by kernel_rfl) (by kernel_rfl)
                          refine ⟨fun _ => ?_, fun hw => absurd (show (match ρ (.tmp 132) with | .bool c => c == true | _ => false) = false from hw) (by rw [gd]; decide)⟩
                          clear gd
                          have ts : ρ (.tmp 3) = .pointer (some ⟨w.heap.size + 1, 0, none⟩) := hfr 3 (by kernel_rfl)
                          simp [go_sem, ts]
                          exact ⟨Below.refl _ _, rfl⟩
                        | 12, _, ho, hf, hg, hfr, hdep =>
                          simp only [gTA, gCZ, gCS, gSI] at ho
                          subst ho
                          have gd : ρ (.tmp 132) = .bool true := hdep 9 132 (by kernel_rfl) (by kernel_rfl)
                          refine ⟨fun _ => ?_, fun hw => absurd (show (match ρ (.tmp 132) with | .bool c => c == true | _ => false) = false from hw) (by rw [gd]; decide)⟩
                          clear gd
                          have kc := cellN_later hC q0
                          have d0 : ρ (.tmp 134) = .pointer (some ⟨w.heap.size + 1, 0, none⟩) := hdep 11 134 (by kernel_rfl) (by kernel_rfl)
                          simp [go_sem, d0, kc]
                          exact ⟨Below.refl _ _, rfl⟩
                        | 13, _, ho, hf, hg, hfr, hdep =>
                          simp only [gTA, gCZ, gCS, gSI] at ho
                          subst ho
                          have gd : ρ (.tmp 132) = .bool true := hdep 9 132 (by kernel_rfl) (by kernel_rfl)
                          refine ⟨fun _ => ?_, fun hw => absurd (show (match ρ (.tmp 132) with | .bool c => c == true | _ => false) = false from hw) (by rw [gd]; decide)⟩
                          clear gd
                          have d0 : ρ (.tmp 133) = .slice (some ⟨fb, fo, none⟩) N c7 := hdep 10 133 (by kernel_rfl) (by kernel_rfl)
                          have d1 : ρ (.tmp 135) = .int .i64 (v : Int) := hdep 12 135 (by kernel_rfl) (by kernel_rfl)
                          simp [go_sem, d0, d1, hvI]
                          exact ⟨Below.refl _ _, rfl⟩
                        | 14, _, ho, hf, hg, hfr, hdep =>
                          simp only [gTA, gCZ, gCS, gSI] at ho
                          subst ho
                          have gd : ρ (.tmp 132) = .bool true := hdep 9 132 (by kernel_rfl) (by kernel_rfl)
                          refine ⟨fun _ => ?_, fun hw => absurd (show (match ρ (.tmp 132) with | .bool c => c == true | _ => false) = false from hw) (by rw [gd]; decide)⟩
                          clear gd
                          have kc := cellN_later hC f0
                          have d0 : ρ (.tmp 136) = .pointer (some ⟨fb, fo + v, none⟩) := hdep 13 136 (by kernel_rfl) (by kernel_rfl)
                          simp [go_sem, d0, kc]
                          exact ⟨Below.refl _ _, rfl⟩
                        | 15, _, ho, hf, hg, hfr, hdep =>
                          simp only [gTA, gCZ, gCS, gSI] at ho
                          subst ho
                          have gd : ρ (.tmp 132) = .bool true := hdep 9 132 (by kernel_rfl) (by kernel_rfl)
                          refine ⟨fun _ => ?_, fun hw => absurd (show (match ρ (.tmp 132) with | .bool c => c == true | _ => false) = false from hw) (by rw [gd]; decide)⟩
                          clear gd
                          have ts : ρ (.tmp 3) = .pointer (some ⟨w.heap.size + 1, 0, none⟩) := hfr 3 (by kernel_rfl)
                          simp [go_sem, ts]
                          exact ⟨Below.refl _ _, rfl⟩
                        | 16, _, ho, hf, hg, hfr, hdep =>
                          simp only [gTA, gCZ, gCS, gSI] at ho
                          subst ho
                          have gd : ρ (.tmp 132) = .bool true := hdep 9 132 (by kernel_rfl) (by kernel_rfl)
                          refine ⟨fun _ => ?_, fun hw => absurd (show (match ρ (.tmp 132) with | .bool c => c == true | _ => false) = false from hw) (by rw [gd]; decide)⟩
                          clear gd
                          have kc := cellN_later hC q1
                          have d0 : ρ (.tmp 138) = .pointer (some ⟨w.heap.size + 1, 1, none⟩) := hdep 15 138 (by kernel_rfl) (by kernel_rfl)
                          simp [go_sem, d0, kc]
                          exact ⟨Below.refl _ _, rfl⟩
                        | 17, _, ho, hf, hg, hfr, hdep =>
                          simp only [gTA, gCZ, gCS, gSI] at ho
                          subst ho
                          have gd : ρ (.tmp 132) = .bool true := hdep 9 132 (by kernel_rfl) (by kernel_rfl)
                          refine ⟨fun _ => ?_, fun hw => absurd (show (match ρ (.tmp 132) with | .bool c => c == true | _ => false) = false from hw) (by rw [gd]; decide)⟩
                          clear gd
                          have d0 : ρ (.tmp 137) = .int .i64 y := hdep 14 137 (by kernel_rfl) (by kernel_rfl)
                          have d1 : ρ (.tmp 139) = .int .i64 bf := hdep 16 139 (by kernel_rfl) (by kernel_rfl)
                          simp [go_sem, d0, d1, hyf]
                          exact ⟨Below.refl _ _, rfl⟩
                        | 18, _, ho, hf, hg, hfr, hdep =>
                          simp only [gTA, gCZ, gCS, gSI] at ho
                          subst ho
                          refine ⟨fun _ => ?_, fun hw => absurd (show true = false from hw) (by decide)⟩
                          have d0 : ρ (.tmp 132) = .bool true := hdep 9 132 (by kernel_rfl) (by kernel_rfl)
                          have d1 : ρ (.tmp 140) = .bool true := hdep 17 140 (by kernel_rfl) (by kernel_rfl)
                          simp [go_sem, d0, d1]
                          exact ⟨Below.refl _ _, rfl⟩
                        | 19, _, ho, hf, hg, hfr, hdep =>
                          simp only [gTA, gCZ, gCS, gSI] at ho
                          subst ho
                          refine ⟨fun _ => ?_, fun hw => absurd (show true = false from hw) (by decide)⟩
                          have d0 : ρ (.tmp 141) = .bool true := hdep 18 141 (by kernel_rfl) (by kernel_rfl)
                          simp [go_sem, d0]
                          exact ⟨Below.refl _ _, rfl⟩
                        | 20, _, ho, hf, hg, hfr, hdep =>
                          simp only [gTA, gCZ, gCS, gSI] at ho
                          subst ho
                          have gd : ρ (.tmp 142) = .bool true := hdep 19 142 (by kernel_rfl) (by kernel_rfl)
                          refine ⟨fun _ => ?_, fun hw => absurd (show (match ρ (.tmp 142) with | .bool c => c == true | _ => false) = false from hw) (by rw [gd]; decide)⟩
                          clear gd
                          simp [go_sem, hfs]
                          exact ⟨rfl, (AW.out w').mono fun e' w'' hh => ⟨_, hh.1, hh.2, rfl⟩⟩
                        | 21, _, ho, hf, hg, hfr, hdep =>
                          simp only [gTA, gCZ, gCS, gSI] at ho
                          subst ho
                          refine ⟨fun _ => ?_, fun hw => absurd (show true = false from hw) (by decide)⟩
                          have d0 : ρ (.tmp 142) = .bool true := hdep 19 142 (by kernel_rfl) (by kernel_rfl)
                          have d1 : ρ (.tmp 143) = .bool true := hdep 20 143 (by kernel_rfl) (by kernel_rfl)
                          simp [go_sem, d0, d1]
                          exact ⟨Below.refl _ _, rfl⟩
                        | 22, _, ho, hf, hg, hfr, hdep =>
                          simp only [gTA, gCZ, gCS, gSI] at ho
                          subst ho
                          refine ⟨fun _ => ?_, fun hw => absurd (show true = false from hw) (by decide)⟩
                          have d0 : ρ (.tmp 144) = .bool true := hdep 21 144 (by kernel_rfl) (by kernel_rfl)
                          simp [go_sem, d0]
                          exact ⟨Below.refl _ _, rfl⟩
                        | n + 23, _, ho, _, _, _, _ => simp at ho
                      · intro d_ i_ o ρ w' hm ho h0 hf hg hC hcs hfs hfr hdep
                        exact absurd hm (by simp)
                      · intro U1 W6 hC6 hS
                        have e22 : U1 22 = .bool true := hS 22 (by decide) (by intro h; cases h)
                        simp only [puts, e22]
                        simp only [Act.put, List.setIfInBounds_toArray, List.set_cons_zero, List.set_cons_succ]
                        clear hS e22
                        have L7 := hiddenN (L6.out.trans (hC6.mono L6.out.size))
                        go_wp2
                        go_ret
                        exact ⟨by first | rfl | simp, L7.out⟩
    · cases h1 : decide (ba < 0) with
      | true =>
        have CEQ : ce = 140 := by
          rw [← CEH.out]
          exact NOT.out fun hh => by have := (limK_iff.1 (ONE.out.1 hh).1); simp only at this; omega
        subst CEQ
        go_quiet (fail)
        go_wp2_with (go_at_call 13; (with_reducible refine (AW.out _).mono ?_); rintro e w9 ⟨rfl, b9⟩; have L9 := hiddenN ((drewB L1.out _).trans (b9.mono (drewB L1.out _).size)); clear b9)
        go_ret
        exact ⟨by first | rfl | simp, L9.out⟩
      | false =>
        have h2 : decide ((n.arcs.length : Int) ≤ ba) = true := by have := of_decide_eq_false h1; exact decide_eq_true (by omega)
        have CEQ : ce = 140 := by
          rw [← CEH.out]
          exact NOT.out fun hh => by have := (limK_iff.1 (ONE.out.1 hh).1); simp only at this; omega
        subst CEQ
        go_quiet (fail)
        go_wp2_with (go_at_call 13; (with_reducible refine (AW.out _).mono ?_); rintro e w9 ⟨rfl, b9⟩; have L9 := hiddenN ((drewB L1.out _).trans (b9.mono (drewB L1.out _).size)); clear b9)
        go_ret
        exact ⟨by first | rfl | simp, L9.out⟩
  · have NO : Hid (∀ U, Below w.heap.size w U → Calls Try.prog 14 #[.agg #[.int .i64 n.nodes, .slice a n.arcs.length c]] U fun e w' => e = .returned (.tuple #[.pointer none, .int .i64 (checkN n)]) ∧ Below U.heap.size U w') := fun U hb => new_no n a c w h hc0 U hb
    have hcn : ((checkN n) != 0) = true := by simp; exact hc0
    rw [con_bad hc0] at CF
    have hee : (checkN n == checkN n) = true := by simp
    clear h hc0
    generalize checkN n = ce at *
    go_enter Try.func6, Try.ntmps6
    go_upto_region 1 with fail
    generalize (w.alloc (.cells #[.int .i64 n.nodes, .slice a n.arcs.length c] 24)).alloc (.cells #[.int .i64 bn, .int .i64 bf, .int .i64 ba] 42) = W0 at *
    go_wp2_with (first
      | (go_at_call 9; (with_reducible refine (CF.out _ B1.out).mono ?_); rintro e w2 ⟨rfl, b2⟩; have B2 := hiddenN (B1.out.trans (b2.mono B1.out.size)); have GN2 := hiddenN (GN.out.below b2); have y0 := GN2.out.cell (k := 0) rfl; have y1 := GN2.out.cell (k := 1) rfl; simp only [List.getElem_toArray, List.getElem_cons_zero, List.getElem_cons_succ] at y0 y1; clear b2 CF)
      | (go_at_call 14; (with_reducible refine (NO.out _ B2.out).mono ?_); rintro e W1 ⟨rfl, b1⟩; have LZ := hiddenN (B2.out.trans (b1.mono B2.out.size)); clear b1 NO)
      | (go_at_call 13; (with_reducible refine (AW.out _).mono ?_); rintro e w9 ⟨rfl, b9⟩; have L9 := hiddenN (LZ.out.trans (b9.mono LZ.out.size)); clear b9))
    go_ret
    exact ⟨by first | rfl | simp, L9.out⟩
end Go.Proofs.Ytdgngmhapehldaa

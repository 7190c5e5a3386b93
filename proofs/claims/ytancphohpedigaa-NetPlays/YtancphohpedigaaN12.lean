/- The walk of NetSwaps. (Written by tmpl/mkN12.py.) -/
import Derived.Test.YtancphohpedigaaN10
import Derived.Test.YtancphohpedigaaNR
namespace Go.Proofs.Ytancphohpedigaa
open Go.ChangeShapes Go.WideShapes Go.ChangeAt Go.RowKit

theorem fire2N {B E K : Nat} {T F : List Int} (n : NN) (x y : Int) (U : World) (h : StE B E U K n T F) :
    Calls Try.prog 20 #[.pointer (some ⟨K, 0, none⟩), .slice (some ⟨U.heap.size, 0, none⟩) 2 2] (U.alloc (.cells #[.int .i64 x, .int .i64 y] 3)) fun e w' => e = .returned (.int .i64 ((firesN n [x, y] T F).1 : Int)) ∧ StE B E w' K n (firesN n [x, y] T F).2.1 (firesN n [x, y] T F).2.2 ∧ Mid B E U w' := by
  have ba := (Below.refl U.heap.size U).alloc (Nat.le_refl _) (.cells #[.int .i64 x, .int .i64 y] 3)
  have hlow := h.low
  have r := fires_any (U.alloc (.cells #[.int .i64 x, .int .i64 y] 3)) K n T F (h.below ba) (some ⟨U.heap.size, 0, none⟩) 2 [x, y] (at_alloc2 U x y) (by show (2 : Nat) ≤ _; decide) (fun z hz _ => by cases hz; exact .inr hlow.2)
  refine r.mono ?_
  rintro e w' ⟨h1, h2, h3⟩
  exact ⟨h1, h2, (Mid.of_below ba).trans h3⟩
theorem fire1N {B E K : Nat} {T F : List Int} (n : NN) (x : Int) (U : World) (h : StE B E U K n T F) :
    Calls Try.prog 20 #[.pointer (some ⟨K, 0, none⟩), .slice (some ⟨U.heap.size, 0, none⟩) 1 1] (U.alloc (.cells #[.int .i64 x] 3)) fun e w' => e = .returned (.int .i64 ((firesN n [x] T F).1 : Int)) ∧ StE B E w' K n (firesN n [x] T F).2.1 (firesN n [x] T F).2.2 ∧ Mid B E U w' := by
  have ba := (Below.refl U.heap.size U).alloc (Nat.le_refl _) (.cells #[.int .i64 x] 3)
  have hlow := h.low
  have r := fires_any (U.alloc (.cells #[.int .i64 x] 3)) K n T F (h.below ba) (some ⟨U.heap.size, 0, none⟩) 1 [x] (at_alloc1 U x) (by show (1 : Nat) ≤ _; decide) (fun z hz _ => by cases hz; exact .inr hlow.2)
  refine r.mono ?_
  rintro e w' ⟨h1, h2, h3⟩
  exact ⟨h1, h2, (Mid.of_below ba).trans h3⟩
theorem Try.cellsTW : Try.prog.cellsOf 61 = 2 := by kernel_rfl
set_option maxRecDepth 100000 in
theorem twoN_open {H : Type} {enc : TypeId × Value → H} {W : World} {base : Nat} {held : Bool} {r : Reach} {b0 : Nat} {v : Value} {d : DataW H} {p : List MemPlace} (hv : Value.okWide Try.prog W r b0 61 v) (h : DataW.Trod enc Try.prog W base (fun _ => true) held 61 v d p) : ∃ x y : Int, v = .agg #[.int .i64 x, .int .i64 y] := by
  obtain ⟨cs, rfl, hsz⟩ := okWide_struct Try.underlying61 hv
  rw [Try.cellsTW] at hsz
  obtain ⟨fuel, hf⟩ := h
  obtain ⟨xs, k, hk, hxy, hcl, hxl, hf⟩ := DataW.trod_struct Try.underlying61 hf
  obtain ⟨l⟩ := cs
  match xs, hxl, l, hsz with
  | [y0, y1], _, [v0, v1], _ =>
    have g0 := hf 0 _ rfl
    have g1 := hf 1 _ rfl
    simp [Value.cells, Try.cells3N] at g0 g1
    obtain ⟨z0, q0, -, -⟩ := DataW.trod_int Try.underlying3 g0
    obtain ⟨z1, q1, -, -⟩ := DataW.trod_int Try.underlying3 g1
    simp only [List.cons.injEq, and_true] at q0 q1
    subst q0 q1
    exact ⟨z0, z1, rfl⟩
/-- Two states of a net, side by side. -/
structure TwoS (w : World) (n : NN) (B1 E1 K1 B2 E2 K2 : Nat) (T F T' F' : List Int) (U : World) : Prop where
  s : StE B1 E1 U K1 n T F
  t : StE B2 E2 U K2 n T' F'
  bel : Below w.heap.size w U
theorem TwoS.below {w : World} {n : NN} {B1 E1 K1 B2 E2 K2 : Nat} {T F T' F' : List Int} {U U' : World} (h : TwoS w n B1 E1 K1 B2 E2 K2 T F T' F' U) (hb : Below U.heap.size U U') : TwoS w n B1 E1 K1 B2 E2 K2 T F T' F' U' := ⟨h.s.below hb, h.t.below hb, h.bel.trans (hb.mono h.bel.size)⟩

set_option maxRecDepth 100000 in
set_option maxHeartbeats 16000000 in
theorem netSwaps_walk (n : NN) (a : Option Addr) (c : Nat) (a1 : Option Addr) (len1 cap1 : Nat) (zs : List Int) (v u : Int) (w : World) (h : ArgN w a c n) (h1 : Arg w a1 len1 cap1 zs) : Calls Try.prog 7 #[.agg #[.int .i64 n.nodes, .slice a n.arcs.length c], .slice a1 len1 cap1, .agg #[.int .i64 v, .int .i64 u]] w fun e w' => e = .returned (.bool true) ∧ Below w.heap.size w w' := by
  obtain rfl := h1.size
  have b0 := (Below.refl w.heap.size w).alloc (Nat.le_refl _) (.cells #[.int .i64 n.nodes, .slice a n.arcs.length c] 24)
  have b0' := b0.alloc b0.size (.cells #[.int .i64 v, .int .i64 u] 61)
  have g0 := (blkA_new 24 w #[.int .i64 n.nodes, .slice a n.arcs.length c]).below ((Below.refl _ _).alloc (Nat.le_refl _) (.cells #[.int .i64 v, .int .i64 u] 61))
  have x0 := blkA_new 61 (w.alloc (.cells #[.int .i64 n.nodes, .slice a n.arcs.length c] 24)) #[.int .i64 v, .int .i64 u]
  have hsz : (w.alloc (.cells #[.int .i64 n.nodes, .slice a n.arcs.length c] 24)).heap.size = w.heap.size + 1 := World.size_alloc _ _
  rw [hsz] at x0
  have G0 := hiddenN g0
  have B0 := hiddenN b0'
  have AW : Hid (∀ U, Calls Try.prog 14 #[] U fun e w' => e = .returned (.bool true) ∧ Below U.heap.size U w') := fun U => awakeN U
  have z0 := G0.out.cell (k := 0) rfl
  have z1 := G0.out.cell (k := 1) rfl
  have v0 := x0.cell (k := 0) rfl
  have v1 := x0.cell (k := 1) rfl
  simp only [List.getElem_toArray, List.getElem_cons_zero, List.getElem_cons_succ] at z0 z1 v0 v1
  clear b0 b0' g0 x0
  by_cases hc0 : checkN n = 0
  · have hS := check_sound hc0
    have NY : Hid (∀ U, Below w.heap.size w U → Calls Try.prog 12 #[.agg #[.int .i64 n.nodes, .slice a n.arcs.length c]] U fun e w' => ∃ K E, e = .returned (.tuple #[.pointer (some ⟨K, 0, none⟩), .int .i64 0]) ∧ StE U.heap.size E w' K n (startT n) (List.replicate n.nodes.toNat 0) ∧ Below U.heap.size U w') := fun U hb => new_yes n a c w h hc0 U hb
    have H1 := hiddenN h1
    have hfew := fires_few hS zs (startT n) (List.replicate n.nodes.toNat 0) 256 (start_few hS rfl) (by have := h1.reach; omega)
    have hfb : 256 + 64 * (zs.length : Int) + 64 ≤ 4611686018427387904 := by have := h1.reach; omega
    have hlen : zs.length ≤ 4611686018427387904 := by have := h1.reach; omega
    clear h1 h
    generalize startT n = T0 at *
    generalize List.replicate n.nodes.toNat (0 : Int) = F0 at *
    go_enter Try.func7, Try.ntmps7
    go_upto_region 1 with fail
    generalize (w.alloc (.cells #[.int .i64 n.nodes, .slice a n.arcs.length c] 24)).alloc (.cells #[.int .i64 v, .int .i64 u] 61) = W0 at *
    go_upto_region 4 with (go_at_call 12; (with_reducible refine (NY.out _ B0.out).mono ?_); rintro e W1 ⟨K1, E1, rfl, s1, b1⟩; have S1 := hiddenN s1; have L1 := hiddenN (B0.out.trans (b1.mono B0.out.size)); have G1 := hiddenN (G0.out.below b1); clear s1 b1 z0 z1 v0 v1)
    have z0 := G1.out.cell (k := 0) rfl
    have z1 := G1.out.cell (k := 1) rfl
    simp only [List.getElem_toArray, List.getElem_cons_zero, List.getElem_cons_succ] at z0 z1
    go_upto_region 7 with (go_at_call 12; (with_reducible refine (NY.out _ L1.out).mono ?_); rintro e W2 ⟨K2, E2, rfl, s2, b2⟩; have S2 := hiddenN s2; have S1' := hiddenN (S1.out.below b2); have L2 := hiddenN (L1.out.trans (b2.mono L1.out.size)); have X1 := hiddenN S1.out.low.2; clear s2 b2 z0 z1)
    have hw0 := B0.out.size
    have hw1 := L1.out.size
    have x1 := X1.out
    have y01 := S1.out.low.1
    obtain ⟨B1, hB1⟩ : ∃ B1, W0.heap.size = B1 := ⟨_, rfl⟩
    obtain ⟨B2, hB2⟩ : ∃ B2, W1.heap.size = B2 := ⟨_, rfl⟩
    rw [hB1] at S1' y01
    rw [hB2] at S2 x1 hw1 y01
    have hBB : w.heap.size ≤ B1 := by rw [← hB1]; exact hw0
    have F1 := hiddenN (fires_any W2 K1 n T0 F0 S1'.out a1 cap1 zs (H1.out.lies.below L2.out) hlen (fun x hx hne => .inl (by have := at_lt H1.out.lies hne hx; omega)))
    have l2 := S1'.out.low.1
    obtain ⟨r, hr⟩ : ∃ r, firesN n zs T0 F0 = r := ⟨_, rfl⟩
    rw [hr] at F1 hfew
    have HR := hiddenN hr
    have FF2 : Hid (∀ U, Below w.heap.size w U → StE B2 E2 U K2 n T0 F0 → Calls Try.prog 20 #[.pointer (some ⟨K2, 0, none⟩), .slice a1 zs.length cap1] U fun e w' => e = .returned (.int .i64 (r.1 : Int)) ∧ StE B2 E2 w' K2 n r.2.1 r.2.2 ∧ Mid B2 E2 U w') := fun U hb hs => by
      have q := fires_any U K2 n T0 F0 hs a1 cap1 zs (H1.out.lies.below hb) hlen (fun x hx hne => .inl (by have := at_lt H1.out.lies hne hx; omega))
      rw [HR.out] at q
      exact q
    clear hr HR S1 S1' X1 G0 G1 NY B0 L1 hw0
    obtain ⟨T, hT⟩ : ∃ T, r.2.1 = T := ⟨_, rfl⟩
    obtain ⟨F, hF⟩ : ∃ F, r.2.2 = F := ⟨_, rfl⟩
    rw [hT] at F1 FF2 hfew
    rw [hF] at F1 FF2
    generalize r.1 = rn at *
    have hrr : ((rn : Int) != (rn : Int)) = false := by simp
    go_upto_region 9 with (first
      | (go_at_call 20; (with_reducible refine F1.out.mono ?_); rintro e W3 ⟨rfl, s3, m3⟩; have S3 := hiddenN s3; have R3 := hiddenN (S2.out.mid m3 (.inr x1)); have L3 := hiddenN (L2.out.trans ((m3.below l2).mono hBB)); clear s3 m3; have FG := hiddenN (FF2.out _ L3.out R3.out); have l3 := R3.out.low.1)
      | (go_at_call 20; (with_reducible refine FG.out.mono ?_); rintro e W4 ⟨rfl, s4, m4⟩; have PP := hiddenN (show TwoS w n B1 E1 K1 B2 E2 K2 T F T F _ from ⟨S3.out.mid m4 (.inl x1), s4, L3.out.trans ((m4.below l3).mono hw1)⟩); clear s4 m4))
    clear F1 FG FF2 S2 S3 R3 L2 L3 hT hF hrr
    have M1 : Hid (∀ x U, TwoS w n B1 E1 K1 B2 E2 K2 T F T F U → Calls Try.prog 26 #[.pointer (some ⟨K1, 0, none⟩), .int .i64 x] U fun e w' => e = .returned (.bool (mayN n T x)) ∧ TwoS w n B1 E1 K1 B2 E2 K2 T F T F w') := fun x U hp => (may_any U K1 n T F hp.s x).mono fun e w' hh => ⟨hh.1, hp.below hh.2⟩
    have M2 : Hid (∀ x U, TwoS w n B1 E1 K1 B2 E2 K2 T F T F U → Calls Try.prog 26 #[.pointer (some ⟨K2, 0, none⟩), .int .i64 x] U fun e w' => e = .returned (.bool (mayN n T x)) ∧ TwoS w n B1 E1 K1 B2 E2 K2 T F T F w') := fun x U hp => (may_any U K2 n T F hp.t x).mono fun e w' hh => ⟨hh.1, hp.below hh.2⟩
    by_cases hne : v = u
    · have hvu : (v == u) = true := by simpa using hne
      subst hne
      generalize hbv : mayN n T v = bv at *
      have M1v : Hid (∀ U, TwoS w n B1 E1 K1 B2 E2 K2 T F T F U → Calls Try.prog 26 #[.pointer (some ⟨K1, 0, none⟩), .int .i64 v] U fun e w' => e = .returned (.bool bv) ∧ TwoS w n B1 E1 K1 B2 E2 K2 T F T F w') := fun U hp => by have := M1.out v U hp; rw [hbv] at this; exact this
      have M2v : Hid (∀ U, TwoS w n B1 E1 K1 B2 E2 K2 T F T F U → Calls Try.prog 26 #[.pointer (some ⟨K2, 0, none⟩), .int .i64 v] U fun e w' => e = .returned (.bool bv) ∧ TwoS w n B1 E1 K1 B2 E2 K2 T F T F w') := fun U hp => by have := M2.out v U hp; rw [hbv] at this; exact this
      clear M1 M2 hbv hfew
      cases bv <;>
      (go_wp2_with (first
        | (go_at_call 26; (with_reducible refine (M1v.out _ PP.out).mono ?_); rintro e U ⟨rfl, p⟩; clear PP; have PP := hiddenN p; clear p)
        | (go_at_call 26; (with_reducible refine (M2v.out _ PP.out).mono ?_); rintro e U ⟨rfl, p⟩; clear PP; have PP := hiddenN p; clear p)
        | (go_at_call 14; (with_reducible refine (AW.out _).mono ?_); rintro e w9 ⟨rfl, b9⟩; have L9 := hiddenN (PP.out.bel.trans (b9.mono PP.out.bel.size)); clear b9))
       go_ret
       exact ⟨by first | rfl | simp, L9.out⟩)
    · have hvu : (v == u) = false := by simpa using hne
      obtain ⟨bv, hbv⟩ : ∃ b, mayN n T v = b := ⟨_, rfl⟩
      obtain ⟨bu, hbu⟩ : ∃ b, mayN n T u = b := ⟨_, rfl⟩
      have M1v : Hid (∀ U, TwoS w n B1 E1 K1 B2 E2 K2 T F T F U → Calls Try.prog 26 #[.pointer (some ⟨K1, 0, none⟩), .int .i64 v] U fun e w' => e = .returned (.bool bv) ∧ TwoS w n B1 E1 K1 B2 E2 K2 T F T F w') := fun U hp => by have := M1.out v U hp; rw [hbv] at this; exact this
      have M1u : Hid (∀ U, TwoS w n B1 E1 K1 B2 E2 K2 T F T F U → Calls Try.prog 26 #[.pointer (some ⟨K1, 0, none⟩), .int .i64 u] U fun e w' => e = .returned (.bool bu) ∧ TwoS w n B1 E1 K1 B2 E2 K2 T F T F w') := fun U hp => by have := M1.out u U hp; rw [hbu] at this; exact this
      have M2v : Hid (∀ U, TwoS w n B1 E1 K1 B2 E2 K2 T F T F U → Calls Try.prog 26 #[.pointer (some ⟨K2, 0, none⟩), .int .i64 v] U fun e w' => e = .returned (.bool bv) ∧ TwoS w n B1 E1 K1 B2 E2 K2 T F T F w') := fun U hp => by have := M2.out v U hp; rw [hbv] at this; exact this
      have M2u : Hid (∀ U, TwoS w n B1 E1 K1 B2 E2 K2 T F T F U → Calls Try.prog 26 #[.pointer (some ⟨K2, 0, none⟩), .int .i64 u] U fun e w' => e = .returned (.bool bu) ∧ TwoS w n B1 E1 K1 B2 E2 K2 T F T F w') := fun U hp => by have := M2.out u U hp; rw [hbu] at this; exact this
      have HV := hiddenN hbv
      have HU := hiddenN hbu
      have HFE := hiddenN hfew
      have HSN := hiddenN hS
      clear M1 M2 hbv hbu hfew

      have DONE : bv = true ∧ bu = true ∨ ¬ (bv = true ∧ bu = true) := Classical.em _
      rcases DONE with ⟨rfl, rfl⟩ | hno
      · have e1 := fires_two (F := F) HSN.out HFE.out (by omega) HV.out HU.out hne
        have e2 := fires_two (F := F) HSN.out HFE.out (by omega) HU.out HV.out (Ne.symm hne)
        have e3 := fire_swap HSN.out HFE.out hfb HV.out HU.out hne
        have hv0 : 0 ≤ v := (of_decide_eq_true (may_node HV.out) : 0 ≤ v ∧ v < n.nodes).1
        have hu0 : 0 ≤ u := (of_decide_eq_true (may_node HU.out) : 0 ≤ u ∧ u < n.nodes).1
        have e4 := bump_swap (F := F) hv0 hu0 hne
        rw [← e3, ← e4] at e2
        have FS : Hid (∀ U, TwoS w n B1 E1 K1 B2 E2 K2 T F T F U → Calls Try.prog 20 #[.pointer (some ⟨K1, 0, none⟩), .slice (some ⟨U.heap.size, 0, none⟩) 2 2] (U.alloc (.cells #[.int .i64 v, .int .i64 u] 3)) fun e w' => e = .returned (.int .i64 2) ∧ TwoS w n B1 E1 K1 B2 E2 K2 (fireN n (fireN n T v) u) (bumpF (bumpF F v) u) T F w') := fun U hp => by
          have q := fire2N n v u U hp.s
          rw [e1] at q
          exact q.mono fun e w' hh => ⟨hh.1, hh.2.1, hp.t.mid hh.2.2 (.inr x1), hp.bel.trans ((hh.2.2.below hp.s.low.1).mono hBB)⟩
        have FT : Hid (∀ U, TwoS w n B1 E1 K1 B2 E2 K2 (fireN n (fireN n T v) u) (bumpF (bumpF F v) u) T F U → Calls Try.prog 20 #[.pointer (some ⟨K2, 0, none⟩), .slice (some ⟨U.heap.size, 0, none⟩) 2 2] (U.alloc (.cells #[.int .i64 u, .int .i64 v] 3)) fun e w' => e = .returned (.int .i64 2) ∧ TwoS w n B1 E1 K1 B2 E2 K2 (fireN n (fireN n T v) u) (bumpF (bumpF F v) u) (fireN n (fireN n T v) u) (bumpF (bumpF F v) u) w') := fun U hp => by
          have q := fire2N n u v U hp.t
          rw [e2] at q
          exact q.mono fun e w' hh => ⟨hh.1, hp.s.mid hh.2.2 (.inl x1), hh.2.1, hp.bel.trans ((hh.2.2.below hp.t.low.1).mono hw1)⟩
        generalize fireN n (fireN n T v) u = Tz at *
        generalize bumpF (bumpF F v) u = Fz at *
        clear e1 e2 e3 e4 HFE HSN HV HU
        go_upto_region 11 with (first
        | (go_at_call 26; (with_reducible refine (M1v.out _ PP.out).mono ?_); rintro e U ⟨rfl, p⟩; clear PP; have PP := hiddenN p; clear p)
        | (go_at_call 26; (with_reducible refine (M1u.out _ PP.out).mono ?_); rintro e U ⟨rfl, p⟩; clear PP; have PP := hiddenN p; clear p)
        | (go_at_call 26; (with_reducible refine (M2v.out _ PP.out).mono ?_); rintro e U ⟨rfl, p⟩; clear PP; have PP := hiddenN p; clear p)
        | (go_at_call 26; (with_reducible refine (M2u.out _ PP.out).mono ?_); rintro e U ⟨rfl, p⟩; clear PP; have PP := hiddenN p; clear p))
        go_upto_region 12 with (go_at_call 20; (with_reducible refine (FS.out _ PP.out).mono ?_); rintro e U ⟨rfl, p⟩; clear PP; have PP := hiddenN p; clear p)
        go_upto_region 13 with (go_at_call 20; (with_reducible refine (FT.out _ PP.out).mono ?_); rintro e U ⟨rfl, p⟩; clear PP; have PP := hiddenN p; clear p)
        clear FS FT M1v M1u M2v M2u
        have hTl := PP.out.s.lens
        go_wp2_with (first
          | (go_at_call 24; (with_reducible refine (counts_any _ K1 n Tz Fz PP.out.s).mono ?_); rintro e W8 ⟨a8, c8, rfl, h8, b8⟩; have A8 := hiddenN h8.at; have PP8 := hiddenN (PP.out.below b8); clear h8 b8 PP)
          | (go_at_call 24; (with_reducible refine (counts_any _ K2 n Tz Fz PP8.out.t).mono ?_); rintro e W9 ⟨a9, c9, rfl, h9, b9⟩; have A9 := hiddenN h9.at; have A8' := hiddenN (A8.out.below b9); have PP9 := hiddenN (PP8.out.below b9); clear h9 b9 PP8 A8; have SM := hiddenN (sameN _ a8 a9 Tz c8 c9 (by omega) A8'.out A9.out))
          | (go_at_call 25; (with_reducible refine SM.out.mono ?_); rintro e W10 ⟨rfl, b10⟩; have PP10 := hiddenN (PP9.out.below b10); clear b10 PP9 SM A9 A8')
          | (go_at_call 23; (with_reducible refine (fired_any _ K1 n Tz Fz PP10.out.s).mono ?_); rintro e W11 ⟨a11, c11, rfl, h11, b11⟩; have A11 := hiddenN h11.at; have PP11 := hiddenN (PP10.out.below b11); clear h11 b11 PP10)
          | (go_at_call 23; (with_reducible refine (fired_any _ K2 n Tz Fz PP11.out.t).mono ?_); rintro e W12 ⟨a12, c12, rfl, h12, b12⟩; have A12 := hiddenN h12.at; have A11' := hiddenN (A11.out.below b12); have PP12 := hiddenN (PP11.out.below b12); clear h12 b12 PP11 A11; have SN := hiddenN (sameN _ a11 a12 Fz c11 c12 (by omega) A11'.out A12.out))
          | (go_at_call 25; (with_reducible refine SN.out.mono ?_); rintro e W13 ⟨rfl, b13⟩; have PP := hiddenN (PP12.out.below b13); clear b13 SN A12 A11' PP12)
          | (go_at_call 14; (with_reducible refine (AW.out _).mono ?_); rintro e w9 ⟨rfl, b9⟩; have L9 := hiddenN (PP.out.bel.trans (b9.mono PP.out.bel.size)); clear b9))
        go_ret
        exact ⟨by first | rfl | simp, L9.out⟩
      · clear HV HU HFE HSN
        cases bv <;> cases bu <;> first
        | exact absurd ⟨rfl, rfl⟩ hno
        | (go_wp2_with (first
        | (go_at_call 26; (with_reducible refine (M1v.out _ PP.out).mono ?_); rintro e U ⟨rfl, p⟩; clear PP; have PP := hiddenN p; clear p)
        | (go_at_call 26; (with_reducible refine (M1u.out _ PP.out).mono ?_); rintro e U ⟨rfl, p⟩; clear PP; have PP := hiddenN p; clear p)
        | (go_at_call 26; (with_reducible refine (M2v.out _ PP.out).mono ?_); rintro e U ⟨rfl, p⟩; clear PP; have PP := hiddenN p; clear p)
        | (go_at_call 26; (with_reducible refine (M2u.out _ PP.out).mono ?_); rintro e U ⟨rfl, p⟩; clear PP; have PP := hiddenN p; clear p)
        | (go_at_call 14; (with_reducible refine (AW.out _).mono ?_); rintro e w9 ⟨rfl, b9⟩; have L9 := hiddenN (PP.out.bel.trans (b9.mono PP.out.bel.size)); clear b9))
           go_ret
           exact ⟨by first | rfl | simp, L9.out⟩)
  · have NO : Hid (∀ U, Below w.heap.size w U → Calls Try.prog 12 #[.agg #[.int .i64 n.nodes, .slice a n.arcs.length c]] U fun e w' => e = .returned (.tuple #[.pointer none, .int .i64 (checkN n)]) ∧ Below U.heap.size U w') := fun U hb => new_no n a c w h hc0 U hb
    generalize checkN n = cd at *
    clear h1 h
    go_enter Try.func7, Try.ntmps7
    go_upto_region 1 with fail
    generalize (w.alloc (.cells #[.int .i64 n.nodes, .slice a n.arcs.length c] 24)).alloc (.cells #[.int .i64 v, .int .i64 u] 61) = W0 at *
    go_upto_region 4 with (go_at_call 12; (with_reducible refine (NO.out _ B0.out).mono ?_); rintro e W1 ⟨rfl, b1⟩; have L1 := hiddenN (B0.out.trans (b1.mono B0.out.size)); have G1 := hiddenN (G0.out.below b1); clear b1 z0 z1 v0 v1)
    have z0 := G1.out.cell (k := 0) rfl
    have z1 := G1.out.cell (k := 1) rfl
    simp only [List.getElem_toArray, List.getElem_cons_zero, List.getElem_cons_succ] at z0 z1
    go_wp2_with (first | (go_at_call 12; (with_reducible refine (NO.out _ L1.out).mono ?_); rintro e W2 ⟨rfl, b2⟩; have LZ := hiddenN (L1.out.trans (b2.mono L1.out.size)); clear b2) | (go_at_call 14; (with_reducible refine (AW.out _).mono ?_); rintro e w9 ⟨rfl, b9⟩; have L9 := hiddenN (LZ.out.trans (b9.mono LZ.out.size)); clear b9))
    go_ret
    exact ⟨by first | rfl | simp, L9.out⟩
end Go.Proofs.Ytancphohpedigaa

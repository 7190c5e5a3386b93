/- What a question comes to beside the document's answer. (Written by tmpl/mkN18.py.) -/
import Derived.Test.YtancphohpedigaaN17
import Derived.Test.YtancphohpedigaaN14
import Derived.Test.YtancphohpedigaaApart
namespace Go.Proofs.Ytancphohpedigaa
open Go.ChangeShapes Go.WideShapes Go.ChangeAt Go.RowKit

/-- A state of the program's and one of the document's, side by side. -/
structure PlS (B E K Q g N : Nat) (n : NN) (a : Option Addr) (T F : List Int) (U : World) : Prop where
  s : StE B E U K n T F
  t : DocS Q U n a g N F
  i : InvN n T F
theorem PlS.below {B E K Q g N : Nat} {n : NN} {a : Option Addr} {T F : List Int} {U U' : World} (h : PlS B E K Q g N n a T F U) (hb : Below U.heap.size U U') : PlS B E K Q g N n a T F U' := ⟨h.s.below hb, h.t.below hb, h.i⟩
theorem apart_one (V : World) (B : Nat) (d : Option Addr) (len c : Nat) (zs : List Int) (hB : B ≤ V.heap.size) (hl : zs.length = len) (h8 : len ≤ 1000) (h1 : CapR B V d c zs) :
    Calls Try.prog 38 #[.slice (some ⟨V.heap.size, 0, none⟩) 1 1] (V.alloc (.cells #[.slice d len c] 45)) fun e w' => e = .returned (.bool true) ∧ Below B V w' := by
  have ba := (Below.refl V.heap.size V).alloc (Nat.le_refl _) (.cells #[.slice d len c] 45)
  have bx := blkA_new 45 V #[.slice d len c]
  refine (apart_any B V.heap.size 1 1 (fun _ => d) (fun _ => len) (fun _ => c) (fun _ => zs) _ ⟨fun j _ => ⟨h1.later ba, hl⟩, fun j hj => ?_, fun j k x y hj hk hjk => by omega, fun j x _ hx => ?_, by simp, Nat.le_trans hB ba.size, by decide, fun j _ => by show len * 8 ≤ _; omega⟩).mono fun e w' hh => ⟨hh.1, (ba.mono hB).trans hh.2⟩
  · have e : j = 0 := by omega
    subst e
    exact bx.cell rfl
  · have := (h1.lt x hx).2
    omega

set_option maxRecDepth 100000 in
set_option maxHeartbeats 16000000 in
theorem asked_any {B E K Q g N : Nat} {n : NN} {a : Option Addr} {T F : List Int} (w : World) (c : Nat) (h : PlS B E K Q g N n a T F w) (ask : Int) (b : Option Addr) (cb : Nat) (zs : List Int) (hz : At w b zs) (hl : zs.length ≤ 4611686018427387904) :
    Calls Try.prog 18 #[.pointer (some ⟨K, 0, none⟩), .agg #[.int .i64 n.nodes, .slice a n.arcs.length c, .slice (some ⟨g, 0, none⟩) N N], .agg #[.int .i64 ask, .slice b zs.length cb]] w fun e w' => e = .returned (.bool true) ∧ Below w.heap.size w w' := by
  have b0 := (Below.refl w.heap.size w).alloc (Nat.le_refl _) (.cells #[.int .i64 n.nodes, .slice a n.arcs.length c, .slice (some ⟨g, 0, none⟩) N N] 47)
  have b1 := b0.alloc b0.size (.cells #[.int .i64 ask, .slice b zs.length cb] 50)
  have g0 := (blkA_new 47 w #[.int .i64 n.nodes, .slice a n.arcs.length c, .slice (some ⟨g, 0, none⟩) N N]).below ((Below.refl _ _).alloc (Nat.le_refl _) (.cells #[.int .i64 ask, .slice b zs.length cb] 50))
  have g1 := blkA_new 50 (w.alloc (.cells #[.int .i64 n.nodes, .slice a n.arcs.length c, .slice (some ⟨g, 0, none⟩) N N] 47)) #[.int .i64 ask, .slice b zs.length cb]
  have hsz : (w.alloc (.cells #[.int .i64 n.nodes, .slice a n.arcs.length c, .slice (some ⟨g, 0, none⟩) N N] 47)).heap.size = w.heap.size + 1 := World.size_alloc _ _
  rw [hsz] at g1
  have G0 := hiddenN g0
  have G1 := hiddenN g1
  have B1 := hiddenN b1
  have H := hiddenN (h.below b1)
  have HZ := hiddenN (hz.below b1)
  have hlen := h.s.lens
  have hlng := h.s.long
  have hFl := h.t.lF
  have y0 := G0.out.cell (k := 0) rfl
  have y1 := G0.out.cell (k := 1) rfl
  have y2 := G0.out.cell (k := 2) rfl
  have o0 := G1.out.cell (k := 0) rfl
  have o1 := G1.out.cell (k := 1) rfl
  simp only [List.getElem_toArray, List.getElem_cons_zero, List.getElem_cons_succ] at y0 y1 y2 o0 o1
  clear b0 b1 g0 g1 hz h
  by_cases h1 : ask = 1
  · subst h1
    go_enter Try.func18, Try.ntmps18
    go_upto_region 1 with fail
    generalize (w.alloc (.cells #[.int .i64 n.nodes, .slice a n.arcs.length c, .slice (some ⟨g, 0, none⟩) N N] 47)).alloc (.cells #[.int .i64 1, .slice b zs.length cb] 50) = W0 at *
    have CP := hiddenN (countsL W0 K n T F H.out.s)
    go_upto_region 3 with (go_at_call 24; (with_reducible refine CP.out.mono ?_); rintro e W1 ⟨d, cd, rfl, hd, b2⟩; have C1 := hiddenN hd; have P1 := hiddenN (H.out.below b2); have BB := hiddenN b2; have G2 := hiddenN (G0.out.below b2); clear hd b2 y0 y1 y2)
    have y0 := G2.out.cell (k := 0) rfl
    have y1 := G2.out.cell (k := 1) rfl
    have y2 := G2.out.cell (k := 2) rfl
    simp only [List.getElem_toArray, List.getElem_cons_zero, List.getElem_cons_succ] at y0 y1 y2
    have CD := hiddenN (rcounts10_any W1 n a c g N T F P1.out.t P1.out.i)
    go_upto_region 4 with (first
      | (go_at_call 37; (with_reducible refine CD.out.mono ?_); rintro e W2 ⟨dd, rfl, hdd, b3⟩; have C2 := hiddenN (C1.out.later b3); have BB3 := hiddenN (BB.out.trans (b3.mono BB.out.size)); have SM := hiddenN (by have q := sameN W2 d (some ⟨dd, 0, none⟩) T cd n.arcs.length (by omega) C2.out.at hdd; rw [hlng.1] at q; exact q : Calls Try.prog 25 #[.slice d n.arcs.length cd, .slice (some ⟨dd, 0, none⟩) n.arcs.length n.arcs.length] W2 fun e w' => e = .returned (.bool true) ∧ Below W2.heap.size W2 w'); clear hdd b3)
      | (go_at_call 25; (with_reducible refine SM.out.mono ?_); rintro e W3 ⟨rfl, b4⟩; have C3 := hiddenN (C2.out.later b4); have BB4 := hiddenN (BB3.out.trans (b4.mono BB3.out.size)); clear b4))
    have hs4 := BB4.out.size
    have AP := hiddenN (apart_one W3 W0.heap.size d n.arcs.length cd T hs4 hlng.1 (by omega) C3.out)
    go_wp2_with (go_at_call 38; (with_reducible refine AP.out.mono ?_); rintro e W4 ⟨rfl, b5⟩; have BB5 := hiddenN (BB4.out.trans b5); clear b5)
    go_ret
    exact ⟨by first | rfl | simp, B1.out.trans (BB5.out.mono B1.out.size)⟩
  · have hq1 : (ask == 1) = false := by simpa using h1
    by_cases h2 : ask = 2
    · subst h2
      go_enter Try.func18, Try.ntmps18
      go_upto_region 1 with fail
      generalize (w.alloc (.cells #[.int .i64 n.nodes, .slice a n.arcs.length c, .slice (some ⟨g, 0, none⟩) N N] 47)).alloc (.cells #[.int .i64 2, .slice b zs.length cb] 50) = W0 at *
      have CP0 := hiddenN (firedL W0 K n T F H.out.s)
      have hNN : n.nodes.toNat = N := by have := H.out.t.nodes; omega
      rw [hNN] at CP0
      have CP := CP0
      clear CP0 hNN
      go_upto_region 7 with (go_at_call 23; (with_reducible refine CP.out.mono ?_); rintro e W1 ⟨d, cd, rfl, hd, b2⟩; have C1 := hiddenN hd; have P1 := hiddenN (H.out.below b2); have BB := hiddenN b2; have G2 := hiddenN (G0.out.below b2); clear hd b2 y0 y1 y2)
      have y2 := G2.out.cell (k := 2) rfl
      simp only [List.getElem_toArray, List.getElem_cons_zero, List.getElem_cons_succ] at y2
      have SM := hiddenN (sameN W1 d (some ⟨g, 0, none⟩) F cd N (by omega) C1.out.at P1.out.t.fir.at)
      rw [hFl] at SM
      go_upto_region 8 with (go_at_call 25; (with_reducible refine SM.out.mono ?_); rintro e W3 ⟨rfl, b4⟩; have C3 := hiddenN (C1.out.later b4); have BB4 := hiddenN (BB.out.trans (b4.mono BB.out.size)); clear b4)
      have hs4 := BB4.out.size
      have AP := hiddenN (apart_one W3 W0.heap.size d N cd F hs4 hFl (by omega) C3.out)
      go_wp2_with (go_at_call 38; (with_reducible refine AP.out.mono ?_); rintro e W4 ⟨rfl, b5⟩; have BB5 := hiddenN (BB4.out.trans b5); clear b5)
      go_ret
      exact ⟨by first | rfl | simp, B1.out.trans (BB5.out.mono B1.out.size)⟩
    · have hq2 : (ask == 2) = false := by simpa using h2
      obtain ⟨Nz, hNz⟩ : ∃ N, zs.length = N := ⟨_, rfl⟩
      rw [hNz] at hl G1 o1 H HZ B1 G0 y0 y1 y2 o0 ⊢
      go_enter Try.func18, Try.ntmps18
      go_upto_region 1 with fail
      generalize (w.alloc (.cells #[.int .i64 n.nodes, .slice a n.arcs.length c, .slice (some ⟨g, 0, none⟩) N N] 47)).alloc (.cells #[.int .i64 ask, .slice b Nz cb] 50) = W0 at *
      go_wp2
      clear y0 y1 y2 o0 o1
      go_loopg [11] Nz (fun gk u wr => ∃ k : Nat, k ≤ Nz ∧ gk = Nz - k ∧ u = .int .i64 (k : Int) ∧ Below W0.heap.size W0 wr)
      case atStart => exact ⟨0, Nat.zero_le _, rfl, rfl, Below.refl _ _⟩
      case round =>
        obtain ⟨k, hk, rfl, rfl, hb7⟩ := hrel
        have B7 := hiddenN hb7
        clear hb7
        have o1 := (G1.out.below B7.out).cell (k := 1) rfl
        simp only [List.getElem_toArray, List.getElem_cons_zero, List.getElem_cons_succ] at o1
        by_cases hlt : k < Nz
        · have hki : (k : Int) < (Nz : Int) := by omega
          rcases HZ.out.below B7.out with e | ⟨zb, zo, eb, hc⟩
          · rw [e] at hNz; simp at hNz; omega
          subst eb
          have c0 := hc k (by omega)
          have P7 := hiddenN (H.out.below B7.out)
          have y0 := (G0.out.below B7.out).cell (k := 0) rfl
          have y1 := (G0.out.below B7.out).cell (k := 1) rfl
          have y2 := (G0.out.below B7.out).cell (k := 2) rfl
          simp only [List.getElem_toArray, List.getElem_cons_zero, List.getElem_cons_succ] at y0 y1 y2
          generalize nth zs k = v at *
          obtain ⟨bm, hbm⟩ : ∃ x, mayN n T v = x := ⟨_, rfl⟩
          obtain ⟨sv, hsv⟩ : ∃ x, shortN n T v = x := ⟨_, rfl⟩
          have MP : Hid (∀ U, Below wr.heap.size wr U → Calls Try.prog 26 #[.pointer (some ⟨K, 0, none⟩), .int .i64 v] U fun e w' => e = .returned (.bool bm) ∧ Below U.heap.size U w') := fun U hb => by have q := may_any U K n T F (P7.out.below hb).s v; rw [hbm] at q; exact q
          have MD : Hid (∀ U, Below wr.heap.size wr U → Calls Try.prog 39 #[.agg #[.int .i64 n.nodes, .slice a n.arcs.length c, .slice (some ⟨g, 0, none⟩) N N], .int .i64 v] U fun e w' => e = .returned (.bool bm) ∧ Below U.heap.size U w') := fun U hb => by have q := rmay10_any U n a c g N T F (P7.out.below hb).t P7.out.i v; rw [hbm] at q; exact q
          have SP : Hid (∀ U, Below wr.heap.size wr U → Calls Try.prog 32 #[.pointer (some ⟨K, 0, none⟩), .int .i64 v] U fun e w' => e = .returned (.int .i64 sv) ∧ Below U.heap.size U w') := fun U hb => by have q := short_any U K n T F (P7.out.below hb).s v; rw [hsv] at q; exact q
          have SD : Hid (∀ U, Below wr.heap.size wr U → Calls Try.prog 40 #[.agg #[.int .i64 n.nodes, .slice a n.arcs.length c, .slice (some ⟨g, 0, none⟩) N N], .int .i64 v] U fun e w' => e = .returned (.int .i64 sv) ∧ Below U.heap.size U w') := fun U hb => by have q := rshort10_any U n a c g N T F (P7.out.below hb).t P7.out.i v; rw [hsv] at q; exact q
          obtain ⟨V1, hV1⟩ : ∃ V, wr = V := ⟨_, rfl⟩
          rw [hV1] at y0 y1 y2 MP MD SP SD B7 o1 c0 ⊢
          clear hbm hsv P7 hc hV1
          go_upto_region 13 with fail

          refine wp_region_gen [] (fun d i u z => match i with
              | 0 => z = .pointer (some ⟨K, 0, none⟩)
              | 1 => z = .int .i64 v
              | 2 => z = .bool bm
              | 3 => z = .agg #[.int .i64 n.nodes, .slice a n.arcs.length c, .slice (some ⟨g, 0, none⟩) N N]
              | 4 => z = .int .i64 v
              | 5 => z = .bool bm
              | 6 => z = .bool false
              | 7 => z = .bool false
              | 8 => z = .pointer (some ⟨K, 0, none⟩)
              | 9 => z = .int .i64 v
              | 10 => z = .int .i64 sv
              | 11 => z = .agg #[.int .i64 n.nodes, .slice a n.arcs.length c, .slice (some ⟨g, 0, none⟩) N N]
              | 12 => z = .int .i64 v
              | 13 => z = .int .i64 sv
              | 14 => z = .bool false
              | 15 => z = .bool false
              | _ => True) (fun _ u => Below V1.heap.size V1 u) (by kernel_rfl) (by kernel_rfl) (by kernel_rfl) ?_ ?_ ?_ ?_ ?_ ?_ (by kernel_rfl)
          · intro d i w v w' h hb
            match i, h with
            | 0, h => exact h
            | 1, h => exact h
            | 2, h => exact h
            | 3, h => exact h
            | 4, h => exact h
            | 5, h => exact h
            | 6, h => exact h
            | 7, h => exact h
            | 8, h => exact h
            | 9, h => exact h
            | 10, h => exact h
            | 11, h => exact h
            | 12, h => exact h
            | 13, h => exact h
            | 14, h => exact h
            | 15, h => exact h
            | _ + 16, _ => trivial
          · intro d u u' h hb
            exact h.trans (hb.mono h.size)
          · exact Below.refl _ _
          · intro d i o ρ w' hm ho hf hg hC hcs hfs hfr hdep
            match i, hm, ho, hf, hg, hfr, hdep with
            | 0, _, ho, hf, hg, hfr, hdep =>
              simp only [List.getElem?_toArray, List.getElem?_cons_zero, Option.some.injEq] at ho
              subst ho
              refine ⟨fun _ => ?_, fun hw => absurd (show true = false from hw) (by decide)⟩
              have ts : ρ (.tmp 0) = .pointer (some ⟨K, 0, none⟩) := hfr 0 (by kernel_rfl)
              simp [go_sem, ts]
              exact ⟨Below.refl _ _, rfl⟩
            | 1, _, ho, hf, hg, hfr, hdep =>
              simp only [List.getElem?_toArray, List.getElem?_cons_zero, List.getElem?_cons_succ, Option.some.injEq] at ho
              subst ho
              refine ⟨fun _ => ?_, fun hw => absurd (show true = false from hw) (by decide)⟩
              have ts : ρ (.tmp 12) = .int .i64 v := hfr 12 (by kernel_rfl)
              simp [go_sem, ts]
              exact ⟨Below.refl _ _, rfl⟩
            | 2, _, ho, hf, hg, hfr, hdep =>
              simp only [List.getElem?_toArray, List.getElem?_cons_zero, List.getElem?_cons_succ, Option.some.injEq] at ho
              subst ho
              refine ⟨fun _ => ?_, fun hw => absurd (show true = false from hw) (by decide)⟩
              have d0 : ρ (.tmp 55) = .pointer (some ⟨K, 0, none⟩) := hdep 0 55 (by kernel_rfl) (by kernel_rfl)
              have d1 : ρ (.tmp 56) = .int .i64 v := hdep 1 56 (by kernel_rfl) (by kernel_rfl)
              simp [go_sem, d0, d1, hfs]
              exact ⟨rfl, (MP.out w' hC).mono fun e w'' hh => ⟨_, hh.1, hh.2, rfl⟩⟩
            | 3, _, ho, hf, hg, hfr, hdep =>
              simp only [List.getElem?_toArray, List.getElem?_cons_zero, List.getElem?_cons_succ, Option.some.injEq] at ho
              subst ho
              refine ⟨fun _ => ?_, fun hw => absurd (show true = false from hw) (by decide)⟩
              have ts : ρ (.tmp 4) = .pointer (some ⟨w.heap.size, 0, none⟩) := hfr 4 (by kernel_rfl)
              have k0 := cellN_later hC y0
              have k1 := cellN_later hC y1
              have k2 := cellN_later hC y2
              simp [go_sem, ts, k0, k1, k2]
              exact ⟨Below.refl _ _, rfl⟩
            | 4, _, ho, hf, hg, hfr, hdep =>
              simp only [List.getElem?_toArray, List.getElem?_cons_zero, List.getElem?_cons_succ, Option.some.injEq] at ho
              subst ho
              refine ⟨fun _ => ?_, fun hw => absurd (show true = false from hw) (by decide)⟩
              have ts : ρ (.tmp 12) = .int .i64 v := hfr 12 (by kernel_rfl)
              simp [go_sem, ts]
              exact ⟨Below.refl _ _, rfl⟩
            | 5, _, ho, hf, hg, hfr, hdep =>
              simp only [List.getElem?_toArray, List.getElem?_cons_zero, List.getElem?_cons_succ, Option.some.injEq] at ho
              subst ho
              refine ⟨fun _ => ?_, fun hw => absurd (show true = false from hw) (by decide)⟩
              have d0 : ρ (.tmp 58) = .agg #[.int .i64 n.nodes, .slice a n.arcs.length c, .slice (some ⟨g, 0, none⟩) N N] := hdep 3 58 (by kernel_rfl) (by kernel_rfl)
              have d1 : ρ (.tmp 59) = .int .i64 v := hdep 4 59 (by kernel_rfl) (by kernel_rfl)
              simp [go_sem, d0, d1, hfs]
              exact ⟨rfl, (MD.out w' hC).mono fun e w'' hh => ⟨_, hh.1, hh.2, rfl⟩⟩
            | 6, _, ho, hf, hg, hfr, hdep =>
              simp only [List.getElem?_toArray, List.getElem?_cons_zero, List.getElem?_cons_succ, Option.some.injEq] at ho
              subst ho
              refine ⟨fun _ => ?_, fun hw => absurd (show true = false from hw) (by decide)⟩
              have d0 : ρ (.tmp 57) = .bool bm := hdep 2 57 (by kernel_rfl) (by kernel_rfl)
              have d1 : ρ (.tmp 60) = .bool bm := hdep 5 60 (by kernel_rfl) (by kernel_rfl)
              simp [go_sem, d0, d1]
              exact ⟨Below.refl _ _, rfl⟩
            | 7, _, ho, hf, hg, hfr, hdep =>
              simp only [List.getElem?_toArray, List.getElem?_cons_zero, List.getElem?_cons_succ, Option.some.injEq] at ho
              subst ho
              refine ⟨fun _ => ?_, fun hw => absurd (show true = false from hw) (by decide)⟩
              have d0 : ρ (.tmp 61) = .bool false := hdep 6 61 (by kernel_rfl) (by kernel_rfl)
              simp [go_sem, d0]
              exact ⟨Below.refl _ _, rfl⟩
            | 8, _, ho, hf, hg, hfr, hdep =>
              simp only [List.getElem?_toArray, List.getElem?_cons_zero, List.getElem?_cons_succ, Option.some.injEq] at ho
              subst ho
              have gd : ρ (.tmp 62) = .bool false := hdep 7 62 (by kernel_rfl) (by kernel_rfl)
              refine ⟨fun _ => ?_, fun hw => absurd (show (match ρ (.tmp 62) with | .bool c => c == false | _ => false) = false from hw) (by rw [gd]; decide)⟩
              clear gd
              have ts : ρ (.tmp 0) = .pointer (some ⟨K, 0, none⟩) := hfr 0 (by kernel_rfl)
              simp [go_sem, ts]
              exact ⟨Below.refl _ _, rfl⟩
            | 9, _, ho, hf, hg, hfr, hdep =>
              simp only [List.getElem?_toArray, List.getElem?_cons_zero, List.getElem?_cons_succ, Option.some.injEq] at ho
              subst ho
              have gd : ρ (.tmp 62) = .bool false := hdep 7 62 (by kernel_rfl) (by kernel_rfl)
              refine ⟨fun _ => ?_, fun hw => absurd (show (match ρ (.tmp 62) with | .bool c => c == false | _ => false) = false from hw) (by rw [gd]; decide)⟩
              clear gd
              have ts : ρ (.tmp 12) = .int .i64 v := hfr 12 (by kernel_rfl)
              simp [go_sem, ts]
              exact ⟨Below.refl _ _, rfl⟩
            | 10, _, ho, hf, hg, hfr, hdep =>
              simp only [List.getElem?_toArray, List.getElem?_cons_zero, List.getElem?_cons_succ, Option.some.injEq] at ho
              subst ho
              have gd : ρ (.tmp 62) = .bool false := hdep 7 62 (by kernel_rfl) (by kernel_rfl)
              refine ⟨fun _ => ?_, fun hw => absurd (show (match ρ (.tmp 62) with | .bool c => c == false | _ => false) = false from hw) (by rw [gd]; decide)⟩
              clear gd
              have d0 : ρ (.tmp 63) = .pointer (some ⟨K, 0, none⟩) := hdep 8 63 (by kernel_rfl) (by kernel_rfl)
              have d1 : ρ (.tmp 64) = .int .i64 v := hdep 9 64 (by kernel_rfl) (by kernel_rfl)
              simp [go_sem, d0, d1, hfs]
              exact ⟨rfl, (SP.out w' hC).mono fun e w'' hh => ⟨_, hh.1, hh.2, rfl⟩⟩
            | 11, _, ho, hf, hg, hfr, hdep =>
              simp only [List.getElem?_toArray, List.getElem?_cons_zero, List.getElem?_cons_succ, Option.some.injEq] at ho
              subst ho
              have gd : ρ (.tmp 62) = .bool false := hdep 7 62 (by kernel_rfl) (by kernel_rfl)
              refine ⟨fun _ => ?_, fun hw => absurd (show (match ρ (.tmp 62) with | .bool c => c == false | _ => false) = false from hw) (by rw [gd]; decide)⟩
              clear gd
              have ts : ρ (.tmp 4) = .pointer (some ⟨w.heap.size, 0, none⟩) := hfr 4 (by kernel_rfl)
              have k0 := cellN_later hC y0
              have k1 := cellN_later hC y1
              have k2 := cellN_later hC y2
              simp [go_sem, ts, k0, k1, k2]
              exact ⟨Below.refl _ _, rfl⟩
            | 12, _, ho, hf, hg, hfr, hdep =>
              simp only [List.getElem?_toArray, List.getElem?_cons_zero, List.getElem?_cons_succ, Option.some.injEq] at ho
              subst ho
              have gd : ρ (.tmp 62) = .bool false := hdep 7 62 (by kernel_rfl) (by kernel_rfl)
              refine ⟨fun _ => ?_, fun hw => absurd (show (match ρ (.tmp 62) with | .bool c => c == false | _ => false) = false from hw) (by rw [gd]; decide)⟩
              clear gd
              have ts : ρ (.tmp 12) = .int .i64 v := hfr 12 (by kernel_rfl)
              simp [go_sem, ts]
              exact ⟨Below.refl _ _, rfl⟩
            | 13, _, ho, hf, hg, hfr, hdep =>
              simp only [List.getElem?_toArray, List.getElem?_cons_zero, List.getElem?_cons_succ, Option.some.injEq] at ho
              subst ho
              have gd : ρ (.tmp 62) = .bool false := hdep 7 62 (by kernel_rfl) (by kernel_rfl)
              refine ⟨fun _ => ?_, fun hw => absurd (show (match ρ (.tmp 62) with | .bool c => c == false | _ => false) = false from hw) (by rw [gd]; decide)⟩
              clear gd
              have d0 : ρ (.tmp 66) = .agg #[.int .i64 n.nodes, .slice a n.arcs.length c, .slice (some ⟨g, 0, none⟩) N N] := hdep 11 66 (by kernel_rfl) (by kernel_rfl)
              have d1 : ρ (.tmp 67) = .int .i64 v := hdep 12 67 (by kernel_rfl) (by kernel_rfl)
              simp [go_sem, d0, d1, hfs]
              exact ⟨rfl, (SD.out w' hC).mono fun e w'' hh => ⟨_, hh.1, hh.2, rfl⟩⟩
            | 14, _, ho, hf, hg, hfr, hdep =>
              simp only [List.getElem?_toArray, List.getElem?_cons_zero, List.getElem?_cons_succ, Option.some.injEq] at ho
              subst ho
              have gd : ρ (.tmp 62) = .bool false := hdep 7 62 (by kernel_rfl) (by kernel_rfl)
              refine ⟨fun _ => ?_, fun hw => absurd (show (match ρ (.tmp 62) with | .bool c => c == false | _ => false) = false from hw) (by rw [gd]; decide)⟩
              clear gd
              have d0 : ρ (.tmp 65) = .int .i64 sv := hdep 10 65 (by kernel_rfl) (by kernel_rfl)
              have d1 : ρ (.tmp 68) = .int .i64 sv := hdep 13 68 (by kernel_rfl) (by kernel_rfl)
              simp [go_sem, d0, d1]
              exact ⟨Below.refl _ _, rfl⟩
            | 15, _, ho, hf, hg, hfr, hdep =>
              simp only [List.getElem?_toArray, List.getElem?_cons_zero, List.getElem?_cons_succ, Option.some.injEq] at ho
              subst ho
              refine ⟨fun _ => ?_, fun hw => absurd (show true = false from hw) (by decide)⟩
              have d0 : ρ (.tmp 62) = .bool false := hdep 7 62 (by kernel_rfl) (by kernel_rfl)
              have d1 : ρ (.tmp 69) = .bool false := hdep 14 69 (by kernel_rfl) (by kernel_rfl)
              simp [go_sem, d0, d1, hcs]
              exact ⟨Below.refl _ _, rfl⟩
            | n + 16, _, ho, _, _, _, _ => simp at ho
          · intro d i o ρ w' hm ho h0 hf hg hC hcs hfs hfr hdep
            exact absurd hm (by simp)
          · intro V w9 hC9 hS
            have e15 : V 15 = .bool false := hS 15 (by decide) (by intro h; cases h)
            simp only [puts, e15]
            simp only [Act.put, List.setIfInBounds_toArray, List.set_cons_zero, List.set_cons_succ]
            clear hS e15
            have B9 := hiddenN (B7.out.trans (hC9.mono B7.out.size))
            clear hC9
            go_wp2
            go_roundg (Nz - (k + 1))
            case measure => omega
            case rel => exact ⟨k + 1, by omega, rfl, by go_num, B9.out⟩
        · have ek : k = Nz := by omega
          subst ek
          have hki : ¬ (k : Int) < (k : Int) := by omega
          go_wp2
          go_ret
          exact ⟨rfl, B1.out.trans (B7.out.mono B1.out.size)⟩
end Go.Proofs.Ytancphohpedigaa

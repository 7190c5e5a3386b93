/- The walk through the statement ActorsFails. -/
import Derived.Test.YthgblljokonejaaActP0
namespace Go.Proofs.Ythgblljokonejaa
open Go.ChangeShapes Go.WideShapes Go.ChangeAt Go.RowKit

set_option maxRecDepth 100000 in
set_option maxHeartbeats 4000000 in
theorem actorsFails_walk (t : Nat) (a : Option Addr) (len cap : Nat) (zs : List Int) (s : Option Addr) (m scap : Nat) (S : List OpL) (w : World) (ht : t ≤ 255) (hA : Arg w a len cap zs) (hS : ArgO w s m S) :
    Calls Try.prog 4 #[.int .u8 (t : Int), .slice a len cap, .slice s m scap] w fun e w' => e = .returned (.bool true) ∧ Below w.heap.size w w' := by
  have AW : Hid (∀ V, Calls Try.prog 11 #[] V fun e w' => e = .returned (.bool true) ∧ Below V.heap.size V w') := fun V => awake7 V
  obtain ⟨f, hf⟩ : ∃ f, (ofS t zs).2.2 = f := ⟨_, rfl⟩
  by_cases h0 : f = 0
  · subst h0
    have NW : Hid (∀ V, Below w.heap.size w V → Calls Try.prog 8 #[.int .u8 (t : Int), .slice a len cap] V (Fresh V t zs (keepS t zs))) := fun V hb => (new_any t a zs len cap V ht hA.size hA.fits hA.none (hA.lies.below hb)).mono fun _ _ h => fresh_of h hf rfl
    have RN : Hid (∀ V, Below w.heap.size w V → Calls Try.prog 9 #[.int .u8 (t : Int), .slice a len cap] V (RGood V t zs)) := fun V hb => rnew7_yes t a zs len cap V (hA.below hb) hf
    have tt := (of_good hf).1
    have OK := hidden6 (of_good hf).2
    have ST : Hid (∀ F V B K ks n, Bod F V B K t zs ks n → Calls Try.prog 15 #[.pointer (some ⟨B, 0, none⟩)] V (RowEnd V ks)) := fun F V B K ks n h => bstate_any t tt F V B K zs ks n h
    have FD : Hid (∀ F V B K ks n, Bod F V B K t zs ks n → Calls Try.prog 16 #[.pointer (some ⟨B, 0, none⟩)] V fun e w' => e = .returned (.int .i64 (n : Int)) ∧ w' = V) := fun F V B K ks n h => bfired_any t tt F V B K zs ks n h
    have FI : Hid (∀ F V B K ks n x l c I, Bod F V B K t zs ks n → ArgL V x l I → n < 4611686018427387904 → Calls Try.prog 17 #[.pointer (some ⟨B, 0, none⟩), .slice x l c] V (FireEnd F V B K t zs ks n I)) := fun F V B K ks n x l c I h hI hn => bfire_any t tt F V B K zs ks n x l c I h hI hn
    have SI : Hid (∀ V x c y d l, At V x l → At V y l → l.length ≤ 4611686018427387904 → Calls Try.prog 18 #[.slice x l.length c, .slice y l.length d] V fun e w' => e = .returned (.bool true) ∧ Below V.heap.size V w') := fun V x c y d l h1 h2 hm =>
      (same_any x y l l.length c d V rfl hm h1 h2).mono fun e w' ⟨n, h1, h2⟩ => ⟨h1, by rw [h2]; exact bdrew (Below.refl _ _) n⟩
    have HS := hidden6 hS
    have hm := hS.reach
    have B0 := hidden6 (Below.refl w.heap.size w)
    have mI : (m : Int) ≤ 4398046511104 := by omega
    generalize keepS t zs = k0 at NW RN
    clear hA hS hf
    go_enter Try.func4, Try.ntmps4
    go_wp2_with (first
      | (go_at_call 9; (with_reducible refine (RN.out w2 BB2.out).mono ?_); rintro e w3 ⟨rv, rfl, ⟨rp, rcp, ri, rci, ro, rco, rk, rck, rfl, -⟩, b3⟩; unfold RA)
      | (go_at_call 8; (with_reducible refine (NW.out w1 BB1.out).mono ?_); rintro e w2 ⟨B2, K2, G, rfl, h2, hG, b2⟩; have BB2 := hidden6 (BB1.out.trans (b2.mono BB1.out.size)))
      | (go_at_call 8; (with_reducible refine (NW.out w B0.out).mono ?_); rintro e w1 ⟨B1, K1, F, rfl, h1, hF, b1⟩; have BB1 := hidden6 b1))
    have SD := hidden6 ((duo_start h1 hF h2 hG b2).below b3)
    have BB3 := hidden6 (BB2.out.trans (b3.mono BB2.out.size))
    have BX := hidden6 ((Below.refl w3.heap.size w3).alloc (Nat.le_refl _) (.cells #[.int .u8 (t : Int), .slice rp zs.length rcp, .slice ri (insS t zs).length rci, .slice ro (outsS t zs).length rco, .slice rk (keepS t zs).length rck, .int .i64 0] 31))
    clear h1 hF h2 hG b1 b2 b3 NW RN BB1 BB2 B0
    go_loopg [13] m (fun gk v wr => ∃ (k n : Nat) (ks : List Int) (F G : Nat → Prop), k ≤ m ∧ gk = m - k ∧ v = .int .i64 (k : Int) ∧ n ≤ k ∧ Duo w.heap.size F G wr B1 K1 t zs ks n B2 K2 t zs ks n ∧ Below w.heap.size w wr)
    case atStart => exact ⟨0, 0, _, _, _, Nat.zero_le _, rfl, rfl, Nat.le_refl _, SD.out.below BX.out, BB3.out.trans (BX.out.mono BB3.out.size)⟩
    case round =>
      clear SD BB3 BX
      obtain ⟨k, n, ks, F, G, hk, rfl, rfl, hnk, hD, hB⟩ := hrel
      have HD := hidden6 hD
      have HB := hidden6 hB
      clear hD hB
      by_cases hlt : k < m
      · have hki : (k : Int) < (m : Int) := by omega
        have hz := HS.out.size
        rcases HS.out.lies with h0 | ⟨b, off, rfl, hc⟩
        · rw [h0] at hz; simp at hz; omega
        obtain ⟨-, x, l, c, cI, hI⟩ := hc k (by omega)
        have CI := hidden6 cI
        have HI := hidden6 hI
        generalize (nthO S k).2 = I at HI hI
        have hn62 : n < 4611686018427387904 := by omega
        have q0 : (n : Int) + 1 ≤ 4398046511105 := by omega
        have q1 : ((n : Int) != (n : Int)) = false := by simp
        have q2 : (((n : Int) + 1) != ((n : Int) + 1)) = false := by simp
        have sm := HD.out.one.small
        clear hc hz hI cI
        rcases fire_cases t zs ks I with ⟨cd, hcd, hf⟩ | ⟨O, ks', hf⟩
        · have HF := hidden6 hf
          have q3 : (cd != 0) = true := by simpa using hcd
          clear hf
          go_wp2_with (first
            | (go_at_call 18; (with_reducible refine (SI.out w3 x3 c3 x1 c1 ks m3.at (S2.out.later b3).at (by omega)).mono ?_); rintro e w4 ⟨rfl, b4⟩; have D4 := hidden6 (D3.out.below b4); have BB4 := hidden6 (BB3.out.trans (b4.mono BB3.out.size)))
            | (go_at_call 15; (with_reducible refine (ST.out F2 w2 B1 K1 ks n D2.out.one).mono ?_); rintro e w3 ⟨x3, c3, rfl, m3, b3⟩; have D3 := hidden6 (D2.out.below b3); have BB3 := hidden6 (BB2.out.trans (b3.mono BB2.out.size)))
            | (go_at_call 16; (with_reducible refine (FD.out F2 w4 B1 K1 ks n D4.out.one).mono ?_); rintro e v ⟨rfl, hv⟩; rw [hv]; clear hv)
            | (go_at_call 17; (with_reducible refine (FI.out F w1 B1 K1 ks n x l c I D1.out.one (HI.out.below BB1.out).argL hn62).mono ?_); intro e w2 h2; obtain ⟨x2, c2, F2, rfl, hB2, hF2, b2⟩ := fail_of h2 HF.out hcd; have D2 := hidden6 (D1.out.fire1 hB2 hF2 b2); have BB2 := hidden6 (but_below b2 BB1.out D1.out.l1); have S2 := hidden6 (m1.but b2 HD.out.one.lt); clear h2 hB2 hF2)
            | (go_at_call 16; (with_reducible refine (FD.out F w1 B1 K1 ks n D1.out.one).mono ?_); rintro e v ⟨rfl, hv⟩; rw [hv]; clear hv)
            | (go_at_call 15; (with_reducible refine (ST.out F wr B1 K1 ks n HD.out.one).mono ?_); rintro e w1 ⟨x1, c1, rfl, m1, b1⟩; have D1 := hidden6 (HD.out.below b1); have BB1 := hidden6 (HB.out.trans (b1.mono HB.out.size)); have cI1 := cell_keep6 BB1.out CI.out))
          go_roundg (m - (k + 1))
          case measure => omega
          case rel => exact ⟨k + 1, n, ks, _, _, by omega, rfl, by go_num, by omega, D4.out, BB4.out⟩
        · have HF := hidden6 hf
          have q4 : ((O.length : Int) != (O.length : Int)) = false := by simp
          have hO16 := fire_count tt OK.out hf
          have hO16i : (O.length : Int) ≤ 16 := by omega
          clear hf
          go_wp2_with (first
            | (go_at_call 16; (with_reducible refine (FD.out F2 w3 B1 K1 ks' (n + 1) D3.out.one).mono ?_); rintro e v ⟨rfl, hv⟩; rw [hv]; clear hv)
            | (go_at_call 17; (with_reducible refine (FI.out G w2 B2 K2 ks n x l c I D2.out.two (HI.out.below BB2.out).argL hn62).mono ?_); intro e w3 h3; obtain ⟨x3, c3, A3, C3, G3, rfl, hO3, hB3, hG3, b3⟩ := good_of h3 HF.out; have D3 := hidden6 (D2.out.swap.fire1 hB3 hG3 b3).swap; have BB3 := hidden6 (but_below b3 BB2.out D2.out.l2); have O2 := hidden6 (hO2.but b3 D1.out.two.lt); have O3 := hidden6 hO3; clear h3 hB3 hG3 hO3)
            | (go_at_call 17; (with_reducible refine (FI.out F w1 B1 K1 ks n x l c I D1.out.one (HI.out.below BB1.out).argL hn62).mono ?_); intro e w2 h2; obtain ⟨x2, c2, A2, C2, F2, rfl, hO2, hB2, hF2, b2⟩ := good_of h2 HF.out; have D2 := hidden6 (D1.out.fire1 hB2 hF2 b2); have BB2 := hidden6 (but_below b2 BB1.out D1.out.l1); have cI2 := cell_keep6 BB2.out CI.out; clear h2 hB2 hF2)
            | (go_at_call 16; (with_reducible refine (FD.out F w1 B1 K1 ks n D1.out.one).mono ?_); rintro e v ⟨rfl, hv⟩; rw [hv]; clear hv)
            | (go_at_call 15; (with_reducible refine (ST.out F wr B1 K1 ks n HD.out.one).mono ?_); rintro e w1 ⟨x1, c1, rfl, m1, b1⟩; have D1 := hidden6 (HD.out.below b1); have BB1 := hidden6 (HB.out.trans (b1.mono HB.out.size)); have cI1 := cell_keep6 BB1.out CI.out))
          clear cI1 cI2
          go_loopg [20] O.length (fun gk v wq => ∃ j : Nat, j ≤ O.length ∧ gk = O.length - j ∧ v = .int .i64 (j : Int) ∧ Below w3.heap.size w3 wq)
          case atStart => exact ⟨0, Nat.zero_le _, rfl, rfl, Below.refl _ _⟩
          case round =>
            obtain ⟨j, hj, rfl, rfl, hb⟩ := hrel
            have HQ := hidden6 hb
            clear hb
            by_cases hjl : j < O.length
            · have hji : (j : Int) < (O.length : Int) := by omega
              have o2 := O2.out.below HQ.out
              have o3 := O3.out.below HQ.out
              have R2 := hidden6 (o2.rows j hjl)
              have R3 := hidden6 (o3.rows j hjl)
              have hsm := fire_small tt OK.out HF.out hjl
              rcases o2.tab with h0 | ⟨g2, rfl, -, -, t2, -⟩
              · rw [h0] at hjl; simp at hjl
              rcases o3.tab with h0 | ⟨g3, rfl, -, -, t3, -⟩
              · rw [h0] at hjl; simp at hjl
              have u2 := t2 j hjl
              have u3 := t3 j hjl
              clear t2 t3 o2 o3
              generalize nthL O j = lj at R2 R3 u2 u3 hsm
              have SQj : Hid (∀ n, Calls Try.prog 18 #[.slice (A2 j) lj.length (C2 j), .slice (A3 j) lj.length (C3 j)] (wr.drewN n) fun e w' => e = .returned (.bool true) ∧ ∃ k, w' = (wr.drewN n).drewN k) := fun n => (same_any _ _ lj lj.length _ _ _ rfl (by omega) (R2.out.at.below (bdrew (Below.refl _ _) n)) (R3.out.at.below (bdrew (Below.refl _ _) n))).mono fun _ _ ⟨n, he, hw⟩ => ⟨he, n, hw⟩
              go_wp2
              go_quiet (first | (go_at_call 18; (with_reducible refine Calls.quiet_of (SQj.out _))))
              go_wp2
              go_roundg (O.length - (j + 1))
              case measure => omega
              case rel => exact ⟨j + 1, by omega, rfl, by go_num, bdrew HQ.out nq⟩
            · have hji : ¬ (j : Int) < (O.length : Int) := by omega
              go_wp2
              go_roundg (m - (k + 1))
              case measure => omega
              case rel => exact ⟨k + 1, n + 1, ks', _, _, by omega, rfl, by go_num, by omega, D3.out.below HQ.out, BB3.out.trans (HQ.out.mono BB3.out.size)⟩
      · have ek : k = m := by omega
        subst ek
        have hki : ¬ (k : Int) < (k : Int) := by omega
        have sm := HD.out.one.small
        have q1 : ((n : Int) == (n : Int)) = true := by simp
        go_wp2_with (first
          | (go_at_call 11; (with_reducible refine (AW.out w4).mono ?_); rintro e w6 ⟨rfl, b6⟩)
          | (go_at_call 18; (with_reducible refine (SI.out w2 x1 c1 x2 c2 ks (m1.later b2).at m2.at (by omega)).mono ?_); rintro e w4 ⟨rfl, b4⟩)
          | (go_at_call 15; (with_reducible refine (ST.out G w1 B2 K2 ks n (HD.out.two.below b1)).mono ?_); rintro e w2 ⟨x2, c2, rfl, m2, b2⟩)
          | (go_at_call 15; (with_reducible refine (ST.out F wr B1 K1 ks n HD.out.one).mono ?_); rintro e w1 ⟨x1, c1, rfl, m1, b1⟩)
          | (go_at_call 16; (with_reducible refine (FD.out G wr B2 K2 ks n HD.out.two).mono ?_); rintro e v ⟨rfl, hv⟩; rw [hv]; clear hv)
          | (go_at_call 16; (with_reducible refine (FD.out F wr B1 K1 ks n HD.out.one).mono ?_); rintro e v ⟨rfl, hv⟩; rw [hv]; clear hv))
        go_ret
        have p1 := HB.out.trans (b1.mono HB.out.size)
        have p2 := p1.trans (b2.mono p1.size)
        have p4 := p2.trans (b4.mono p2.size)
        exact ⟨rfl, p4.trans (b6.mono p4.size)⟩
  · have NW : Hid (∀ V, Below w.heap.size w V → Calls Try.prog 8 #[.int .u8 (t : Int), .slice a len cap] V (Refused V f)) := fun V hb => (new_any t a zs len cap V ht hA.size hA.fits hA.none (hA.lies.below hb)).mono fun _ _ h => refused_of h hf h0
    have RN : Hid (∀ V, Below w.heap.size w V → Calls Try.prog 9 #[.int .u8 (t : Int), .slice a len cap] V (RBad V f)) := fun V hb => rnew7_no t a zs len cap V ht (hA.below hb) hf h0
    have B0 := hidden6 (Below.refl w.heap.size w)
    have q1 : (f != f) = false := by simp
    have q2 : (f == 0) = false := by simpa using h0
    have q3 : (f != 0) = true := by simpa using h0
    clear hA hS hf
    go_enter Try.func4, Try.ntmps4
    go_wp2_with (first
      | (go_at_call 11; (with_reducible refine (AW.out _).mono ?_); rintro e w6 ⟨rfl, b6⟩)
      | (go_at_call 9; (with_reducible refine (RN.out w2 BB2.out).mono ?_); rintro e w3 ⟨rfl, b3⟩; have BB3 := hidden6 (BB2.out.trans (b3.mono BB2.out.size)))
      | (go_at_call 8; (with_reducible refine (NW.out w1 BB1.out).mono ?_); rintro e w2 ⟨rfl, b2⟩; have BB2 := hidden6 (BB1.out.trans (b2.mono BB1.out.size)))
      | (go_at_call 8; (with_reducible refine (NW.out w B0.out).mono ?_); rintro e w1 ⟨rfl, b1⟩; have BB1 := hidden6 b1))
    go_ret
    have p3 := BB3.out.trans (((Below.refl w3.heap.size w3).alloc (Nat.le_refl _) (.cells #[.int .u8 0, .slice none 0 0, .slice none 0 0, .slice none 0 0, .slice none 0 0, .int .i64 0] 31)).mono BB3.out.size)
    exact ⟨rfl, p3.trans (b6.mono p3.size)⟩
end Go.Proofs.Ythgblljokonejaa

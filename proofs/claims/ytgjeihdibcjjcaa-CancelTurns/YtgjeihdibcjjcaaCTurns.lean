/- The walk through the statement CancelTurns. (Written by tmpl/mkCTurns.py.) -/
import Derived.Test.YtgjeihdibcjjcaaCAwake
import Derived.Test.YtgjeihdibcjjcaaCopy
namespace Go.Proofs.Ytgjeihdibcjjcaa
open Go.ChangeShapes Go.WideShapes Go.ChangeAt Go.RowKit

set_option maxHeartbeats 400000 in
theorem ones_any (a : Option Addr) (zs : List Int) (len cap : Nat) (w : World) (hl : zs.length = len) (hm : len ≤ 4611686018427387904) (h : At w a zs) :
    Calls Try.prog 25 #[.slice a len cap] w fun e w' => e = .returned (.bool (oneB zs)) ∧ w = w' := by
  rcases h with h | ⟨b, off, rfl, hc⟩
  · subst h
    subst hl
    go_enter Try.func25, Try.ntmps25
    go_wp2
    go_loop [3] (fun i => i = .int .i64 0) (fun _ => 0)
    case atStart => exact rfl
    case round =>
      subst hrel
      go_wp2
      go_ret
      exact ⟨rfl, rfl⟩
  · go_enter Try.func25, Try.ntmps25
    go_wp2
    go_loop [3] (fun i => ∃ (k : Nat), k ≤ len ∧ i = .int .i64 k ∧ oneB (zs.drop k) = oneB zs) (fun i => len - (intOf i).toNat)
    case atStart => exact ⟨0, Nat.zero_le _, rfl, rfl⟩
    case round =>
      obtain ⟨k, hk, rfl, hs⟩ := hrel
      have HS : Hid (oneB (zs.drop k) = oneB zs) := hs
      clear hs
      by_cases hlt : k < len
      · have hck := hc k (by omega)
        have HD : Hid (zs.drop k = nth zs k :: zs.drop (k + 1)) := drop_nth zs k (by omega)
        by_cases hf : nth zs k = 1
        · have hf0 : (nth zs k != 1) = false := by simpa using hf
          have hf1 : (nth zs k == 1) = true := by simpa using hf
          have HF : Hid (decide (nth zs k = 1) = true) := decide_eq_true hf
          clear hf
          go_wp2
          go_round
          case rel => exact ⟨k + 1, by omega, by go_num, by rw [← HS.out, HD.out, oneB, HF.out]; rfl⟩
          case measure => simp [intOf]; omega
        · have hf0 : (nth zs k != 1) = true := by simpa using hf
          have hf1 : (nth zs k == 1) = false := by simpa using hf
          have HF : Hid (decide (nth zs k = 1) = false) := decide_eq_false hf
          clear hf
          go_wp2
          go_ret
          have e : oneB zs = false := by rw [← HS.out, HD.out, oneB, HF.out]; rfl
          exact ⟨by rw [e]; rfl, rfl⟩
      · have HD : Hid (zs.drop k = []) := drop_end zs k (by omega)
        go_wp2
        go_ret
        have e : oneB zs = true := by rw [← HS.out, HD.out]; rfl
        exact ⟨by rw [e]; rfl, rfl⟩

theorem cE_turn (xs ys : List Int) : cE ys xs = cE xs ys := by
  unfold cE
  rw [Bool.and_comm (posB ys)]
  by_cases h : 1024 < xs.length ∨ 1024 < ys.length
  · rw [if_pos h, if_pos (by omega)]
  · rw [if_neg h, if_neg (by omega)]
theorem cA_turn (xs ys : List Int) : cA ys xs = cB xs ys ∧ cB ys xs = cA xs ys := by
  unfold cA cB
  rw [cE_turn xs ys, (red_turn (nats xs) (nats ys)).1, (red_turn (nats xs) (nats ys)).2]
  exact ⟨rfl, rfl⟩
theorem eqB_turn (xs ys : List Int) : eqB ys xs = eqB xs ys := by
  unfold eqB
  rw [cE_turn xs ys]
  congr 1
  by_cases h : prodN' (nats xs) = prodN' (nats ys)
  · rw [decide_eq_true h, decide_eq_true h.symm]
  · rw [decide_eq_false h, decide_eq_false (fun k => h k.symm)]

set_option maxRecDepth 100000 in
set_option maxHeartbeats 700000 in
theorem cturns_any (a1 : Option Addr) (len1 cap1 : Nat) (xs : List Int) (a2 : Option Addr) (len2 cap2 : Nat) (ys : List Int) (w : World) (hA1 : Arg w a1 len1 cap1 xs) (hA2 : Arg w a2 len2 cap2 ys) :
    Calls Try.prog 7 #[.slice a1 len1 cap1, .slice a2 len2 cap2] w fun e w' => e = .returned (.bool true) ∧ Below w.heap.size w w' := by
  have hr1 := hA1.reach
  have hr2 := hA2.reach
  have I1 : Hid (∀ W, Arg W a1 len1 cap1 xs → Calls Try.prog 20 #[.slice a1 len1 cap1] W (Copied W len1 xs)) := fun W h => ints_any a1 xs len1 cap1 W h
  have I2 : Hid (∀ W, Arg W a2 len2 cap2 ys → Calls Try.prog 20 #[.slice a2 len2 cap2] W (Copied W len2 ys)) := fun W h => ints_any a2 ys len2 cap2 W h
  have R1 : Hid (∀ b1 b2 c1 c2 W, At W b1 xs → At W b2 ys → Calls Try.prog 10 #[.slice b1 len1 c1, .slice b2 len2 c2] W (RedEnd W xs ys)) :=
    fun b1 b2 c1 c2 W k1 k2 => reduce_any b1 b2 xs ys len1 c1 len2 c2 W hA1.size hA2.size (by omega) (by omega) hA1.fits hA2.fits k1 k2
  have R2 : Hid (∀ b1 b2 c1 c2 W, At W b1 ys → At W b2 xs → Calls Try.prog 10 #[.slice b1 len2 c1, .slice b2 len1 c2] W (RedEnd W ys xs)) :=
    fun b1 b2 c1 c2 W k1 k2 => reduce_any b1 b2 ys xs len2 c1 len1 c2 W hA2.size hA1.size (by omega) (by omega) hA2.fits hA1.fits k1 k2
  have Q1 : Hid (∀ b1 b2 c1 c2 W, At W b1 xs → At W b2 ys → Calls Try.prog 16 #[.slice b1 len1 c1, .slice b2 len2 c2] W (EqEnd W xs ys)) :=
    fun b1 b2 c1 c2 W k1 k2 => equal_any b1 b2 xs ys len1 c1 len2 c2 W hA1.size hA2.size (by omega) (by omega) hA1.fits hA2.fits k1 k2
  have Q2 : Hid (∀ b1 b2 c1 c2 W, At W b1 ys → At W b2 xs → Calls Try.prog 16 #[.slice b1 len2 c1, .slice b2 len1 c2] W (EqEnd W ys xs)) :=
    fun b1 b2 c1 c2 W k1 k2 => equal_any b1 b2 ys xs len2 c1 len1 c2 W hA2.size hA1.size (by omega) (by omega) hA2.fits hA1.fits k1 k2
  have HL : (cA xs ys).length ≤ 1024 ∧ (cB xs ys).length ≤ 1024 := cA_len
  have S1 : Hid (∀ b1 b2 n (c : Nat) W, (cA xs ys).length = n → At W b1 (cA xs ys) → At W b2 (cA xs ys) → Calls Try.prog 12 #[.slice b1 n n, .slice b2 n c] W fun e w' => ∃ n : Nat, e = .returned (.bool true) ∧ w' = W.drewN n) :=
    fun b1 b2 n c W hn k1 k2 => same_any b1 b2 (cA xs ys) n n c W hn (by omega) k1 k2
  have S2 : Hid (∀ b1 b2 n (c : Nat) W, (cB xs ys).length = n → At W b1 (cB xs ys) → At W b2 (cB xs ys) → Calls Try.prog 12 #[.slice b1 n n, .slice b2 n c] W fun e w' => ∃ n : Nat, e = .returned (.bool true) ∧ w' = W.drewN n) :=
    fun b1 b2 n c W hn k1 k2 => same_any b1 b2 (cB xs ys) n n c W hn (by omega) k1 k2
  have O1 : Hid (∀ b1 n W, (cA xs ys).length = n → At W b1 (cA xs ys) → Calls Try.prog 25 #[.slice b1 n n] W fun e w' => e = .returned (.bool (oneB (cA xs ys))) ∧ W = w') :=
    fun b1 n W hn k1 => ones_any b1 (cA xs ys) n n W hn (by omega) k1
  have O2 : Hid (∀ b1 n W, (cB xs ys).length = n → At W b1 (cB xs ys) → Calls Try.prog 25 #[.slice b1 n n] W fun e w' => e = .returned (.bool (oneB (cB xs ys))) ∧ W = w') :=
    fun b1 n W hn k1 => ones_any b1 (cB xs ys) n n W hn (by omega) k1
  have HA1 : Hid (Arg w a1 len1 cap1 xs) := hA1
  have HA2 : Hid (Arg w a2 len2 cap2 ys) := hA2
  have HC : Hid (cA ys xs = cB xs ys ∧ cB ys xs = cA xs ys) := cA_turn xs ys
  have hturn := cE_turn xs ys
  have hturn2 := eqB_turn xs ys
  have hz := eqB_ok (xs := xs) (ys := ys)
  have hnz := eqB_bad (xs := xs) (ys := ys)
  clear hA1 hA2 HL
  obtain ⟨E, hE⟩ : ∃ E, cE xs ys = E := ⟨_, rfl⟩
  obtain ⟨v, hv⟩ : ∃ v, eqB xs ys = v := ⟨_, rfl⟩
  rw [hE] at hz hnz hturn
  rw [hv] at hz hnz hturn2
  have HE1 : Hid (cE xs ys = E) := hE
  have HE2 : Hid (cE ys xs = E) := hturn
  have HV1 : Hid (eqB xs ys = v) := hv
  have HV2 : Hid (eqB ys xs = v) := hturn2
  clear hE hv hturn hturn2
  have q1 : (E != E) = false := by simp
  have q2 : (v != v) = false := by simp
  by_cases h0 : E = 0
  · have q3 : (E == 0) = true := by simpa using h0
    have hv := hz h0
    clear h0 hz hnz
    cases hA : oneB (cA xs ys)
    · rw [hA, Bool.false_and] at hv
      have O1' := O1.out
      rw [hA] at O1'
      clear O1
      have O1 : Hid (∀ b1 n W, (cA xs ys).length = n → At W b1 (cA xs ys) → Calls Try.prog 25 #[.slice b1 n n] W fun e w' => e = .returned (.bool false) ∧ W = w') := O1'
      clear hA O1'
      subst hv
      go_enter Try.func7, Try.ntmps7
      go_wp2_with (first
        | (go_at_call 25; (with_reducible refine (O1.out _ _ w14 la ga).mono ?_); rintro e w' ⟨rfl, rfl⟩)
        | (go_at_call 14; (with_reducible refine (awake3 _).mono ?_); rintro e w14 ⟨rfl, b14⟩; have B14 := B13.trans (b14.mono B13.size); have N14 := N13.trans (b14.mono N13.size); have ga := ia.below N14; have gb := ib.below N14)
        | (go_at_call 12; (with_reducible refine (S2.out _ _ _ _ (w12.drewN m1) lb (jb.below (bdrew (Below.refl _ _) m1)) (jd.below (bdrew (Below.refl _ _) m1))).mono ?_); rintro e w' ⟨m2, rfl, rfl⟩; have B13 := bdrew B12 (m1 + m2); have N13 := bdrew N12 (m1 + m2))
        | (go_at_call 12; (with_reducible refine (S1.out _ _ _ _ w12 la ja jc).mono ?_); rintro e w' ⟨m1, rfl, rfl⟩)
        | (go_at_call 16; (with_reducible refine (Q2.out _ _ _ _ w11 k10b k11).mono ?_); rintro e w12 ⟨rfl, b12⟩; rw [HE2.out, HV2.out]; have M12 := M11.trans (b12.mono M11.size); have B12 := B11.trans (b12.mono B11.size); have N12 := M6.trans (M12.mono M6.size); have ja := ia.below N12; have jb := ib.below N12; have jc := ic.below M12; have jd := id.below M12; rw [HC.out.2] at jc lc; rw [HC.out.1] at jd ld; obtain rfl : na = nc := (la.symm.trans lc); obtain rfl : nb = nd := (lb.symm.trans ld))
        | (go_at_call 20; (with_reducible refine (I1.out w10 (HA1.out.below B10)).mono ?_); rintro e w11 ⟨x11, cp11, rfl, k11, b11, -⟩; have k10b := k10.below b11; have M11 := M10.trans (b11.mono M10.size); have B11 := B10.trans (b11.mono B10.size))
        | (go_at_call 20; (with_reducible refine (I2.out w9 (HA2.out.below B9)).mono ?_); rintro e w10 ⟨x10, cp10, rfl, k10, b10, -⟩; have M10 := M9.trans (b10.mono M9.size); have B10 := B9.trans (b10.mono B9.size))
        | (go_at_call 16; (with_reducible refine (Q1.out _ _ _ _ w8 k7b k8).mono ?_); rintro e w9 ⟨rfl, b9⟩; rw [HE1.out, HV1.out]; have M9 := M8.trans (b9.mono M8.size); have B9 := B8.trans (b9.mono B8.size))
        | (go_at_call 20; (with_reducible refine (I2.out w7 (HA2.out.below B7)).mono ?_); rintro e w8 ⟨x8, cp8, rfl, k8, b8, -⟩; have k7b := k7.below b8; have M8 := b7.trans (b8.mono b7.size); have B8 := B7.trans (b8.mono B7.size))
        | (go_at_call 20; (with_reducible refine (I1.out w6 (HA1.out.below B6)).mono ?_); rintro e w7 ⟨x7, cp7, rfl, k7, b7, -⟩; have B7 := B6.trans (b7.mono B6.size))
        | (go_at_call 10; (with_reducible refine (R2.out _ _ _ _ w5 k4b k5).mono ?_); rintro e w6 ⟨b6, ad, ac, nd, nc, rfl, o3, o4, -⟩; rw [HE2.out]; have id := o3.at; have ic := o4.at; have ld := o3.1; have lc := o4.1; have B6 := B5.trans (b6.mono B5.size); have M6 := M5.trans (b6.mono M5.size))
        | (go_at_call 20; (with_reducible refine (I1.out w4 (HA1.out.below B4)).mono ?_); rintro e w5 ⟨x5, cp5, rfl, k5, b5, -⟩; have k4b := k4.below b5; have M5 := b4.trans (b5.mono b4.size); have B5 := B4.trans (b5.mono B4.size))
        | (go_at_call 20; (with_reducible refine (I2.out w3 (HA2.out.below B3)).mono ?_); rintro e w4 ⟨x4, cp4, rfl, k4, b4, -⟩; have B4 := B3.trans (b4.mono B3.size))
        | (go_at_call 10; (with_reducible refine (R1.out _ _ _ _ w2 k1b k2).mono ?_); rintro e w3 ⟨b3, aa, ab, na, nb, rfl, o1, o2, -⟩; rw [HE1.out]; have ia := o1.at; have ib := o2.at; have la := o1.1; have lb := o2.1; have B3 := B2.trans (b3.mono B2.size))
        | (go_at_call 20; (with_reducible refine (I2.out w1 (HA2.out.below b1)).mono ?_); rintro e w2 ⟨x2, cp2, rfl, k2, b2, -⟩; have k1b := k1.below b2; have B2 := b1.trans (b2.mono b1.size))
        | (go_at_call 20; (with_reducible refine (I1.out w HA1.out).mono ?_); rintro e w1 ⟨x1, cp1, rfl, k1, b1, -⟩))
      go_ret
      exact ⟨rfl, B14⟩
    · rw [hA, Bool.true_and] at hv
      have O1' := O1.out
      rw [hA] at O1'
      clear O1
      have O1 : Hid (∀ b1 n W, (cA xs ys).length = n → At W b1 (cA xs ys) → Calls Try.prog 25 #[.slice b1 n n] W fun e w' => e = .returned (.bool true) ∧ W = w') := O1'
      have O2' := O2.out
      rw [← hv] at O2'
      clear O2
      have O2 : Hid (∀ b1 n W, (cB xs ys).length = n → At W b1 (cB xs ys) → Calls Try.prog 25 #[.slice b1 n n] W fun e w' => e = .returned (.bool v) ∧ W = w') := O2'
      have q4 : (v == v) = true := by simp
      clear hA O1' O2' hv
      go_enter Try.func7, Try.ntmps7
      go_wp2_with (first
        | (go_at_call 25; (with_reducible refine (O2.out _ _ w14 lb gb).mono ?_); rintro e w' ⟨rfl, rfl⟩)
        | (go_at_call 25; (with_reducible refine (O1.out _ _ w14 la ga).mono ?_); rintro e w' ⟨rfl, rfl⟩)
        | (go_at_call 14; (with_reducible refine (awake3 _).mono ?_); rintro e w14 ⟨rfl, b14⟩; have B14 := B13.trans (b14.mono B13.size); have N14 := N13.trans (b14.mono N13.size); have ga := ia.below N14; have gb := ib.below N14)
        | (go_at_call 12; (with_reducible refine (S2.out _ _ _ _ (w12.drewN m1) lb (jb.below (bdrew (Below.refl _ _) m1)) (jd.below (bdrew (Below.refl _ _) m1))).mono ?_); rintro e w' ⟨m2, rfl, rfl⟩; have B13 := bdrew B12 (m1 + m2); have N13 := bdrew N12 (m1 + m2))
        | (go_at_call 12; (with_reducible refine (S1.out _ _ _ _ w12 la ja jc).mono ?_); rintro e w' ⟨m1, rfl, rfl⟩)
        | (go_at_call 16; (with_reducible refine (Q2.out _ _ _ _ w11 k10b k11).mono ?_); rintro e w12 ⟨rfl, b12⟩; rw [HE2.out, HV2.out]; have M12 := M11.trans (b12.mono M11.size); have B12 := B11.trans (b12.mono B11.size); have N12 := M6.trans (M12.mono M6.size); have ja := ia.below N12; have jb := ib.below N12; have jc := ic.below M12; have jd := id.below M12; rw [HC.out.2] at jc lc; rw [HC.out.1] at jd ld; obtain rfl : na = nc := (la.symm.trans lc); obtain rfl : nb = nd := (lb.symm.trans ld))
        | (go_at_call 20; (with_reducible refine (I1.out w10 (HA1.out.below B10)).mono ?_); rintro e w11 ⟨x11, cp11, rfl, k11, b11, -⟩; have k10b := k10.below b11; have M11 := M10.trans (b11.mono M10.size); have B11 := B10.trans (b11.mono B10.size))
        | (go_at_call 20; (with_reducible refine (I2.out w9 (HA2.out.below B9)).mono ?_); rintro e w10 ⟨x10, cp10, rfl, k10, b10, -⟩; have M10 := M9.trans (b10.mono M9.size); have B10 := B9.trans (b10.mono B9.size))
        | (go_at_call 16; (with_reducible refine (Q1.out _ _ _ _ w8 k7b k8).mono ?_); rintro e w9 ⟨rfl, b9⟩; rw [HE1.out, HV1.out]; have M9 := M8.trans (b9.mono M8.size); have B9 := B8.trans (b9.mono B8.size))
        | (go_at_call 20; (with_reducible refine (I2.out w7 (HA2.out.below B7)).mono ?_); rintro e w8 ⟨x8, cp8, rfl, k8, b8, -⟩; have k7b := k7.below b8; have M8 := b7.trans (b8.mono b7.size); have B8 := B7.trans (b8.mono B7.size))
        | (go_at_call 20; (with_reducible refine (I1.out w6 (HA1.out.below B6)).mono ?_); rintro e w7 ⟨x7, cp7, rfl, k7, b7, -⟩; have B7 := B6.trans (b7.mono B6.size))
        | (go_at_call 10; (with_reducible refine (R2.out _ _ _ _ w5 k4b k5).mono ?_); rintro e w6 ⟨b6, ad, ac, nd, nc, rfl, o3, o4, -⟩; rw [HE2.out]; have id := o3.at; have ic := o4.at; have ld := o3.1; have lc := o4.1; have B6 := B5.trans (b6.mono B5.size); have M6 := M5.trans (b6.mono M5.size))
        | (go_at_call 20; (with_reducible refine (I1.out w4 (HA1.out.below B4)).mono ?_); rintro e w5 ⟨x5, cp5, rfl, k5, b5, -⟩; have k4b := k4.below b5; have M5 := b4.trans (b5.mono b4.size); have B5 := B4.trans (b5.mono B4.size))
        | (go_at_call 20; (with_reducible refine (I2.out w3 (HA2.out.below B3)).mono ?_); rintro e w4 ⟨x4, cp4, rfl, k4, b4, -⟩; have B4 := B3.trans (b4.mono B3.size))
        | (go_at_call 10; (with_reducible refine (R1.out _ _ _ _ w2 k1b k2).mono ?_); rintro e w3 ⟨b3, aa, ab, na, nb, rfl, o1, o2, -⟩; rw [HE1.out]; have ia := o1.at; have ib := o2.at; have la := o1.1; have lb := o2.1; have B3 := B2.trans (b3.mono B2.size))
        | (go_at_call 20; (with_reducible refine (I2.out w1 (HA2.out.below b1)).mono ?_); rintro e w2 ⟨x2, cp2, rfl, k2, b2, -⟩; have k1b := k1.below b2; have B2 := b1.trans (b2.mono b1.size))
        | (go_at_call 20; (with_reducible refine (I1.out w HA1.out).mono ?_); rintro e w1 ⟨x1, cp1, rfl, k1, b1, -⟩))
      go_ret
      exact ⟨rfl, B14⟩
  · have q3 : (E == 0) = false := by simpa using h0
    have hv := hnz h0
    clear h0 hz hnz
    subst hv
    go_enter Try.func7, Try.ntmps7
    go_wp2_with (first
      | (go_at_call 14; (with_reducible refine (awake3 _).mono ?_); rintro e w14 ⟨rfl, b14⟩; have B14 := B13.trans (b14.mono B13.size); have N14 := N13.trans (b14.mono N13.size); have ga := ia.below N14; have gb := ib.below N14)
      | (go_at_call 12; (with_reducible refine (S2.out _ _ _ _ (w12.drewN m1) lb (jb.below (bdrew (Below.refl _ _) m1)) (jd.below (bdrew (Below.refl _ _) m1))).mono ?_); rintro e w' ⟨m2, rfl, rfl⟩; have B13 := bdrew B12 (m1 + m2); have N13 := bdrew N12 (m1 + m2))
      | (go_at_call 12; (with_reducible refine (S1.out _ _ _ _ w12 la ja jc).mono ?_); rintro e w' ⟨m1, rfl, rfl⟩)
      | (go_at_call 16; (with_reducible refine (Q2.out _ _ _ _ w11 k10b k11).mono ?_); rintro e w12 ⟨rfl, b12⟩; rw [HE2.out, HV2.out]; have M12 := M11.trans (b12.mono M11.size); have B12 := B11.trans (b12.mono B11.size); have N12 := M6.trans (M12.mono M6.size); have ja := ia.below N12; have jb := ib.below N12; have jc := ic.below M12; have jd := id.below M12; rw [HC.out.2] at jc lc; rw [HC.out.1] at jd ld; obtain rfl : na = nc := (la.symm.trans lc); obtain rfl : nb = nd := (lb.symm.trans ld))
      | (go_at_call 20; (with_reducible refine (I1.out w10 (HA1.out.below B10)).mono ?_); rintro e w11 ⟨x11, cp11, rfl, k11, b11, -⟩; have k10b := k10.below b11; have M11 := M10.trans (b11.mono M10.size); have B11 := B10.trans (b11.mono B10.size))
      | (go_at_call 20; (with_reducible refine (I2.out w9 (HA2.out.below B9)).mono ?_); rintro e w10 ⟨x10, cp10, rfl, k10, b10, -⟩; have M10 := M9.trans (b10.mono M9.size); have B10 := B9.trans (b10.mono B9.size))
      | (go_at_call 16; (with_reducible refine (Q1.out _ _ _ _ w8 k7b k8).mono ?_); rintro e w9 ⟨rfl, b9⟩; rw [HE1.out, HV1.out]; have M9 := M8.trans (b9.mono M8.size); have B9 := B8.trans (b9.mono B8.size))
      | (go_at_call 20; (with_reducible refine (I2.out w7 (HA2.out.below B7)).mono ?_); rintro e w8 ⟨x8, cp8, rfl, k8, b8, -⟩; have k7b := k7.below b8; have M8 := b7.trans (b8.mono b7.size); have B8 := B7.trans (b8.mono B7.size))
      | (go_at_call 20; (with_reducible refine (I1.out w6 (HA1.out.below B6)).mono ?_); rintro e w7 ⟨x7, cp7, rfl, k7, b7, -⟩; have B7 := B6.trans (b7.mono B6.size))
      | (go_at_call 10; (with_reducible refine (R2.out _ _ _ _ w5 k4b k5).mono ?_); rintro e w6 ⟨b6, ad, ac, nd, nc, rfl, o3, o4, -⟩; rw [HE2.out]; have id := o3.at; have ic := o4.at; have ld := o3.1; have lc := o4.1; have B6 := B5.trans (b6.mono B5.size); have M6 := M5.trans (b6.mono M5.size))
      | (go_at_call 20; (with_reducible refine (I1.out w4 (HA1.out.below B4)).mono ?_); rintro e w5 ⟨x5, cp5, rfl, k5, b5, -⟩; have k4b := k4.below b5; have M5 := b4.trans (b5.mono b4.size); have B5 := B4.trans (b5.mono B4.size))
      | (go_at_call 20; (with_reducible refine (I2.out w3 (HA2.out.below B3)).mono ?_); rintro e w4 ⟨x4, cp4, rfl, k4, b4, -⟩; have B4 := B3.trans (b4.mono B3.size))
      | (go_at_call 10; (with_reducible refine (R1.out _ _ _ _ w2 k1b k2).mono ?_); rintro e w3 ⟨b3, aa, ab, na, nb, rfl, o1, o2, -⟩; rw [HE1.out]; have ia := o1.at; have ib := o2.at; have la := o1.1; have lb := o2.1; have B3 := B2.trans (b3.mono B2.size))
      | (go_at_call 20; (with_reducible refine (I2.out w1 (HA2.out.below b1)).mono ?_); rintro e w2 ⟨x2, cp2, rfl, k2, b2, -⟩; have k1b := k1.below b2; have B2 := b1.trans (b2.mono b1.size))
      | (go_at_call 20; (with_reducible refine (I1.out w HA1.out).mono ?_); rintro e w1 ⟨x1, cp1, rfl, k1, b1, -⟩))
    go_ret
    exact ⟨rfl, B14⟩
end Go.Proofs.Ytgjeihdibcjjcaa

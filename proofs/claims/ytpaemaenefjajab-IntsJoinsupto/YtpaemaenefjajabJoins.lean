/- The walk through the statement IntsJoins, where the two rows together are not too long. -/
import Derived.Test.YtpaemaenefjajabJoinsMath
import Derived.Deep.LoopGhost
import Derived.Deep.DeepCutAuto
namespace Go.Proofs.Ytpaemaenefjajab
open Go.ChangeShapes Go.WideShapes Go.ChangeAt Go.RowKit

theorem at1n {V : World} {b : Nat} {x : Int} {t : TypeId} (hb : b = V.heap.size) : At (V.alloc (.cells #[.int .i64 x] t)) (some ⟨b, 0, none⟩) [x] := by
  subst hb
  refine Or.inr ⟨_, _, rfl, fun k hk => ?_⟩
  match k, hk with
  | 0, _ => simp [nth]
theorem own_at2 {w : World} {base n cap : Nat} {a : Option Addr} {zs : List Int} (h : w.ownsRow base 3 1 (.slice a n cap) n (zs.map (Value.int .i64))) : At w a zs := by
  obtain ⟨a', cap', hv, -, hat, -⟩ := owns_at h
  cases hv
  exact hat

set_option maxRecDepth 100000 in
set_option maxHeartbeats 2000000 in
theorem joins_any (a1 : Option Addr) (len1 cap1 : Nat) (xs : List Int) (a2 : Option Addr) (len2 cap2 : Nat) (ys : List Int) (w : World) (hA1 : Arg w a1 len1 cap1 xs) (hA2 : Arg w a2 len2 cap2 ys) (hsum : len1 + len2 ≤ 2097152) :
    Calls Try.prog 5 #[.slice a1 len1 cap1, .slice a2 len2 cap2] w fun e w' => e = .returned (.bool true) ∧ Below w.heap.size w w' := by
  obtain ⟨i0, hi, hz0, hz1, hz2⟩ := info_parts Try.info3
  have HA1 : Hid (Arg w a1 len1 cap1 xs) := hA1
  have HA2 : Hid (Arg w a2 len2 cap2 ys) := hA2
  have z1 : Hid (xs.length = len1) := hA1.size
  have z2 : Hid (ys.length = len2) := hA2.size
  have hb : InR (xs ++ ys) := inR_append hA1.fits hA2.fits
  have ht : InR (ys ++ xs) := inR_append hA2.fits hA1.fits
  have Gb : Hid (∀ x c W, At W x (xs ++ ys) → Calls Try.prog 8 #[.slice x (len1 + len2) c] W (fun e w' => ∃ n : Nat, e = .returned (.tuple #[.int .i64 (gcdV (xs ++ ys)), .bool (gcdB (xs ++ ys))]) ∧ w' = W.drewN n)) :=
    fun x c W h => gcd_any x (xs ++ ys) (len1 + len2) c W (by simp [z1.out, z2.out]) (by omega) hb h
  have Gt : Hid (∀ x c W, At W x (ys ++ xs) → Calls Try.prog 8 #[.slice x (len2 + len1) c] W (fun e w' => ∃ n : Nat, e = .returned (.tuple #[.int .i64 (gcdV (xs ++ ys)), .bool (gcdB (xs ++ ys))]) ∧ w' = W.drewN n)) :=
    fun x c W h => by
      have := gcd_any x (ys ++ xs) (len2 + len1) c W (by simp [z1.out, z2.out]) (by omega) ht h
      rwa [(gcdV_swap xs ys).1, (gcdV_swap xs ys).2] at this
  have Lb : Hid (∀ x c W, At W x (xs ++ ys) → Calls Try.prog 11 #[.slice x (len1 + len2) c] W (fun e w' => ∃ n : Nat, e = .returned (.tuple #[.int .i64 (lcmV (xs ++ ys)), .bool (lcmB (xs ++ ys))]) ∧ w' = W.drewN n)) :=
    fun x c W h => lcm_any x (xs ++ ys) (len1 + len2) c W (by simp [z1.out, z2.out]) (by omega) hb h
  have Lt : Hid (∀ x c W, At W x (ys ++ xs) → Calls Try.prog 11 #[.slice x (len2 + len1) c] W (fun e w' => ∃ n : Nat, e = .returned (.tuple #[.int .i64 (lcmV (xs ++ ys)), .bool (lcmB (xs ++ ys))]) ∧ w' = W.drewN n)) :=
    fun x c W h => by
      have := lcm_any x (ys ++ xs) (len2 + len1) c W (by simp [z1.out, z2.out]) (by omega) ht h
      rwa [(lcmV_swap xs ys).1, (lcmV_swap xs ys).2] at this
  have C1 : Hid (∀ W, Below w.heap.size w W → Calls Try.prog 9 #[.slice a1 len1 cap1] W (Copied W len1 xs)) := fun W h => ints_any a1 xs len1 cap1 W (hA1.below h)
  have C2 : Hid (∀ W, Below w.heap.size w W → Calls Try.prog 9 #[.slice a2 len2 cap2] W (Copied W len2 ys)) := fun W h => ints_any a2 ys len2 cap2 W (hA2.below h)
  have G1 : Hid (∀ x c W, At W x xs → Calls Try.prog 8 #[.slice x len1 c] W (fun e w' => ∃ n : Nat, e = .returned (.tuple #[.int .i64 (gcdV xs), .bool (gcdB xs)]) ∧ w' = W.drewN n)) := fun x c W h => gcd_any x xs len1 c W z1.out (by omega) hA1.fits h
  have G2 : Hid (∀ x c W, At W x ys → Calls Try.prog 8 #[.slice x len2 c] W (fun e w' => ∃ n : Nat, e = .returned (.tuple #[.int .i64 (gcdV ys), .bool (gcdB ys)]) ∧ w' = W.drewN n)) := fun x c W h => gcd_any x ys len2 c W z2.out (by omega) hA2.fits h
  have L1 : Hid (∀ x c W, At W x xs → Calls Try.prog 11 #[.slice x len1 c] W (fun e w' => ∃ n : Nat, e = .returned (.tuple #[.int .i64 (lcmV xs), .bool (lcmB xs)]) ∧ w' = W.drewN n)) := fun x c W h => lcm_any x xs len1 c W z1.out (by omega) hA1.fits h
  have L2 : Hid (∀ x c W, At W x ys → Calls Try.prog 11 #[.slice x len2 c] W (fun e w' => ∃ n : Nat, e = .returned (.tuple #[.int .i64 (lcmV ys), .bool (lcmB ys)]) ∧ w' = W.drewN n)) := fun x c W h => lcm_any x ys len2 c W z2.out (by omega) hA2.fits h
  have Sb : Hid (∀ x c W, At W x (xs ++ ys) → Calls Try.prog 12 #[.slice x (len1 + len2) c] W (fun e w' => e = .returned (.tuple #[.int .i64 (sumV (xs ++ ys)), .bool (sumB (xs ++ ys))]) ∧ W = w')) :=
    fun x c W h => sum_any x (xs ++ ys) (len1 + len2) c W (by simp [z1.out, z2.out]) (by omega) hb h
  have S1 : Hid (∀ x c W, At W x xs → Calls Try.prog 12 #[.slice x len1 c] W (fun e w' => e = .returned (.tuple #[.int .i64 (sumV xs), .bool (sumB xs)]) ∧ W = w')) := fun x c W h => sum_any x xs len1 c W z1.out (by omega) hA1.fits h
  have Sr : Hid (∀ x c W, At W x (sumV xs :: ys) → Calls Try.prog 12 #[.slice x (1 + len2) c] W (fun e w' => e = .returned (.tuple #[.int .i64 (sumV (sumV xs :: ys)), .bool (sumB (sumV xs :: ys))]) ∧ W = w')) :=
    fun x c W h => sum_any x (sumV xs :: ys) (1 + len2) c W (by simp [z2.out]; omega) (by omega) (inR_append (inR1 (sumV_range xs)) hA2.fits) h
  have GG : Hid (∀ x W, At W x [gcdV xs, gcdV ys] → Calls Try.prog 8 #[.slice x 2 2] W (fun e w' => ∃ n : Nat, e = .returned (.tuple #[.int .i64 (gcdV [gcdV xs, gcdV ys]), .bool (gcdB [gcdV xs, gcdV ys])]) ∧ w' = W.drewN n)) :=
    fun x W h => gcd_any x [gcdV xs, gcdV ys] 2 2 W rfl (by decide) (inR2 ⟨fitV_lo _, fitV_hi _⟩ ⟨fitV_lo _, fitV_hi _⟩) h
  have LL : Hid (∀ x W, At W x [lcmV xs, lcmV ys] → Calls Try.prog 11 #[.slice x 2 2] W (fun e w' => ∃ n : Nat, e = .returned (.tuple #[.int .i64 (lcmV [lcmV xs, lcmV ys]), .bool (lcmB [lcmV xs, lcmV ys])]) ∧ w' = W.drewN n)) :=
    fun x W h => lcm_any x [lcmV xs, lcmV ys] 2 2 W rfl (by decide) (inR2 (by have := (lcm_all xs 0 (by decide)).1; omega) (by have := (lcm_all ys 0 (by decide)).1; omega)) h
  have T2 : Hid (gcdB xs = true → gcdB ys = true → gcdV [gcdV xs, gcdV ys] = gcdV (xs ++ ys) ∧ gcdB [gcdV xs, gcdV ys] = true ∧ gcdB (xs ++ ys) = true) := fun k1 k2 => gcd_two k1 k2
  have U2 : Hid (lcmB xs = true → lcmB ys = true → lcmV [lcmV xs, lcmV ys] = lcmV (xs ++ ys) ∧ lcmB [lcmV xs, lcmV ys] = lcmB (xs ++ ys)) := fun k1 k2 => lcm_two k1 k2
  have V2 : Hid ((sumB xs = true → sumV (sumV xs :: ys) = sumV (xs ++ ys) ∧ sumB (sumV xs :: ys) = sumB (xs ++ ys)) ∧ (sumB xs = false → sumB (xs ++ ys) = false)) := sum_two xs ys
  clear hA1 hA2 hb ht
  generalize hgv : gcdV (xs ++ ys) = gv at *
  generalize hgf : gcdB (xs ++ ys) = gf at *
  generalize hlv : lcmV (xs ++ ys) = lv at *
  generalize hlf : lcmB (xs ++ ys) = lf at *
  clear hgv hgf hlv hlf
  generalize gcdV [gcdV xs, gcdV ys] = gg at *
  generalize gcdB [gcdV xs, gcdV ys] = ggf at *
  generalize lcmV [lcmV xs, lcmV ys] = ll at *
  generalize lcmB [lcmV xs, lcmV ys] = llf at *
  generalize sumV (sumV xs :: ys) = rv at *
  generalize sumB (sumV xs :: ys) = rf at *
  generalize sumV (xs ++ ys) = sv at *
  generalize sumB (xs ++ ys) = sf at *
  generalize gcdV xs = g1 at *
  generalize gcdB xs = f1 at *
  generalize gcdV ys = g2 at *
  generalize gcdB ys = f2 at *
  generalize lcmV xs = l1 at *
  generalize lcmB xs = k1 at *
  generalize lcmV ys = l2 at *
  generalize lcmB ys = k2 at *
  generalize sumB xs = pf at *
  have q1 : (gv != gv) = false := by simp
  have q2 : (gf != gf) = false := by simp
  have q3 : (lv != lv) = false := by simp
  have q4 : (lf != lf) = false := by simp
  have o0 := World.ownsRow_nil w w.heap.size 3 1
  go_enter Try.func5, Try.ntmps5
  go_upto_region 12 with (first
    | (at_builtin; refine append_row _ rfl (.tmp 34) (.tmp 35) 22 rfl w.heap.size i0 Try.underlying22 hi hz0 hz1 hz2 _ 0 [] rfl (World.ownsRow_nil _ _ _ _) a1 len1 cap1 xs rfl z1.out HA1.out.none HA1.out.lies (by omega) (Nat.le_refl _) ?_; intro b1 c1 w1 hown1 hbel1; simp only [Nat.zero_add, List.nil_append] at hown1)
    | (at_builtin; refine append_row _ rfl (.tmp 37) (.tmp 38) 22 rfl w.heap.size i0 Try.underlying22 hi hz0 hz1 hz2 _ len1 xs rfl hown1 a2 len2 cap2 ys rfl z2.out HA2.out.none (HA2.out.lies.below hbel1) (by omega) hbel1.size ?_; intro b2 c2 w2 hown2 hbel2)
    | (at_builtin; refine append_row _ rfl (.tmp 40) (.tmp 41) 22 rfl w2.heap.size i0 Try.underlying22 hi hz0 hz1 hz2 _ 0 [] rfl (World.ownsRow_nil _ _ _ _) a2 len2 cap2 ys rfl z2.out HA2.out.none (HA2.out.lies.below (hbel1.trans hbel2)) (by omega) (Nat.le_refl _) ?_; intro b3 c3 w3 hown3 hbel3; simp only [Nat.zero_add, List.nil_append] at hown3)
    | (at_builtin; refine append_row _ rfl (.tmp 43) (.tmp 44) 22 rfl w2.heap.size i0 Try.underlying22 hi hz0 hz1 hz2 _ len2 ys rfl hown3 a1 len1 cap1 xs rfl z1.out HA1.out.none (HA1.out.lies.below ((hbel1.trans hbel2).trans (hbel3.mono (hbel1.trans hbel2).size))) (by omega) hbel3.size ?_; intro b4 c4 w4 hown4 hbel4; have hB2 := hbel1.trans hbel2; have hB4 := hB2.trans ((hbel3.trans hbel4).mono hB2.size); have hAb := (own_at2 hown2).below (hbel3.trans hbel4); have hAt := own_at2 hown4)
    | (go_at_call 8; (with_reducible refine (Gb.out _ _ _ ?_).mono ?_); exact hAb; rintro e w' ⟨n1, rfl, rfl⟩)
    | (go_at_call 8; (with_reducible refine (Gt.out _ _ _ ?_).mono ?_); exact hAt; rintro e w' ⟨n2, rfl, rfl⟩)
    | (go_at_call 11; (with_reducible refine (Lb.out _ _ _ ?_).mono ?_); exact hAb; rintro e w' ⟨n3, rfl, rfl⟩)
    | (go_at_call 11; (with_reducible refine (Lt.out _ _ _ ?_).mono ?_); exact hAt; rintro e w' ⟨n4, rfl, rfl⟩))
  have hBa : Below w.heap.size w (w4.drewN (n1 + n2 + n3 + n4)) := bdrew hB4 _
  have hAa : At (w4.drewN (n1 + n2 + n3 + n4)) b2 (xs ++ ys) := hAb
  generalize hWa : w4.drewN (n1 + n2 + n3 + n4) = wa at *
  clear hWa hown1 hown2 hown3 hown4 hbel1 hbel2 hbel3 hbel4 hB2 hB4 hAb hAt Gb Gt Lb Lt
  go_upto_region 14 with (first
    | (go_at_call 9; (with_reducible refine (C1.out _ hBa).mono ?_); rintro e w5 ⟨d5, p5, rfl, hat5, hbel5, -⟩; have hB5 := hBa.trans (hbel5.mono hBa.size); have hA5 := hAa.below hbel5)
    | (go_at_call 8; (with_reducible refine (G1.out _ _ _ hat5).mono ?_); rintro e w' ⟨n5, rfl, rfl⟩; have hB6 := bdrew hB5 n5)
    | (go_at_call 9; (with_reducible refine (C2.out _ hB6).mono ?_); rintro e w7 ⟨d7, p7, rfl, hat7, hbel7, -⟩; have hB7 := hB6.trans (hbel7.mono hB6.size); have hA7 := (hA5.below (bdrew (Below.refl _ _) n5)).below hbel7)
    | (go_at_call 8; (with_reducible refine (G2.out _ _ _ hat7).mono ?_); rintro e w' ⟨n7, rfl, rfl⟩))
  have hBb : Below w.heap.size w (w7.drewN n7) := bdrew hB7 n7
  have hAb : At (w7.drewN n7) b2 (xs ++ ys) := hA7
  generalize hWb : w7.drewN n7 = wb at *
  clear hWb hB5 hA5 hB6 hB7 hA7 hbel5 hbel7 hat5 hat7 G1 G2 hBa hAa
  go_cut [99] (fun s99 wx => wb = wx ∧ s99 = .bool (f1 && f2))
  case first =>
    cases f1
    all_goals
      go_wp2_with fail
      go_meet
      exact ⟨rfl, by simp⟩
  case rest =>
    obtain ⟨rfl, rfl⟩ := hcut
    obtain ⟨c, hc⟩ : ∃ c, (f1 && f2) = c := ⟨_, rfl⟩
    rw [hc]
    have HCc : Hid ((f1 && f2) = c) := hc
    clear hc
    go_upto_if 99 with fail
    go_cut [19, 20] (fun _ _ wx => Below w.heap.size w wx ∧ At wx b2 (xs ++ ys))
    case first =>
      cases c
      · go_wp2_with fail
        go_meet
        exact ⟨hBb, hAb⟩
      · obtain ⟨t1, t2, t3⟩ := T2.out (Bool.and_eq_true_iff.1 HCc.out).1 (Bool.and_eq_true_iff.1 HCc.out).2
        subst t1 t2 t3
        go_wp2_with (go_at_call 8; (with_reducible refine (GG.out _ _ (at2n ?_)).mono ?_); (simp); rintro e w' ⟨n8, rfl, rfl⟩)
        go_meet
        exact ⟨bdrew (hBb.alloc hBb.size _) n8, hAb.below (bdrew ((Below.refl _ _).alloc (Nat.le_refl _) _) n8)⟩
    case rest =>
      obtain ⟨hBc, hAc⟩ := hcut
      clear hBb hAb T2 GG HCc
      go_upto_region 20 with (first
        | (go_at_call 9; (with_reducible refine (C1.out _ hBc).mono ?_); rintro e w5 ⟨d5, p5, rfl, hat5, hbel5, -⟩; have hB5 := hBc.trans (hbel5.mono hBc.size); have hA5 := hAc.below hbel5)
        | (go_at_call 11; (with_reducible refine (L1.out _ _ _ hat5).mono ?_); rintro e w' ⟨n5, rfl, rfl⟩; have hB6 := bdrew hB5 n5)
        | (go_at_call 9; (with_reducible refine (C2.out _ hB6).mono ?_); rintro e w7 ⟨d7, p7, rfl, hat7, hbel7, -⟩; have hB7 := hB6.trans (hbel7.mono hB6.size); have hA7 := (hA5.below (bdrew (Below.refl _ _) n5)).below hbel7)
        | (go_at_call 11; (with_reducible refine (L2.out _ _ _ hat7).mono ?_); rintro e w' ⟨n7, rfl, rfl⟩))
      have hBd : Below w.heap.size w (w7.drewN n7) := bdrew hB7 n7
      have hAd : At (w7.drewN n7) b2 (xs ++ ys) := hA7
      generalize hWd : w7.drewN n7 = wd at *
      clear hWd hB5 hA5 hB6 hB7 hA7 hbel5 hbel7 hat5 hat7 L1 L2 hBc hAc
      go_cut [133] (fun s133 wx => wd = wx ∧ s133 = .bool (k1 && k2))
      case first =>
        cases k1
        all_goals
          go_wp2_with fail
          go_meet
          exact ⟨rfl, by simp⟩
      case rest =>
        obtain ⟨rfl, rfl⟩ := hcut
        obtain ⟨c, hc⟩ : ∃ c, (k1 && k2) = c := ⟨_, rfl⟩
        rw [hc]
        have HCc : Hid ((k1 && k2) = c) := hc
        clear hc
        go_upto_if 133 with fail
        go_cut [25, 26] (fun _ _ wx => Below w.heap.size w wx ∧ At wx b2 (xs ++ ys))
        case first =>
          cases c
          · go_wp2_with fail
            go_meet
            exact ⟨hBd, hAd⟩
          · obtain ⟨t1, t2⟩ := U2.out (Bool.and_eq_true_iff.1 HCc.out).1 (Bool.and_eq_true_iff.1 HCc.out).2
            subst t1 t2
            go_wp2_with (go_at_call 11; (with_reducible refine (LL.out _ _ (at2n ?_)).mono ?_); (simp); rintro e w' ⟨n8, rfl, rfl⟩)
            go_meet
            exact ⟨bdrew (hBd.alloc hBd.size _) n8, hAd.below (bdrew ((Below.refl _ _).alloc (Nat.le_refl _) _) n8)⟩
        case rest =>
          obtain ⟨hBe, hAe⟩ := hcut
          clear hBd hAd U2 LL HCc q1 q2 q3 q4
          have fin : ∀ (W : World) e W', Below w.heap.size w W → (e = Ending.returned (.bool true) ∧ Below W.heap.size W W') → e = Ending.returned (.bool true) ∧ Below w.heap.size w W' := fun W e W' h1 h2 => ⟨h2.1, h1.trans (h2.2.mono h1.size)⟩
          have srange := sumV_range xs
          have hV2 := V2.out
          clear V2
          generalize sumV xs = pv at *
          cases pf
          · have e2 := hV2.2 rfl
            subst e2
            clear hV2
            go_wp2_with (first
              | (go_at_call 12; (with_reducible refine (Sb.out _ _ _ hAe).mono ?_); rintro e w' ⟨rfl, rfl⟩)
              | (go_at_call 9; (with_reducible refine (C1.out _ hBe).mono ?_); rintro e w5 ⟨d5, p5, rfl, hat5, hbel5, -⟩; have hB5 := hBe.trans (hbel5.mono hBe.size))
              | (go_at_call 12; (with_reducible refine (S1.out _ _ _ hat5).mono ?_); rintro e w' ⟨rfl, rfl⟩)
              | (at_builtin; refine append_row _ rfl (.tmp 165) (.tmp 167) 22 rfl w5.heap.size i0 Try.underlying22 hi hz0 hz1 hz2 _ 0 [] rfl (World.ownsRow_nil _ _ _ _) (some ⟨w5.heap.size, 0, none⟩) 1 1 [pv] rfl rfl (fun e => by cases e) (at1n rfl) (by omega) (by simp) ?_; intro d6 p6 w6 hown6 hbel6; have hC6 := ((Below.refl w5.heap.size w5).alloc (Nat.le_refl _) _).trans hbel6; have hB6 := hB5.trans (hC6.mono hB5.size); simp only [Nat.zero_add, List.nil_append] at hown6)
              | (at_builtin; refine append_row _ rfl (.tmp 169) (.tmp 170) 22 rfl w5.heap.size i0 Try.underlying22 hi hz0 hz1 hz2 _ 1 [pv] rfl hown6 a2 len2 cap2 ys rfl z2.out HA2.out.none (HA2.out.lies.below hB6) (by omega) hC6.size ?_; intro d7 p7 w7 hown7 hbel7; have hB7 := hB6.trans (hbel7.mono hB5.size))
              | (go_at_call 12; (with_reducible refine (Sr.out _ _ _ (own_at2 hown7)).mono ?_); rintro e w' ⟨rfl, rfl⟩)
              | (go_at_call 10; refine (awake_any _).mono ?_; rintro e w8 ⟨rfl, hb8⟩))
            go_ret
            exact fin w7 _ _ hB7 ⟨rfl, hb8⟩
          · obtain ⟨e1, e2⟩ := hV2.1 rfl
            subst e1 e2
            clear hV2
            have q1 : (rv == rv) = true := by simp
            have q2 : (rf == rf) = true := by simp
            cases rf
            all_goals
              go_wp2_with (first
                | (go_at_call 12; (with_reducible refine (Sb.out _ _ _ hAe).mono ?_); rintro e w' ⟨rfl, rfl⟩)
                | (go_at_call 9; (with_reducible refine (C1.out _ hBe).mono ?_); rintro e w5 ⟨d5, p5, rfl, hat5, hbel5, -⟩; have hB5 := hBe.trans (hbel5.mono hBe.size))
                | (go_at_call 12; (with_reducible refine (S1.out _ _ _ hat5).mono ?_); rintro e w' ⟨rfl, rfl⟩)
                | (at_builtin; refine append_row _ rfl (.tmp 165) (.tmp 167) 22 rfl w5.heap.size i0 Try.underlying22 hi hz0 hz1 hz2 _ 0 [] rfl (World.ownsRow_nil _ _ _ _) (some ⟨w5.heap.size, 0, none⟩) 1 1 [pv] rfl rfl (fun e => by cases e) (at1n rfl) (by omega) (by simp) ?_; intro d6 p6 w6 hown6 hbel6; have hC6 := ((Below.refl w5.heap.size w5).alloc (Nat.le_refl _) _).trans hbel6; have hB6 := hB5.trans (hC6.mono hB5.size); simp only [Nat.zero_add, List.nil_append] at hown6)
                | (at_builtin; refine append_row _ rfl (.tmp 169) (.tmp 170) 22 rfl w5.heap.size i0 Try.underlying22 hi hz0 hz1 hz2 _ 1 [pv] rfl hown6 a2 len2 cap2 ys rfl z2.out HA2.out.none (HA2.out.lies.below hB6) (by omega) hC6.size ?_; intro d7 p7 w7 hown7 hbel7; have hB7 := hB6.trans (hbel7.mono hB5.size))
                | (go_at_call 12; (with_reducible refine (Sr.out _ _ _ (own_at2 hown7)).mono ?_); rintro e w' ⟨rfl, rfl⟩)
                | (go_at_call 10; refine (awake_any _).mono ?_; rintro e w8 ⟨rfl, hb8⟩))
              go_ret
              exact fin w7 _ _ hB7 ⟨rfl, hb8⟩
end Go.Proofs.Ytpaemaenefjajab

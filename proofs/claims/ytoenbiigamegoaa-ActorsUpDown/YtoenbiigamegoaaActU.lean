/- The walk through the statement ActorsUpDown. -/
import Derived.Test.YtoenbiigamegoaaActW
import Derived.Test.YtoenbiigamegoaaActB2
import Derived.Test.YtoenbiigamegoaaActB3
namespace Go.Proofs.Ytoenbiigamegoaa
open Go.ChangeShapes Go.WideShapes Go.ChangeAt Go.RowKit

theorem new_later {V W : World} {t : Nat} {zs : List Int} {e : Ending} {w' : World} (h : NewEnd W t zs e w') (hb : Below V.heap.size V W) : NewEnd V t zs e w' := by
  rcases h with ⟨h0, h1, h2, B, K, F, he, hB, hF, b⟩ | ⟨h0, he, b⟩
  · exact .inl ⟨h0, h1, h2, B, K, F, he, hB, fun k hk => Nat.le_trans hb.size (hF k hk), hb.trans (b.mono hb.size)⟩
  · exact .inr ⟨h0, he, hb.trans (b.mono hb.size)⟩
theorem new_one (t : Nat) (x : Int) (V : World) (ht : t ≤ 255) (hx : -9223372036854775808 ≤ x ∧ x ≤ 9223372036854775807) : Calls Try.prog 8 #[.int .u8 (t : Int), .slice (some ⟨V.heap.size, 0, none⟩) 1 1] (V.alloc (.cells #[.int .i64 x] 3)) (NewEnd V t [x]) :=
  (new_any t _ [x] 1 1 _ ht rfl (inR_one hx) (fun e => by cases e) (at1n V x 3)).mono fun _ _ h => new_later h ((Below.refl _ _).alloc (Nat.le_refl _) _)
/-- No actor: the parameters may not be. -/
def Refused (w : World) (f : Int) (e : Ending) (w' : World) : Prop := e = .returned (.tuple #[.pointer none, .int .i64 f]) ∧ Below w.heap.size w w'
theorem refused_of {w : World} {t : Nat} {zs : List Int} {f : Int} {e : Ending} {w' : World} (h : NewEnd w t zs e w') (h0 : (ofS t zs).2.2 = f) (hf : f ≠ 0) : Refused w f e w' := by
  subst h0
  rcases h with ⟨h, -⟩ | ⟨-, h⟩
  · exact absurd h hf
  · exact h
theorem of_one_yes {t : Nat} {x m : Int} (ht : 1 ≤ t ∧ t ≤ 11) (hk : okS t [x] = (decide (([x] : List Int).length = 1) && wB (nth [x] 0) m)) (h : 1 ≤ x ∧ x ≤ m) : (ofS t [x]).2.2 = 0 := by
  have h1 : okS t [x] = true := by
    rw [hk]; unfold wB; show (decide (1 = 1) && (decide (1 ≤ x) && decide (x ≤ m))) = true
    rw [decide_eq_true h.1, decide_eq_true h.2]; rfl
  unfold ofS
  rw [if_pos ht, if_pos h1]
theorem of_one_no {t : Nat} {x m : Int} (ht : 1 ≤ t ∧ t ≤ 11) (hk : okS t [x] = (decide (([x] : List Int).length = 1) && wB (nth [x] 0) m)) (h : ¬ (1 ≤ x ∧ x ≤ m)) : (ofS t [x]).2.2 = 61 := by
  have h1 : ¬ okS t [x] = true := by
    rw [hk]; unfold wB; show ¬ (decide (1 = 1) && (decide (1 ≤ x) && decide (x ≤ m))) = true
    intro h2
    rw [Bool.and_eq_true, Bool.and_eq_true, decide_eq_true_iff, decide_eq_true_iff] at h2
    exact h ⟨h2.2.1, of_decide_eq_true h2.2.2⟩
  unfold ofS
  rw [if_pos ht, if_neg h1]
/-- Two actors that share nothing. -/
structure Duo (L : Nat) (F G : Nat → Prop) (w : World) (B1 K1 t1 : Nat) (z1 k1 : List Int) (n1 B2 K2 t2 : Nat) (z2 k2 : List Int) (n2 : Nat) : Prop where
  one : Bod F w B1 K1 t1 z1 k1 n1
  two : Bod G w B2 K2 t2 z2 k2 n2
  s1 : ∀ k, F k → k ≠ K2
  s2 : ∀ k, G k → k ≠ K1
  l1 : L ≤ K1
  l2 : L ≤ K2
theorem Duo.below {L : Nat} {F G : Nat → Prop} {w w' : World} {B1 K1 t1 : Nat} {z1 k1 : List Int} {n1 B2 K2 t2 : Nat} {z2 k2 : List Int} {n2 : Nat} (h : Duo L F G w B1 K1 t1 z1 k1 n1 B2 K2 t2 z2 k2 n2) (hb : Below w.heap.size w w') : Duo L F G w' B1 K1 t1 z1 k1 n1 B2 K2 t2 z2 k2 n2 := ⟨h.one.below hb, h.two.below hb, h.s1, h.s2, h.l1, h.l2⟩
theorem Duo.fire1 {L : Nat} {F F' G : Nat → Prop} {w w' : World} {B1 K1 t1 : Nat} {z1 k1 k1' : List Int} {n1 n1' B2 K2 t2 : Nat} {z2 k2 : List Int} {n2 : Nat} (h : Duo L F G w B1 K1 t1 z1 k1 n1 B2 K2 t2 z2 k2 n2) (h1 : Bod F' w' B1 K1 t1 z1 k1' n1') (hF : ∀ k, F' k → F k ∨ w.heap.size ≤ k) (hb : But K1 w w') : Duo L F' G w' B1 K1 t1 z1 k1' n1' B2 K2 t2 z2 k2 n2 := by
  have m2 := h.two.kin.mem
  refine ⟨h1, h.two.keeps fun k hk => hb.block k (m2.2 k hk) (h.s2 k hk), fun k hk => ?_, h.s2, h.l1, h.l2⟩
  rcases hF k hk with h3 | h3
  · exact h.s1 k h3
  · have := m2.2 K2 m2.1; omega
theorem Duo.swap {L : Nat} {F G : Nat → Prop} {w : World} {B1 K1 t1 : Nat} {z1 k1 : List Int} {n1 B2 K2 t2 : Nat} {z2 k2 : List Int} {n2 : Nat} (h : Duo L F G w B1 K1 t1 z1 k1 n1 B2 K2 t2 z2 k2 n2) : Duo L G F w B2 K2 t2 z2 k2 n2 B1 K1 t1 z1 k1 n1 := ⟨h.two, h.one, h.s2, h.s1, h.l2, h.l1⟩
theorem duo_start {w w1 w2 : World} {F G : Nat → Prop} {B1 K1 t1 : Nat} {z1 k1 : List Int} {n1 B2 K2 t2 : Nat} {z2 k2 : List Int} {n2 : Nat} (h1 : Bod F w1 B1 K1 t1 z1 k1 n1) (hF : ∀ k, F k → w.heap.size ≤ k) (h2 : Bod G w2 B2 K2 t2 z2 k2 n2) (hG : ∀ k, G k → w1.heap.size ≤ k) (hb : Below w1.heap.size w1 w2) : Duo w.heap.size F G w2 B1 K1 t1 z1 k1 n1 B2 K2 t2 z2 k2 n2 := by
  have m1 := h1.kin.mem
  have m2 := h2.kin.mem
  have g2 := hG K2 m2.1
  have g1 := m1.2 K1 m1.1
  refine ⟨h1.below hb, h2, fun k hk => ?_, fun k hk => ?_, hF K1 m1.1, ?_⟩
  · have := m1.2 k hk; omega
  · have := hG k hk; omega
  · have := hF K1 m1.1; omega
theorem fire_up {n : Int} {N : Nat} (hN : n = (N : Int)) {x : Int} (h : takesS 2 [n] [[x]] = true) : fireS 2 [n] [] [[x]] = (0, [upS N x], []) := by
  unfold fireS
  rw [if_pos h]
  subst hN
  rfl
theorem fire_down {n : Int} {N : Nat} (hN : n = (N : Int)) {L : List Int} (hL : L.length = N) : fireS 3 [n] [] [L] = (0, [[nth L 0]], []) := by
  have h : takesS 3 [n] [L] = true := by
    refine decide_eq_true ?_
    show [(L.length : Int)] = [n]
    rw [hL, hN]
  unfold fireS
  rw [if_pos h]
  rfl
theorem inR_up {N : Nat} {x : Int} (hx : -9223372036854775808 ≤ x ∧ x ≤ 9223372036854775807) : InR (upS N x) := fun k => by
  by_cases h : k < N
  · by_cases h0 : k = 0
    · subst h0; rw [up_first (by omega)]; exact hx
    · rw [up_rest (by omega) h]; decide
  · rw [nth_none (by rw [up_len]; omega)]; decide
set_option maxRecDepth 100000 in
set_option maxHeartbeats 4000000 in
theorem actorsUpDown_walk (n : Int) (a : Option Addr) (len cap : Nat) (xs : List Int) (w : World) (hn : -9223372036854775808 ≤ n ∧ n ≤ 9223372036854775807) (hA : Arg w a len cap xs) : Calls Try.prog 5 #[.int .i64 n, .slice a len cap] w fun e w' => e = .returned (.bool true) ∧ Below w.heap.size w w' := by
  by_cases hb : 1 ≤ n ∧ n ≤ 64
  · have N2 : Hid (∀ V, Calls Try.prog 8 #[.int .u8 2, .slice (some ⟨V.heap.size, 0, none⟩) 1 1] (V.alloc (.cells #[.int .i64 n] 3)) (Fresh V 2 [n] [])) := fun V => (new_one 2 n V (by decide) hn).mono fun _ _ h => fresh_of h (of_one_yes (m := 64) (by decide) rfl hb) rfl
    have N3 : Hid (∀ V, Calls Try.prog 8 #[.int .u8 3, .slice (some ⟨V.heap.size, 0, none⟩) 1 1] (V.alloc (.cells #[.int .i64 n] 3)) (Fresh V 3 [n] [])) := fun V => (new_one 3 n V (by decide) hn).mono fun _ _ h => fresh_of h (of_one_yes (m := 64) (by decide) rfl hb) rfl
    obtain ⟨N, hN⟩ : ∃ N : Nat, n = (N : Int) := ⟨n.toNat, by omega⟩
    have F2 : Hid (∀ F V B K k x, Bod F V B K 2 [n] [] k → (-9223372036854775808 ≤ x ∧ x ≤ 9223372036854775807) → k < 4611686018427387904 → Calls Try.prog 15 #[.pointer (some ⟨B, 0, none⟩), .slice (some ⟨V.heap.size + 1, 0, none⟩) 1 1] ((V.alloc (.cells #[.int .i64 x] 3)).alloc (.cells #[.slice (some ⟨V.heap.size, 0, none⟩) 1 1] 22)) (OneR F V B K 2 [n] [] (k + 1) (upS N x))) := fun F V B K k x h hx hk =>
      (bfire_2 F _ B K [n] [] k _ 1 1 [[x]] (h.below (below_two V _ _)) (arg_one V x hx) hk).mono fun _ _ h => one_of h (fire_up hN rfl) (below_two V _ _)
    have F3 : Hid (∀ F V B K k x r c, Bod F V B K 3 [n] [] k → (-9223372036854775808 ≤ x ∧ x ≤ 9223372036854775807) → At V r (upS N x) → k < 4611686018427387904 → Calls Try.prog 15 #[.pointer (some ⟨B, 0, none⟩), .slice (some ⟨V.heap.size, 0, none⟩) 1 1] (V.alloc (.cells #[.slice r N c] 22)) (OneR F V B K 3 [n] [] (k + 1) [x])) := fun F V B K k x r c h hx hr hk => by
      have hb2 := (Below.refl V.heap.size V).alloc (Nat.le_refl _) (.cells #[.slice r N c] 22)
      have h1 := arg_tab V r c (upS N x) hr (inR_up hx)
      rw [up_len] at h1
      refine (bfire_3 F _ B K [n] [] k _ 1 1 [upS N x] (h.below hb2) h1 hk).mono fun _ _ h => one_of h ?_ hb2
      rw [fire_down hN (up_len N x), up_first (by omega)]
    have D2 : Hid (∀ F V B K k, Bod F V B K 2 [n] [] k → Calls Try.prog 18 #[.pointer (some ⟨B, 0, none⟩)] V fun e w' => e = .returned (.int .i64 (k : Int)) ∧ w' = V) := fun F V B K k h => bfired_2 F V B K [n] [] k h
    have D3 : Hid (∀ F V B K k, Bod F V B K 3 [n] [] k → Calls Try.prog 18 #[.pointer (some ⟨B, 0, none⟩)] V fun e w' => e = .returned (.int .i64 (k : Int)) ∧ w' = V) := fun F V B K k h => bfired_3 F V B K [n] [] k h
    have HA := hidden6 hA
    have hl := hA.reach
    have hN1 : 1 ≤ N ∧ N ≤ 64 := by omega
    subst hN
    clear hA hn hb
    have u1 : (1 : Int) ≤ (N : Int) := by omega
    have u2 : (N : Int) ≤ 64 := by omega
    have q1 : ((N : Int) != (N : Int)) = false := by simp
    have q2 : ((len : Int) == (len : Int)) = true := by simp
    go_enter Try.func5, Try.ntmps5
    go_wp2_with (first
      | (go_at_call 8; (with_reducible refine (N3.out w1).mono ?_); rintro e w2 ⟨B2, K2, G, rfl, h2, hG, b2⟩)
      | (go_at_call 8; (with_reducible refine (N2.out w).mono ?_); rintro e w1 ⟨B1, K1, F, rfl, h1, hF, b1⟩))
    have ST := hidden6 (duo_start h1 hF h2 hG b2)
    have BB := hidden6 (b1.trans (b2.mono b1.size))
    clear h1 hF h2 hG b1 b2 N2 N3
    go_loopg [9] len (fun gk v wr => ∃ (k : Nat) (F G : Nat → Prop), k ≤ len ∧ gk = len - k ∧ v = .int .i64 (k : Int) ∧ Duo w.heap.size F G wr B1 K1 2 [(N : Int)] [] k B2 K2 3 [(N : Int)] [] k ∧ Below w.heap.size w wr)
    case atStart => exact ⟨0, _, _, Nat.zero_le _, rfl, rfl, ST.out, BB.out⟩
    case round =>
      clear ST BB
      obtain ⟨k, F, G, hk, rfl, rfl, hD, hB⟩ := hrel
      have HD := hidden6 hD
      have HB := hidden6 hB
      clear hD hB
      by_cases hlt : k < len
      · have hki : (k : Int) < (len : Int) := by omega
        rcases HA.out.lies with h0 | ⟨b, off, rfl, hc⟩
        · have := HA.out.size; rw [h0] at this; simp at this; omega
        have hx := HA.out.fits k
        have hck := hc k (by have := HA.out.size; omega)
        have cx := cell_keep6 HB.out hck
        clear hc
        generalize nth xs k = x at *
        go_wp2_with (go_at_call 15; (with_reducible refine (F2.out F wr B1 K1 k x HD.out.one hx (by omega)).mono ?_); rintro e w1 ⟨g, c, r, c2, F', rfl, hg, hr, hB1, hF1, b1⟩; rw [up_len] at hg; have D1 := hidden6 (HD.out.fire1 hB1 hF1 b1); have BB1 := hidden6 (but_below b1 HB.out HD.out.l1))
        rcases hr with h0 | ⟨rb, ro, rfl, hrc⟩
        · have := congrArg List.length h0; rw [up_len] at this; simp at this; omega
        have HR := hidden6 (show At w1 (some ⟨rb, ro, none⟩) (upS N x) from Or.inr ⟨rb, ro, rfl, hrc⟩)
        have HC : Hid (∀ j, 1 ≤ j → j < N → w1.cell? ⟨rb, ro + j, none⟩ = some (.int .i64 0)) := fun j h1 h2 => by rw [hrc j (by rw [up_len]; exact h2), up_rest h1 h2]
        clear hrc
        go_loop [12] (fun v => ∃ j : Nat, 1 ≤ j ∧ j ≤ N ∧ v = .int .i64 (j : Int)) (fun v => N - (intOf v).toNat)
        case atStart => exact ⟨1, Nat.le_refl _, hN1.1, rfl⟩
        case round =>
          obtain ⟨j, hj1, hj2, rfl⟩ := hrel
          by_cases hjl : j < N
          · have hji : (j : Int) < (N : Int) := by omega
            have cj := HC.out j hj1 hjl
            go_wp2
            go_round
            case rel => exact ⟨j + 1, by omega, by omega, by go_num⟩
            case measure => simp [intOf]; omega
          · have hji : ¬ (j : Int) < (N : Int) := by omega
            have ax := HA.out.below BB1.out
            have cx1 := cell_keep6 BB1.out hck
            have q3 : (x != x) = false := by simp
            clear ax
            go_wp2_with (go_at_call 15; (with_reducible refine (F3.out G w1 B2 K2 k x (some ⟨rb, ro, none⟩) c2 D1.out.two hx HR.out (by omega)).mono ?_); rintro e w2 ⟨g2, d, s, d2, G', rfl, hg2, hs, hB2, hG2, b2⟩; have D2' := hidden6 (D1.out.swap.fire1 hB2 hG2 b2).swap; have BB2 := hidden6 (but_below b2 BB1.out D1.out.l2); have cx2 := cell_keep6 BB2.out hck)
            obtain ⟨sb, so, rfl, cs⟩ := at_first hs
            clear hs
            go_quiet (fail)
            go_wp2
            go_roundg (len - (k + 1))
            case measure => omega
            case rel => exact ⟨k + 1, _, _, by omega, rfl, by go_num, D2'.out.below (bdrew (Below.refl _ _) nq), bdrew BB2.out nq⟩
      · have ek : k = len := by omega
        subst ek
        have hki : ¬ (k : Int) < (k : Int) := by omega
        go_wp2_with (first
          | (go_at_call 11; (with_reducible refine (awake7 _).mono ?_); rintro e w6 ⟨rfl, b6⟩)
          | (go_at_call 18; (with_reducible refine (D2.out F _ B1 K1 k HD.out.one).mono ?_); rintro e v ⟨rfl, hv⟩; rw [hv]; clear hv)
          | (go_at_call 18; (with_reducible refine (D3.out G _ B2 K2 k HD.out.two).mono ?_); rintro e v ⟨rfl, hv⟩; rw [hv]; clear hv))
        go_ret
        exact ⟨rfl, HB.out.trans (b6.mono HB.out.size)⟩
  · have N2 : Hid (∀ V, Calls Try.prog 8 #[.int .u8 2, .slice (some ⟨V.heap.size, 0, none⟩) 1 1] (V.alloc (.cells #[.int .i64 n] 3)) (Refused V 61)) := fun V => (new_one 2 n V (by decide) hn).mono fun _ _ h => refused_of h (of_one_no (m := 64) (by decide) rfl hb) (by decide)
    have N3 : Hid (∀ V, Calls Try.prog 8 #[.int .u8 3, .slice (some ⟨V.heap.size, 0, none⟩) 1 1] (V.alloc (.cells #[.int .i64 n] 3)) (Refused V 61)) := fun V => (new_one 3 n V (by decide) hn).mono fun _ _ h => refused_of h (of_one_no (m := 64) (by decide) rfl hb) (by decide)
    clear hA
    by_cases h1 : n < 1
    · go_enter Try.func5, Try.ntmps5
      go_wp2_with (first
        | (go_at_call 11; (with_reducible refine (awake7 _).mono ?_); rintro e w6 ⟨rfl, b6⟩)
        | (go_at_call 8; (with_reducible refine (N3.out w1).mono ?_); rintro e w2 ⟨rfl, b2⟩)
        | (go_at_call 8; (with_reducible refine (N2.out w).mono ?_); rintro e w1 ⟨rfl, b1⟩))
      go_ret
      have q2 := b1.trans (b2.mono b1.size)
      exact ⟨rfl, q2.trans (b6.mono q2.size)⟩
    · have h2 : n > 64 := by omega
      go_enter Try.func5, Try.ntmps5
      go_wp2_with (first
        | (go_at_call 11; (with_reducible refine (awake7 _).mono ?_); rintro e w6 ⟨rfl, b6⟩)
        | (go_at_call 8; (with_reducible refine (N3.out w1).mono ?_); rintro e w2 ⟨rfl, b2⟩)
        | (go_at_call 8; (with_reducible refine (N2.out w).mono ?_); rintro e w1 ⟨rfl, b1⟩))
      go_ret
      have q2 := b1.trans (b2.mono b1.size)
      exact ⟨rfl, q2.trans (b6.mono q2.size)⟩
end Go.Proofs.Ytoenbiigamegoaa

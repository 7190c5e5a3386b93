/- The document's product (pianolaref07.Times); the walk through the statement ActorsCopies. -/
import Derived.Test.YtoenbiigamegoabActD
import Derived.Test.YtoenbiigamegoabActB6
import Derived.Test.YtoenbiigamegoabActB9
namespace Go.Proofs.Ytoenbiigamegoab
open Go.ChangeShapes Go.WideShapes Go.ChangeAt Go.RowKit

theorem times7_any (a b : Int) (w : World) (ha : -9223372036854775808 ≤ a ∧ a ≤ 9223372036854775807) (hb : -9223372036854775808 ≤ b ∧ b ≤ 9223372036854775807) :
    Calls Try.prog 11 #[.int .i64 a, .int .i64 b] w fun e w' => e = .returned (.tuple #[.int .i64 (fitV (a * b)), .bool (fitB (a * b))]) ∧ w' = w := by
  by_cases g0 : a = 0
  · subst g0
    have hv : fitV (0 * b) = 0 := by rw [Int.zero_mul]; decide
    have ht : fitB (0 * b) = true := by rw [Int.zero_mul]; decide
    rw [hv, ht]
    go_enter Try.func11, Try.ntmps11
    go_wp2
    go_ret2
    exact ⟨rfl, rfl⟩
  have ha0 : (a == 0) = false := by simpa using g0
  by_cases h0 : b = 0
  · subst h0
    have hv : fitV (a * 0) = 0 := by rw [Int.mul_zero]; decide
    have ht : fitB (a * 0) = true := by rw [Int.mul_zero]; decide
    rw [hv, ht]
    go_enter Try.func11, Try.ntmps11
    go_wp2
    go_ret2
    exact ⟨rfl, rfl⟩
  have hb0 : (b == 0) = false := by simpa using h0
  by_cases g1 : a = -1 ∧ b = -9223372036854775808
  · obtain ⟨rfl, rfl⟩ := g1
    go_enter Try.func11, Try.ntmps11
    go_wp2
    go_ret2
    exact ⟨rfl, rfl⟩
  by_cases g2 : b = -1 ∧ a = -9223372036854775808
  · obtain ⟨rfl, rfl⟩ := g2
    go_enter Try.func11, Try.ntmps11
    go_wp2
    go_ret2
    exact ⟨rfl, rfl⟩
  have K : (-9223372036854775808 ≤ a * b ∧ a * b ≤ 9223372036854775807 ∧ wrap64 (a * b) = a * b ∧ wrap64 ((a * b).tdiv b) = a) ∨ (¬ (-9223372036854775808 ≤ a * b ∧ a * b ≤ 9223372036854775807) ∧ (wrap64 ((wrap64 (a * b)).tdiv b) != a) = true) := by
    by_cases h : -9223372036854775808 ≤ a * b ∧ a * b ≤ 9223372036854775807
    · exact .inl ⟨h.1, h.2, back_yes h0 ha h⟩
    · by_cases h1 : b = -1
      · subst h1
        exact absurd (by omega) h
      · exact .inr ⟨h, by simpa using back_no h0 hb h h1 ha⟩
  rcases K with ⟨k1, k2, k3, k4⟩ | ⟨h, hk⟩
  · rw [fitV_yes ⟨k1, k2⟩, fitB_yes ⟨k1, k2⟩]
    have hk : (a != a) = false := by simp
    by_cases e1 : a = -1
    · have e2 : (b == -9223372036854775808) = false := by have : b ≠ -9223372036854775808 := fun e => g1 ⟨e1, e⟩; simpa using this
      have e3 : (a == -1) = true := by simpa using e1
      by_cases e4 : b = -1
      · have e5 : (b == -1) = true := by simpa using e4
        have e6 : (a == -9223372036854775808) = false := by have : a ≠ -9223372036854775808 := fun e => g2 ⟨e4, e⟩; simpa using this
        clear e1 e4 g1 g2
        go_enter Try.func11, Try.ntmps11
        go_wp2
        go_ret2
        exact ⟨rfl, rfl⟩
      · have e5 : (b == -1) = false := by simpa using e4
        clear e1 e4 g1 g2
        go_enter Try.func11, Try.ntmps11
        go_wp2
        go_ret2
        exact ⟨rfl, rfl⟩
    · have e3 : (a == -1) = false := by simpa using e1
      by_cases e4 : b = -1
      · have e5 : (b == -1) = true := by simpa using e4
        have e6 : (a == -9223372036854775808) = false := by have : a ≠ -9223372036854775808 := fun e => g2 ⟨e4, e⟩; simpa using this
        clear e1 e4 g1 g2
        go_enter Try.func11, Try.ntmps11
        go_wp2
        go_ret2
        exact ⟨rfl, rfl⟩
      · have e5 : (b == -1) = false := by simpa using e4
        clear e1 e4 g1 g2
        go_enter Try.func11, Try.ntmps11
        go_wp2
        go_ret2
        exact ⟨rfl, rfl⟩
  · rw [fitV_no h, fitB_no h]
    clear h
    by_cases e1 : a = -1
    · have e2 : (b == -9223372036854775808) = false := by have : b ≠ -9223372036854775808 := fun e => g1 ⟨e1, e⟩; simpa using this
      have e3 : (a == -1) = true := by simpa using e1
      by_cases e4 : b = -1
      · have e5 : (b == -1) = true := by simpa using e4
        have e6 : (a == -9223372036854775808) = false := by have : a ≠ -9223372036854775808 := fun e => g2 ⟨e4, e⟩; simpa using this
        clear e1 e4 g1 g2
        go_enter Try.func11, Try.ntmps11
        go_wp2
        go_ret2
        exact ⟨rfl, rfl⟩
      · have e5 : (b == -1) = false := by simpa using e4
        clear e1 e4 g1 g2
        go_enter Try.func11, Try.ntmps11
        go_wp2
        go_ret2
        exact ⟨rfl, rfl⟩
    · have e3 : (a == -1) = false := by simpa using e1
      by_cases e4 : b = -1
      · have e5 : (b == -1) = true := by simpa using e4
        have e6 : (a == -9223372036854775808) = false := by have : a ≠ -9223372036854775808 := fun e => g2 ⟨e4, e⟩; simpa using this
        clear e1 e4 g1 g2
        go_enter Try.func11, Try.ntmps11
        go_wp2
        go_ret2
        exact ⟨rfl, rfl⟩
      · have e5 : (b == -1) = false := by simpa using e4
        clear e1 e4 g1 g2
        go_enter Try.func11, Try.ntmps11
        go_wp2
        go_ret2
        exact ⟨rfl, rfl⟩
/-- A firing that gives these rows. -/
def ManyR (F : Nat → Prop) (V : World) (B K t : Nat) (zs ks : List Int) (m : Nat) (O : List (List Int)) (e : Ending) (w' : World) : Prop :=
  ∃ x c A C F', e = .returned (.tuple #[.slice x O.length c, .int .i64 0]) ∧ OutT V.heap.size w' A C x O ∧ Bod F' w' B K t zs ks m ∧ (∀ k, F' k → F k ∨ V.heap.size ≤ k) ∧ But K V w'
theorem many_of {F : Nat → Prop} {V W : World} {B K t : Nat} {zs ks ks' : List Int} {n : Nat} {I O : List (List Int)} {e : Ending} {w' : World} (h : FireEnd F W B K t zs ks n I e w') (hr : fireS t zs ks I = (0, O, ks')) (hV : Below V.heap.size V W) : ManyR F V B K t zs ks' (n + 1) O e w' := by
  unfold FireEnd at h
  rw [hr] at h
  obtain ⟨x, c, A, C, F', he, hO, hB, hF, hb⟩ := h
  refine ⟨x, c, A, C, F', he, hO.mono hV.size, hB, fun k hk => ?_, (But.of_below hV).trans hb⟩
  rcases hF k hk with h | h
  · exact .inl h
  · exact .inr (Nat.le_trans hV.size h.1)
theorem fire_copy {n : Int} {N : Nat} (hN : n = (N : Int)) {x : Int} : fireS 9 [n] [] [[x]] = (0, List.replicate N [x], []) := by
  unfold fireS
  rw [if_pos (show takesS 9 [n] [[x]] = true from rfl)]
  subst hN
  rfl
theorem map_rep {N : Nat} {x : Int} : (List.replicate N [x]).map (nth · 0) = List.replicate N x := by rw [List.map_replicate]; rfl
theorem fire_add {n : Int} {N : Nat} (hN : n = (N : Int)) {x : Int} : fireS 6 [n] [] (List.replicate N [x]) = if fitB ((N : Int) * x) = true then (0, [[(N : Int) * x]], []) else (70, [], []) := by
  have h : takesS 6 [n] (List.replicate N [x]) = true := by
    refine decide_eq_true ?_
    rw [List.map_replicate, hN]
    rfl
  unfold fireS
  rw [if_pos h, show giveS 6 [n] [] (List.replicate N [x]) = (sumO 0 ((List.replicate N [x]).map (nth · 0))).map (fun y => ([[y]], [])) from rfl, map_rep, sum_rep]
  by_cases hf : fitB ((N : Int) * x) = true
  · rw [if_pos hf, if_pos hf]; rfl
  · rw [if_neg hf, if_neg hf]; rfl
set_option maxRecDepth 100000 in
set_option maxHeartbeats 4000000 in
theorem actorsCopies_walk (n x : Int) (w : World) (hn : -9223372036854775808 ≤ n ∧ n ≤ 9223372036854775807) (hx : -9223372036854775808 ≤ x ∧ x ≤ 9223372036854775807) : Calls Try.prog 3 #[.int .i64 n, .int .i64 x] w fun e w' => e = .returned (.bool true) ∧ Below w.heap.size w w' := by
  have AW : Hid (∀ V, Calls Try.prog 9 #[] V fun e w' => e = .returned (.bool true) ∧ Below V.heap.size V w') := fun V => awake7 V
  by_cases hb : 1 ≤ n ∧ n ≤ 16
  · have N9 : Hid (Calls Try.prog 8 #[.int .u8 9, .slice (some ⟨w.heap.size, 0, none⟩) 1 1] (w.alloc (.cells #[.int .i64 n] 3)) (Fresh w 9 [n] [])) := (new_one 9 n w (by decide) hn).mono fun _ _ h => fresh_of h (of_one_yes (m := 16) (by decide) rfl hb) rfl
    have N6 : Hid (∀ V, Calls Try.prog 8 #[.int .u8 6, .slice (some ⟨V.heap.size, 0, none⟩) 1 1] (V.alloc (.cells #[.int .i64 n] 3)) (Fresh V 6 [n] [])) := fun V => (new_one 6 n V (by decide) hn).mono fun _ _ h => fresh_of h (of_one_yes (m := 16) (by decide) rfl hb) rfl
    obtain ⟨N, hN⟩ : ∃ N : Nat, n = (N : Int) := ⟨n.toNat, by omega⟩
    have F9 : Hid (∀ F V B K, Bod F V B K 9 [n] [] 0 → Calls Try.prog 10 #[.pointer (some ⟨B, 0, none⟩), .slice (some ⟨V.heap.size + 1, 0, none⟩) 1 1] ((V.alloc (.cells #[.int .i64 x] 3)).alloc (.cells #[.slice (some ⟨V.heap.size, 0, none⟩) 1 1] 31)) (ManyR F V B K 9 [n] [] 1 (List.replicate N [x]))) := fun F V B K h =>
      (bfire_9 F _ B K [n] [] 0 _ 1 1 [[x]] (h.below (below_two V _ _)) (arg_one V x hx) (by decide)).mono fun _ _ h => many_of h (fire_copy hN) (below_two V _ _)
    have IR : Hid (∀ k, InR (nthL (List.replicate N [x]) k)) := fun k => by
      by_cases h : k < N
      · rw [nthL_rep h]; exact inR_one hx
      · unfold nthL; rw [List.getD_eq_getElem?_getD, List.getElem?_eq_none (by simp; omega)]; exact inR0
    have TM := hidden6 (fun V => times7_any n x V hn hx)
    have hN1 : 1 ≤ N ∧ N ≤ 16 := by omega
    have q1 : ((N : Int) != (N : Int)) = false := by simp
    have u1 : (1 : Int) ≤ (N : Int) := by omega
    have u2 : (N : Int) ≤ 16 := by omega
    by_cases hf : fitB ((N : Int) * x) = true
    · have F6 : Hid (∀ F V B K r c, Bod F V B K 6 [n] [] 0 → AtL V r (List.replicate N [x]) → Calls Try.prog 10 #[.pointer (some ⟨B, 0, none⟩), .slice r N c] V (OneR F V B K 6 [n] [] 1 [(N : Int) * x])) := fun F V B K r c h hr =>
        (bfire_6 F V B K [n] [] 0 r N c (List.replicate N [x]) h ⟨by simp, hr, IR.out⟩ (by decide)).mono fun _ _ h => one_of h (by rw [fire_add hN, if_pos hf]) (Below.refl _ _)
      rw [hN, hf, fitV_yes (fitB_true.1 hf)] at TM
      subst hN
      clear hn hb hf
      generalize (N : Int) * x = y at *
      have S2 : Hid (∀ a c1 V ty, At V a [y] → Calls Try.prog 13 #[.slice a 1 c1, .slice (some ⟨V.heap.size, 0, none⟩) 1 1] (V.alloc (.cells #[.int .i64 y] ty)) fun e w' => e = .returned (.bool true) ∧ Below V.heap.size V w') := fun a c1 V ty h =>
        (same6 [y] a _ c1 1 _ (by simp) (h.below ((Below.refl _ _).alloc (Nat.le_refl _) _)) (at1n V y ty)).mono fun _ _ ⟨he, hb⟩ => ⟨he, ((Below.refl V.heap.size V).alloc (Nat.le_refl _) _).trans (hb.mono (by simp))⟩
      go_enter Try.func3, Try.ntmps3
      go_wp2_with (first
        | (go_at_call 9; (with_reducible refine (AW.out _).mono ?_); rintro e w6 ⟨rfl, b6⟩)
        | (go_at_call 13; (with_reducible refine (S2.out r c5 w4 _ hr).mono ?_); rintro e w5 ⟨rfl, b5⟩)
        | (go_at_call 11; (with_reducible refine (TM.out _).mono ?_); rintro e v ⟨rfl, hv⟩; rw [hv]; clear hv)
        | (go_at_call 10; (with_reducible refine (F6.out G w3 B2 K2 xr c D3.out.two hO.at).mono ?_); rintro e w4 ⟨g, c4, r, c5, G', rfl, hg, hr, hB2, hG2, b4⟩)
        | (go_at_call 10; (with_reducible refine (F9.out F w2 B1 K1 D2.out.one).mono ?_); rintro e w3 ⟨xr, c, A, C, F', rfl, hO, hB1, hF1, b3⟩; rw [List.length_replicate]; have D3 := hidden6 (D2.out.fire1 hB1 hF1 b3); have BB3 := hidden6 (but_below b3 BB2.out D2.out.l1))
        | (go_at_call 8; (with_reducible refine (N6.out w1).mono ?_); rintro e w2 ⟨B2, K2, G, rfl, h2, hG, b2⟩; have D2 := hidden6 (duo_start h1 hF h2 hG b2); have BB2 := hidden6 (b1.trans (b2.mono b1.size)))
        | (go_at_call 8; (with_reducible refine N9.out.mono ?_); rintro e w1 ⟨B1, K1, F, rfl, h1, hF, b1⟩))
      go_ret
      have q4 := but_below b4 BB3.out D3.out.l2
      have q5 := q4.trans (b5.mono q4.size)
      exact ⟨rfl, q5.trans (b6.mono q5.size)⟩
    · have hf2 : fitB ((N : Int) * x) = false := by simpa using hf
      have F6 : Hid (∀ F V B K r c, Bod F V B K 6 [n] [] 0 → AtL V r (List.replicate N [x]) → Calls Try.prog 10 #[.pointer (some ⟨B, 0, none⟩), .slice r N c] V fun e w' => ∃ y d F', e = .returned (.tuple #[.slice y 0 d, .int .i64 70]) ∧ Bod F' w' B K 6 [n] [] 0 ∧ But K V w') := fun F V B K r c h hr =>
        (bfire_6 F V B K [n] [] 0 r N c (List.replicate N [x]) h ⟨by simp, hr, IR.out⟩ (by decide)).mono fun _ _ h => by
          unfold FireEnd at h
          rw [fire_add hN, if_neg hf] at h
          obtain ⟨y, d, A, C, F', he, hO, hB, hF, hb⟩ := h
          exact ⟨y, d, F', he, hB, hb⟩
      have D6 : Hid (∀ F V B K, Bod F V B K 6 [n] [] 0 → Calls Try.prog 12 #[.pointer (some ⟨B, 0, none⟩)] V fun e w' => e = .returned (.int .i64 0) ∧ w' = V) := fun F V B K h => bfired_6 F V B K [n] [] 0 h
      rw [hN, hf2] at TM
      subst hN
      clear hn hb hf hf2
      generalize (N : Int) * x = y at *
      go_enter Try.func3, Try.ntmps3
      go_wp2_with (first
        | (go_at_call 9; (with_reducible refine (AW.out _).mono ?_); rintro e w6 ⟨rfl, b6⟩)
        | (go_at_call 12; (with_reducible refine (D6.out G' _ B2 K2 hB2).mono ?_); rintro e v ⟨rfl, hv⟩; rw [hv]; clear hv)
        | (go_at_call 11; (with_reducible refine (TM.out _).mono ?_); rintro e v ⟨rfl, hv⟩; rw [hv]; clear hv)
        | (go_at_call 10; (with_reducible refine (F6.out G w3 B2 K2 xr c D3.out.two hO.at).mono ?_); rintro e w4 ⟨g, c4, G', rfl, hB2, b4⟩)
        | (go_at_call 10; (with_reducible refine (F9.out F w2 B1 K1 D2.out.one).mono ?_); rintro e w3 ⟨xr, c, A, C, F', rfl, hO, hB1, hF1, b3⟩; rw [List.length_replicate]; have D3 := hidden6 (D2.out.fire1 hB1 hF1 b3); have BB3 := hidden6 (but_below b3 BB2.out D2.out.l1))
        | (go_at_call 8; (with_reducible refine (N6.out w1).mono ?_); rintro e w2 ⟨B2, K2, G, rfl, h2, hG, b2⟩; have D2 := hidden6 (duo_start h1 hF h2 hG b2); have BB2 := hidden6 (b1.trans (b2.mono b1.size)))
        | (go_at_call 8; (with_reducible refine N9.out.mono ?_); rintro e w1 ⟨B1, K1, F, rfl, h1, hF, b1⟩))
      go_ret
      have q4 := but_below b4 BB3.out D3.out.l2
      exact ⟨rfl, q4.trans (b6.mono q4.size)⟩
  · have N9 : Hid (Calls Try.prog 8 #[.int .u8 9, .slice (some ⟨w.heap.size, 0, none⟩) 1 1] (w.alloc (.cells #[.int .i64 n] 3)) (Refused w 61)) := (new_one 9 n w (by decide) hn).mono fun _ _ h => refused_of h (of_one_no (m := 16) (by decide) rfl hb) (by decide)
    have N6 : Hid (∀ V, Calls Try.prog 8 #[.int .u8 6, .slice (some ⟨V.heap.size, 0, none⟩) 1 1] (V.alloc (.cells #[.int .i64 n] 3)) (Refused V 61)) := fun V => (new_one 6 n V (by decide) hn).mono fun _ _ h => refused_of h (of_one_no (m := 16) (by decide) rfl hb) (by decide)
    have u1 := hx
    clear u1
    by_cases h1 : n < 1
    · go_enter Try.func3, Try.ntmps3
      go_wp2_with (first
        | (go_at_call 9; (with_reducible refine (AW.out _).mono ?_); rintro e w6 ⟨rfl, b6⟩)
        | (go_at_call 8; (with_reducible refine (N6.out w1).mono ?_); rintro e w2 ⟨rfl, b2⟩)
        | (go_at_call 8; (with_reducible refine N9.out.mono ?_); rintro e w1 ⟨rfl, b1⟩))
      go_ret
      have q2 := b1.trans (b2.mono b1.size)
      exact ⟨rfl, q2.trans (b6.mono q2.size)⟩
    · have h2 : n > 16 := by omega
      go_enter Try.func3, Try.ntmps3
      go_wp2_with (first
        | (go_at_call 9; (with_reducible refine (AW.out _).mono ?_); rintro e w6 ⟨rfl, b6⟩)
        | (go_at_call 8; (with_reducible refine (N6.out w1).mono ?_); rintro e w2 ⟨rfl, b2⟩)
        | (go_at_call 8; (with_reducible refine N9.out.mono ?_); rintro e w1 ⟨rfl, b1⟩))
      go_ret
      have q2 := b1.trans (b2.mono b1.size)
      exact ⟨rfl, q2.trans (b6.mono q2.size)⟩
end Go.Proofs.Ytoenbiigamegoab

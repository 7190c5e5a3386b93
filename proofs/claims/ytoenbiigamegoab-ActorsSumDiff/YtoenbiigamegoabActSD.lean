/- The walk through the statement ActorsSumDiff. -/
import Derived.Test.YtoenbiigamegoabActS
import Derived.Test.YtoenbiigamegoabActD
namespace Go.Proofs.Ytoenbiigamegoab
open Go.ChangeShapes Go.WideShapes Go.ChangeAt Go.RowKit

theorem diff_dot {y s z : Int} (h : dotO 0 [1, -1] [y, s] = some z) : z = y - s := by
  have h1 := dotO_dotS _ _ _ _ h
  simp only [dotS] at h1
  omega
set_option maxRecDepth 100000 in
set_option maxHeartbeats 4000000 in
theorem actorsSumDiff_walk (a : Option Addr) (len cap : Nat) (xs : List Int) (w : World) (hA : Arg w a len cap xs) : Calls Try.prog 5 #[.slice a len cap] w fun e w' => e = .returned (.bool true) ∧ Below w.heap.size w w' := by
  have N8 : Hid (Calls Try.prog 8 #[.int .u8 8, .slice none 0 0] w (Fresh w 8 [] [0])) := (new_any 8 none [] 0 0 w (by decide) rfl inR0 (fun _ => ⟨rfl, rfl⟩) (Or.inl rfl)).mono fun _ _ h => fresh_of h rfl rfl
  have N1 : Hid (∀ V, Calls Try.prog 8 #[.int .u8 1, .slice (some ⟨V.heap.size, 0, none⟩) 2 2] (V.alloc (.cells #[.int .i64 1, .int .i64 (-1)] 3)) (Fresh V 1 [1, -1] [0])) := fun V =>
    (new_any 1 _ [1, -1] 2 2 _ (by decide) rfl (fun k => by
      match k with
      | 0 => exact (by decide : (-9223372036854775808 : Int) ≤ 1 ∧ (1 : Int) ≤ 9223372036854775807)
      | 1 => exact (by decide : (-9223372036854775808 : Int) ≤ -1 ∧ (-1 : Int) ≤ 9223372036854775807)
      | k + 2 => rw [nth_none (by simp)]; decide) (fun e => by cases e) (at2n rfl)).mono fun _ _ h => fresh_of (new_later h ((Below.refl _ _).alloc (Nat.le_refl _) _)) rfl rfl
  have AW : Hid (∀ V, Calls Try.prog 9 #[] V fun e w' => e = .returned (.bool true) ∧ Below V.heap.size V w') := fun V => awake7 V
  have D8 : Hid (∀ F V B K s k, Bod F V B K 8 [] [s] k → Calls Try.prog 12 #[.pointer (some ⟨B, 0, none⟩)] V fun e w' => e = .returned (.int .i64 (k : Int)) ∧ w' = V) := fun F V B K s k h => bfired_8 F V B K [] [s] k h
  have HA := hidden6 hA
  have hl := hA.reach
  clear hA
  have q2 : ((len : Int) == (len : Int)) = true := by simp
  go_enter Try.func5, Try.ntmps5
  go_wp2_with (first
    | (go_at_call 8; (with_reducible refine (N1.out w1).mono ?_); rintro e w2 ⟨B2, K2, G, rfl, h2, hG, b2⟩)
    | (go_at_call 8; (with_reducible refine N8.out.mono ?_); rintro e w1 ⟨B1, K1, F, rfl, h1, hF, b1⟩))
  have ST := hidden6 (duo_start h1 hF h2 hG b2)
  have BB := hidden6 (b1.trans (b2.mono b1.size))
  clear h1 hF h2 hG b1 b2 N8 N1
  go_loopg [7] len (fun gk v wr => ∃ (k : Nat) (s : Int) (F G : Nat → Prop), k ≤ len ∧ gk = len - k ∧ v = .int .i64 (k : Int) ∧ (-9223372036854775808 ≤ s ∧ s ≤ 9223372036854775807) ∧ Duo w.heap.size F G wr B1 K1 8 [] [s] k B2 K2 1 [1, -1] [s] k ∧ Below w.heap.size w wr)
  case atStart => exact ⟨0, 0, _, _, Nat.zero_le _, rfl, rfl, by decide, ST.out, BB.out⟩
  case round =>
    clear ST BB
    obtain ⟨k, s, F, G, hk, rfl, rfl, hs, hD, hB⟩ := hrel
    have HD := hidden6 hD
    have HB := hidden6 hB
    clear hD hB
    by_cases hlt : k < len
    · have hki : (k : Int) < (len : Int) := by omega
      rcases HA.out.lies with h0 | ⟨b, off, rfl, hc⟩
      · have := HA.out.size; rw [h0] at this; simp at this; omega
      have hx := HA.out.fits k
      have hck := hc k (by have := HA.out.size; omega)
      have cx := cell_keep6 HB.out hck
      clear hc
      generalize nth xs k = x at *
      by_cases hf : fitB (s + x) = true
      · have SY := hidden6 (sum_yes F wr B1 K1 s x k HD.out.one hx (by omega) hf)
        obtain ⟨y, hy⟩ : ∃ y, s + x = y := ⟨_, rfl⟩
        rw [hy] at SY hf
        have hyb := fitB_true.1 hf
        have HY := hidden6 hy
        clear hy hf
        cases hd : dotO 0 [1, -1] [y, s] with
        | none =>
          have FN : Hid (∀ F' V, Bod F' V B2 K2 1 [1, -1] [s] k → Calls Try.prog 18 #[.pointer (some ⟨B2, 0, none⟩), .int .i64 y] V (OneN F' V B2 K2 1 [1, -1] [s] k)) := fun F' V h => filter_no F' V B2 K2 [1, -1] [s] y k h hyb (by omega) hd
          clear hd
          go_wp2_with (first
            | (go_at_call 9; (with_reducible refine (AW.out _).mono ?_); rintro e w6 ⟨rfl, b6⟩)
            | (go_at_call 18; (with_reducible refine (FN.out G w1 D1.out.two).mono ?_); rintro e w2 ⟨G', rfl, hB2, hG2, b2⟩)
            | (go_at_call 18; (with_reducible refine SY.out.mono ?_); rintro e w1 ⟨F', rfl, hB1, hF1, b1⟩; have D1 := hidden6 (HD.out.fire1 hB1 hF1 b1); have BB1 := hidden6 (but_below b1 HB.out HD.out.l1)))
          go_ret
          have q4 := but_below b2 BB1.out D1.out.l2
          exact ⟨rfl, q4.trans (b6.mono q4.size)⟩
        | some z =>
          have hz := diff_dot hd
          obtain rfl : z = x := by have := HY.out; omega
          have FY : Hid (∀ F' V, Bod F' V B2 K2 1 [1, -1] [s] k → Calls Try.prog 18 #[.pointer (some ⟨B2, 0, none⟩), .int .i64 y] V (OneY F' V B2 K2 1 [1, -1] [y] (k + 1) z)) := fun F' V h => filter_yes F' V B2 K2 [1, -1] [s] y z k h hyb (by omega) hd
          have q3 : (z != z) = false := by simp
          clear hd hz
          go_wp2_with (first
            | (go_at_call 18; (with_reducible refine (FY.out G w1 D1.out.two).mono ?_); rintro e w2 ⟨G', rfl, hB2, hG2, b2⟩; have D2 := hidden6 (D1.out.swap.fire1 hB2 hG2 b2).swap; have BB2 := hidden6 (but_below b2 BB1.out D1.out.l2); have cx2 := cell_keep6 BB2.out hck)
            | (go_at_call 18; (with_reducible refine SY.out.mono ?_); rintro e w1 ⟨F', rfl, hB1, hF1, b1⟩; have D1 := hidden6 (HD.out.fire1 hB1 hF1 b1); have BB1 := hidden6 (but_below b1 HB.out HD.out.l1)))
          go_roundg (len - (k + 1))
          case measure => omega
          case rel => exact ⟨k + 1, y, _, _, by omega, rfl, by go_num, hyb, D2.out, BB2.out⟩
      · have SN := hidden6 (sum_no F wr B1 K1 s x k HD.out.one hx (by omega) hf)
        clear hf
        go_wp2_with (first
          | (go_at_call 9; (with_reducible refine (AW.out _).mono ?_); rintro e w6 ⟨rfl, b6⟩)
          | (go_at_call 18; (with_reducible refine SN.out.mono ?_); rintro e w1 ⟨F', rfl, hB1, hF1, b1⟩))
        go_ret
        have q4 := but_below b1 HB.out HD.out.l1
        exact ⟨rfl, q4.trans (b6.mono q4.size)⟩
    · have ek : k = len := by omega
      subst ek
      have hki : ¬ (k : Int) < (k : Int) := by omega
      go_wp2_with (first
        | (go_at_call 9; (with_reducible refine (AW.out _).mono ?_); rintro e w6 ⟨rfl, b6⟩)
        | (go_at_call 12; (with_reducible refine (D8.out F _ B1 K1 s k HD.out.one).mono ?_); rintro e v ⟨rfl, hv⟩; rw [hv]; clear hv))
      go_ret
      exact ⟨rfl, HB.out.trans (b6.mono HB.out.size)⟩
end Go.Proofs.Ytoenbiigamegoab

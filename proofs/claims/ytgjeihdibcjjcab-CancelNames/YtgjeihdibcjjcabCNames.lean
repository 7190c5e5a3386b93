/- The walk through the statement CancelNames. -/
import Derived.Test.YtgjeihdibcjjcabCAwake
import Derived.Test.YtgjeihdibcjjcabCopy
import Derived.Test.YtgjeihdibcjjcabBigGrow
namespace Go.Proofs.Ytgjeihdibcjjcab
open Go.ChangeShapes Go.WideShapes Go.ChangeAt Go.RowKit

theorem rep_in (n : Nat) : InR (List.replicate n (3 : Int)) := fun k => by
  unfold nth
  rw [List.getD_eq_getElem?_getD, List.getElem?_replicate]
  split <;> decide
theorem rep_pos (n : Nat) : posB (List.replicate n (3 : Int)) = true := by
  induction n with
  | zero => rfl
  | succ n ih => rw [List.replicate_succ, posB, ih]; rfl
theorem in_snoc {zs : List Int} {x : Int} (h : InR zs) (hx : -9223372036854775808 ≤ x ∧ x ≤ 9223372036854775807) : InR (zs ++ [x]) := fun k => by
  by_cases hk : k < zs.length
  · rw [nth_append_left hk]; exact h k
  · unfold nth
    rw [List.getD_eq_getElem?_getD, List.getElem?_append_right (by omega)]
    cases e : k - zs.length with
    | zero => exact hx
    | succ j => exact (by decide : (-9223372036854775808 : Int) ≤ 0 ∧ (0 : Int) ≤ 9223372036854775807)
theorem at_nil (w : World) (a : Option Addr) : At w a [] := Or.inl rfl

set_option maxRecDepth 100000 in
set_option maxHeartbeats 1000000 in
theorem cnames_any (w : World) : Calls Try.prog 4 #[] w fun e w' => e = .returned (.bool true) ∧ Below w.heap.size w w' := by
  obtain ⟨i0, hi, hz0, hz1, hz2⟩ := info_parts Try.info3
  go_enter Try.func4, Try.ntmps4
  go_wp2
  go_loopg [1, 2] 1024 (fun gk v i wr => ∃ k : Nat, k ≤ 1024 ∧ gk = 1024 - k ∧ i = .int .i64 k ∧ wr.ownsRow w.heap.size 3 1 v k ((List.replicate k (3 : Int)).map (Value.int .i64)) ∧ Below w.heap.size w wr)
  case atStart => exact ⟨0, Nat.zero_le _, rfl, rfl, World.ownsRow_nil _ _ _ _, Below.refl _ _⟩
  case round =>
    obtain ⟨k, hk, rfl, rfl, hown, hbel⟩ := hrel
    by_cases hlt : k < 1024
    · have hkd : decide ((k : Int) < 1024) = true := decide_eq_true (by omega)
      go_wp2_with (at_builtin; refine wpList_append_own _ rfl (.tmp 21) (.tmp 22) 22 rfl w.heap.size 3 i0 (.int .i64 0) 1 8 Try.underlying22 hi hz0 hz1 hz2 rfl (by decide) u1 k _ rfl (hown.alloc _) ⟨wr.heap.size, 0, none⟩ 1 1 [.int .i64 3] rfl rfl (one_new _ _ _) (one_cell _) (by unfold maxLen; omega) (by omega) (by have := hbel.size; simp; omega) ?_; intro v' w2 hown' hgrow _)
      obtain ⟨R1, R2⟩ := grown_row hown' hgrow hown hbel
      go_roundg (1024 - (k + 1))
      case measure => omega
      case rel => exact ⟨k + 1, by omega, rfl, by go_num, by rw [List.replicate_succ']; exact R1, R2⟩
    · obtain rfl : 1024 = k := by omega
      have hkk : ¬ ((1024 : Nat) : Int) < 1024 := by decide
      obtain ⟨T, hT⟩ : ∃ T, T = List.replicate 1024 (3 : Int) := ⟨_, rfl⟩
      rw [← hT] at hown
      have hlen : T.length = 1024 := by rw [hT]; exact List.length_replicate
      have hin : InR T := by rw [hT]; exact rep_in 1024
      have hpo : posB T = true := by rw [hT]; exact rep_pos 1024
      have hin2 : InR (T ++ [0]) := in_snoc hin (by decide)
      have hlen2 : (T ++ [0]).length = 1025 := by rw [List.length_append, hlen]; rfl
      have E1 : cE T T = 0 := cE_ok (by omega) (by omega) (by rw [hpo]; rfl)
      have V1 : eqB T T = true := by unfold eqB; rw [E1]; simp
      have E2 : cE (T ++ [0]) T = 2 := cE_long (.inl (by omega))
      have E3 : cE [] (T ++ [0]) = 2 := cE_long (.inr (by omega))
      have E4 : cE [-1] (T ++ [0]) = 2 := cE_long (.inr (by omega))
      obtain ⟨r1, r2, r3⟩ := rt_bad (xs := [-1]) (ys := T ++ [0]) (by rw [E4]; decide)
      rw [E4] at r3
      have c1 : Hid (∀ a b p q W, At W a T → At W b T → Calls Try.prog 9 #[.slice a 1024 p, .slice b 1024 q] W fun e w' => e = .returned (.tuple #[.bool true, .int .i64 0]) ∧ Below W.heap.size W w') := fun a b p q W h1 h2 => by
        have := equal_any a b T T 1024 p 1024 q W hlen hlen (by decide) (by decide) hin hin h1 h2
        unfold EqEnd at this; rw [V1, E1] at this; exact this
      have c2 : Hid (∀ a b p q W, At W a (T ++ [0]) → At W b T → Calls Try.prog 9 #[.slice a 1025 p, .slice b 1024 q] W fun e w' => e = .returned (.tuple #[.bool false, .int .i64 2]) ∧ Below W.heap.size W w') := fun a b p q W h1 h2 => by
        have := equal_any a b (T ++ [0]) T 1025 p 1024 q W hlen2 hlen (by decide) (by decide) hin2 hin h1 h2
        unfold EqEnd at this; rw [eqB_bad (by rw [E2]; decide), E2] at this; exact this
      have c3 : Hid (∀ b q W, At W b (T ++ [0]) → Calls Try.prog 16 #[.slice none 0 0, .slice b 1025 q] W fun e w' => (∃ x y, e = .returned (.tuple #[.slice x 0 0, .slice y 0 0, .int .i64 2])) ∧ Below W.heap.size W w') := fun b q W h2 => by
        refine (reduce_any none b [] (T ++ [0]) 0 0 1025 q W rfl hlen2 (by decide) (by decide) inR0 hin2 (at_nil _ _) h2).mono ?_
        rintro e w' ⟨hb, x, y, n1, n2, rfl, o1, o2, -⟩
        obtain ⟨f1, f2⟩ := cA_bad (xs := []) (ys := T ++ [0]) (by rw [E3]; decide)
        rw [f1] at o1
        rw [f2] at o2
        obtain rfl : 0 = n1 := o1.1
        obtain rfl : 0 = n2 := o2.1
        exact ⟨⟨x, y, by rw [E3]⟩, hb⟩
      have c4 : Hid (∀ a b q W, At W a [-1] → At W b (T ++ [0]) → Calls Try.prog 7 #[.slice a 1 1, .slice b 1025 q] W fun e w' => e = .returned (.tuple #[.agg #[.int .i64 0, .int .i64 0], .int .i64 2]) ∧ Below W.heap.size W w') := fun a b q W h1 h2 => by
        have := ratio_any a b [-1] (T ++ [0]) 1 1 1025 q W rfl hlen2 (by decide) (by decide) (inR1 (by decide)) hin2 h1 h2
        unfold RtEnd at this; rw [r1, r2, r3] at this; exact this
      have c5 : Hid (∀ a W, At W a [-1] → Calls Try.prog 7 #[.slice a 1 1, .slice none 0 0] W fun e w' => e = .returned (.tuple #[.agg #[.int .i64 0, .int .i64 0], .int .i64 1]) ∧ Below W.heap.size W w') := fun a W h1 => by
        have := ratio_any a none [-1] [] 1 1 0 0 W rfl rfl (by decide) (by decide) (inR1 (by decide)) inR0 h1 (at_nil _ _)
        unfold RtEnd at this; rw [show rtN [-1] [] = 0 by decide +kernel, show rtD [-1] [] = 0 by decide +kernel, show rtE [-1] [] = 1 by decide +kernel] at this; exact this
      have c6 : Hid (∀ a W, At W a [4611686018427387904, 2] → Calls Try.prog 7 #[.slice a 2 2, .slice none 0 0] W fun e w' => e = .returned (.tuple #[.agg #[.int .i64 0, .int .i64 0], .int .i64 4]) ∧ Below W.heap.size W w') := fun a W h1 => by
        have := ratio_any a none [4611686018427387904, 2] [] 2 2 0 0 W rfl rfl (by decide) (by decide) (inR2 (by decide) (by decide)) inR0 h1 (at_nil _ _)
        unfold RtEnd at this; rw [show rtN [4611686018427387904, 2] [] = 0 by decide +kernel, show rtD [4611686018427387904, 2] [] = 0 by decide +kernel, show rtE [4611686018427387904, 2] [] = 4 by decide +kernel] at this; exact this
      obtain ⟨a, cap, hv, -, hat, hc, hn, -⟩ := owns_at hown
      subst hv
      cases a with
      | none => exact absurd (hn rfl).1 (by decide)
      | some ad =>
        have HAR : Hid (Arg wr (some ad) 1024 cap T) := ⟨hlen, by decide, (fun e => by cases e), hin, hat, hc⟩
        have cI : Hid (Calls Try.prog 8 #[.slice (some ad) 1024 cap] wr (Copied wr 1024 T)) := ints_any _ T 1024 cap wr HAR.out
        have HIN : Hid (T.length = 1024) := hlen
        have HAT : Hid (At wr (some ad) T) := hat
        have hmapl : (T.map (Value.int .i64)).length = 1024 * 1 := by rw [List.length_map, hlen]
        have HML : Hid ((T.map (Value.int .i64)).length = 1024 * 1) := hmapl
        clear hT hlen hin hpo hin2 hlen2 E1 V1 E2 E3 E4 r1 r2 r3 hown hat hc hn hmapl
        go_wp2_with (first
          | (go_at_call 10; (with_reducible refine (awake3 _).mono ?_); rintro e w10 ⟨rfl, b10⟩; have F10 := F9.trans (b10.mono F9.size))
          | (go_at_call 7; (with_reducible refine (c6.out _ _ (at2n ?_)).mono ?_); (simp); rintro e w9 ⟨rfl, b9⟩; have F9' := (F8.alloc F8.size _).trans (b9.mono (F8.alloc F8.size _).size); have F9 := F9'.alloc F9'.size (.cells #[.int .i64 0, .int .i64 0] 24))
          | (go_at_call 7; (with_reducible refine (c5.out _ _ (at1n ?_)).mono ?_); (simp); rintro e w8 ⟨rfl, b8⟩; have F8' := (F7.alloc F7.size _).trans (b8.mono (F7.alloc F7.size _).size); have F8 := F8'.alloc F8'.size (.cells #[.int .i64 0, .int .i64 0] 24))
          | (go_at_call 7; (with_reducible refine (c4.out _ _ _ _ (at1n ?_) (j6.below ((Below.refl w6.heap.size w6).alloc (Nat.le_refl _) _))).mono ?_); (simp); rintro e w7 ⟨rfl, b7⟩; have F7' := (F6.alloc F6.size _).trans (b7.mono (F6.alloc F6.size _).size); have F7 := F7'.alloc F7'.size (.cells #[.int .i64 0, .int .i64 0] 24))
          | (go_at_call 16; (with_reducible refine (c3.out _ _ w5 j5).mono ?_); rintro e w6 ⟨⟨x6, y6, rfl⟩, b6⟩; have j6 := j5.below b6; have F6 := F5.trans (b6.mono F5.size))
          | (go_at_call 9; (with_reducible refine (c2.out _ _ _ _ w4 j4 (HAT.out.below M4)).mono ?_); rintro e w5 ⟨rfl, b5⟩; have j5 := j4.below b5; have F5 := F4.trans (b5.mono F4.size))
          | (at_builtin; refine wpList_append_own _ rfl (.tmp 34) (.tmp 35) 22 rfl w2.heap.size 3 i0 (.int .i64 0) 1 8 Try.underlying22 hi hz0 hz1 hz2 rfl (by decide) v5 1024 _ rfl (hown3.alloc _) ⟨w3.heap.size, 0, none⟩ 1 1 [.int .i64 0] rfl rfl (one_new _ _ _) (one_cell _) (by unfold maxLen; omega) (by omega) (by have := b3.size; simp; omega) ?_; intro v6 w4 hown4 hgrow4 _; obtain ⟨R1, R2⟩ := grown_row hown4 hgrow4 hown3 b3; obtain ⟨a6, cap6, hv6, -, j4, -, -, -⟩ := owns_at R1; subst hv6; have M4 := M2.trans (R2.mono M2.size); have F4 := F2.trans (R2.mono F2.size))
          | (at_builtin; refine wpList_append_own _ rfl (.tmp 31) (.tmp 32) 22 rfl w2.heap.size 3 i0 (.int .i64 0) 1 8 Try.underlying22 hi hz0 hz1 hz2 rfl (by decide) (.slice none 0 0) 0 [] rfl (World.ownsRow_nil _ _ _ _) ad 1024 cap (T.map (Value.int .i64)) rfl HML.out (lies_new (HAT.out.below M2)) (ints_oneCell _ _) (by unfold maxLen; omega) (by omega) (Nat.le_refl _) ?_; intro v5 w3 hown3' hgrow3 _; have b3 : Below w2.heap.size w2 w3 := (Below.refl _ _).grown hgrow3 (Nat.le_refl _) (fun k h => by cases h); rw [Nat.zero_add, List.nil_append] at hown3'; have hown3 := hown3')
          | (go_at_call 9; (with_reducible refine (c1.out _ _ _ _ w1 (HAT.out.below b1) k1).mono ?_); rintro e w2 ⟨rfl, b2⟩; have M2 := b1.trans (b2.mono b1.size); have F2 := hbel.trans (M2.mono hbel.size))
          | (go_at_call 8; (with_reducible refine cI.out.mono ?_); rintro e w1 ⟨x1, cp1, rfl, k1, b1, -⟩))
        go_ret
        exact ⟨rfl, F10⟩
end Go.Proofs.Ytgjeihdibcjjcab

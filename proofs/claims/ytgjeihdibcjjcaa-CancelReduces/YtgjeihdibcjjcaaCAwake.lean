/- The statements' own examples of chapter 3, which each of them asks besides. -/
import Derived.Test.YtgjeihdibcjjcaaC4
import Derived.Test.YtgjeihdibcjjcaaKeep
namespace Go.Proofs.Ytgjeihdibcjjcaa
open Go.ChangeShapes Go.WideShapes Go.ChangeAt Go.RowKit

theorem at1n {V : World} {b : Nat} {x : Int} {t : TypeId} (hb : b = V.heap.size) : At (V.alloc (.cells #[.int .i64 x] t)) (some ⟨b, 0, none⟩) [x] := by
  subst hb
  refine Or.inr ⟨_, _, rfl, fun k hk => ?_⟩
  match k, hk with
  | 0, _ => simp [nth]
theorem at1o {V : World} {b : Nat} {x : Int} {t : TypeId} {O : Obj} (hb : b = V.heap.size) : At ((V.alloc (.cells #[.int .i64 x] t)).alloc O) (some ⟨b, 0, none⟩) [x] := by
  subst hb
  refine Or.inr ⟨_, _, rfl, fun k hk => ?_⟩
  match k, hk with
  | 0, _ => simp [nth]
theorem inR1 {x : Int} (hx : -9223372036854775808 ≤ x ∧ x ≤ 9223372036854775807) : InR [x] := by
  intro k
  match k with
  | 0 => exact hx
  | k + 1 => exact (by decide : (-9223372036854775808 : Int) ≤ 0 ∧ (0 : Int) ≤ 9223372036854775807)
theorem below_two {w W : World} (h : Below w.heap.size w W) (o1 o2 : Obj) : Below w.heap.size w ((W.alloc o1).alloc o2) := (h.alloc h.size o1).alloc (by have := h.size; simp; omega) o2

set_option maxRecDepth 100000 in
set_option maxHeartbeats 2000000 in
theorem awake3 (w : World) :
    Calls Try.prog 14 #[] w fun e w' => e = .returned (.bool true) ∧ Below w.heap.size w w' := by
  have n1 : ∀ a b w, At w a [4, 6] → At w b [2, 9] → Calls Try.prog 10 #[.slice a 2 2, .slice b 2 2] w fun e w' => Below w.heap.size w w' ∧ ∃ g1 g2, e = .returned (.tuple #[.slice (some ⟨g1, 0, none⟩) 2 2, .slice (some ⟨g2, 0, none⟩) 2 2, .int .i64 0]) ∧ At w' (some ⟨g1, 0, none⟩) [2, 2] ∧ At w' (some ⟨g2, 0, none⟩) [1, 3] := fun a b w h1 h2 => by
    refine (reduce_any a b [4, 6] [2, 9] 2 2 2 2 w rfl rfl (by decide) (by decide) (inR2 (by decide) (by decide)) (inR2 (by decide) (by decide)) h1 h2).mono ?_
    rintro e w' ⟨hb, x, y, n1, n2, rfl, o1, o2, -⟩
    rw [show cA [4, 6] [2, 9] = [2, 2] by decide +kernel] at o1
    rw [show cB [4, 6] [2, 9] = [1, 3] by decide +kernel] at o2
    rw [show cE [4, 6] [2, 9] = 0 by decide +kernel]
    have i1 := o1.at
    have i2 := o2.at
    obtain ⟨hn1, ⟨-, h0, -⟩ | ⟨g1, rfl, -, -, r1⟩⟩ := o1
    · rw [← hn1] at h0; cases h0
    obtain ⟨hn2, ⟨-, h0, -⟩ | ⟨g2, rfl, -, -, r2⟩⟩ := o2
    · rw [← hn2] at h0; cases h0
    obtain rfl : 2 = n1 := hn1
    obtain rfl : 2 = n2 := hn2
    exact ⟨hb, g1, g2, rfl, i1, i2⟩
  have n2 : ∀ a b w, At w a [4, 9] → At w b [6, 6] → Calls Try.prog 16 #[.slice a 2 2, .slice b 2 2] w fun e w' => e = .returned (.tuple #[.bool true, .int .i64 0]) ∧ Below w.heap.size w w' := fun a b w h1 h2 => by
    have := equal_any a b [4, 9] [6, 6] 2 2 2 2 w rfl rfl (by decide) (by decide) (inR2 (by decide) (by decide)) (inR2 (by decide) (by decide)) h1 h2
    unfold EqEnd at this
    rw [show eqB [4, 9] [6, 6] = true by decide +kernel, show cE [4, 9] [6, 6] = 0 by decide +kernel] at this
    exact this
  have n3 : ∀ a b w, At w a [4, 9] → At w b [6, 7] → Calls Try.prog 16 #[.slice a 2 2, .slice b 2 2] w fun e w' => e = .returned (.tuple #[.bool false, .int .i64 0]) ∧ Below w.heap.size w w' := fun a b w h1 h2 => by
    have := equal_any a b [4, 9] [6, 7] 2 2 2 2 w rfl rfl (by decide) (by decide) (inR2 (by decide) (by decide)) (inR2 (by decide) (by decide)) h1 h2
    unfold EqEnd at this
    rw [show eqB [4, 9] [6, 7] = false by decide +kernel, show cE [4, 9] [6, 7] = 0 by decide +kernel] at this
    exact this
  have n4 : ∀ a b w, At w a [4, 6] → At w b [2, 9] → Calls Try.prog 18 #[.slice a 2 2, .slice b 2 2] w fun e w' => e = .returned (.tuple #[.agg #[.int .i64 4, .int .i64 3], .int .i64 0]) ∧ Below w.heap.size w w' := fun a b w h1 h2 => by
    have := ratio_any a b [4, 6] [2, 9] 2 2 2 2 w rfl rfl (by decide) (by decide) (inR2 (by decide) (by decide)) (inR2 (by decide) (by decide)) h1 h2
    unfold RtEnd at this
    rw [show rtN [4, 6] [2, 9] = 4 by decide +kernel, show rtD [4, 6] [2, 9] = 3 by decide +kernel, show rtE [4, 6] [2, 9] = 0 by decide +kernel] at this
    exact this
  have n5 : ∀ a b w, At w a [0] → At w b [1] → Calls Try.prog 16 #[.slice a 1 1, .slice b 1 1] w fun e w' => e = .returned (.tuple #[.bool false, .int .i64 1]) ∧ Below w.heap.size w w' := fun a b w h1 h2 => by
    have := equal_any a b [0] [1] 1 1 1 1 w rfl rfl (by decide) (by decide) (inR1 (by decide)) (inR1 (by decide)) h1 h2
    unfold EqEnd at this
    rw [show eqB [0] [1] = false by decide +kernel, show cE [0] [1] = 1 by decide +kernel] at this
    exact this
  have n6 : ∀ (x y : Int) a b w, At w a [x, y] → At w b [x, y] → Calls Try.prog 12 #[.slice a 2 2, .slice b 2 2] w fun e w' => ∃ n : Nat, e = .returned (.bool true) ∧ w' = w.drewN n := fun x y a b w h1 h2 => same_any a b [x, y] 2 2 2 w rfl (by decide) h1 h2
  go_enter Try.func14, Try.ntmps14
  go_wp2_with (first
    | (go_at_call 10; (with_reducible refine (n1 _ _ _ (at2o ?_) (at2n ?_)).mono ?_); (simp); (simp); rintro e w1 ⟨hb1, g1, g2, rfl, i1, i2⟩; have B1 := (below_two (Below.refl w.heap.size w) _ _).trans (hb1.mono (by simp; omega)); have C1 := Below.refl w1.heap.size w1)
    | (go_at_call 16; (with_reducible refine (n2 _ _ _ (at2o ?_) (at2n ?_)).mono ?_); (simp); (simp); rintro e w2 ⟨rfl, hb2⟩; have C2 := (below_two C1 _ _).trans (hb2.mono (below_two C1 _ _).size))
    | (go_at_call 16; (with_reducible refine (n3 _ _ _ (at2o ?_) (at2n ?_)).mono ?_); (simp); (simp); rintro e w3 ⟨rfl, hb3⟩; have C3 := (below_two C2 _ _).trans (hb3.mono (below_two C2 _ _).size))
    | (go_at_call 18; (with_reducible refine (n4 _ _ _ (at2o ?_) (at2n ?_)).mono ?_); (simp); (simp); rintro e w4 ⟨rfl, hb4⟩; have C4 := (below_two C3 _ _).trans (hb4.mono (below_two C3 _ _).size); have K4 := var2_new w4 (.int .i64 4) (.int .i64 3) 34; have C4' := C4.alloc C4.size (.cells #[.int .i64 4, .int .i64 3] 34))
    | (go_at_call 16; (with_reducible refine (n5 _ _ _ (at1o ?_) (at1n ?_)).mono ?_); (simp); (simp); rintro e w5 ⟨rfl, hb5⟩; have C5 := (below_two C4' _ _).trans (hb5.mono (below_two C4' _ _).size); have K5 := ((K4.alloc _).alloc _).later hb5 ((K4.alloc _).alloc _).lt; have C6 := C5.alloc C5.size (.cells #[.int .i64 2, .int .i64 2] 3); have K6 := K5.alloc (.cells #[.int .i64 2, .int .i64 2] 3); have j1 := i1.below C6)
    | (go_at_call 12; (with_reducible refine (n6 2 2 _ _ _ j1 (at2n ?_)).mono ?_); (simp); rintro e w' ⟨m1, rfl, rfl⟩; have C7 := (bdrew C6 m1).alloc (bdrew C6 m1).size (.cells #[.int .i64 1, .int .i64 3] 3); have j2 := i2.below C7)
    | (go_at_call 12; (with_reducible refine (n6 1 3 _ _ _ j2 (at2n ?_)).mono ?_); (simp); rintro e w' ⟨m2, rfl, rfl⟩; have K7 := ((K6.later (bdrew (Below.refl _ _) m1) K6.lt).alloc (.cells #[.int .i64 1, .int .i64 3] 3)); have k0 := K7.c0; have k1 := K7.c1))
  go_ret
  exact ⟨rfl, B1.trans ((bdrew C7 m2).mono B1.size)⟩
end Go.Proofs.Ytgjeihdibcjjcaa

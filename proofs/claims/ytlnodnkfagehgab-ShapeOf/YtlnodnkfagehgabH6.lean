/- The statements' own examples of shapes. -/
import Derived.Test.YtlnodnkfagehgabH4
import Derived.Test.YtlnodnkfagehgabKeep
namespace Go.Proofs.Ytlnodnkfagehgab
open Go.ChangeShapes Go.WideShapes Go.ChangeAt Go.RowKit

theorem same6 (zs : List Int) (a b : Option Addr) (c1 c2 : Nat) (W : World) (hm : zs.length ≤ 1024) (k1 : At W a zs) (k2 : At W b zs) : Calls Try.prog 10 #[.slice a zs.length c1, .slice b zs.length c2] W (fun e w' => e = .returned (.bool true) ∧ Below W.heap.size W w') :=
  (same_any a b zs zs.length c1 c2 W rfl (by omega) k1 k2).mono fun e w' ⟨n, h1, h2⟩ => ⟨h1, by rw [h2]; exact bdrew (Below.refl _ _) n⟩
/-- How a call of Of with numbers laid for it ends. -/
theorem of_two (t : Nat) (x y : Int) (V : World) (ty : TypeId) (ht : t ≤ 255) : Calls Try.prog 9 #[.int .u8 (t : Int), .slice (some ⟨V.heap.size, 0, none⟩) 2 2] (V.alloc (.cells #[.int .i64 x, .int .i64 y] ty)) (OfEnd V (ofS t [x, y])) :=
  (of_any t _ [x, y] 2 2 _ ht rfl (at2n rfl)).mono fun _ _ ⟨a, c1, b, c2, he, m1, m2, hx, hb⟩ => ⟨a, c1, b, c2, he, m1.mono (by simp), m2.mono (by simp), hx, ((Below.refl V.heap.size V).alloc (Nat.le_refl _) _).trans (hb.mono (by simp))⟩
theorem of_one (t : Nat) (x : Int) (V : World) (ty : TypeId) (ht : t ≤ 255) : Calls Try.prog 9 #[.int .u8 (t : Int), .slice (some ⟨V.heap.size, 0, none⟩) 1 1] (V.alloc (.cells #[.int .i64 x] ty)) (OfEnd V (ofS t [x])) :=
  (of_any t _ [x] 1 1 _ ht rfl (at1n V x ty)).mono fun _ _ ⟨a, c1, b, c2, he, m1, m2, hx, hb⟩ => ⟨a, c1, b, c2, he, m1.mono (by simp), m2.mono (by simp), hx, ((Below.refl V.heap.size V).alloc (Nat.le_refl _) _).trans (hb.mono (by simp))⟩
set_option maxRecDepth 100000 in
set_option maxHeartbeats 1000000 in
theorem awake6 (w : World) : Calls Try.prog 12 #[] w fun e w' => e = .returned (.bool true) ∧ Below w.heap.size w w' := by
  have O1 : Hid (∀ V ty, Calls Try.prog 9 #[.int .u8 4, .slice (some ⟨V.heap.size, 0, none⟩) 2 2] (V.alloc (.cells #[.int .i64 2, .int .i64 3] ty)) fun e w' => ∃ a c1 b c2, e = .returned (.tuple #[.slice a 2 c1, .slice b 1 c2, .int .i64 0]) ∧ At w' a [3, 3] ∧ At w' b [6] ∧ Below V.heap.size V w') := fun V ty =>
    (of_two 4 2 3 V ty (by decide)).mono fun _ _ ⟨a, c1, b, c2, he, m1, m2, _, hb⟩ => ⟨a, c1, b, c2, he, m1.at, m2.at, hb⟩
  have O2 : Hid (∀ V ty, Calls Try.prog 9 #[.int .u8 10, .slice (some ⟨V.heap.size, 0, none⟩) 2 2] (V.alloc (.cells #[.int .i64 (-5), .int .i64 0] ty)) fun e w' => ∃ a c1 b c2, e = .returned (.tuple #[.slice a 0 c1, .slice b 1 c2, .int .i64 0]) ∧ At w' b [1] ∧ Below V.heap.size V w') := fun V ty =>
    (of_two 10 (-5) 0 V ty (by decide)).mono fun _ _ ⟨a, c1, b, c2, he, _, m2, _, hb⟩ => ⟨a, c1, b, c2, he, m2.at, hb⟩
  have TG : Hid (∀ V, Calls Try.prog 15 #[.string ⟨#[113, 117, 111, 116]⟩] V fun e w' => e = .returned (.tuple #[.int .u8 7, .int .i64 0]) ∧ Below V.heap.size V w') := fun V => tag_any [113, 117, 111, 116] V
  have S1 : Hid (∀ a c1 V ty, At V a [3, 3] → Calls Try.prog 10 #[.slice a 2 c1, .slice (some ⟨V.heap.size, 0, none⟩) 2 2] (V.alloc (.cells #[.int .i64 3, .int .i64 3] ty)) fun e w' => e = .returned (.bool true) ∧ Below V.heap.size V w') := fun a c1 V ty h =>
    (same6 [3, 3] a _ c1 2 _ (by decide) (h.below ((Below.refl _ _).alloc (Nat.le_refl _) _)) (at2n rfl)).mono fun _ _ ⟨he, hb⟩ => ⟨he, ((Below.refl V.heap.size V).alloc (Nat.le_refl _) _).trans (hb.mono (by simp))⟩
  have S2 : Hid (∀ x a c1 V ty, At V a [x] → Calls Try.prog 10 #[.slice a 1 c1, .slice (some ⟨V.heap.size, 0, none⟩) 1 1] (V.alloc (.cells #[.int .i64 x] ty)) fun e w' => e = .returned (.bool true) ∧ Below V.heap.size V w') := fun x a c1 V ty h =>
    (same6 [x] a _ c1 1 _ (by simp) (h.below ((Below.refl _ _).alloc (Nat.le_refl _) _)) (at1n V x ty)).mono fun _ _ ⟨he, hb⟩ => ⟨he, ((Below.refl V.heap.size V).alloc (Nat.le_refl _) _).trans (hb.mono (by simp))⟩
  go_enter Try.func12, Try.ntmps12
  go_wp2_with (first
    | (go_at_call 10; (with_reducible refine (S2.out 1 d d2 w5 _ ((hd.below b3).below (b4.trans (b5.mono b4.size)))).mono ?_); rintro e w6 ⟨rfl, b6⟩)
    | (go_at_call 10; (with_reducible refine (S2.out 6 b a2 w4 _ (((hb.below b2).below b3).below b4)).mono ?_); rintro e w5 ⟨rfl, b5⟩)
    | (go_at_call 10; (with_reducible refine (S1.out a a1 w3 _ ((ha.below b2).below b3)).mono ?_); rintro e w4 ⟨rfl, b4⟩)
    | (go_at_call 15; (with_reducible refine (TG.out w2).mono ?_); rintro e w3 ⟨rfl, b3⟩)
    | (go_at_call 9; (with_reducible refine (O2.out w1 _).mono ?_); rintro e w2 ⟨c, d1, d, d2, rfl, hd, b2⟩)
    | (go_at_call 9; (with_reducible refine (O1.out w _).mono ?_); rintro e w1 ⟨a, a1, b, a2, rfl, ha, hb, b1⟩))
  go_ret
  refine ⟨rfl, ?_⟩
  have q2 := b1.trans (b2.mono b1.size)
  have q3 := q2.trans (b3.mono q2.size)
  have q4 := q3.trans (b4.mono q3.size)
  have q5 := q4.trans (b5.mono q4.size)
  exact q5.trans (b6.mono q5.size)
end Go.Proofs.Ytlnodnkfagehgab

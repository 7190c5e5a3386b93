/- The document's whole numbers of any length: Int (pianolaref00): one that doesn't fit. -/
import Derived.Test.YtoenbiigamegoabBigInt
namespace Go.Proofs.Ytoenbiigamegoab
open Go.ChangeShapes Go.WideShapes Go.ChangeAt Go.RowKit

set_option maxRecDepth 100000 in
set_option maxHeartbeats 1000000 in
theorem int_low (neg : Bool) (a : Option Addr) (len cap : Nat) (ds : List Int) (x : Int) (w : World) (h : Wh w neg a len cap ds x) (hf : x < -9223372036854775808) :
    Calls Try.prog 17 #[.agg #[.bool neg, .slice a len cap]] w (ToInt w x) := by
  have HX : Hid (∀ W, Below w.heap.size w W → Wh W neg a len cap ds x) := fun W hb => h.below hb
  have HO1 : Hid (∀ W, Calls Try.prog 14 #[.int .i64 (-9223372036854775808)] W (MadeWh W (-9223372036854775808) 3)) := fun W => of_any _ W (by decide)
  have HO2 : Hid (∀ W, Calls Try.prog 14 #[.int .i64 9223372036854775807] W (MadeWh W 9223372036854775807 3)) := fun W => of_any _ W (by decide)
  have HC1 : Hid (∀ W n' a' l' c' d', Wh W neg a len cap ds x → Wh W n' a' l' c' d' (-9223372036854775808) → Calls Try.prog 30 #[.agg #[.bool neg, .slice a len cap], .agg #[.bool n', .slice a' l' c']] W (fun e w' => e = .returned (.int .i64 (-1)) ∧ Below W.heap.size W w')) :=
    fun W n' a' l' c' d' g1 g2 => (cmp_any neg n' a a' len l' cap c' ds d' x _ W g1 g2).mono (fun e w' ⟨q1, q2⟩ => ⟨by rw [q1, cmpI_lt hf], q2⟩)
  have HC2 : Hid (∀ W n' a' l' c' d', Wh W neg a len cap ds x → Wh W n' a' l' c' d' 9223372036854775807 → Calls Try.prog 30 #[.agg #[.bool neg, .slice a len cap], .agg #[.bool n', .slice a' l' c']] W (fun e w' => e = .returned (.int .i64 (-1)) ∧ Below W.heap.size W w')) :=
    fun W n' a' l' c' d' g1 g2 => (cmp_any neg n' a a' len l' cap c' ds d' x _ W g1 g2).mono (fun e w' ⟨q1, q2⟩ => ⟨by rw [q1, cmpI_lt (by omega)], q2⟩)
  have BX := box1_first w (.bool neg) (.slice a len cap) 38
  have HF : Hid (fitV x = 0 ∧ fitB x = false) := ⟨fitV_no (by omega), fitB_no (by omega)⟩
  clear h
  go_enter Try.func17, Try.ntmps17
  go_upto_region 1 with fail
  generalize hW : (w.alloc _ : World) = W at *
  clear hW
  have b0 := BX.c0
  have b1 := BX.c1
  go_cut [15] (fun s15 wx => s15 = .bool true ∧ Box1 w wx (.bool neg) (.slice a len cap))
  case first =>
    go_region_with (first
      | (go_at_call 14; (with_reducible refine (HO1.out _).mono ?_); rintro e w1 ⟨m1, a1, l1, p1, d1, rfl, hw1, hb1, -⟩; have B1 := BX.drew.later hb1; have c0 := B1.c0; have c1 := B1.c1)
      | (go_at_call 30; (with_reducible refine (HC1.out _ _ _ _ _ _ (HX.out _ B1.old) hw1).mono ?_); rintro e w2 ⟨rfl, hb2⟩; have B2 := B1.later hb2; have c0' := B2.c0; have c1' := B2.c1)
      | (go_at_call 14; (with_reducible refine (HO2.out _).mono ?_); rintro e w3 ⟨m3, a3, l3, p3, d3, rfl, hw3, hb3, -⟩; have B3 := B2.later hb3; have c0'' := B3.c0; have c1'' := B3.c1)
      | (go_at_call 30; (with_reducible refine (HC2.out _ _ _ _ _ _ (HX.out _ B3.old) hw3).mono ?_); rintro e w4 ⟨rfl, hb4⟩; have B4 := B3.later hb4; have c0''' := B4.c0; have c1''' := B4.c1))
    all_goals
      go_wp2_with fail
      go_meet
      exact ⟨rfl, B2⟩
  case rest =>
    obtain ⟨rfl, B5⟩ := hcut
    clear HO1 HO2 HC1 HC2 BX b0 b1
    go_wp2
    go_ret2
    exact ⟨ret_two HF.out.1.symm HF.out.2.symm, B5.old⟩

set_option maxRecDepth 100000 in
set_option maxHeartbeats 1000000 in
theorem int_high (neg : Bool) (a : Option Addr) (len cap : Nat) (ds : List Int) (x : Int) (w : World) (h : Wh w neg a len cap ds x) (hf : 9223372036854775807 < x) :
    Calls Try.prog 17 #[.agg #[.bool neg, .slice a len cap]] w (ToInt w x) := by
  have HX : Hid (∀ W, Below w.heap.size w W → Wh W neg a len cap ds x) := fun W hb => h.below hb
  have HO1 : Hid (∀ W, Calls Try.prog 14 #[.int .i64 (-9223372036854775808)] W (MadeWh W (-9223372036854775808) 3)) := fun W => of_any _ W (by decide)
  have HO2 : Hid (∀ W, Calls Try.prog 14 #[.int .i64 9223372036854775807] W (MadeWh W 9223372036854775807 3)) := fun W => of_any _ W (by decide)
  have HC1 : Hid (∀ W n' a' l' c' d', Wh W neg a len cap ds x → Wh W n' a' l' c' d' (-9223372036854775808) → Calls Try.prog 30 #[.agg #[.bool neg, .slice a len cap], .agg #[.bool n', .slice a' l' c']] W (fun e w' => e = .returned (.int .i64 1) ∧ Below W.heap.size W w')) :=
    fun W n' a' l' c' d' g1 g2 => (cmp_any neg n' a a' len l' cap c' ds d' x _ W g1 g2).mono (fun e w' ⟨q1, q2⟩ => ⟨by rw [q1, cmpI_gt (by omega)], q2⟩)
  have HC2 : Hid (∀ W n' a' l' c' d', Wh W neg a len cap ds x → Wh W n' a' l' c' d' 9223372036854775807 → Calls Try.prog 30 #[.agg #[.bool neg, .slice a len cap], .agg #[.bool n', .slice a' l' c']] W (fun e w' => e = .returned (.int .i64 1) ∧ Below W.heap.size W w')) :=
    fun W n' a' l' c' d' g1 g2 => (cmp_any neg n' a a' len l' cap c' ds d' x _ W g1 g2).mono (fun e w' ⟨q1, q2⟩ => ⟨by rw [q1, cmpI_gt hf], q2⟩)
  have BX := box1_first w (.bool neg) (.slice a len cap) 38
  have HF : Hid (fitV x = 0 ∧ fitB x = false) := ⟨fitV_no (by omega), fitB_no (by omega)⟩
  clear h
  go_enter Try.func17, Try.ntmps17
  go_upto_region 1 with fail
  generalize hW : (w.alloc _ : World) = W at *
  clear hW
  have b0 := BX.c0
  have b1 := BX.c1
  go_cut [15] (fun s15 wx => s15 = .bool true ∧ Box1 w wx (.bool neg) (.slice a len cap))
  case first =>
    go_region_with (first
      | (go_at_call 14; (with_reducible refine (HO1.out _).mono ?_); rintro e w1 ⟨m1, a1, l1, p1, d1, rfl, hw1, hb1, -⟩; have B1 := BX.drew.later hb1; have c0 := B1.c0; have c1 := B1.c1)
      | (go_at_call 30; (with_reducible refine (HC1.out _ _ _ _ _ _ (HX.out _ B1.old) hw1).mono ?_); rintro e w2 ⟨rfl, hb2⟩; have B2 := B1.later hb2; have c0' := B2.c0; have c1' := B2.c1)
      | (go_at_call 14; (with_reducible refine (HO2.out _).mono ?_); rintro e w3 ⟨m3, a3, l3, p3, d3, rfl, hw3, hb3, -⟩; have B3 := B2.later hb3; have c0'' := B3.c0; have c1'' := B3.c1)
      | (go_at_call 30; (with_reducible refine (HC2.out _ _ _ _ _ _ (HX.out _ B3.old) hw3).mono ?_); rintro e w4 ⟨rfl, hb4⟩; have B4 := B3.later hb4; have c0''' := B4.c0; have c1''' := B4.c1))
    all_goals
      go_wp2_with fail
      go_meet
      exact ⟨rfl, B4⟩
  case rest =>
    obtain ⟨rfl, B5⟩ := hcut
    clear HO1 HO2 HC1 HC2 BX b0 b1
    go_wp2
    go_ret2
    exact ⟨ret_two HF.out.1.symm HF.out.2.symm, B5.old⟩

/-- A number of any length as an int, if it fits. -/
theorem toInt_any (neg : Bool) (a : Option Addr) (len cap : Nat) (ds : List Int) (x : Int) (w : World) (h : Wh w neg a len cap ds x) :
    Calls Try.prog 17 #[.agg #[.bool neg, .slice a len cap]] w (ToInt w x) := by
  by_cases h1 : x < -9223372036854775808
  · exact int_low neg a len cap ds x w h h1
  · by_cases h2 : 9223372036854775807 < x
    · exact int_high neg a len cap ds x w h h2
    · exact int_fits neg a len cap ds x w h (by omega)
end Go.Proofs.Ytoenbiigamegoab

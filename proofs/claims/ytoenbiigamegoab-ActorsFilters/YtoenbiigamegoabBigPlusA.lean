/- The document's whole numbers of any length: Plus (pianolaref00), two of one sign. -/
import Derived.Test.YtoenbiigamegoabBigWh
import Derived.Test.YtoenbiigamegoabBigAdd
namespace Go.Proofs.Ytoenbiigamegoab
open Go.ChangeShapes Go.WideShapes Go.ChangeAt Go.RowKit

set_option maxRecDepth 100000 in
set_option maxHeartbeats 1000000 in
theorem plus_same (neg : Bool) (a1 a2 : Option Addr) (len1 len2 cap1 cap2 : Nat) (xs ys : List Int) (x y : Int) (w : World) (h1 : Wh w neg a1 len1 cap1 xs x) (h2 : Wh w neg a2 len2 cap2 ys y) (hsum : len1 + len2 < 1000000000) :
    Calls Try.prog 15 #[.agg #[.bool neg, .slice a1 len1 cap1], .agg #[.bool neg, .slice a2 len2 cap2]] w (MadeWh w (x + y) (len1 + len2 + 1)) := by
  have HA : Hid (∀ w', Below w.heap.size w w' → Calls Try.prog 26 #[.slice a1 len1 cap1, .slice a2 len2 cap2] w' (MadeRow w' (val xs + val ys) (len1 + len2 + 1))) :=
    fun w' hb => addRow_any a1 a2 len1 len2 cap1 cap2 xs ys w' (h1.row.below hb) (h2.row.below hb) hsum
  have hq : (neg == neg) = true := by simp
  have HB := boxes_first w (.bool neg) (.slice a1 len1 cap1) (.bool neg) (.slice a2 len2 cap2) (.bool false) (.slice none 0 0) 38 38 38
  have HW : Hid (∀ ds, val ds = val xs + val ys → (x + y = if neg then -val ds else val ds) ∧ (neg = true → ds ≠ [])) := by
    intro ds hds
    cases neg
    · have := h1.pos.1
      have := h2.pos.1
      exact ⟨by simp; omega, fun h => by cases h⟩
    · have := h1.neg
      have := h2.neg
      exact ⟨by simp; omega, fun _ e => by subst e; simp [val] at hds; omega⟩
  clear h1 h2
  go_enter Try.func15, Try.ntmps15
  go_wp2
  generalize hW : (((w.alloc _).alloc _).alloc _ : World) = W at *
  clear hW
  have c10 := HB.c10
  have c11 := HB.c11
  have c21 := HB.c21
  have c30 := HB.c30
  have c31 := HB.c31
  have f30 := HB.f30
  have f31 := HB.f31
  go_region_with (go_at_call 26; refine (HA.out _ HB.drew.old).mono ?_; rintro e w' ⟨a', n', cap', ds', rfl, r1, r2, r3, r4, r5⟩; have d10 := (HB.drew.later r4).c10; have d30 := (HB.drew.later r4).c30; have d31 := (HB.drew.later r4).c31; have e30 := (HB.drew.later r4).f30; have e31 := (HB.drew.later r4).f31)
  all_goals
    have HF := wh_end (HB.drew.later r4) r1 r2 (HW.out _ r3).1 (HW.out _ r3).2
    go_wp2
    exact bodyPost_ret (v := .agg #[.bool neg, .slice a' n' cap']) (by simp [results, Try.results15, go_sem, d30, d31]) rfl ⟨neg, a', n', cap', ds', rfl, HF.1, HF.2, r5⟩
end Go.Proofs.Ytoenbiigamegoab

/- The document's whole numbers of any length: Plus (pianolaref00), two that are each other's opposite. -/
import Derived.Test.YtoenbiigamegoabBigWh
namespace Go.Proofs.Ytoenbiigamegoab
open Go.ChangeShapes Go.WideShapes Go.ChangeAt Go.RowKit

set_option maxRecDepth 100000 in
set_option maxHeartbeats 1000000 in
theorem plus_eq (neg : Bool) (a1 a2 : Option Addr) (len1 len2 cap1 cap2 : Nat) (xs ys : List Int) (x y : Int) (w : World) (h1 : Wh w neg a1 len1 cap1 xs x) (h2 : Wh w (!neg) a2 len2 cap2 ys y) (hc : val xs = val ys) :
    Calls Try.prog 15 #[.agg #[.bool neg, .slice a1 len1 cap1], .agg #[.bool (!neg), .slice a2 len2 cap2]] w (MadeWh w (x + y) (len1 + len2 + 1)) := by
  have HS : Hid (∀ w', Below w.heap.size w w' → Calls Try.prog 27 #[.slice a1 len1 cap1, .slice a2 len2 cap2] w' (fun e w'' => ∃ n : Nat, e = .returned (.int .i64 0) ∧ w'' = w'.drewN n)) :=
    fun w' hb => (size_any a1 a2 len1 len2 cap1 cap2 xs ys w' (h1.row.below hb) (h2.row.below hb) h1.norm h2.norm).mono (fun e w'' ⟨n, k1, k2⟩ => ⟨n, by rw [k1, cmpI_eq hc], k2⟩)
  have hq : (neg == !neg) = false := by cases neg <;> rfl
  have HB := boxes_first w (.bool neg) (.slice a1 len1 cap1) (.bool (!neg)) (.slice a2 len2 cap2) (.bool false) (.slice none 0 0) 38 38 38
  have HZ : Hid (x + y = 0) := by
    show x + y = 0
    cases neg
    · have := h1.pos.1; have := h2.neg.1; omega
    · have := h1.neg.1; have := h2.pos.1; omega
  clear h1 h2 hc
  go_enter Try.func15, Try.ntmps15
  go_wp2_with (go_at_call 27; refine (HS.out _ HB.old).mono ?_; rintro e w' ⟨n, rfl, rfl⟩)
  have hB := HB.later (bdrew (Below.refl _ _) n)
  have d30 := hB.c30
  have d31 := hB.c31
  have HF := wh_end (a := none) (len := 0) (cap := 0) (ds := []) (neg := false) (n := x + y) hB ⟨rfl, Or.inl rfl, fun _ => ⟨rfl, rfl⟩, Nat.le_refl _, by decide, dig_nil⟩ (fun h => absurd rfl h) (by simp [val]; exact HZ.out) (fun h => by cases h)
  exact bodyPost_ret (v := .agg #[.bool false, .slice none 0 0]) (by simp [results, Try.results15, go_sem]) rfl ⟨false, none, 0, 0, [], rfl, HF.1, HF.2, by omega⟩
end Go.Proofs.Ytoenbiigamegoab

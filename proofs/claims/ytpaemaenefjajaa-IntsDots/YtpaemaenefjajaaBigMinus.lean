/- The document's whole numbers of any length: Minus (pianolaref00). -/
import Derived.Test.YtpaemaenefjajaaBigPlus
import Derived.Test.YtpaemaenefjajaaBigNeg
namespace Go.Proofs.Ytpaemaenefjajaa
open Go.ChangeShapes Go.WideShapes Go.ChangeAt Go.RowKit

set_option maxRecDepth 100000 in
set_option maxHeartbeats 1000000 in
theorem minus_any (neg1 neg2 : Bool) (a1 a2 : Option Addr) (len1 len2 cap1 cap2 : Nat) (xs ys : List Int) (x y : Int) (w : World) (h1 : Wh w neg1 a1 len1 cap1 xs x) (h2 : Wh w neg2 a2 len2 cap2 ys y) (hsum : len1 + len2 < 1000000000) :
    Calls Try.prog 29 #[.agg #[.bool neg1, .slice a1 len1 cap1], .agg #[.bool neg2, .slice a2 len2 cap2]] w (MadeWh w (x - y) (len1 + len2 + 1)) := by
  have HB := boxes_first w (.bool neg1) (.slice a1 len1 cap1) (.bool neg2) (.slice a2 len2 cap2) (.bool false) (.slice none 0 0) 36 36 36
  have HX1 : Hid (∀ W, Below w.heap.size w W → Wh W neg1 a1 len1 cap1 xs x) := fun W hb => h1.below hb
  have HN : Hid (∀ W, Below w.heap.size w W → Calls Try.prog 41 #[.agg #[.bool neg2, .slice a2 len2 cap2]] W (MadeWh W (-y) len2)) := fun W hb => negative_any neg2 a2 len2 cap2 ys y W (h2.below hb)
  clear h1 h2
  go_enter Try.func29, Try.ntmps29
  go_wp2
  generalize hW : (((w.alloc _).alloc _).alloc _ : World) = W at *
  clear hW
  have c10 := HB.c10
  have c11 := HB.c11
  have c20 := HB.c20
  have c21 := HB.c21
  have c30 := HB.c30
  have c31 := HB.c31
  have f30 := HB.f30
  have f31 := HB.f31
  go_region_with (first
    | (go_at_call 41; refine (HN.out _ HB.drew.old).mono ?_; rintro e w1 ⟨n1, d1, l1, p1, q1, rfl, hw1, hb1, hl1⟩; have B1 := HB.drew.later hb1; have d10 := B1.c10; have d11 := B1.c11; have d30 := B1.c30; have d31 := B1.c31; have e30 := B1.f30; have e31 := B1.f31)
    | (go_at_call 27; refine (plus_any _ _ _ _ _ _ _ _ _ _ _ _ _ (HX1.out _ B1.old) hw1 (by omega)).mono ?_; rintro e w2 ⟨n2, d2, l2, p2, q2, rfl, hw2, hb2, hl2⟩; have B2 := B1.later hb2; have g30 := B2.c30; have g31 := B2.c31; have k30 := B2.f30; have k31 := B2.f31))
  all_goals
    have HF := wh_end B2 hw2.row hw2.norm hw2.worth hw2.sign
    go_wp2
    exact bodyPost_ret (v := .agg #[.bool n2, .slice d2 l2 p2]) (by simp [results, Try.results29, go_sem, g30, g31]) rfl ⟨n2, d2, l2, p2, q2, rfl, by rw [Int.sub_eq_add_neg]; exact HF.1, HF.2, by omega⟩

end Go.Proofs.Ytpaemaenefjajaa

/- The document's Mul of two ints (pianolaref01): what fits, as plain numbers. -/
import Derived.Test.YtgjeihdibcjjcabBigTimesB
import Derived.Test.YtgjeihdibcjjcabRefAdd
namespace Go.Proofs.Ytgjeihdibcjjcab
open Go.ChangeShapes Go.WideShapes Go.ChangeAt Go.RowKit

set_option maxRecDepth 100000 in
set_option maxHeartbeats 1000000 in
theorem rmul_any (a b : Int) (w : World) (ha : -9223372036854775808 ≤ a ∧ a ≤ 9223372036854775807) (hb : -9223372036854775808 ≤ b ∧ b ≤ 9223372036854775807) :
    Calls Try.prog 40 #[.int .i64 a, .int .i64 b] w (Told w (a * b)) := by
  have HA : Hid (∀ W, Calls Try.prog 12 #[.int .i64 a] W (MadeWh W a 3)) := fun W => of_any a W ha
  have HB : Hid (∀ W, Calls Try.prog 12 #[.int .i64 b] W (MadeWh W b 3)) := fun W => of_any b W hb
  have HF : Hid (∀ W : World, ∀ n1 n2 a1 a2 l1 l2 c1 c2 d1 d2, Wh W n1 a1 l1 c1 d1 a → Wh W n2 a2 l2 c2 d2 b → l1 ≤ 3 → l2 ≤ 3 → Calls Try.prog 11 #[.agg #[.bool n1, .slice a1 l1 c1], .agg #[.bool n2, .slice a2 l2 c2]] W (MadeWh W (a * b) (l1 + l2))) :=
    fun W n1 n2 a1 a2 l1 l2 c1 c2 d1 d2 g1 g2 k1 k2 => times_any n1 n2 a1 a2 l1 l2 c1 c2 d1 d2 a b W g1 g2 (by omega)
  have HI : Hid (∀ W n3 a3 l3 c3 d3, Wh W n3 a3 l3 c3 d3 (a * b) → Calls Try.prog 55 #[.agg #[.bool n3, .slice a3 l3 c3]] W (ToInt W (a * b))) :=
    fun W n3 a3 l3 c3 d3 g => toInt_any n3 a3 l3 c3 d3 _ W g
  go_enter Try.func40, Try.ntmps40
  go_wp2_with (first
    | (go_at_call 11; refine (HF.out _ _ _ _ _ _ _ _ _ _ _ (hw1.below hb2) hw2 hl1 hl2).mono ?_; rintro e w3 ⟨n3, a3, l3, c3, d3, rfl, hw3, hb3, hl3⟩)
    | (go_at_call 55; refine (HI.out _ _ _ _ _ _ hw3).mono ?_; rintro e w4 ⟨rfl, hb4⟩)
    | (go_at_call 12; refine (HB.out w1).mono ?_; rintro e w2 ⟨n2, a2, l2, c2, d2, rfl, hw2, hb2, hl2⟩)
    | (go_at_call 12; refine (HA.out w).mono ?_; rintro e w1 ⟨n1, a1, l1, c1, d1, rfl, hw1, hb1, hl1⟩))
  go_ret2
  exact ⟨rfl, ((hb1.trans (hb2.mono hb1.size)).trans (hb3.mono (hb1.trans (hb2.mono hb1.size)).size)).trans (hb4.mono ((hb1.trans (hb2.mono hb1.size)).trans (hb3.mono (hb1.trans (hb2.mono hb1.size)).size)).size)⟩

end Go.Proofs.Ytgjeihdibcjjcab

/- The document's whole numbers of any length: Plus and Minus (pianolaref00). -/
import Derived.Test.YtoenbiigamegoabBigPlusA
import Derived.Test.YtoenbiigamegoabBigPlusB
import Derived.Test.YtoenbiigamegoabBigPlusC
import Derived.Test.YtoenbiigamegoabBigPlusD
namespace Go.Proofs.Ytoenbiigamegoab
open Go.ChangeShapes Go.WideShapes Go.ChangeAt Go.RowKit

theorem plus_any (neg1 neg2 : Bool) (a1 a2 : Option Addr) (len1 len2 cap1 cap2 : Nat) (xs ys : List Int) (x y : Int) (w : World) (h1 : Wh w neg1 a1 len1 cap1 xs x) (h2 : Wh w neg2 a2 len2 cap2 ys y) (hsum : len1 + len2 < 1000000000) :
    Calls Try.prog 15 #[.agg #[.bool neg1, .slice a1 len1 cap1], .agg #[.bool neg2, .slice a2 len2 cap2]] w (MadeWh w (x + y) (len1 + len2 + 1)) := by
  by_cases e : neg1 = neg2
  · subst e
    exact plus_same neg1 a1 a2 len1 len2 cap1 cap2 xs ys x y w h1 h2 hsum
  · have e' : neg2 = !neg1 := by cases neg1 <;> cases neg2 <;> simp_all
    subst e'
    rcases Int.lt_trichotomy (val xs) (val ys) with h | h | h
    · exact plus_lt neg1 a1 a2 len1 len2 cap1 cap2 xs ys x y w h1 h2 h
    · exact plus_eq neg1 a1 a2 len1 len2 cap1 cap2 xs ys x y w h1 h2 h
    · exact plus_gt neg1 a1 a2 len1 len2 cap1 cap2 xs ys x y w h1 h2 h

end Go.Proofs.Ytoenbiigamegoab

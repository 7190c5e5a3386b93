/- The methods of Body at any tag. (Written by tmpl/mkActG.py.) -/
import Derived.Test.YthgblljokonejaaActB1
import Derived.Test.YthgblljokonejaaActB2
import Derived.Test.YthgblljokonejaaActB3
import Derived.Test.YthgblljokonejaaActB4
import Derived.Test.YthgblljokonejaaActB5
import Derived.Test.YthgblljokonejaaActB6
import Derived.Test.YthgblljokonejaaActB7
import Derived.Test.YthgblljokonejaaActB8
import Derived.Test.YthgblljokonejaaActB9
import Derived.Test.YthgblljokonejaaActB10
import Derived.Test.YthgblljokonejaaActB11
namespace Go.Proofs.Ythgblljokonejaa
open Go.ChangeShapes Go.WideShapes Go.ChangeAt Go.RowKit

theorem bfire_any (t : Nat) (ht : 1 ≤ t ∧ t ≤ 11) (F : Nat → Prop) (w : World) (B K : Nat) (zs ks : List Int) (n : Nat) (a : Option Addr) (len cap : Nat) (I : List (List Int)) (hb : Bod F w B K t zs ks n) (hA : ArgL w a len I) (hn : n < 4611686018427387904) :
    Calls Try.prog 17 #[.pointer (some ⟨B, 0, none⟩), .slice a len cap] w (FireEnd F w B K t zs ks n I) := by
  revert hb
  revert t
  exact eleven (fun h => bfire_1 F w B K zs ks n a len cap I h hA hn) (fun h => bfire_2 F w B K zs ks n a len cap I h hA hn) (fun h => bfire_3 F w B K zs ks n a len cap I h hA hn) (fun h => bfire_4 F w B K zs ks n a len cap I h hA hn) (fun h => bfire_5 F w B K zs ks n a len cap I h hA hn) (fun h => bfire_6 F w B K zs ks n a len cap I h hA hn) (fun h => bfire_7 F w B K zs ks n a len cap I h hA hn) (fun h => bfire_8 F w B K zs ks n a len cap I h hA hn) (fun h => bfire_9 F w B K zs ks n a len cap I h hA hn) (fun h => bfire_10 F w B K zs ks n a len cap I h hA hn) (fun h => bfire_11 F w B K zs ks n a len cap I h hA hn)
theorem bfired_any (t : Nat) (ht : 1 ≤ t ∧ t ≤ 11) (F : Nat → Prop) (w : World) (B K : Nat) (zs ks : List Int) (n : Nat) (hb : Bod F w B K t zs ks n) : Calls Try.prog 16 #[.pointer (some ⟨B, 0, none⟩)] w fun e w' => e = .returned (.int .i64 (n : Int)) ∧ w' = w := by
  revert hb
  revert t
  exact eleven (fun h => bfired_1 F w B K zs ks n h) (fun h => bfired_2 F w B K zs ks n h) (fun h => bfired_3 F w B K zs ks n h) (fun h => bfired_4 F w B K zs ks n h) (fun h => bfired_5 F w B K zs ks n h) (fun h => bfired_6 F w B K zs ks n h) (fun h => bfired_7 F w B K zs ks n h) (fun h => bfired_8 F w B K zs ks n h) (fun h => bfired_9 F w B K zs ks n h) (fun h => bfired_10 F w B K zs ks n h) (fun h => bfired_11 F w B K zs ks n h)
theorem bstate_any (t : Nat) (ht : 1 ≤ t ∧ t ≤ 11) (F : Nat → Prop) (w : World) (B K : Nat) (zs ks : List Int) (n : Nat) (hb : Bod F w B K t zs ks n) : Calls Try.prog 15 #[.pointer (some ⟨B, 0, none⟩)] w (RowEnd w ks) := by
  revert hb
  revert t
  exact eleven (fun h => bstate_1 F w B K zs ks n h) (fun h => bstate_2 F w B K zs ks n h) (fun h => bstate_3 F w B K zs ks n h) (fun h => bstate_4 F w B K zs ks n h) (fun h => bstate_5 F w B K zs ks n h) (fun h => bstate_6 F w B K zs ks n h) (fun h => bstate_7 F w B K zs ks n h) (fun h => bstate_8 F w B K zs ks n h) (fun h => bstate_9 F w B K zs ks n h) (fun h => bstate_10 F w B K zs ks n h) (fun h => bstate_11 F w B K zs ks n h)
end Go.Proofs.Ythgblljokonejaa

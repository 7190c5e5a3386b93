/- Texts of one chain, laid one behind the other. -/
import Derived.Test.YtnlmbffdeknbjaaPartNetOf8
import Derived.Laws.Strings
namespace Go.Proofs.Ytnlmbffdeknbjaa
open Go.ChangeShapes Go.WideShapes Go.ChangeAt Go.RowKit
def wordS (t : Nat) : List UInt8 :=
  match t with
  | 1 => [102, 105, 108, 116, 101, 114]
  | 2 => [117, 112]
  | 3 => [100, 111, 119, 110]
  | 4 => [119, 101, 97, 118, 101]
  | 5 => [117, 110, 119, 101, 97, 118, 101]
  | 6 => [97, 100, 100]
  | 7 => [113, 117, 111, 116]
  | 8 => [115, 117, 109]
  | 9 => [99, 111, 112, 121]
  | 10 => [116, 105, 99, 107]
  | 11 => [100, 114, 111, 112]
  | _ => []
/-- The tag of a word, and the error's number, looked for from a tag on. -/
def tagG : Nat → Nat → List UInt8 → Nat × Int
  | 0, _, _ => (0, 60)
  | f + 1, t, x => if wordS t = x then (t, 0) else tagG f (t + 1) x
def tagS (x : List UInt8) : Nat × Int := tagG 11 1 x
end Go.Proofs.Ytnlmbffdeknbjaa

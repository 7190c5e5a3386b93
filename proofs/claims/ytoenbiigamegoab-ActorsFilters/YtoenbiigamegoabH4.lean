/- The tags' words: shape's spelt, Tag and Word; the document's. (Written by tmpl/mkH4.py.) -/
import Derived.Test.YtoenbiigamegoabH2b
import Derived.Laws.Strings
namespace Go.Proofs.Ytoenbiigamegoab
open Go.ChangeShapes Go.WideShapes Go.ChangeAt Go.RowKit

def str6 (l : List UInt8) : ByteArray := ⟨l.toArray⟩
theorem str6_list (l : List UInt8) : (str6 l).toList = l := ByteArray.toList_mk l
def wordS (t : Nat) : List UInt8 :=
  match t with
  | 1 => [102, 105, 108, 116, 101, 114]
  | 2 => [117, 112]
  | 3 => [100, 111, 119, 110]
  | 4 => [119, 101, 97, 118, 101]
  | 5 => [117, 110, 119, 101, 97, 118, 101]
  | 6 => [97, 100, 100]
  | 7 => [113, 117, 111, 116]
  | 8 => [115, 117, 109]
  | 9 => [99, 111, 112, 121]
  | 10 => [116, 105, 99, 107]
  | 11 => [100, 114, 111, 112]
  | _ => []
/-- The tag of a word, and the error's number, looked for from a tag on. -/
def tagG : Nat → Nat → List UInt8 → Nat × Int
  | 0, _, _ => (0, 60)
  | f + 1, t, x => if wordS t = x then (t, 0) else tagG f (t + 1) x
def tagS (x : List UInt8) : Nat × Int := tagG 11 1 x
def wordE (t : Nat) : List UInt8 × Int := if 1 ≤ t ∧ t ≤ 11 then (wordS t, 0) else ([], 60)
theorem tag_word : ∀ t, 1 ≤ t ∧ t ≤ 11 → tagS (wordS t) = (t, 0) := eleven rfl rfl rfl rfl rfl rfl rfl rfl rfl rfl rfl
theorem list_dec6 (l m : List UInt8) : (l == m) = decide (l = m) := by
  by_cases h : l = m
  · simp [h]
  · rw [decide_eq_false h]; simpa using h
end Go.Proofs.Ytoenbiigamegoab

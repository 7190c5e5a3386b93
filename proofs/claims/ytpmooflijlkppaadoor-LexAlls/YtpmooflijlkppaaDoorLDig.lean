/- The document's Digits, Spelt; the statements' right. -/
import Derived.Test.YtpmooflijlkppaaDoorLSame
import Derived.Test.YtpmooflijlkppaaDoorLR1
import Derived.Test.YtpmooflijlkppaaDoorLSpeltM
import Derived.Laws.IdiomStrings
namespace Go.Proofs.YtpmooflijlkppaaDoor
open Go.ChangeShapes Go.WideShapes Go.ChangeAt Go.RowKit

theorem wrap_byte {x : Nat} (h : x < 256) : IntKind.u8.wrap (x : Int) = (x : Int) := by
  simp only [IntKind.wrap]
  show ((x : Int) % 256) = _
  omega
theorem str_cons (c : UInt8) (s : List UInt8) : str [c] ++ str s = str (c :: s) := ByteArray.mk_append_mk [c] s
theorem natS_len : ∀ (m n : Nat), n < 10 ^ m → (natS n).length ≤ m
  | 0, n, h => by
    have : n = 0 := by simp at h; exact h
    subst this; rw [natS_zero]; simp
  | m + 1, n, h => by
    by_cases h0 : n = 0
    · subst h0; rw [natS_zero]; simp
    · rw [natS_pos h0, List.length_append]
      have := natS_len m (n / 10) (by rw [Nat.pow_succ] at h; omega)
      simp; omega
end Go.Proofs.YtpmooflijlkppaaDoor

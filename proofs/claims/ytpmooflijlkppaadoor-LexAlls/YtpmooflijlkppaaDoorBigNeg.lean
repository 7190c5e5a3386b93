/- The document's whole numbers of any length: Negative (pianolaref00). -/
import Derived.Test.YtpmooflijlkppaaDoorBigWh
namespace Go.Proofs.YtpmooflijlkppaaDoor
open Go.ChangeShapes Go.WideShapes Go.ChangeAt Go.RowKit

set_option maxHeartbeats 1000000 in
theorem negative_any (neg : Bool) (a : Option Addr) (len cap : Nat) (ds : List Int) (n : Int) (w : World) (h : Wh w neg a len cap ds n) :
    Calls Tryd.prog 65 #[.agg #[.bool neg, .slice a len cap]] w (MadeWh w (-n) len) := by
  have hs := h.row.size
  have hsh := h.row.short
  cases neg
  · by_cases h0 : len = 0
    · subst h0
      have e : ds = [] := List.eq_nil_of_length_eq_zero hs
      subst e
      have hW : Wh w false a 0 cap [] (-n) := ⟨h.row, h.norm, by have := h.pos.1; simp [val] at *; omega, fun h => by cases h⟩
      clear h
      go_enter Tryd.func65, Tryd.ntmps65
      go_wp2
      have hb : ∀ o1 o2, Below w.heap.size w ((w.alloc o1).alloc o2) := fun o1 o2 => ((Below.refl _ _).alloc (Nat.le_refl _) _).alloc (by simp) _
      exact bodyPost_ret (v := .agg #[.bool false, .slice a 0 cap]) (by simp [results, Tryd.results65, go_sem]) rfl ⟨false, a, 0, cap, [], rfl, hW.below (hb _ _), hb _ _, Nat.le_refl _⟩
    · have hp : 0 < len := by omega
      have hW : Wh w true a len cap ds (-n) := ⟨h.row, h.norm, by have := h.pos.1; simp; omega, fun _ e => by subst e; simp at hs; omega⟩
      clear h
      go_enter Tryd.func65, Tryd.ntmps65
      go_wp2
      have hb : ∀ o1 o2, Below w.heap.size w ((w.alloc o1).alloc o2) := fun o1 o2 => ((Below.refl _ _).alloc (Nat.le_refl _) _).alloc (by simp) _
      exact bodyPost_ret (v := .agg #[.bool true, .slice a len cap]) (by simp [results, Tryd.results65, go_sem]) rfl ⟨true, a, len, cap, ds, rfl, hW.below (hb _ _), hb _ _, Nat.le_refl _⟩
  · have hW : Wh w false a len cap ds (-n) := ⟨h.row, h.norm, by have := h.neg.1; simp; omega, fun h => by cases h⟩
    clear h
    go_enter Tryd.func65, Tryd.ntmps65
    go_wp2
    have hb : ∀ o1 o2, Below w.heap.size w ((w.alloc o1).alloc o2) := fun o1 o2 => ((Below.refl _ _).alloc (Nat.le_refl _) _).alloc (by simp) _
    exact bodyPost_ret (v := .agg #[.bool false, .slice a len cap]) (by simp [results, Tryd.results65, go_sem]) rfl ⟨false, a, len, cap, ds, rfl, hW.below (hb _ _), hb _ _, Nat.le_refl _⟩

end Go.Proofs.YtpmooflijlkppaaDoor

/- Texts of one chain, laid one behind the other. -/
import Derived.Test.YtolpelfdhcccnaaGreatDoorPartSourceParses18
import Derived.Test.YtolpelfdhcccnaaGreatDoorPartSourceParses1
import Derived.Laws.IdiomStrings
namespace Go.Proofs.YtolpelfdhcccnaaGreatDoor
open Go.ChangeShapes Go.WideShapes Go.ChangeAt Go.RowKit
theorem natS_len : ∀ (m n : Nat), n < 10 ^ m → (natS n).length ≤ m
  | 0, n, h => by
    have : n = 0 := by simp at h; exact h
    subst this; rw [natS_zero]; simp
  | m + 1, n, h => by
    by_cases h0 : n = 0
    · subst h0; rw [natS_zero]; simp
    · rw [natS_pos h0, List.length_append]
      have := natS_len m (n / 10) (by rw [Nat.pow_succ] at h; omega)
      simp; omega
def rightB (t : Tok) : Bool := if t.sort = 1 then decide (t.num = 0) && nameB t.text else if t.sort = 2 then decide (t.text = []) else if t.sort = 3 then decide (t.num = 0) && markT t.text else false
end Go.Proofs.YtolpelfdhcccnaaGreatDoor
namespace Go.Proofs.YtolpelfdhcccnaaGreatDoor
open Go.RowKit
/-! ### Pieces: a token, or none, and blanks behind it -/
def free (l : List UInt8) : Prop := wordB (by8 l 0) = false
/-! ### Tokens without their places -/
def bareT (t : Tok) : Tok := { t with place := 0 }
end Go.Proofs.YtolpelfdhcccnaaGreatDoor
namespace Go.Proofs.YtolpelfdhcccnaaGreatDoor
open Go.ChangeShapes Go.WideShapes Go.ChangeAt Go.RowKit
theorem right_of {t : Tok} (h : (t.sort = 1 ∧ t.num = 0 ∧ t.text.length ≤ 16 ∧ letB (by8 t.text 0) = true ∧ rowN wordB t.text = t.text.length) ∨ (t.sort = 2 ∧ t.text = [] ∧ fits8 t.num = true) ∨ (t.sort = 3 ∧ t.num = 0 ∧ markT t.text = true)) : rightB t = true ∧ fits8 t.num = true ∧ t.sort ≠ 0 := by
  unfold rightB
  rcases h with ⟨a, b, c, d, e⟩ | ⟨a, b, c⟩ | ⟨a, b, c⟩
  · refine ⟨?_, by rw [b]; rfl, by omega⟩
    rw [if_pos a, b]
    unfold nameB
    rw [decide_eq_true c, d, decide_eq_true e]
    rfl
  · refine ⟨?_, c, by omega⟩
    rw [if_neg (by omega), if_pos a, b]
    rfl
  · refine ⟨?_, by rw [b]; rfl, by omega⟩
    rw [if_neg (by omega), if_neg (by omega), if_pos a, b, c]
    rfl
/-- One token of a text that is read, and the rest. -/
structure Step (l : List UInt8) (p : Nat) (t : Tok) (rest : List Tok) (q : Nat) (s : List UInt8) : Prop where
  place : t.place = (q : Int)
  le : p ≤ q
  spelt : spelt t = s
  stands : (l.drop q).take s.length = s
  room : q + s.length ≤ l.length
  fits : fits8 t.num = true
  ways : (t.sort = 0 ∧ rest = [] ∧ q + s.length = l.length) ∨ (t.sort ≠ 0 ∧ rightB t = true ∧ rest ≠ [] ∧ allL (q + s.length) (l.drop (q + s.length)) = ⟨rest, 0, 0⟩)
theorem place_step_k {l : List UInt8} {p : Nat} {ts : List Tok} (hp : p ≤ l.length) (h : allL p (l.drop p) = ⟨ts, 0, 0⟩) : ∃ t rest q s, ts = t :: rest ∧ Step l p t rest q s := by
  have hk := skipN_le false (l.drop p)
  rw [List.length_drop] at hk
  by_cases h1 : (l.drop p).drop (skipN false (l.drop p)) = []
  · rw [allL_end h1] at h
    have hl := congrArg List.length h1
    rw [List.length_drop, List.length_drop, List.length_nil] at hl
    simp only [Got.mk.injEq, and_true] at h
    exact ⟨⟨0, [], 0, ((p + skipN false (l.drop p) : Nat) : Int)⟩, [], p + skipN false (l.drop p), [], h.symm, ⟨rfl, by omega, rfl, rfl, by simp; omega, rfl, Or.inl ⟨rfl, rfl, by simp; omega⟩⟩⟩
  · by_cases h2 : (tokO ((l.drop p).drop (skipN false (l.drop p)))).err = 0
    · rw [allL_tok h1 h2] at h
      have h3 := tok_some h2
      obtain ⟨hs1, hs2⟩ := tok_spelt h2
      obtain ⟨r1, r2, r3⟩ := right_of hs2
      rw [List.drop_drop] at h h2 h3 hs1 r1 r2 r3
      rw [List.drop_drop, ← Nat.add_assoc] at h
      rw [List.length_drop] at h3
      have hg : (allL (p + skipN false (l.drop p) + (tokO (l.drop (p + skipN false (l.drop p)))).n) (l.drop (p + skipN false (l.drop p) + (tokO (l.drop (p + skipN false (l.drop p)))).n))).err = 0 := by
        unfold Got.cons at h
        by_cases hg : (allL (p + skipN false (l.drop p) + (tokO (l.drop (p + skipN false (l.drop p)))).n) (l.drop (p + skipN false (l.drop p) + (tokO (l.drop (p + skipN false (l.drop p)))).n))).err = 0
        · exact hg
        · rw [if_neg hg] at h
          rw [h] at hg; exact absurd rfl hg
      have hz := allL_zero hg
      have hsm := all_some _ (p + skipN false (l.drop p) + (tokO (l.drop (p + skipN false (l.drop p)))).n) _ (Nat.le_refl _) hg
      unfold Got.cons at h
      rw [if_pos hg] at h
      simp only [Got.mk.injEq, and_true] at h
      have hlen : ((l.drop (p + skipN false (l.drop p))).take (tokO (l.drop (p + skipN false (l.drop p)))).n).length = (tokO (l.drop (p + skipN false (l.drop p)))).n := by
        rw [List.length_take, List.length_drop]; omega
      refine ⟨{ (tokO (l.drop (p + skipN false (l.drop p)))).tok with place := ((p + skipN false (l.drop p) : Nat) : Int) }, _, p + skipN false (l.drop p), (l.drop (p + skipN false (l.drop p))).take (tokO (l.drop (p + skipN false (l.drop p)))).n, h.symm, ⟨rfl, by omega, hs1, by rw [hlen], by rw [hlen]; omega, r2, Or.inr ⟨r3, r1, hsm.2, ?_⟩⟩⟩
      rw [hlen]
      generalize allL (p + skipN false (l.drop p) + (tokO (l.drop (p + skipN false (l.drop p)))).n) (l.drop (p + skipN false (l.drop p) + (tokO (l.drop (p + skipN false (l.drop p)))).n)) = g at hg hz ⊢
      obtain ⟨a, b, c⟩ := g
      simp only at hg hz
      subst hg
      subst hz
      rfl
    · rw [allL_err h1 h2] at h
      exact absurd (congrArg Got.err h) h2
end Go.Proofs.YtolpelfdhcccnaaGreatDoor

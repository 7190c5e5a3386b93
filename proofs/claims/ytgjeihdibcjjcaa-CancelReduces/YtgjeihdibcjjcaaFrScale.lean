/- What frac's inner Scale reckons: the least common multiple of what stands below, and each fraction as often. -/
import Derived.Test.YtgjeihdibcjjcaaFrMul
import Derived.Deep.OwnRows
import Derived.StillTailTactics
namespace Go.Proofs.Ytgjeihdibcjjcaa
open Go.ChangeShapes Go.WideShapes Go.ChangeAt Go.RowKit

def densOf (fs : List (Int × Int)) : List Int := fs.map (·.2)
/-- Each fraction k times. -/
def scL (k : Nat) (fs : List (Int × Int)) : List Int := fs.map (fun f => f.1 * ((k : Int) / f.2))
def scB (k : Nat) : List (Int × Int) → Bool
  | [] => true
  | f :: fs => fitB (f.1 * ((k : Int) / f.2)) && scB k fs
theorem dens_len (fs : List (Int × Int)) : (densOf fs).length = fs.length := by simp [densOf]
theorem scL_len (k : Nat) (fs : List (Int × Int)) : (scL k fs).length = fs.length := by simp [scL]
theorem dens_nth {fs : List (Int × Int)} {k : Nat} (h : k < fs.length) : nth (densOf fs) k = nthD fs k := by
  unfold nth densOf nthD
  rw [List.getD_eq_getElem?_getD, List.getD_eq_getElem?_getD, List.getElem?_map, List.getElem?_eq_getElem h]
  rfl
theorem scL_nth {fs : List (Int × Int)} {K k : Nat} (h : k < fs.length) : nth (scL K fs) k = nthN fs k * ((K : Int) / nthD fs k) := by
  unfold nth scL nthD nthN
  rw [List.getD_eq_getElem?_getD, List.getD_eq_getElem?_getD, List.getElem?_map, List.getElem?_eq_getElem h]
  rfl
theorem dens_in {fs : List (Int × Int)} (hz : InRP fs) : InR (densOf fs) := by
  intro k
  by_cases h : k < fs.length
  · rw [dens_nth h]; exact (hz k).2
  · have e : nth (densOf fs) k = 0 := by
      unfold nth
      rw [List.getD_eq_getElem?_getD, List.getElem?_eq_none (by rw [dens_len]; omega)]
      rfl
    rw [e]; decide
theorem dens_zero {fs : List (Int × Int)} (h : allB fs = true) : zeroB (densOf fs) = false := by
  induction fs with
  | nil => rfl
  | cons f fs ih =>
    rw [allB, Bool.and_eq_true] at h
    show (f.2 == 0 || zeroB (densOf fs)) = false
    rw [ih h.2]
    have := (validB_true.1 h.1).1
    simp
    omega
theorem lcmO_pos {m : Nat} {zs : List Int} (hm : 1 ≤ m) (hm2 : m ≤ 9223372036854775807) (hz : zeroB zs = false) {K : Nat} (h : lcmO m zs = some K) : 1 ≤ K ∧ K ≤ 9223372036854775807 := by
  induction zs generalizing m with
  | nil => cases h; exact ⟨hm, hm2⟩
  | cons x xs ih =>
    rw [zeroB, Bool.or_eq_false_iff] at hz
    rw [lcmO] at h
    split at h
    · rename_i hf
      have hx : x ≠ 0 := by simpa using hz.1
      exact ih (Nat.lcm_pos (by omega) (by omega)) (by have := (fitB_true.1 hf).2; omega) hz.2 h
    · cases h

/-- How the reckoning ends. -/
def ScaledEnd (w : World) (fs : List (Int × Int)) (len : Nat) (e : Ending) (w' : World) : Prop :=
  Below w.heap.size w w' ∧
    ((∃ K g, lcmO 1 (densOf fs) = some K ∧ scB K fs = true ∧ e = .returned (.tuple #[.int .i64 (K : Nat), .slice (some ⟨g, 0, none⟩) len len]) ∧ w.heap.size ≤ g ∧ w'.rowIs g 3 len (fun i => .int .i64 (nth (scL K fs) i))) ∨
    ((∀ K, lcmO 1 (densOf fs) = some K → scB K fs = false) ∧ e = .panicked bigPanic))

theorem row_at {w : World} {g len : Nat} {zs : List Int} (hl : zs.length = len) (h : w.rowIs g 3 len (fun i => .int .i64 (nth zs i))) : At w (some ⟨g, 0, none⟩) zs :=
  Or.inr ⟨g, 0, rfl, fun k hk => by rw [Nat.zero_add]; exact h.cell (by omega)⟩
theorem row_below {w w' : World} {g len : Nat} {f : Nat → Value} (h : w.rowIs g 3 len f) {B : Nat} (hb : Below B w w') (hg : g < B) : w'.rowIs g 3 len f := h.of_block (hb.block g hg)

/-- What is written so far. -/
def part (zs : List Int) (k : Nat) (i : Nat) : Value := .int .i64 (if i < k then nth zs i else 0)
theorem part_zero (zs : List Int) : part zs 0 = fun _ => .int .i64 0 := by funext i; simp [part]
theorem part_all {zs : List Int} {n : Nat} {w : World} {g : Nat} (h : w.rowIs g 3 n (part zs n)) : w.rowIs g 3 n (fun i => .int .i64 (nth zs i)) :=
  h.congr fun i hi => by unfold part; rw [if_pos hi]
theorem part_step {zs : List Int} {k n : Nat} {w : World} {g : Nat} (h : w.rowIs g 3 n (part zs k)) : (w.setCell ⟨g, k, none⟩ (.int .i64 (nth zs k))).rowIs g 3 n (part zs (k + 1)) :=
  (h.set k (.int .i64 (nth zs k))).congr fun i hi => by
    show (if i = k then Value.int .i64 (nth zs k) else part zs k i) = part zs (k + 1) i
    unfold part
    by_cases e : i = k
    · subst e; rw [if_pos rfl, if_pos (Nat.lt_succ_self _)]
    · rw [if_neg e]
      by_cases e2 : i < k
      · rw [if_pos e2, if_pos (by omega)]
      · rw [if_neg e2, if_neg (by omega)]

end Go.Proofs.Ytgjeihdibcjjcaa

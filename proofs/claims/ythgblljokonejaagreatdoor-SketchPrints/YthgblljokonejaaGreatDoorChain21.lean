/- Texts of one chain, laid one behind the other. -/
import Derived.Test.YthgblljokonejaaGreatDoorChain11
/- The document's answer: what bytes are; names. -/
namespace Go.Proofs.YthgblljokonejaaGreatDoor
open Go.ChangeShapes Go.WideShapes Go.ChangeAt Go.RowKit

theorem rletter_any (b : Int) (w : World) : Calls Tryz.prog 52 #[.int .u8 b] w fun e w' => e = .returned (.bool (letB b)) ∧ w = w' := by
  by_cases h1 : (97 : Int) ≤ b <;> by_cases h2 : b ≤ 122 <;>
  · have e : letB b = (decide (97 ≤ b) && decide (b ≤ 122)) := rfl
    simp only [h1, h2, decide_true, decide_false, Bool.and_true, Bool.and_false] at e
    rw [e]
    go_enter Tryz.func52, Tryz.ntmps52
    go_wp2
    go_ret
    exact ⟨rfl, rfl⟩
theorem rdigit_any (b : Int) (w : World) : Calls Tryz.prog 73 #[.int .u8 b] w fun e w' => e = .returned (.bool (digB b)) ∧ w = w' := by
  by_cases h1 : (48 : Int) ≤ b <;> by_cases h2 : b ≤ 57 <;>
  · have e : digB b = (decide (48 ≤ b) && decide (b ≤ 57)) := rfl
    simp only [h1, h2, decide_true, decide_false, Bool.and_true, Bool.and_false] at e
    rw [e]
    go_enter Tryz.func73, Tryz.ntmps73
    go_wp2
    go_ret
    exact ⟨rfl, rfl⟩
theorem rinside_any (b : Int) (w : World) : Calls Tryz.prog 53 #[.int .u8 b] w fun e w' => e = .returned (.bool (wordB b)) ∧ w = w' := by
  have e : wordB b = (letB b || digB b || decide (b = 95)) := rfl
  rw [e]
  clear e
  have h1 := hidden (rletter_any b)
  have h2 := hidden (rdigit_any b)
  generalize letB b = x at *
  generalize digB b = y at *
  cases x <;> cases y
  · by_cases h3 : b = 95
    · subst h3
      go_enter Tryz.func53, Tryz.ntmps53
      go_wp2_with (first
        | (go_at_call 73; (with_reducible refine (h2.out _).mono ?_); rintro e w' ⟨rfl, rfl⟩)
        | (go_at_call 52; (with_reducible refine (h1.out _).mono ?_); rintro e w' ⟨rfl, rfl⟩))
      go_ret
      exact ⟨rfl, rfl⟩
    · have d3 : decide (b = 95) = false := decide_eq_false h3
      go_enter Tryz.func53, Tryz.ntmps53
      go_wp2_with (first
        | (go_at_call 73; (with_reducible refine (h2.out _).mono ?_); rintro e w' ⟨rfl, rfl⟩)
        | (go_at_call 52; (with_reducible refine (h1.out _).mono ?_); rintro e w' ⟨rfl, rfl⟩))
      go_ret
      exact ⟨by simp [h3], rfl⟩
  all_goals
    go_enter Tryz.func53, Tryz.ntmps53
    go_wp2_with (first
      | (go_at_call 73; (with_reducible refine (h2.out _).mono ?_); rintro e w' ⟨rfl, rfl⟩)
      | (go_at_call 52; (with_reducible refine (h1.out _).mono ?_); rintro e w' ⟨rfl, rfl⟩))
    go_ret
    exact ⟨rfl, rfl⟩

theorem row_next {p : Int → Bool} {l : List UInt8} {i : Nat} (h : i ≤ rowN p l) (hi : i < l.length) (hp : p (by8 l i) = true) : i + 1 ≤ rowN p l := by
  rcases Nat.lt_or_ge i (rowN p l) with h1 | h1
  · exact h1
  · have e : rowN p l = i := by omega
    have := rowN_out p l (by omega)
    rw [e, hp] at this
    cases this
set_option maxHeartbeats 1000000 in
theorem rname_any (l : List UInt8) (w : World) : Calls Tryz.prog 29 #[.string (str l)] w fun e w' => e = .returned (.bool (nameB l)) ∧ w = w' := by
  have e1 := str_size l
  have en : nameB l = (decide (l.length ≤ 16) && (letB (by8 l 0) && decide (rowN wordB l = l.length))) := rfl
  by_cases h0 : l.length = 0
  · have i1 : (l.length : Int) < 1 := by omega
    have e2 : nameB l = false := by
      have : l = [] := List.eq_nil_of_length_eq_zero h0
      subst this; rfl
    rw [e2]
    go_enter Tryz.func29, Tryz.ntmps29
    go_wp2
    go_ret
    exact ⟨rfl, rfl⟩
  have i1 : ¬ ((l.length : Int) < 1) := by omega
  have i1' : decide ((l.length : Int) < 1) = false := decide_eq_false i1
  by_cases h1 : l.length ≤ 16
  · have i2 : ¬ ((16 : Int) < (l.length : Int)) := by omega
    have i2' : decide ((16 : Int) < (l.length : Int)) = false := decide_eq_false i2
    have g0 := str_get l 0 (by rw [e1]; omega)
    have i3 : (0 : Int) < (l.length : Int) := by omega
    have HL := hidden (rletter_any (by8 l 0))
    rw [decide_eq_true h1, Bool.true_and] at en
    by_cases hl : letB (by8 l 0) = true
    · rw [hl] at HL
      rw [hl, Bool.true_and] at en
      rw [en]
      clear en hl
      have HR := hidden (fun i => row_next (p := wordB) (l := l) (i := i))
      have HO := hidden (rowN_le wordB l)
      generalize hN : rowN wordB l = N at *
      go_enter Tryz.func29, Tryz.ntmps29
      go_wp2_with (go_at_call 52; (with_reducible refine (HL.out _).mono ?_); rintro e w' ⟨rfl, rfl⟩)
      go_loopg [3] l.length (fun gk v wr => ∃ i, i ≤ l.length ∧ gk = l.length - i ∧ v = .int .i64 i ∧ wr = w ∧ i ≤ N)
      case atStart => exact ⟨0, Nat.zero_le _, rfl, rfl, rfl, Nat.zero_le _⟩
      case round =>
        obtain ⟨i, hi, rfl, rfl, rfl, hiN⟩ := hrel
        by_cases hlt : i < l.length
        · have j1 : (i : Int) < (l.length : Int) := by omega
          have gi := str_get l i (by rw [e1]; exact hlt)
          have HI := hidden (rinside_any (by8 l i))
          by_cases hw : wordB (by8 l i) = true
          · have HN : Hid (i + 1 ≤ N) := HR.out i hiN hlt hw
            rw [hw] at HI
            clear hw HR hN
            go_wp2_with (go_at_call 53; (with_reducible refine (HI.out _).mono ?_); rintro e w' ⟨rfl, rfl⟩)
            go_roundg (l.length - (i + 1))
            case measure => omega
            case rel => exact ⟨i + 1, by omega, rfl, by go_num, rfl, HN.out⟩
          · have hw' : wordB (by8 l i) = false := by simpa using hw
            have HN : Hid (N ≠ l.length) := by
              intro e
              have := rowN_in wordB l i (by rw [hN]; omega)
              exact hw this
            rw [hw'] at HI
            clear hw hw' HR hN
            go_wp2_with (go_at_call 53; (with_reducible refine (HI.out _).mono ?_); rintro e w' ⟨rfl, rfl⟩)
            go_ret
            exact ⟨by rw [decide_eq_false HN.out]; rfl, rfl⟩
        · have ei : i = l.length := by omega
          subst ei
          have jn : ¬ ((l.length : Int) < (l.length : Int)) := by omega
          have HN : Hid (N = l.length) := by show N = _; have := HO.out; omega
          clear hN HR
          go_wp2
          go_ret
          exact ⟨by rw [decide_eq_true HN.out]; rfl, rfl⟩
    · have hl' : letB (by8 l 0) = false := by simpa using hl
      rw [hl'] at HL
      rw [hl', Bool.false_and] at en
      rw [en]
      go_enter Tryz.func29, Tryz.ntmps29
      go_wp2_with (go_at_call 52; (with_reducible refine (HL.out _).mono ?_); rintro e w' ⟨rfl, rfl⟩)
      go_ret
      exact ⟨rfl, rfl⟩
  · have i2 : (16 : Int) < (l.length : Int) := by omega
    rw [decide_eq_false h1, Bool.false_and] at en
    rw [en]
    go_enter Tryz.func29, Tryz.ntmps29
    go_wp2
    go_ret
    exact ⟨rfl, rfl⟩

end Go.Proofs.YthgblljokonejaaGreatDoor

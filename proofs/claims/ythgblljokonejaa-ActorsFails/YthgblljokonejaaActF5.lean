/- The firing of quot. (Written by tmpl/mkAct.py.) -/
import Derived.Test.YthgblljokonejaaAct2
namespace Go.Proofs.Ythgblljokonejaa
open Go.ChangeShapes Go.WideShapes Go.ChangeAt Go.RowKit

theorem quot_fits {x y : Int} (hx : -9223372036854775808 ≤ x ∧ x ≤ 9223372036854775807) (h0 : y ≠ 0) (h1 : y ≠ -1) : wrap64 (x.tdiv y) = x.tdiv y := by
  have h2 : -9223372036854775808 ≤ x.tdiv y ∧ x.tdiv y ≤ 9223372036854775807 := by
    by_cases e : y = 1
    · subst e; rw [Int.tdiv_one]; exact hx
    · have h3 : (x.tdiv y).natAbs = x.natAbs / y.natAbs := Int.natAbs_tdiv x y
      have h4 : x.natAbs / y.natAbs ≤ x.natAbs / 2 := Nat.div_le_div_left (by omega) (by decide)
      rw [← h3] at h4
      clear h3
      generalize x.tdiv y = d at h4 ⊢
      omega
  generalize x.tdiv y = d at h2 ⊢
  simp only [wrap64]
  omega
theorem second_tok {w : World} {zs : List Int} {a : Option Addr} {len : Nat} {I : List (List Int)} (hA : ArgL w a len I) (ht : takesS 7 zs I = true) :
    ∃ b off xb xo c yb yo d, a = some ⟨b, off, none⟩ ∧ len = 2 ∧ w.cell? ⟨b, off, none⟩ = some (.slice (some ⟨xb, xo, none⟩) 1 c) ∧ w.cell? ⟨xb, xo, none⟩ = some (.int .i64 (nth (nthL I 0) 0)) ∧ w.cell? ⟨b, off + 1, none⟩ = some (.slice (some ⟨yb, yo, none⟩) 1 d) ∧ w.cell? ⟨yb, yo, none⟩ = some (.int .i64 (nth (nthL I 1) 0)) := by
  have hl : I.length = 2 := takes_len ht
  have h0 : ((nthL I 0).length : Int) = 1 := takes_nth ht (k := 0) (by omega)
  have h1 : ((nthL I 1).length : Int) = 1 := takes_nth ht (k := 1) (by omega)
  have e0 : (nthL I 0).length = 1 := by omega
  have e1 : (nthL I 1).length = 1 := by omega
  obtain ⟨b, off, xb, xo, c, e, g1, g2⟩ := tok_cell hA.lies (i := 0) (j := 0) (by omega) (by omega)
  obtain ⟨b', off', yb, yo, d, e', g3, g4⟩ := tok_cell hA.lies (i := 1) (j := 0) (by omega) (by omega)
  rw [e] at e'
  cases e'
  rw [e0] at g1
  rw [e1] at g3
  exact ⟨b, off, xb, xo, c, yb, yo, d, e, by rw [← hA.size]; exact hl, g1, g2, g3, g4⟩
set_option maxRecDepth 100000 in
set_option maxHeartbeats 2000000 in
theorem fire_7 (F : Nat → Prop) (w : World) (K : Nat) (zs ks : List Int) (n : Nat) (a : Option Addr) (len cap : Nat) (I : List (List Int)) (hk : KinE F w K 7 zs ks n) (hA : ArgL w a len I) (ht : takesS 7 zs I = true) :
    Calls Try.prog 147 #[.pointer (some ⟨K, 0, none⟩), .slice a len cap] w (GaveK F w K 7 zs ks n I) := by
  have HK := hidden6 hk
  have S : Hid (∀ (x : Int) V, Calls Try.prog 136 #[.int .i64 x] V (SingleEnd V x)) := fun x V => single_any x V
  obtain ⟨a1, a2, a3, a4, c1, c2, c3, c4, h⟩ := hk
  obtain ⟨b, off, xb, xo, c, yb, yo, d, rfl, rfl, y0, y1, y2, y3⟩ := second_tok hA ht
  have hx := hA.fits 0 0
  have hy := hA.fits 1 0
  have G0 : giveS 7 zs ks I = if nth (nthL I 1) 0 = 0 ∨ (nth (nthL I 0) 0 = -9223372036854775808 ∧ nth (nthL I 1) 0 = -1) then none else some ([[(nth (nthL I 0) 0).tdiv (nth (nthL I 1) 0)]], ks) := rfl
  clear hA ht h
  generalize nth (nthL I 0) 0 = x at *
  generalize nth (nthL I 1) 0 = y at *
  by_cases e0 : y = 0
  · subst e0
    rw [if_pos (.inl rfl)] at G0
    have GV := hidden6 G0
    clear G0
    go_enter Try.func147, Try.ntmps147
    go_wp2
    go_quiet (fail)
    go_wp2
    go_ret2
    exact gave_none GV.out HK.out (bdrew (Below.refl _ _) nq)
  · have n0 : (y == 0) = false := by simpa using e0
    by_cases e1 : y = -1
    · subst e1
      have SU := hidden6 (fun V => sub_any 0 x V (by decide) hx)
      by_cases hf : fitB (0 - x) = true
      · have hv := fitV_yes (fitB_true.1 hf)
        rw [hv, hf] at SU
        have e2 : ¬ ((-1 : Int) = 0 ∨ (x = -9223372036854775808 ∧ (-1 : Int) = -1)) := by have := fitB_true.1 hf; omega
        rw [if_neg e2, show x.tdiv (-1) = 0 - x by rw [Int.tdiv_neg, Int.tdiv_one]; omega] at G0
        have GV := hidden6 G0
        clear G0 e2 hv hf
        generalize 0 - x = z at *
        go_enter Try.func147, Try.ntmps147
        go_wp2
        go_quiet (fail)
        go_wp2_with (first | (go_at_call 139; (with_reducible refine (SU.out _).mono ?_); rintro e w2 ⟨rfl, rfl⟩) | (go_at_call 136; (with_reducible refine (S.out z _).mono ?_); rintro e w1 ⟨g, A, C, rfl, hO, b1⟩))
        go_ret2
        exact gave_drew GV.out HK.out hO b1
      · have hf2 : fitB (0 - x) = false := by simpa using hf
        rw [hf2] at SU
        have e2 : (-1 : Int) = 0 ∨ (x = -9223372036854775808 ∧ (-1 : Int) = -1) := by have := fitB_false.1 hf2; omega
        rw [if_pos e2] at G0
        have GV := hidden6 G0
        clear G0 e2 hf hf2
        generalize fitV (0 - x) = z at *
        go_enter Try.func147, Try.ntmps147
        go_wp2
        go_quiet (fail)
        go_wp2_with (first | (go_at_call 139; (with_reducible refine (SU.out _).mono ?_); rintro e w2 ⟨rfl, rfl⟩) | (go_at_call 136; (with_reducible refine (S.out z _).mono ?_); rintro e w1 ⟨g, A, C, rfl, hO, b1⟩))
        go_ret2
        exact gave_none GV.out HK.out ((bdrew (Below.refl _ _) nq).trans (drew_below b1))
    · have n1 : (y == -1) = false := by simpa using e1
      have e2 : ¬ (y = 0 ∨ (x = -9223372036854775808 ∧ y = -1)) := by omega
      rw [if_neg e2] at G0
      have GV := hidden6 G0
      have QF := hidden6 (quot_fits hx e0 e1)
      clear G0 e2
      go_enter Try.func147, Try.ntmps147
      go_wp2
      go_quiet (fail)
      go_wp2_with (go_at_call 136; (with_reducible refine (S.out _ _).mono ?_); rintro e w1 ⟨g, A, C, rfl, hO, b1⟩)
      go_ret2
      rw [QF.out] at hO
      exact gave_drew GV.out HK.out hO b1
end Go.Proofs.Ythgblljokonejaa

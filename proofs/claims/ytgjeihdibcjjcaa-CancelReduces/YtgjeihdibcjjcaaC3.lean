/- What cancel's Reduce, Equal and Ratio answer, whatever they are handed. -/
import Derived.Test.YtgjeihdibcjjcaaC2
namespace Go.Proofs.Ytgjeihdibcjjcaa
open Go.ChangeShapes Go.WideShapes Go.ChangeAt Go.RowKit

/-- The error, and the two lists that are left. -/
def cE (xs ys : List Int) : Int := if 1024 < xs.length ∨ 1024 < ys.length then 2 else if (posB xs && posB ys) = true then 0 else 1
def cA (xs ys : List Int) : List Int := if cE xs ys = 0 then up (redP (nats xs) (nats ys)) else []
def cB (xs ys : List Int) : List Int := if cE xs ys = 0 then up (redQ (nats xs) (nats ys)) else []
theorem cE_long {xs ys : List Int} (h : 1024 < xs.length ∨ 1024 < ys.length) : cE xs ys = 2 := if_pos h
theorem cE_arg {xs ys : List Int} (h1 : xs.length ≤ 1024) (h2 : ys.length ≤ 1024) (h : (posB xs && posB ys) = false) : cE xs ys = 1 := by
  unfold cE; rw [if_neg (by omega), h]; rfl
theorem cE_ok {xs ys : List Int} (h1 : xs.length ≤ 1024) (h2 : ys.length ≤ 1024) (h : (posB xs && posB ys) = true) : cE xs ys = 0 := by
  unfold cE; rw [if_neg (by omega), h]; rfl
theorem cE_zero {xs ys : List Int} (h : cE xs ys = 0) : xs.length ≤ 1024 ∧ ys.length ≤ 1024 ∧ posB xs = true ∧ posB ys = true := by
  unfold cE at h
  split at h
  · cases h
  · rename_i h1
    split at h
    · rename_i h2
      rw [Bool.and_eq_true] at h2
      exact ⟨by omega, by omega, h2.1, h2.2⟩
    · cases h
theorem cE_three (xs ys : List Int) : cE xs ys = 0 ∨ cE xs ys = 1 ∨ cE xs ys = 2 := by
  unfold cE
  split
  · exact .inr (.inr rfl)
  · split
    · exact .inl rfl
    · exact .inr (.inl rfl)
theorem cA_bad {xs ys : List Int} (h : cE xs ys ≠ 0) : cA xs ys = [] ∧ cB xs ys = [] := ⟨if_neg h, if_neg h⟩
theorem cA_ok {xs ys : List Int} (h : cE xs ys = 0) : cA xs ys = up (redP (nats xs) (nats ys)) ∧ cB xs ys = up (redQ (nats xs) (nats ys)) := ⟨if_pos h, if_pos h⟩

/-- How Reduce ends. -/
def RedEnd (w : World) (xs ys : List Int) (e : Ending) (w' : World) : Prop :=
  Below w.heap.size w w' ∧ ∃ a b n1 n2, e = .returned (.tuple #[.slice a n1 n1, .slice b n2 n2, .int .i64 (cE xs ys)]) ∧ OwnS w.heap.size w' a n1 n1 (cA xs ys) ∧ OwnS w.heap.size w' b n2 n2 (cB xs ys) ∧ (∀ x y, a = some x → b = some y → x.block < y.block)

theorem red_bad {w w' : World} {xs ys : List Int} {E : Int} (hE : cE xs ys = E) (h0 : E ≠ 0) (hb : Below w.heap.size w w') : RedEnd w xs ys (.returned (.tuple #[.slice none 0 0, .slice none 0 0, .int .i64 E])) w' := by
  obtain ⟨e1, e2⟩ := cA_bad (xs := xs) (ys := ys) (by rw [hE]; exact h0)
  refine ⟨hb, none, none, 0, 0, by rw [hE], ?_, ?_, fun x y h => by cases h⟩
  · rw [e1]; exact ⟨rfl, .inl ⟨rfl, rfl, rfl⟩⟩
  · rw [e2]; exact ⟨rfl, .inl ⟨rfl, rfl, rfl⟩⟩

set_option maxRecDepth 100000 in
set_option maxHeartbeats 1000000 in
theorem reduce_any (a1 a2 : Option Addr) (xs ys : List Int) (l1 c1 l2 c2 : Nat) (w : World) (hl1 : xs.length = l1) (hl2 : ys.length = l2) (hm1 : l1 ≤ 4611686018427387904) (hm2 : l2 ≤ 4611686018427387904) (hx : InR xs) (hy : InR ys) (h1 : At w a1 xs) (h2 : At w a2 ys) :
    Calls Try.prog 10 #[.slice a1 l1 c1, .slice a2 l2 c2] w (RedEnd w xs ys) := by
  by_cases hL1 : 1024 < l1
  · have hd1 : decide ((1024 : Int) < (l1 : Int)) = true := decide_eq_true (by omega)
    have HE : Hid (cE xs ys = 2) := cE_long (.inl (by omega))
    clear h1 h2 hL1
    go_enter Try.func10, Try.ntmps10
    go_wp2
    exact bodyPost_ret (v := .tuple #[.slice none 0 0, .slice none 0 0, .int .i64 2]) (by simp [results, Try.results10, go_sem]) rfl (red_bad HE.out (by decide) (Below.refl _ _))
  by_cases hL2 : 1024 < l2
  · have hd1 : decide ((1024 : Int) < (l1 : Int)) = false := decide_eq_false (by omega)
    have hd2 : decide ((1024 : Int) < (l2 : Int)) = true := decide_eq_true (by omega)
    have HE : Hid (cE xs ys = 2) := cE_long (.inr (by omega))
    clear h1 h2 hL1 hL2
    go_enter Try.func10, Try.ntmps10
    go_wp2
    exact bodyPost_ret (v := .tuple #[.slice none 0 0, .slice none 0 0, .int .i64 2]) (by simp [results, Try.results10, go_sem]) rfl (red_bad HE.out (by decide) (Below.refl _ _))
  have hd1 : decide ((1024 : Int) < (l1 : Int)) = false := decide_eq_false (by omega)
  have hd2 : decide ((1024 : Int) < (l2 : Int)) = false := decide_eq_false (by omega)
  have hv1 := above_any a1 xs l1 c1 w hl1 hm1 h1
  have hv2 := above_any a2 ys l2 c2 w hl2 hm2 h2
  cases hP1 : posB xs
  · have HE : Hid (cE xs ys = 1) := cE_arg (by omega) (by omega) (by rw [hP1]; rfl)
    rw [hP1] at hv1
    clear h1 h2 hP1 hv2 hL1 hL2
    go_enter Try.func10, Try.ntmps10
    go_wp2_with (go_at_call 26; (with_reducible refine hv1.mono ?_); rintro e w' ⟨rfl, rfl⟩)
    exact bodyPost_ret (v := .tuple #[.slice none 0 0, .slice none 0 0, .int .i64 1]) (by simp [results, Try.results10, go_sem]) rfl (red_bad HE.out (by decide) (Below.refl _ _))
  cases hP2 : posB ys
  · have HE : Hid (cE xs ys = 1) := cE_arg (by omega) (by omega) (by rw [hP2, Bool.and_false])
    rw [hP1] at hv1
    rw [hP2] at hv2
    clear h1 h2 hP1 hP2 hL1 hL2
    go_enter Try.func10, Try.ntmps10
    go_wp2_with (first
      | (go_at_call 26; (with_reducible refine hv1.mono ?_); rintro e w' ⟨rfl, rfl⟩)
      | (go_at_call 26; (with_reducible refine hv2.mono ?_); rintro e w' ⟨rfl, rfl⟩))
    exact bodyPost_ret (v := .tuple #[.slice none 0 0, .slice none 0 0, .int .i64 1]) (by simp [results, Try.results10, go_sem]) rfl (red_bad HE.out (by decide) (Below.refl _ _))
  have hE : cE xs ys = 0 := cE_ok (by omega) (by omega) (by rw [hP1, hP2]; rfl)
  have e1 := up_nats hP1
  have e2 := up_nats hP2
  have s1 := sm_nats hx hP1
  have s2 := sm_nats hy hP2
  refine (reduce_ok a1 a2 (nats xs) (nats ys) l1 c1 l2 c2 w (by rw [nats_len]; exact hl1) (by rw [nats_len]; exact hl2) (by omega) (by omega) (by rw [e1]; exact h1) (by rw [e2]; exact h2) s1 s2).mono ?_
  rintro e w' ⟨g1, g2, rfl, hg1, hlt, r1, r2, hb⟩
  obtain ⟨f1, f2⟩ := cA_ok hE
  refine ⟨hb, _, _, l1, l2, by rw [hE], ?_, ?_, fun x y k1 k2 => by cases k1; cases k2; exact hlt⟩
  · rw [f1]
    have el : (redP (nats xs) (nats ys)).length = l1 := by rw [redP_len, nats_len]; exact hl1
    exact ⟨by rw [up_len]; exact el, .inr ⟨g1, rfl, hg1, rfl, r1.rowIs el⟩⟩
  · rw [f2]
    have el : (redQ (nats xs) (nats ys)).length = l2 := by rw [redQ_len, nats_len]; exact hl2
    exact ⟨by rw [up_len]; exact el, .inr ⟨g2, rfl, by omega, rfl, r2.rowIs el⟩⟩

theorem OwnS.at {base : Nat} {w : World} {a : Option Addr} {n cap : Nat} {zs : List Int} (h : OwnS base w a n cap zs) : At w a zs := by
  obtain ⟨hl, ⟨-, h0, -⟩ | ⟨g, rfl, -, -, hr⟩⟩ := h
  · exact Or.inl (List.eq_nil_of_length_eq_zero (by omega))
  · exact row_at hl hr

/-- Equal. -/
def eqB (xs ys : List Int) : Bool := decide (cE xs ys = 0) && decide (prodN' (nats xs) = prodN' (nats ys))
theorem eqB_bad {xs ys : List Int} (h : cE xs ys ≠ 0) : eqB xs ys = false := by unfold eqB; rw [decide_eq_false h]; rfl
theorem eqB_ok {xs ys : List Int} (h : cE xs ys = 0) : eqB xs ys = (oneB (cA xs ys) && oneB (cB xs ys)) := by
  obtain ⟨-, -, p1, p2⟩ := cE_zero h
  obtain ⟨f1, f2⟩ := cA_ok h
  rw [f1, f2, oneB_up, oneB_up, red_equal (nats_pos p1) (nats_pos p2)]
  unfold eqB
  rw [h]
  rfl
theorem cA_len {xs ys : List Int} : (cA xs ys).length ≤ 1024 ∧ (cB xs ys).length ≤ 1024 := by
  by_cases h : cE xs ys = 0
  · obtain ⟨h1, h2, -, -⟩ := cE_zero h
    obtain ⟨f1, f2⟩ := cA_ok h
    rw [f1, f2, up_len, up_len, redP_len, redQ_len, nats_len, nats_len]
    exact ⟨h1, h2⟩
  · obtain ⟨f1, f2⟩ := cA_bad h
    rw [f1, f2]
    exact ⟨by decide, by decide⟩

def EqEnd (w : World) (xs ys : List Int) (e : Ending) (w' : World) : Prop := e = .returned (.tuple #[.bool (eqB xs ys), .int .i64 (cE xs ys)]) ∧ Below w.heap.size w w'

set_option maxRecDepth 100000 in
set_option maxHeartbeats 1000000 in
theorem equal_any (a1 a2 : Option Addr) (xs ys : List Int) (l1 c1 l2 c2 : Nat) (w : World) (hl1 : xs.length = l1) (hl2 : ys.length = l2) (hm1 : l1 ≤ 4611686018427387904) (hm2 : l2 ≤ 4611686018427387904) (hx : InR xs) (hy : InR ys) (h1 : At w a1 xs) (h2 : At w a2 ys) :
    Calls Try.prog 16 #[.slice a1 l1 c1, .slice a2 l2 c2] w (EqEnd w xs ys) := by
  have hr := reduce_any a1 a2 xs ys l1 c1 l2 c2 w hl1 hl2 hm1 hm2 hx hy h1 h2
  have HL : Hid ((cA xs ys).length ≤ 1024 ∧ (cB xs ys).length ≤ 1024) := cA_len
  clear h1 h2 hl1 hl2 hm1 hm2
  by_cases h0 : cE xs ys = 0
  · have HE : Hid (cE xs ys = 0) := h0
    have HQ : Hid (eqB xs ys = (oneB (cA xs ys) && oneB (cB xs ys))) := eqB_ok h0
    have e0 : ((cE xs ys) != 0) = false := by rw [h0]; rfl
    clear h0
    generalize hEE : cE xs ys = E at *
    have HEE : Hid (cE xs ys = E) := hEE
    clear hEE
    cases hA : oneB (cA xs ys)
    · have HA : Hid (oneB (cA xs ys) = false) := hA
      clear hA
      go_enter Try.func16, Try.ntmps16
      go_wp2_with (first
        | (go_at_call 10; refine hr.mono ?_; rintro e w1 ⟨hb, a, b, n1, n2, rfl, o1, o2, -⟩; rw [HEE.out]; have la := o1.1; have ca := allOne_any a _ n1 n1 w1 o1.1 (by have := HL.out.1; omega) o1.at; rw [HA.out] at ca)
        | (go_at_call 30; (with_reducible refine ca.mono ?_); rintro e w' ⟨rfl, rfl⟩))
      go_ret2
      exact ⟨by rw [HQ.out, HA.out, HEE.out, HE.out]; rfl, hb⟩
    · have HA : Hid (oneB (cA xs ys) = true) := hA
      clear hA
      go_enter Try.func16, Try.ntmps16
      go_wp2_with (first
        | (go_at_call 10; refine hr.mono ?_; rintro e w1 ⟨hb, a, b, n1, n2, rfl, o1, o2, -⟩; rw [HEE.out]; have la := o1.1; have ca := allOne_any a _ n1 n1 w1 o1.1 (by have := HL.out.1; omega) o1.at; rw [HA.out] at ca; have cb := allOne_any b _ n2 n2 w1 o2.1 (by have := HL.out.2; have := o2.1; omega) o2.at)
        | (go_at_call 30; (with_reducible refine ca.mono ?_); rintro e w' ⟨rfl, rfl⟩)
        | (go_at_call 30; (with_reducible refine cb.mono ?_); rintro e w' ⟨rfl, rfl⟩))
      go_ret2
      exact ⟨by rw [HQ.out, HA.out, HEE.out, HE.out]; rfl, hb⟩
  · have e0 : ((cE xs ys) != 0) = true := by simpa using h0
    have HB : Hid (eqB xs ys = false) := eqB_bad h0
    clear h0
    generalize hEE : cE xs ys = E at *
    have HEE : Hid (cE xs ys = E) := hEE
    clear hEE
    go_enter Try.func16, Try.ntmps16
    go_wp2_with (go_at_call 10; refine hr.mono ?_; rintro e w1 ⟨hb, a, b, n1, n2, rfl, o1, o2, -⟩; rw [HEE.out])
    go_ret2
    exact ⟨by rw [HB.out, HEE.out]; rfl, hb⟩
end Go.Proofs.Ytgjeihdibcjjcaa

/- The walk through the statement CancelOrder. -/
import Derived.Test.YtgjeihdibcjjcaaCAwake
import Derived.Test.YtgjeihdibcjjcaaCopy
import Derived.Test.YtgjeihdibcjjcaaBigGrow
namespace Go.Proofs.Ytgjeihdibcjjcaa
open Go.ChangeShapes Go.WideShapes Go.ChangeAt Go.RowKit

/-- A row of the call's own grown by a row that came in, nil or not. -/
theorem append_any {w : World} {ops : Array Oper} {rest : List Oper} {o : Oper} {a : Act} {Q : Exit → Act → World → Prop} (hgd : o.guard = none) (s x : Operand)
    (ho : o.op = .call { callee := .builtin .append, args := #[s, x], argTypes := #[22, 22] }) (base : Nat)
    (v : Value) (n : Nat) (os : List Int) (hs : a.eval s = v) (hown : w.ownsRow base 3 1 v n (os.map (Value.int .i64)))
    (ad : Option Addr) (m c : Nat) (zs : List Int) (hx : a.eval x = .slice ad m c) (hl : zs.length = m) (hno : ad = none → m = 0 ∧ c = 0) (hat : At w ad zs)
    (hnm : n + m ≤ 1000000) (hbase : base ≤ w.heap.size)
    (h : ∀ v' w', w'.ownsRow base 3 1 v' (n + m) ((os ++ zs).map (Value.int .i64)) → w.grownBy w' v.ownBlock → wpList Try.prog ops Q rest (a.put o.dst v') w') : wpList Try.prog ops Q (o :: rest) a w := by
  obtain ⟨i0, hi, hz0, hz1, hz2⟩ := info_parts Try.info3
  cases ad with
  | none =>
    obtain ⟨rfl, rfl⟩ := hno rfl
    obtain rfl : zs = [] := List.eq_nil_of_length_eq_zero hl
    refine wpList_append_own_none hgd s x 22 ho base 3 i0 1 Try.underlying22 hi v n _ hs hown hx ?_
    refine h v w ?_ ⟨rfl, rfl, rfl, Nat.le_refl _, fun _ _ _ => rfl⟩
    rw [List.append_nil]
    exact hown
  | some ad =>
    refine wpList_append_own _ hgd s x 22 ho base 3 i0 (.int .i64 0) 1 8 Try.underlying22 hi hz0 hz1 hz2 rfl (by decide) v n _ hs hown ad m c (zs.map (Value.int .i64)) hx (by simp [hl]) (lies_new hat) (ints_oneCell _ _) (by unfold maxLen; omega) (by omega) hbase ?_
    intro v' w' h1 h2 _
    exact h v' w' (by rw [List.map_append]; exact h1) h2

theorem posB_append (xs ys : List Int) : posB (xs ++ ys) = (posB xs && posB ys) := by
  induction xs with
  | nil => rfl
  | cons x xs ih => show (decide (1 ≤ x) && posB (xs ++ ys)) = (decide (1 ≤ x) && posB xs && posB ys); rw [ih, Bool.and_assoc]
theorem posB_reverse (xs : List Int) : posB xs.reverse = posB xs := by
  induction xs with
  | nil => rfl
  | cons x xs ih => rw [List.reverse_cons, posB_append, ih, Bool.and_comm]; show (decide (1 ≤ x) && true && posB xs) = _; rw [Bool.and_true]; rfl
theorem nats_append (xs ys : List Int) : nats (xs ++ ys) = nats xs ++ nats ys := by simp [nats]
theorem nats_reverse (xs : List Int) : nats xs.reverse = (nats xs).reverse := by simp [nats]
/-- What the order and the numbers ahead do to Equal. -/
theorem order_facts {xs ys ms : List Int} (h1 : xs.length + ms.length ≤ 1024) (h2 : ys.length + ms.length ≤ 1024) :
    cE xs.reverse ys = cE xs ys ∧ eqB xs.reverse ys = eqB xs ys ∧ (cE xs xs.reverse = 0 → eqB xs xs.reverse = true) ∧
    (cE xs ys ≠ 0 ∨ cE ms [] ≠ 0 → cE (ms ++ xs) (ms.reverse ++ ys) = 1 ∧ eqB (ms ++ xs) (ms.reverse ++ ys) = false) ∧
    (cE xs ys = 0 → cE ms [] = 0 → cE (ms ++ xs) (ms.reverse ++ ys) = 0 ∧ eqB (ms ++ xs) (ms.reverse ++ ys) = eqB xs ys) := by
  have l1 : (ms ++ xs).length ≤ 1024 := by rw [List.length_append]; omega
  have l2 : (ms.reverse ++ ys).length ≤ 1024 := by rw [List.length_append, List.length_reverse]; omega
  have l3 : xs.reverse.length ≤ 1024 := by rw [List.length_reverse]; omega
  have e1 : cE xs ys = if (posB xs && posB ys) = true then 0 else 1 := if_neg (by omega)
  have e2 : cE xs.reverse ys = if (posB xs.reverse && posB ys) = true then 0 else 1 := if_neg (by omega)
  have e3 : cE ms [] = if (posB ms && posB []) = true then 0 else 1 := if_neg (by simp; omega)
  have e4 : cE (ms ++ xs) (ms.reverse ++ ys) = if (posB (ms ++ xs) && posB (ms.reverse ++ ys)) = true then 0 else 1 := if_neg (by omega)
  rw [posB_reverse] at e2
  rw [posB_append, posB_append, posB_reverse] at e4
  have hp : prodN' (nats xs.reverse) = prodN' (nats xs) := by rw [nats_reverse, prod_reverse]
  refine ⟨by rw [e1, e2], ?_, ?_, ?_, ?_⟩
  · unfold eqB
    rw [e1, e2, hp]
  · intro h
    unfold eqB
    rw [h, hp]
    simp
  · intro h
    have hne : cE (ms ++ xs) (ms.reverse ++ ys) = 1 := by
      rw [e4]
      cases ha : posB xs <;> cases hb : posB ys <;> cases hm : posB ms <;> simp_all [posB]
    exact ⟨hne, eqB_bad (by rw [hne]; decide)⟩
  · intro ha hm
    obtain ⟨-, -, p1, p2⟩ := cE_zero ha
    obtain ⟨-, -, p3, -⟩ := cE_zero hm
    have h0 : cE (ms ++ xs) (ms.reverse ++ ys) = 0 := by rw [e4, p1, p2, p3]; rfl
    refine ⟨h0, ?_⟩
    unfold eqB
    rw [h0, ha, nats_append, nats_append, nats_reverse, prod_append, prod_append, prod_reverse]
    have hpos := prod_pos (nats_pos p3)
    congr 1
    by_cases hc : prodN' (nats xs) = prodN' (nats ys)
    · rw [decide_eq_true hc, decide_eq_true (by rw [hc])]
    · rw [decide_eq_false hc, decide_eq_false (fun k => hc (Nat.eq_of_mul_eq_mul_left hpos k))]

/-- Going down a row from its end. -/
theorem down_step {zs : List Int} {k : Nat} (h : k < zs.length) : (zs.drop (k + 1)).reverse ++ [nth zs k] = (zs.drop k).reverse := by
  rw [drop_nth zs k h, List.reverse_cons]
theorem down_all (zs : List Int) : (zs.drop 0).reverse = zs.reverse := by rw [List.drop_zero]

set_option maxRecDepth 100000 in
set_option maxHeartbeats 1000000 in
theorem corder_long (a1 : Option Addr) (len1 cap1 : Nat) (xs : List Int) (a2 : Option Addr) (len2 cap2 : Nat) (ys : List Int) (a3 : Option Addr) (len3 cap3 : Nat) (ms : List Int) (w : World) (hA1 : Arg w a1 len1 cap1 xs) (hA2 : Arg w a2 len2 cap2 ys) (hA3 : Arg w a3 len3 cap3 ms) (h : 1024 < len1 + len3 ∨ 1024 < len2 + len3) :
    Calls Try.prog 8 #[.slice a1 len1 cap1, .slice a2 len2 cap2, .slice a3 len3 cap3] w fun e w' => e = .returned (.bool true) ∧ Below w.heap.size w w' := by
  have hr1 := hA1.reach
  have hr2 := hA2.reach
  have hr3 := hA3.reach
  clear hA1 hA2 hA3
  by_cases h1 : 1024 < len1 + len3
  · have hd1 : decide ((1024 : Int) < (len1 : Int) + (len3 : Int)) = true := decide_eq_true (by omega)
    clear h h1
    go_enter Try.func8, Try.ntmps8
    go_wp2
    go_ret
    exact ⟨rfl, Below.refl _ _⟩
  · have hd1 : decide ((1024 : Int) < (len1 : Int) + (len3 : Int)) = false := decide_eq_false (by omega)
    have hd2 : decide ((1024 : Int) < (len2 : Int) + (len3 : Int)) = true := decide_eq_true (by omega)
    clear h h1
    go_enter Try.func8, Try.ntmps8
    go_wp2
    go_ret
    exact ⟨rfl, Below.refl _ _⟩
end Go.Proofs.Ytgjeihdibcjjcaa

/- Plain facts on two rows of numbers, one behind the other; and an append to the call's own row from whatever row. -/
import Derived.Test.YtpaemaenefjajabLcm
import Derived.Test.YtpaemaenefjajabCopy
namespace Go.Proofs.Ytpaemaenefjajab
open Go.ChangeShapes Go.WideShapes Go.ChangeAt Go.RowKit

theorem gcd_swap (xs ys : List Int) : gcdO 0 (ys ++ xs) = gcdO 0 (xs ++ ys) := by
  apply Nat.dvd_antisymm
  · exact dvd_gcdO _ 0 _ (Nat.dvd_zero _) (fun x hx => (gcdO_dvd 0 (ys ++ xs)).2 x (by simp at hx ⊢; exact hx.symm))
  · exact dvd_gcdO _ 0 _ (Nat.dvd_zero _) (fun x hx => (gcdO_dvd 0 (xs ++ ys)).2 x (by simp at hx ⊢; exact hx.symm))
theorem gcdV_swap (xs ys : List Int) : gcdV (ys ++ xs) = gcdV (xs ++ ys) ∧ gcdB (ys ++ xs) = gcdB (xs ++ ys) := by
  unfold gcdV gcdB; rw [gcd_swap]; exact ⟨rfl, rfl⟩
theorem gcd_two {xs ys : List Int} (h1 : gcdB xs = true) (h2 : gcdB ys = true) :
    gcdV [gcdV xs, gcdV ys] = gcdV (xs ++ ys) ∧ gcdB [gcdV xs, gcdV ys] = true ∧ gcdB (xs ++ ys) = true := by
  have b1 := fitB_true.1 h1
  have b2 := fitB_true.1 h2
  have e1 : gcdO 0 [gcdV xs, gcdV ys] = Nat.gcd (gcdO 0 xs) (gcdO 0 ys) := by
    rw [gcd_yes h1, gcd_yes h2]
    simp [gcdO]
  have e2 : gcdO 0 (xs ++ ys) = Nat.gcd (gcdO 0 xs) (gcdO 0 ys) := by
    apply Nat.dvd_antisymm
    · exact Nat.dvd_gcd (dvd_gcdO _ 0 _ (Nat.dvd_zero _) (fun x hx => (gcdO_dvd 0 (xs ++ ys)).2 x (by simp [hx]))) (dvd_gcdO _ 0 _ (Nat.dvd_zero _) (fun x hx => (gcdO_dvd 0 (xs ++ ys)).2 x (by simp [hx])))
    · refine dvd_gcdO _ 0 _ (Nat.dvd_zero _) (fun x hx => ?_)
      rcases List.mem_append.1 hx with hx | hx
      · exact Nat.dvd_trans (Nat.gcd_dvd_left _ _) ((gcdO_dvd 0 xs).2 x hx)
      · exact Nat.dvd_trans (Nat.gcd_dvd_right _ _) ((gcdO_dvd 0 ys).2 x hx)
  have e3 : fitB (Nat.gcd (gcdO 0 xs) (gcdO 0 ys) : Nat) = true := by
    apply fitB_yes
    by_cases h0 : gcdO 0 xs = 0
    · rw [h0, Nat.gcd_zero_left]; omega
    · have := Nat.gcd_le_left (gcdO 0 ys) (show 0 < gcdO 0 xs by omega); omega
  refine ⟨?_, ?_, ?_⟩
  · show fitV (gcdO 0 [gcdV xs, gcdV ys] : Nat) = fitV (gcdO 0 (xs ++ ys) : Nat)
    rw [e1, e2]
  · show fitB (gcdO 0 [gcdV xs, gcdV ys] : Nat) = true
    rw [e1]; exact e3
  · show fitB (gcdO 0 (xs ++ ys) : Nat) = true
    rw [e2]; exact e3

theorem zeroB_append (xs ys : List Int) : zeroB (xs ++ ys) = (zeroB xs || zeroB ys) := by
  induction xs with
  | nil => rfl
  | cons x xs ih => simp [zeroB, ih, Bool.or_assoc]
theorem lcm_same {zs ts : List Int} (h0 : zeroB zs = false) (h1 : zeroB ts = false) (h : ∀ m : Nat, (∀ y ∈ zs, y.natAbs ∣ m) ↔ (∀ y ∈ ts, y.natAbs ∣ m)) : lcmO 1 zs = lcmO 1 ts := by
  cases e1 : lcmO 1 zs with
  | some l =>
    obtain ⟨-, k2, k3, k4, k5⟩ := lcmO_some (by decide) (by decide) h0 e1
    cases e2 : lcmO 1 ts with
    | some l' =>
      obtain ⟨-, j2, j3, j4, j5⟩ := lcmO_some (by decide) (by decide) h1 e2
      rw [Nat.dvd_antisymm (k5 l' (Nat.one_dvd _) ((h l').2 j2)) (j5 l (Nat.one_dvd _) ((h l).1 k2))]
    | none => exact absurd ((h l).1 k2) (lcmO_none (by decide) h1 e2 k3 k4 (Nat.one_dvd _))
  | none =>
    cases e2 : lcmO 1 ts with
    | some l' =>
      obtain ⟨-, j2, j3, j4, j5⟩ := lcmO_some (by decide) (by decide) h1 e2
      exact absurd ((h l').2 j2) (lcmO_none (by decide) h0 e1 j3 j4 (Nat.one_dvd _))
    | none => rfl
theorem lcmV_of {zs ts : List Int} (h : zeroB zs = zeroB ts) (h2 : zeroB ts = false → lcmO 1 zs = lcmO 1 ts) : lcmV zs = lcmV ts ∧ lcmB zs = lcmB ts := by
  unfold lcmV lcmB
  rw [h]
  cases e : zeroB ts
  · rw [h2 e]; exact ⟨rfl, rfl⟩
  · exact ⟨rfl, rfl⟩
theorem lcmV_swap (xs ys : List Int) : lcmV (ys ++ xs) = lcmV (xs ++ ys) ∧ lcmB (ys ++ xs) = lcmB (xs ++ ys) := by
  have hz : zeroB (ys ++ xs) = zeroB (xs ++ ys) := by rw [zeroB_append, zeroB_append, Bool.or_comm]
  refine lcmV_of hz (fun h => lcm_same (by rw [hz]; exact h) h (fun m => ⟨fun k y hy => k y (by simp at hy ⊢; exact hy.symm), fun k y hy => k y (by simp at hy ⊢; exact hy.symm)⟩))
theorem lcm_two {xs ys : List Int} (h1 : lcmB xs = true) (h2 : lcmB ys = true) : lcmV [lcmV xs, lcmV ys] = lcmV (xs ++ ys) ∧ lcmB [lcmV xs, lcmV ys] = lcmB (xs ++ ys) := by
  have key : ∀ zs, lcmB zs = true → zeroB zs = false → ∃ l : Nat, lcmV zs = l ∧ 1 ≤ l ∧ ∀ m : Nat, l ∣ m ↔ ∀ y ∈ zs, y.natAbs ∣ m := by
    intro zs hb hz
    have hv : lcmV zs = ((lcmO 1 zs).getD 0 : Nat) := by unfold lcmV; rw [hz]; rfl
    have hb' : lcmB zs = (lcmO 1 zs).isSome := by unfold lcmB; rw [hz]; rfl
    cases e : lcmO 1 zs with
    | none => rw [e] at hb'; rw [hb'] at hb; cases hb
    | some l =>
      rw [e] at hv
      obtain ⟨-, k2, k3, k4, k5⟩ := lcmO_some (by decide) (by decide) hz e
      exact ⟨l, hv, k3, fun m => ⟨fun h y hy => Nat.dvd_trans (k2 y hy) h, fun h => k5 m (Nat.one_dvd _) h⟩⟩
  have zkey : ∀ zs, zeroB zs = true → lcmV zs = 0 := by
    intro zs hz; unfold lcmV; rw [hz]; rfl
  cases z1 : zeroB xs
  · cases z2 : zeroB ys
    · obtain ⟨l1, e1, p1, q1⟩ := key xs h1 z1
      obtain ⟨l2, e2, p2, q2⟩ := key ys h2 z2
      rw [e1, e2]
      have w1 : zeroB [(l1 : Int), (l2 : Int)] = false := by simp [zeroB]; omega
      have w2 : zeroB (xs ++ ys) = false := by rw [zeroB_append, z1, z2]; rfl
      refine lcmV_of (by rw [w1, w2]) (fun _ => lcm_same w1 w2 (fun m => ?_))
      constructor
      · intro h y hy
        rcases List.mem_append.1 hy with hy | hy
        · exact (q1 m).1 (by simpa using h l1 (by simp)) y hy
        · exact (q2 m).1 (by simpa using h l2 (by simp)) y hy
      · intro h y hy
        simp at hy
        rcases hy with rfl | rfl
        · simpa using (q1 m).2 (fun z hz => h z (by simp [hz]))
        · simpa using (q2 m).2 (fun z hz => h z (by simp [hz]))
    · rw [zkey ys z2]
      have w2 : zeroB (xs ++ ys) = true := by rw [zeroB_append, z1, z2]; rfl
      have w1 : zeroB [lcmV xs, 0] = true := by simp [zeroB]
      exact lcmV_of (by rw [w1, w2]) (fun h => by rw [w2] at h; cases h)
  · rw [zkey xs z1]
    have w2 : zeroB (xs ++ ys) = true := by rw [zeroB_append, z1]; rfl
    have w1 : zeroB [0, lcmV ys] = true := by simp [zeroB]
    exact lcmV_of (by rw [w1, w2]) (fun h => by rw [w2] at h; cases h)

theorem sumO_append (s : Int) (xs ys : List Int) : sumO s (xs ++ ys) = (sumO s xs).bind (fun p => sumO p ys) := by
  induction xs generalizing s with
  | nil => rfl
  | cons x xs ih =>
    simp only [List.cons_append, sumO]
    split
    · exact ih _
    · rfl
theorem sumO_range {s p : Int} {zs : List Int} (hs : -9223372036854775808 ≤ s ∧ s ≤ 9223372036854775807) (h : sumO s zs = some p) : -9223372036854775808 ≤ p ∧ p ≤ 9223372036854775807 := by
  induction zs generalizing s with
  | nil => simp [sumO] at h; subst h; exact hs
  | cons z zs ih =>
    rw [sumO] at h
    split at h
    · rename_i hf; exact ih (fitB_true.1 hf) h
    · cases h
theorem sumV_range (zs : List Int) : -9223372036854775808 ≤ sumV zs ∧ sumV zs ≤ 9223372036854775807 := by
  unfold sumV
  cases e : sumO 0 zs with
  | none => decide
  | some p => exact sumO_range (by decide) e
/-- The sums of two rows, one behind the other: where the first row's fits, it may stand for that row; where it doesn't, the whole's doesn't. -/
theorem sum_two (xs ys : List Int) : (sumB xs = true → sumV (sumV xs :: ys) = sumV (xs ++ ys) ∧ sumB (sumV xs :: ys) = sumB (xs ++ ys)) ∧ (sumB xs = false → sumB (xs ++ ys) = false) := by
  have e := sumO_append 0 xs ys
  constructor
  · intro h
    cases e1 : sumO 0 xs with
    | none => unfold sumB at h; rw [e1] at h; cases h
    | some p =>
      have hp := sumO_range (by decide) e1
      have ev : sumV xs = p := by unfold sumV; rw [e1]; rfl
      rw [e1] at e
      have e2 : sumO 0 (p :: ys) = sumO p ys := by
        have e3 : fitB (0 + p) = true := fitB_yes (by omega)
        rw [sumO, e3, Int.zero_add]; rfl
      rw [ev]
      unfold sumV sumB
      rw [e2, e]
      exact ⟨rfl, rfl⟩
  · intro h
    cases e1 : sumO 0 xs with
    | none => unfold sumB; rw [e, e1]; rfl
    | some p => unfold sumB at h; rw [e1] at h; cases h

theorem inR1 {x : Int} (hx : -9223372036854775808 ≤ x ∧ x ≤ 9223372036854775807) : InR [x] := by
  intro k
  match k with
  | 0 => exact hx
  | k + 1 => exact (by decide : (-9223372036854775808 : Int) ≤ 0 ∧ (0 : Int) ≤ 9223372036854775807)
theorem inR_append {xs ys : List Int} (hx : InR xs) (hy : InR ys) : InR (xs ++ ys) := by
  intro k
  unfold nth
  rw [List.getD_eq_getElem?_getD]
  by_cases h : k < xs.length
  · rw [List.getElem?_append_left h]
    have := hx k
    rwa [nth, List.getD_eq_getElem?_getD] at this
  · rw [List.getElem?_append_right (by omega)]
    have := hy (k - xs.length)
    rwa [nth, List.getD_eq_getElem?_getD] at this

/-- 'append' to a row of the call's own, FROM WHATEVER ROW: nil or not. -/
theorem append_row {P : Program} (w : World) {ops : Array Oper} {rest : List Oper} {o : Oper} {a : Act} {Q : Exit → Act → World → Prop} (hgd : o.guard = none) (s x : Operand) (t : TypeId)
    (ho : o.op = .call { callee := .builtin .append, args := #[s, x], argTypes := #[t, t] }) (base : Nat) (i : TypeInfo) (ht : P.underlying t = some (.slice 3)) (hi : P.info? 3 = some i) (hz : i.zero = some (.int .i64 0)) (hsize : i.size = 1) (hby : i.bytes = 8)
    (v : Value) (n : Nat) (os : List Int) (hs : a.eval s = v) (hown : w.ownsRow base 3 1 v n (os.map (Value.int .i64))) (ao : Option Addr) (m c : Nat) (zs : List Int) (hx : a.eval x = .slice ao m c) (hl : zs.length = m) (hno : ao = none → m = 0 ∧ c = 0) (hat : At w ao zs)
    (h63 : n + m ≤ 17592186044416) (hbase : base ≤ w.heap.size)
    (h : ∀ a' cap' w', w'.ownsRow base 3 1 (.slice a' (n + m) cap') (n + m) ((os ++ zs).map (Value.int .i64)) → Below base w w' → wpList P ops Q rest (a.put o.dst (.slice a' (n + m) cap')) w') : wpList P ops Q (o :: rest) a w := by
  cases ao with
  | none =>
    obtain ⟨rfl, rfl⟩ := hno rfl
    have e : zs = [] := List.eq_nil_of_length_eq_zero hl
    subst e
    refine wpList_append_own_none hgd s x t ho base 3 i 1 ht hi v n _ hs hown hx ?_
    obtain ⟨a', cap', hv, -⟩ := owns_at hown
    rw [hv] at hown ⊢
    exact h a' cap' w (by simpa using hown) (Below.refl _ _)
  | some ad =>
    refine wpList_append_own w hgd s x t ho base 3 i (.int .i64 0) 1 8 ht hi hz hsize hby rfl (by decide) v n _ hs hown ad m c (zs.map (Value.int .i64)) hx (by simp [hl]) (lies_new hat) (ints_oneCell _ _) (by unfold maxLen; omega) (by omega) hbase ?_
    intro v' w' hown' hgrow _
    have hob : ∀ k, v.ownBlock = some k → base ≤ k := by
      intro k hk
      rcases hown.2 with ⟨hv, -⟩ | ⟨g, cap, cur, hv, hg, -⟩
      · rw [hv] at hk; cases hk
      · rw [hv] at hk; cases hk; exact hg
    rw [← List.map_append] at hown'
    obtain ⟨a', cap', hv, -⟩ := owns_at hown'
    rw [hv] at hown' ⊢
    exact h a' cap' w' hown' ((Below.refl _ _).grown hgrow hbase hob)
end Go.Proofs.Ytpaemaenefjajab

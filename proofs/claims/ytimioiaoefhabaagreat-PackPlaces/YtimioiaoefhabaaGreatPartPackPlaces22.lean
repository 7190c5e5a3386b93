/- Texts of one chain, laid one behind the other. -/
import Derived.Test.YtimioiaoefhabaaGreatPartPackPlaces21
import Derived.Test.YtimioiaoefhabaaGreatPartPackPlaces18
namespace Go.Proofs.YtimioiaoefhabaaGreat
open Go.ChangeShapes Go.WideShapes Go.ChangeAt Go.RowKit
def bthX (L : List Int) (i j : Nat) : Bool := decide (0 < nth L i) && decide (0 < nth L j)
theorem cloV_at {R : List (List Int)} {i j k : Nat} (hk : k < R.length) (h : bthX (nthLV R k) i j = true) : cloV R i j = true := by
  have q := Bool.and_eq_true_iff.1 h
  refine cloV_iff.2 ⟨R[k], List.getElem_mem hk, ?_⟩
  have e : nthLV R k = R[k] := by unfold nthLV; rw [List.getD_eq_getElem?_getD, List.getElem?_eq_getElem hk]; rfl
  rw [← e]
  exact ⟨of_decide_eq_true q.1, of_decide_eq_true q.2⟩
theorem cloV_no {R : List (List Int)} {i j : Nat} (h : ∀ k, k < R.length → bthX (nthLV R k) i j = false) : cloV R i j = false := by
  apply Bool.eq_false_iff.2
  intro q
  obtain ⟨r, hr, q1, q2⟩ := cloV_iff.1 q
  obtain ⟨k, hk, rfl⟩ := List.getElem_of_mem hr
  have e : nthLV R k = R[k] := by unfold nthLV; rw [List.getD_eq_getElem?_getD, List.getElem?_eq_getElem hk]; rfl
  have := h k hk
  unfold bthX at this
  rw [e, decide_eq_true q1, decide_eq_true q2] at this
  cases this
set_option maxRecDepth 100000 in
set_option maxHeartbeats 1000000 in
theorem clash1_anyX (i j N b1 b2 : Nat) (row : Option Addr) (c : Nat) (L : List Int) (W : World) (h1 : W.cell? ⟨b1, 0, none⟩ = some (.int .i64 (i : Int))) (h2 : W.cell? ⟨b2, 0, none⟩ = some (.int .i64 (j : Int))) (hL : At W row L) (hN : L.length = N) (hi : i < N) (hj : j < N) :
    Calls Tryz.prog 21 #[.slice row N c, .pointer (some ⟨b1, 0, none⟩), .pointer (some ⟨b2, 0, none⟩)] W fun e w' => e = .returned (.bool (bthX L i j)) ∧ w' = W := by
  have hii : (i : Int) < (N : Int) := by omega
  have hjj : (j : Int) < (N : Int) := by omega
  rcases hL with e1 | ⟨b, off, rfl, hc⟩
  · rw [e1] at hN; simp at hN; omega
  have c0 := hc i (by omega)
  have c1 := hc j (by omega)
  have ER : Hid (bthX L i j = (decide (0 < nth L i) && decide (0 < nth L j))) := rfl
  generalize bthX L i j = r at *
  generalize nth L i = x at *
  generalize nth L j = y at *
  clear hc hN hi hj
  by_cases hx : x > 0
  · by_cases hy : y > 0
    · have e : r = true := by rw [ER.out, decide_eq_true hx, decide_eq_true hy]; rfl
      subst e
      clear ER
      go_enter Tryz.func21, Tryz.ntmps21
      go_wp2
      go_ret
      exact ⟨rfl, rfl⟩
    · have e : r = false := by rw [ER.out, decide_eq_false hy, Bool.and_false]
      subst e
      clear ER
      go_enter Tryz.func21, Tryz.ntmps21
      go_wp2
      go_ret
      exact ⟨rfl, rfl⟩
  · have e : r = false := by rw [ER.out, decide_eq_false hx, Bool.false_and]
    subst e
    clear ER
    go_enter Tryz.func21, Tryz.ntmps21
    go_wp2
    go_ret
    exact ⟨rfl, rfl⟩
set_option maxRecDepth 100000 in
set_option maxHeartbeats 1000000 in
theorem indexFunc_anyX (i j N b1 b2 : Nat) (v : Value) (R : List (List Int)) (W : World) (h : LsV W v R) (hl : ∀ k, k < R.length → (nthLV R k).length = N) (hi : i < N) (hj : j < N) (hR : R.length ≤ 1000000) (h1 : W.cell? ⟨b1, 0, none⟩ = some (.int .i64 (i : Int))) (h2 : W.cell? ⟨b2, 0, none⟩ = some (.int .i64 (j : Int))) :
    Calls Tryz.prog 45 #[v, .func (.func 21) #[] #[.pointer (some ⟨b1, 0, none⟩), .pointer (some ⟨b2, 0, none⟩)]] W fun e w' => (∃ x : Int, e = .returned (.int .i64 x) ∧ decide (x ≥ 0) = cloV R i j) ∧ w' = W := by
  obtain ⟨PE, hPE⟩ : ∃ Q : Ending → World → Prop, (fun e w' => (∃ x : Int, e = .returned (.int .i64 x) ∧ decide (x ≥ 0) = cloV R i j) ∧ w' = W) = Q := ⟨_, rfl⟩
  rw [hPE]
  have HPE := hiddenN hPE
  have CJ : Hid (∀ row c L, At W row L → L.length = N → Calls Tryz.prog 21 #[.slice row N c, .pointer (some ⟨b1, 0, none⟩), .pointer (some ⟨b2, 0, none⟩)] W fun e w' => e = .returned (.bool (bthX L i j)) ∧ w' = W) := fun row c L q1 q2 => clash1_anyX i j N b1 b2 row c L W h1 h2 q1 q2 hi hj
  have HL := hiddenN hl
  obtain ⟨x, c, rfl, hx⟩ := h
  have HX := hiddenN hx
  obtain ⟨M, hM⟩ : ∃ M, R.length = M := ⟨_, rfl⟩
  have HM := hiddenN hM
  rw [hM] at hR ⊢
  clear hPE h1 h2 hl hx hi hj hM
  go_enter Tryz.func45, Tryz.ntmps45
  go_wp2
  go_loopg [8] M (fun gk u wr => ∃ k : Nat, k ≤ M ∧ gk = M - k ∧ u = .int .i64 (k : Int) ∧ wr = W ∧ ∀ q, q < k → bthX (nthLV R q) i j = false)
  case atStart => exact ⟨0, Nat.zero_le _, rfl, rfl, rfl, fun q hq => absurd hq (Nat.not_lt_zero _)⟩
  case round =>
    obtain ⟨k, hk, rfl, rfl, rfl, hq⟩ := hrel
    have HQ := hiddenN hq
    clear hq
    by_cases hlt : k < M
    · have hki : (k : Int) < (M : Int) := by omega
      have hkR : k < R.length := by rw [HM.out]; exact hlt
      rcases HX.out with e1 | ⟨b, off, rfl, hc⟩
      · rw [e1] at hkR; exact absurd hkR (Nat.not_lt_zero _)
      obtain ⟨y, yc, c0, a0⟩ := hc k hkR
      rw [HL.out k hkR] at c0
      have CK := hiddenN (CJ.out y yc _ a0 (HL.out k hkR))
      have HY := hiddenN (@cloV_at R i j k hkR)
      obtain ⟨r, hr⟩ : ∃ r, bthX (nthLV R k) i j = r := ⟨_, rfl⟩
      rw [hr] at CK HY
      have HR := hiddenN hr
      clear hc a0 hkR hr
      cases r with
      | true =>
        go_wp2_with (go_at_call 21; (with_reducible refine CK.out.mono ?_); rintro e w' ⟨rfl, rfl⟩)
        rw [← HPE.out]
        exact ⟨⟨(k : Int), rfl, by rw [HY.out trivial]; exact decide_eq_true (Int.natCast_nonneg k)⟩, rfl⟩
      | false =>
        go_wp2_with (go_at_call 21; (with_reducible refine CK.out.mono ?_); rintro e w' ⟨rfl, rfl⟩)
        go_roundg (M - (k + 1))
        case measure => omega
        case rel => exact ⟨k + 1, by omega, rfl, by go_num, rfl, fun q hq => by
          by_cases e : q = k
          · subst e; exact HR.out
          · exact HQ.out q (by omega)⟩
    · have ek : M = k := by omega
      have hki : ¬ (k : Int) < (M : Int) := by omega
      have HN : Hid (cloV R i j = false) := cloV_no fun q hq => HQ.out q (by rw [HM.out] at hq; omega)
      clear ek
      go_wp2
      rw [← HPE.out]
      exact ⟨⟨-1, rfl, by rw [HN.out]; rfl⟩, rfl⟩
set_option maxRecDepth 100000 in
set_option maxHeartbeats 1000000 in
theorem containsFunc_anyX (i j N b1 b2 : Nat) (v : Value) (R : List (List Int)) (W : World) (h : LsV W v R) (hl : ∀ k, k < R.length → (nthLV R k).length = N) (hi : i < N) (hj : j < N) (hR : R.length ≤ 1000000) (h1 : W.cell? ⟨b1, 0, none⟩ = some (.int .i64 (i : Int))) (h2 : W.cell? ⟨b2, 0, none⟩ = some (.int .i64 (j : Int))) :
    Calls Tryz.prog 22 #[v, .func (.func 21) #[] #[.pointer (some ⟨b1, 0, none⟩), .pointer (some ⟨b2, 0, none⟩)]] W fun e w' => e = .returned (.bool (cloV R i j)) ∧ w' = W := by
  have CI := hiddenN (indexFunc_anyX i j N b1 b2 v R W h hl hi hj hR h1 h2)
  generalize cloV R i j = r at *
  clear h hl h1 h2 hR hi hj
  go_enter Tryz.func22, Tryz.ntmps22
  go_upto_region 1 with fail
  go_wp2_with (go_at_call 45; (with_reducible refine CI.out.mono ?_); rintro e w' ⟨⟨x, rfl, hx⟩, rfl⟩; have HXX := hiddenN hx; clear hx)
  go_ret
  exact ⟨by rw [← HXX.out]; rfl, rfl⟩
end Go.Proofs.YtimioiaoefhabaaGreat

/- Texts of one chain, laid one behind the other. -/
import Derived.Test.YtehgkgbijhobdaaPartActorsTwo14
import Derived.Test.YtehgkgbijhobdaaPartActorsTwo16
import Derived.Deep.Cut
import Derived.Test.YtehgkgbijhobdaaPartActorsTwo4
import Derived.Test.YtehgkgbijhobdaaPartActorsTwo9
import Derived.Test.YtehgkgbijhobdaaPartActorsTwo6
import Derived.Test.YtehgkgbijhobdaaPartActorsTwo10
import Derived.Test.YtehgkgbijhobdaaPartActorsTwo3
namespace Go.Proofs.Ytehgkgbijhobdaa
open Go.ChangeShapes Go.WideShapes Go.ChangeAt Go.RowKit
set_option maxRecDepth 100000 in
set_option maxHeartbeats 2000000 in
theorem rfits_any (t : Nat) (pv ov kv : Value) (nv : Int) (w : World) (a1 : Option Addr) (c1 : Nat) (P : List Int) (a : Option Addr) (len cap : Nat) (I : List (List Int)) (h1 : At w a1 P) (hm : P.length ≤ 1024) (hl : I.length = len) (hI : AtL w a I) :
    Calls Try.prog 30 #[.agg #[.int .u8 (t : Int), pv, .slice a1 P.length c1, ov, kv, .int .i64 nv], .slice a len cap] w fun e w' => e = .returned (.bool (decide (I.map (fun l => (l.length : Int)) = P))) ∧ Below w.heap.size w w' := by
  have hb0 := (Below.refl w.heap.size w).alloc (Nat.le_refl _) (.cells #[.int .u8 (t : Int), pv, .slice a1 P.length c1, ov, kv, .int .i64 nv] 31)
  have hk := blkA_new 31 w #[.int .u8 (t : Int), pv, .slice a1 P.length c1, ov, kv, .int .i64 nv]
  obtain ⟨r, hr⟩ : ∃ r, decide (I.map (fun l => (l.length : Int)) = P) = r := ⟨_, rfl⟩
  rw [hr]
  obtain ⟨m, hm2⟩ : ∃ m, P.length = m := ⟨_, rfl⟩
  rw [hm2] at hb0 hk hm ⊢
  have H1 := hidden6 (h1.below hb0)
  have HI := hidden6 (hI.block hb0)
  have HB0 := hidden6 hb0
  by_cases he : len = m
  · subst he
    have HT : Hid ((∀ j, j < len → ((nthL I j).length : Int) = nth P j) → r = true) := fun h => by
      rw [← hr]
      refine decide_eq_true (list_nth (by simp; omega) fun k hk => ?_)
      have hk' : k < I.length := by simpa using hk
      rw [map_nth hk']
      exact h k (by omega)
    have HF : Hid (∀ j, j < len → ((nthL I j).length : Int) ≠ nth P j → r = false) := fun j hj hn => by
      rw [← hr]
      refine decide_eq_false fun h => hn ?_
      rw [← h, map_nth (by omega)]
    have HP := hidden6 hm2
    have hmI : (len : Int) ≤ 1024 := by omega
    clear hr hI h1 hb0 hm2
    have hee : ((len : Int) != (len : Int)) = false := by simp
    go_enter Try.func30, Try.ntmps30
    go_upto_region 1 with fail
    generalize w.alloc (.cells #[.int .u8 (t : Int), pv, .slice a1 len c1, ov, kv, .int .i64 nv] 31) = W0 at *
    have z2 : W0.cell? ⟨w.heap.size, 2, none⟩ = some (.slice a1 len c1) := hk.cell (k := 2) rfl
    have Z2 := hidden6 z2
    clear hk
    go_wp2
    clear z2
    go_loopg [5] len (fun gk v wr => ∃ k : Nat, k ≤ len ∧ gk = len - k ∧ v = .int .i64 (k : Int) ∧ (∀ j, j < k → ((nthL I j).length : Int) = nth P j) ∧ Below W0.heap.size W0 wr)
    case atStart => exact ⟨0, Nat.zero_le _, rfl, rfl, fun j hj => by omega, Below.refl _ _⟩
    case round =>
      obtain ⟨k, hk, rfl, rfl, hall, hb⟩ := hrel
      have HA := hidden6 hall
      have HB := hidden6 hb
      have z2 := cell_keep6 hb Z2.out
      clear hall hb
      by_cases hlt : k < len
      · have hki : (k : Int) < (len : Int) := by omega
        rcases H1.out.below HB.out with h0 | ⟨b1, o1, rfl, hc1⟩
        · have := HP.out; rw [h0] at this; simp at this; omega
        rcases HI.out.block HB.out with h0 | ⟨b2, o2, rfl, hc2⟩
        · rw [h0] at hl; simp at hl; omega
        have g1 := hc1 k (by have := HP.out; omega)
        obtain ⟨x, c, g2, -⟩ := hc2 k (by omega)
        have HFk := hidden6 (HF.out k hlt)
        have HAk : Hid (((nthL I k).length : Int) = nth P k → ∀ j, j < k + 1 → ((nthL I j).length : Int) = nth P j) := fun h j hj => by
          by_cases e : j = k
          · subst e; exact h
          · exact HA.out j (by omega)
        clear hc1 hc2 HA
        generalize (nthL I k).length = m at *
        generalize nth P k = p at *
        by_cases hq : (m : Int) = p
        · have hqq : ((m : Int) != p) = false := by simpa using hq
          have HN := hidden6 (HAk.out hq)
          clear hq
          go_wp2
          go_quiet (fail)
          go_wp2
          go_roundg (len - (k + 1))
          case measure => omega
          case rel => exact ⟨k + 1, by omega, rfl, by go_num, HN.out, bdrew HB.out nq⟩
        · have hqq : ((m : Int) != p) = true := by simpa using hq
          obtain rfl : r = false := HFk.out hq
          go_wp2
          go_quiet (fail)
          go_wp2
          go_ret
          exact ⟨rfl, HB0.out.trans ((bdrew HB.out nq).mono HB0.out.size)⟩
      · obtain rfl : r = true := HT.out fun j hj => HA.out j (by omega)
        have hki : ¬ (k : Int) < (len : Int) := by omega
        go_wp2
        go_ret
        exact ⟨rfl, HB0.out.trans (HB.out.mono HB0.out.size)⟩
  · have hf : r = false := by
      rw [← hr]
      refine decide_eq_false fun h => he ?_
      have := congrArg List.length h
      simp at this
      omega
    have hee : ((len : Int) != (m : Int)) = true := by simp; omega
    clear hI h1 hr hb0 hk
    subst hf
    go_enter Try.func30, Try.ntmps30
    go_wp2
    go_ret
    exact ⟨rfl, HB0.out⟩
theorem dot_step {s : Int} {xs ys : List Int} {k : Nat} (h1 : k < xs.length) (h2 : k < ys.length) : dotO s (xs.drop k) (ys.drop k) = if fitB (nth xs k * nth ys k) then (if fitB (s + nth xs k * nth ys k) then dotO (s + nth xs k * nth ys k) (xs.drop (k + 1)) (ys.drop (k + 1)) else none) else none := by
  rw [List.drop_eq_getElem_cons h1, List.drop_eq_getElem_cons h2, dotO, nthZ_get h1, nthZ_get h2]
set_option maxRecDepth 100000 in
set_option maxHeartbeats 2000000 in
theorem rlaid_any (a1 a2 : Option Addr) (xs ys : List Int) (n c1 c2 : Nat) (w : World) (hl1 : xs.length = n) (hl2 : ys.length = n) (hm : n ≤ 1024) (hx : InR xs) (hy : InR ys) (h1 : At w a1 xs) (h2 : At w a2 ys) :
    Calls Try.prog 42 #[.slice a1 n c1, .slice a2 n c2] w fun e w' => e = .returned (.tuple #[.int .i64 ((dotO 0 xs ys).getD 0), .bool (dotO 0 xs ys).isSome]) ∧ Below w.heap.size w w' := by
  have H1 := hidden6 h1
  have H2 := hidden6 h2
  have TM : Hid (∀ a b V, (-9223372036854775808 ≤ a ∧ a ≤ 9223372036854775807) → (-9223372036854775808 ≤ b ∧ b ≤ 9223372036854775807) → Calls Try.prog 44 #[.int .i64 a, .int .i64 b] V fun e w' => e = .returned (.tuple #[.int .i64 (fitV (a * b)), .bool (fitB (a * b))]) ∧ w' = V) := fun a b V ha hb => times7_any a b V ha hb
  have PL : Hid (∀ a b V, (-9223372036854775808 ≤ a ∧ a ≤ 9223372036854775807) → (-9223372036854775808 ≤ b ∧ b ≤ 9223372036854775807) → Calls Try.prog 43 #[.int .i64 a, .int .i64 b] V fun e w' => e = .returned (.tuple #[.int .i64 (fitV (a + b)), .bool (fitB (a + b))]) ∧ w' = V) := fun a b V ha hb => plus7_any a b V ha hb
  have HX := hidden6 hx
  have HY := hidden6 hy
  obtain ⟨r, hr⟩ : ∃ r, dotO 0 xs ys = r := ⟨_, rfl⟩
  rw [hr]
  have hmI : (n : Int) ≤ 1024 := by omega
  clear h1 h2 hx hy
  go_enter Try.func42, Try.ntmps42
  go_wp2
  go_loopg [6, 7] n (fun gk sv v wr => ∃ (k : Nat) (s : Int), k ≤ n ∧ gk = n - k ∧ v = .int .i64 (k : Int) ∧ sv = .int .i64 s ∧ (-9223372036854775808 ≤ s ∧ s ≤ 9223372036854775807) ∧ dotO s (xs.drop k) (ys.drop k) = r ∧ Below w.heap.size w wr)
  case atStart => exact ⟨0, 0, Nat.zero_le _, rfl, rfl, rfl, by decide, by rw [List.drop_zero, List.drop_zero]; exact hr, Below.refl _ _⟩
  case round =>
    obtain ⟨k, s, hk, rfl, rfl, rfl, hs, hd, hb⟩ := hrel
    have HD := hidden6 hd
    have HB := hidden6 hb
    clear hd hb
    by_cases hlt : k < n
    · have hki : (k : Int) < (n : Int) := by omega
      have e := dot_step (s := s) (xs := xs) (ys := ys) (k := k) (by omega) (by omega)
      rw [HD.out] at e
      have HE := hidden6 e
      rcases H1.out with h0 | ⟨b1, o1, rfl, hc1⟩
      · rw [h0] at hl1; simp at hl1; omega
      rcases H2.out with h0 | ⟨b2, o2, rfl, hc2⟩
      · rw [h0] at hl2; simp at hl2; omega
      have q1 := cell_keep6 HB.out (hc1 k (by omega))
      have q2 := cell_keep6 HB.out (hc2 k (by omega))
      have hxk := HX.out k
      have hyk := HY.out k
      clear hc1 hc2 e
      generalize nth xs k = x at *
      generalize nth ys k = y at *
      have TMk : Hid (∀ V, Calls Try.prog 44 #[.int .i64 x, .int .i64 y] V fun e w' => e = .returned (.tuple #[.int .i64 (fitV (x * y)), .bool (fitB (x * y))]) ∧ w' = V) := fun V => TM.out x y V hxk hyk
      cases hf : fitB (x * y) with
      | false =>
        rw [hf] at TMk
        have HN : Hid (r = none) := by have := HE.out; rw [hf] at this; exact this
        clear hxk hyk hf
        go_wp2
        go_quiet (first | (go_at_call 44; (with_reducible refine (TMk.out _).mono ?_); rintro e w' ⟨rfl, rfl⟩; exact ⟨rfl, _, rfl⟩))
        go_wp2
        go_ret2
        exact ⟨by rw [HN.out]; rfl, bdrew HB.out nq⟩
      | true =>
        have hfv : fitV (x * y) = x * y := fitV_yes (fitB_true.1 hf)
        have hpr := fitB_true.1 hf
        rw [hf, hfv] at TMk
        have PLk : Hid (∀ V, Calls Try.prog 43 #[.int .i64 s, .int .i64 (x * y)] V fun e w' => e = .returned (.tuple #[.int .i64 (fitV (s + x * y)), .bool (fitB (s + x * y))]) ∧ w' = V) := fun V => PL.out s (x * y) V hs hpr
        have HE2 : Hid (r = if fitB (s + x * y) then dotO (s + x * y) (xs.drop (k + 1)) (ys.drop (k + 1)) else none) := by have := HE.out; rw [hf] at this; exact this
        clear HE hf hfv hxk hyk hpr
        generalize x * y = p at *
        cases hg : fitB (s + p) with
        | false =>
          rw [hg] at PLk
          have HN : Hid (r = none) := by have := HE2.out; rw [hg] at this; exact this
          clear hg
          go_wp2
          go_quiet (first | (go_at_call 44; (with_reducible refine (TMk.out _).mono ?_); rintro e w' ⟨rfl, rfl⟩; exact ⟨rfl, _, rfl⟩))
          go_wp2_with (go_at_call 43; (with_reducible refine (PLk.out _).mono ?_); rintro e v ⟨rfl, hv⟩; rw [hv]; clear hv)
          go_ret2
          exact ⟨by rw [HN.out]; rfl, bdrew HB.out nq⟩
        | true =>
          have hsv : fitV (s + p) = s + p := fitV_yes (fitB_true.1 hg)
          have hsr := fitB_true.1 hg
          rw [hg, hsv] at PLk
          have HN : Hid (dotO (s + p) (xs.drop (k + 1)) (ys.drop (k + 1)) = r) := by have := HE2.out; rw [hg] at this; exact this.symm
          clear hg hsv
          generalize s + p = q at *
          go_wp2
          go_quiet (first | (go_at_call 44; (with_reducible refine (TMk.out _).mono ?_); rintro e w' ⟨rfl, rfl⟩; exact ⟨rfl, _, rfl⟩))
          go_wp2_with (go_at_call 43; (with_reducible refine (PLk.out _).mono ?_); rintro e v ⟨rfl, hv⟩; rw [hv]; clear hv)
          go_roundg (n - (k + 1))
          case measure => omega
          case rel => exact ⟨k + 1, q, by omega, rfl, by go_num, rfl, hsr, HN.out, bdrew HB.out nq⟩
    · have hki : ¬ (k : Int) < (n : Int) := by omega
      have HN : Hid (r = some s) := by
        have := HD.out
        rw [List.drop_of_length_le (by omega), List.drop_of_length_le (by omega)] at this
        exact this.symm
      go_wp2
      go_ret2
      exact ⟨by rw [HN.out]; rfl, HB.out⟩
theorem take_nth1 {zs : List Int} {q : Nat} (h : q < zs.length) : zs.take (q + 1) = zs.take q ++ [nth zs q] := by
  rw [List.take_add_one, List.getElem?_eq_getElem h, nthZ_get h]; rfl
theorem weave_nth {n m i j : Nat} {I : List (List Int)} (hi : i < n) (hj : j < m) : nth (weaveS n m I) (j * n + i) = nth (nthL I i) j := by
  have hq : j * n + i < n * m := by
    have h1 : (j + 1) * n ≤ m * n := Nat.mul_le_mul_right n hj
    rw [Nat.succ_mul] at h1
    rw [Nat.mul_comm n m]
    omega
  have hmod : (j * n + i) % n = i := by rw [Nat.mul_comm, Nat.mul_add_mod, Nat.mod_eq_of_lt hi]
  have hdiv : (j * n + i) / n = j := by rw [Nat.mul_comm, Nat.mul_add_div (by omega), Nat.div_eq_of_lt hi]; rfl
  unfold weaveS
  rw [nth_map hq, hmod, hdiv]
set_option maxRecDepth 100000 in
set_option maxHeartbeats 2000000 in
theorem rwoven_any (n m : Nat) (w : World) (a : Option Addr) (len cap : Nat) (I : List (List Int)) (hA : ArgL w a len I) (hl : len = n) (hr : ∀ i, i < n → (nthL I i).length = m) (hn : 1 ≤ n ∧ n ≤ 16) (hm : m ≤ 64) :
    Calls Try.prog 39 #[.int .i64 (n : Int), .int .i64 (m : Int), .slice a len cap] w (RowEnd w (weaveS n m I)) := by
  subst hl
  obtain ⟨i0, hi, hz0, hz1, hz2⟩ := info_parts Try.info3
  have HA := hidden6 hA
  have HR := hidden6 hr
  have WL := weave_len len m I
  have WN : Hid (∀ i j, i < len → j < m → nth (weaveS len m I) (j * len + i) = nth (nthL I i) j) := fun i j h1 h2 => weave_nth h1 h2
  have hQ : len * m ≤ 1024 := Nat.le_trans (Nat.mul_le_mul hn.2 hm) (by decide)
  generalize weaveS len m I = WS at *
  have HWL := hidden6 WL
  have hmI : (m : Int) ≤ 64 := by omega
  have hnI : (len : Int) ≤ 16 := by omega
  have HJ := hidden6 hi
  have HJ0 := hidden6 hz0
  have HJ1 := hidden6 hz1
  have HJ2 := hidden6 hz2
  clear hA hr WL hi hz0 hz1 hz2
  go_enter Try.func39, Try.ntmps39
  go_wp2
  go_loopg [7, 8] m (fun gk v u wr => ∃ j : Nat, j ≤ m ∧ gk = m - j ∧ u = .int .i64 (j : Int) ∧ wr.ownsRow w.heap.size 3 1 v (j * len) ((WS.take (j * len)).map (Value.int .i64)) ∧ Below w.heap.size w wr)
  case atStart => exact ⟨0, Nat.zero_le _, rfl, rfl, by rw [Nat.zero_mul]; exact World.ownsRow_nil _ _ _ _, Below.refl _ _⟩
  case round =>
    obtain ⟨j, hj, rfl, rfl, hown, hB⟩ := hrel
    have HO := hidden6 hown
    have HB := hidden6 hB
    clear hown hB
    by_cases hlt : j < m
    · have hji : (j : Int) < (m : Int) := by omega
      have hJ : (j + 1) * len ≤ m * len := Nat.mul_le_mul_right len hlt
      have HS : Hid ((j + 1) * len = j * len + len) := Nat.succ_mul j len
      rw [HS.out, Nat.mul_comm m len] at hJ
      have WNj : Hid (∀ i, i < len → nth WS (j * len + i) = nth (nthL I i) j) := fun i h => WN.out i j h hlt
      generalize j * len = J at *
      go_wp2
      go_loopg [7, 9] len (fun gk v u wq => ∃ i : Nat, i ≤ len ∧ gk = len - i ∧ u = .int .i64 (i : Int) ∧ wq.ownsRow w.heap.size 3 1 v (J + i) ((WS.take (J + i)).map (Value.int .i64)) ∧ Below w.heap.size w wq)
      case atStart => exact ⟨0, Nat.zero_le _, rfl, rfl, HO.out, HB.out⟩
      case round =>
        clear HO HB
        obtain ⟨i, hi, rfl, rfl, hown, hB⟩ := hrel
        by_cases hlt2 : i < len
        · have hii : (i : Int) < (len : Int) := by omega
          obtain ⟨b, off, xb, xo, c, rfl, q1, q2⟩ := tok_cell HA.out.lies (i := i) (j := j) (by have := HA.out.size; omega) (by rw [HR.out i hlt2]; exact hlt)
          rw [HR.out i hlt2] at q1
          have r1 := cell_keep6 hB q1
          have r2 := cell_keep6 hB q2
          have HN := hidden6 (WNj.out i hlt2)
          have HT := hidden6 (take_nth1 (zs := WS) (q := J + i) (by rw [HWL.out]; omega))
          clear q1 q2
          generalize nth (nthL I i) j = x at *
          have HO := hidden6 hown
          have HB := hidden6 hB
          have hsz := hB.size
          go_wp2_with (at_builtin; refine wpList_append_own _ rfl (.tmp 20) (.tmp 28) 22 rfl w.heap.size 3 i0 (.int .i64 0) 1 8 Try.underlying22 HJ.out HJ0.out HJ1.out HJ2.out rfl (by decide) _ (J + i) _ rfl (hown.alloc _) ⟨wr.heap.size, 0, none⟩ 1 1 [.int .i64 x] rfl rfl (one_new6 _ _ _) (one_cell6 _) (by unfold maxLen; omega) (by omega) (by simp; omega) ?_; intro v' w2 hown2 hgrow2 _)
          go_roundg (len - (i + 1))
          case measure => omega
          case rel =>
            refine ⟨i + 1, by omega, rfl, by go_num, ?_, (HB.out.alloc hsz _).grown hgrow2 (by simp; omega) (own_block6 HO.out)⟩
            rw [← Nat.add_assoc, HT.out, List.map_append, HN.out]
            exact hown2
        · have hii : ¬ (i : Int) < (len : Int) := by omega
          have ei : i = len := by omega
          have HO := hidden6 hown
          have HB := hidden6 hB
          clear hown hB
          go_wp2
          go_roundg (m - (j + 1))
          case measure => omega
          case rel => exact ⟨j + 1, by omega, rfl, by go_num, by rw [HS.out, ← ei]; exact HO.out, HB.out⟩
    · have hji : ¬ (j : Int) < (m : Int) := by omega
      have ej : j = m := by omega
      have h := HO.out
      rw [ej, Nat.mul_comm, ← HWL.out, List.take_of_length_le (Nat.le_refl _)] at h
      obtain ⟨a', cap', hv, -, -⟩ := owns_at h
      subst hv
      have HO2 := hidden6 h
      clear h
      clear HO
      go_wp2
      go_ret
      exact ⟨a', cap', rfl, HO2.out, HB.out⟩
/-- The cells of a table of rows. -/
def tabC (A : Nat → Option Addr) (C : Nat → Nat) (O : List (List Int)) : List Value := (List.range O.length).map fun j => .slice (A j) (nthL O j).length (C j)
/-- A table of rows that grows. -/
structure TabG (B : Nat) (wr : World) (v : Value) (A : Nat → Option Addr) (C : Nat → Nat) (O : List (List Int)) : Prop where
  row : wr.ownsRow B 22 1 v O.length (tabC A C O)
  rows : ∀ j, j < O.length → CapR B wr (A j) (C j) (nthL O j)
  dd : ∀ j k x y, j < O.length → k < O.length → j ≠ k → A j = some x → A k = some y → x.block ≠ y.block
  dt : ∀ j x k, j < O.length → A j = some x → v.ownBlock = some k → x.block ≠ k
theorem tabG_nil (B : Nat) (w : World) : TabG B w (.slice none 0 0) (fun _ => none) (fun _ => 0) [] := ⟨World.ownsRow_nil _ _ _ _, fun j hj => by simp at hj, fun j k x y hj => by simp at hj, fun j x k hj => by simp at hj⟩
theorem rowG_later {B e size n : Nat} {v : Value} {xs : List Value} {w w' : World} (h : w.ownsRow B e size v n xs) (hk : ∀ k, v.ownBlock = some k → w'.heap[k]? = w.heap[k]?) : w'.ownsRow B e size v n xs := by
  refine ⟨h.1, ?_⟩
  rcases h.2 with h2 | ⟨g, cap, cur, hv, hg, hh, r⟩
  · exact .inl h2
  · exact .inr ⟨g, cap, cur, hv, hg, by rw [hk g (by rw [hv]; rfl)]; exact hh, r⟩
theorem rowG_lt {B e size n : Nat} {v : Value} {xs : List Value} {w : World} (h : w.ownsRow B e size v n xs) {k : Nat} (hk : v.ownBlock = some k) : B ≤ k ∧ k < w.heap.size := by
  rcases h.2 with ⟨h2, -⟩ | ⟨g, cap, cur, hv, hg, hh, -⟩
  · rw [h2] at hk; cases hk
  · rw [hv] at hk; cases hk
    exact ⟨hg, (Array.getElem?_eq_some_iff.1 hh).1⟩
theorem TabG.below {B : Nat} {w w' : World} {v : Value} {A : Nat → Option Addr} {C : Nat → Nat} {O : List (List Int)} (h : TabG B w v A C O) (hb : Below w.heap.size w w') : TabG B w' v A C O :=
  ⟨rowG_later h.row fun k hk => hb.block k (rowG_lt h.row hk).2, fun j hj => (h.rows j hj).later hb, h.dd, h.dt⟩
theorem nthL_left {O : List (List Int)} {L : List Int} {j : Nat} (h : j < O.length) : nthL (O ++ [L]) j = nthL O j := by
  unfold nthL; rw [List.getD_eq_getElem?_getD, List.getD_eq_getElem?_getD, List.getElem?_append_left h]
theorem nthL_end (O : List (List Int)) (L : List Int) : nthL (O ++ [L]) O.length = L := by
  unfold nthL; rw [List.getD_eq_getElem?_getD, List.getElem?_append_right (Nat.le_refl _), Nat.sub_self]; rfl
theorem tabC_app (A : Nat → Option Addr) (C : Nat → Nat) (O : List (List Int)) (L : List Int) (d : Option Addr) (c : Nat) : tabC (upd A O.length d) (upd C O.length c) (O ++ [L]) = tabC A C O ++ [.slice d L.length c] := by
  unfold tabC
  rw [List.length_append, List.length_singleton, List.range_succ, List.map_append]
  congr 1
  · refine List.map_congr_left fun j hj => ?_
    have hj' := List.mem_range.1 hj
    rw [nthL_left hj', upd_ne (by omega), upd_ne (by omega)]
  · rw [List.map_singleton, nthL_end, upd_eq, upd_eq]
theorem TabG.app {B : Nat} {w w2 w4 : World} {v v' : Value} {A : Nat → Option Addr} {C : Nat → Nat} {O : List (List Int)} {d : Option Addr} {c : Nat} {L : List Int} (h : TabG B w v A C O) (hB : B ≤ w.heap.size) (hb : Below w.heap.size w w2) (hd : CapR w.heap.size w2 d c L)
    (ho : w4.ownsRow B 22 1 v' (O.length + 1) (tabC A C O ++ [.slice d L.length c]))
    (ht : (∃ g cap, v = .slice (some ⟨g, 0, none⟩) O.length cap ∧ v' = .slice (some ⟨g, 0, none⟩) (O.length + 1) cap ∧ w2.grownBy w4 (some g)) ∨ (∃ cap, v' = .slice (some ⟨w2.heap.size, 0, none⟩) (O.length + 1) cap ∧ w2.grownBy w4 none)) : TabG B w4 v' (upd A O.length d) (upd C O.length c) (O ++ [L]) := by
  have h2 := h.below hb
  have hsz := hb.size
  have key : ∀ k, k < w2.heap.size → v.ownBlock ≠ some k → w4.heap[k]? = w2.heap[k]? := fun k hk hn => by
    rcases ht with ⟨g, cap, e, -, hg⟩ | ⟨cap, -, hg⟩
    · exact hg.block k hk (fun e2 => hn (by rw [e]; exact e2.symm))
    · exact hg.block k hk (fun e2 => by cases e2)
  have dnew : ∀ x, d = some x → v.ownBlock ≠ some x.block := fun x hx e => by
    have h3 := (hd.lt x hx).1
    have h4 := (rowG_lt h.row e).2
    omega
  have hl : (O ++ [L]).length = O.length + 1 := by simp
  refine ⟨?_, fun j hj => ?_, fun j k x y hj hk hn hx hy => ?_, fun j x k hj hx hv => ?_⟩
  · rw [hl, tabC_app]; exact ho
  · rw [hl] at hj
    by_cases e : j = O.length
    · subst e
      rw [upd_eq, upd_eq, nthL_end]
      exact (hd.mono hB).keep fun x hx => key _ (hd.lt x hx).2 (dnew x hx)
    · rw [upd_ne e, upd_ne e, nthL_left (by omega)]
      exact (h2.rows j (by omega)).keep fun x hx => key _ ((h2.rows j (by omega)).lt x hx).2 (fun e2 => h.dt j x _ (by omega) hx e2 rfl)
  · rw [hl] at hj hk
    have old : ∀ j x, j < O.length → A j = some x → x.block < w.heap.size := fun j x hj hx => ((h.rows j hj).lt x hx).2
    by_cases e1 : j = O.length
    · subst e1
      rw [upd_eq] at hx
      rw [upd_ne (by omega)] at hy
      have := (hd.lt x hx).1
      have := old k y (by omega) hy
      omega
    · rw [upd_ne e1] at hx
      by_cases e2 : k = O.length
      · subst e2
        rw [upd_eq] at hy
        have := (hd.lt y hy).1
        have := old j x (by omega) hx
        omega
      · rw [upd_ne e2] at hy
        exact h.dd j k x y (by omega) (by omega) hn hx hy
  · rw [hl] at hj
    have hxl : x.block < w2.heap.size ∧ v.ownBlock ≠ some x.block := by
      by_cases e : j = O.length
      · subst e
        rw [upd_eq] at hx
        exact ⟨(hd.lt x hx).2, dnew x hx⟩
      · rw [upd_ne e] at hx
        exact ⟨((h2.rows j (by omega)).lt x hx).2, fun e2 => h.dt j x _ (by omega) hx e2 rfl⟩
    rcases ht with ⟨g, cap, e, e', hg⟩ | ⟨cap, e', hg⟩
    · rw [e'] at hv; cases hv
      exact fun e3 => hxl.2 (by rw [e, e3]; rfl)
    · rw [e'] at hv; cases hv
      have h9 := hxl.1
      show x.block ≠ w2.heap.size
      omega
theorem TabG.out {B : Nat} {w : World} {x : Option Addr} {c : Nat} {A : Nat → Option Addr} {C : Nat → Nat} {O : List (List Int)} (h : TabG B w (.slice x O.length c) A C O) : OutT B w A C x O := by
  refine ⟨h.rows, h.dd, ?_⟩
  rcases h.row.2 with ⟨-, h2⟩ | ⟨g, cap, cur, hv, hg, hh, -⟩
  · exact .inl (List.eq_nil_of_length_eq_zero h2)
  · cases hv
    refine .inr ⟨g, rfl, hg, (Array.getElem?_eq_some_iff.1 hh).1, fun j hj => ?_, fun j y hj hy => h.dt j y g hj hy rfl⟩
    rw [World.ownsRow.cellAt h.row j (by simpa using hj)]
    unfold tabC
    rw [List.getElem?_map, List.getElem?_range hj]
    rfl
theorem tabG_shape {B : Nat} {w : World} {v : Value} {A : Nat → Option Addr} {C : Nat → Nat} {O : List (List Int)} (h : TabG B w v A C O) : ∃ x c, v = .slice x O.length c := by
  rcases h.row.2 with ⟨h1, h2⟩ | ⟨g, cap, cur, hv, -⟩
  · exact ⟨none, 0, by rw [h1, h2]⟩
  · exact ⟨_, cap, hv⟩
/-- How the making of rows ends. -/
def RowsE (w : World) (n : Nat) (O : List (List Int)) (e : Ending) (w' : World) : Prop := ∃ x c A C, e = .returned (.slice x n c) ∧ OutT w.heap.size w' A C x O ∧ Below w.heap.size w w'
theorem take_L {O : List (List Int)} {i : Nat} (h : i < O.length) : O.take (i + 1) = O.take i ++ [nthL O i] := by
  rw [List.take_add_one, List.getElem?_eq_getElem h, nthL_get h]; rfl
theorem one_cellS (x : Option Addr) (n c : Nat) : ∀ u ∈ [Value.slice x n c], u.oneCell' = true := by
  intro u hu; simp at hu; subst hu; rfl
set_option maxRecDepth 100000 in
set_option maxHeartbeats 2000000 in
theorem rparted_any (n m : Nat) (w : World) (a : Option Addr) (len cap : Nat) (row : List Int) (hl : row.length = len) (hA : At w a row) (hlen : len = n * m) (hn : 1 ≤ n ∧ n ≤ 16) (hm : 1 ≤ m ∧ m ≤ 64) :
    Calls Try.prog 40 #[.int .i64 (n : Int), .int .i64 (m : Int), .slice a len cap] w (RowsE w n (partS n m row)) := by
  obtain ⟨i0, hi, hz0, hz1, hz2⟩ := info_parts Try.info3
  obtain ⟨i1, hi1, hy0, hy1, hy2⟩ := info_parts Try.info22
  have HA := hidden6 hA
  have hNM : n * m ≤ 1024 := Nat.le_trans (Nat.mul_le_mul hn.2 hm.2) (by decide)
  have hmI : (m : Int) ≤ 64 := by omega
  have hnI : (n : Int) ≤ 16 := by omega
  have hlI : (len : Int) ≤ 1024 := by omega
  have HL := hidden6 hl
  have HLN := hidden6 hlen
  have HJ := hidden6 hi
  have HJ0 := hidden6 hz0
  have HJ1 := hidden6 hz1
  have HJ2 := hidden6 hz2
  have HK := hidden6 hi1
  have HK0 := hidden6 hy0
  have HK1 := hidden6 hy1
  have HK2 := hidden6 hy2
  have PL := part_len n m row
  have PN : Hid (∀ i, i < n → nthL (partS n m row) i = (List.range m).map fun j => nth row (j * n + i)) := fun i h => part_nth h
  generalize partS n m row = PS at *
  have HPL := hidden6 PL
  clear hA hi hz0 hz1 hz2 hi1 hy0 hy1 hy2 hl hlen PL
  go_enter Try.func40, Try.ntmps40
  go_wp2
  go_loopg [7, 8] n (fun gk v u wr => ∃ (i : Nat) (A : Nat → Option Addr) (C : Nat → Nat), i ≤ n ∧ gk = n - i ∧ u = .int .i64 (i : Int) ∧ TabG w.heap.size wr v A C (PS.take i) ∧ Below w.heap.size w wr)
  case atStart => exact ⟨0, _, _, Nat.zero_le _, rfl, rfl, tabG_nil _ _, Below.refl _ _⟩
  case round =>
    obtain ⟨i, A, C, hi, rfl, rfl, hT, hB⟩ := hrel
    obtain ⟨vx, vc, rfl⟩ := tabG_shape hT
    have hti : (PS.take i).length = i := by rw [List.length_take, HPL.out]; omega
    rw [hti] at hT ⊢
    have HT := hidden6 hT
    have HB := hidden6 hB
    clear hT hB
    by_cases hlt : i < n
    · have hii : (i : Int) < (n : Int) := by omega
      have RI := hidden6 (PN.out i hlt)
      generalize wr = W1 at *
      go_wp2
      go_loopg [9, 10] m (fun gk v u wq => ∃ j : Nat, j ≤ m ∧ gk = m - j ∧ u = .int .i64 (j : Int) ∧ wq.ownsRow W1.heap.size 3 1 v j (((List.range j).map fun j => nth row (j * n + i)).map (Value.int .i64)) ∧ Below W1.heap.size W1 wq)
      case atStart => exact ⟨0, Nat.zero_le _, rfl, rfl, World.ownsRow_nil _ _ _ _, Below.refl _ _⟩
      case round =>
        obtain ⟨j, hj, rfl, rfl, hown, hQ⟩ := hrel
        by_cases hlt2 : j < m
        · have hji : (j : Int) < (m : Int) := by omega
          have hJ : (j + 1) * n ≤ m * n := Nat.mul_le_mul_right n hlt2
          rw [Nat.succ_mul, Nat.mul_comm m n, ← HLN.out] at hJ
          have hmul : (j : Int) * (n : Int) = ((j * n : Nat) : Int) := by simp
          have HSR : Hid ((List.range (j + 1)).map (fun j => nth row (j * n + i)) = (List.range j).map (fun j => nth row (j * n + i)) ++ [nth row (j * n + i)]) := by show _ = _; rw [List.range_succ, List.map_append]; rfl
          generalize hJJ : j * n = J at hJ hmul HSR
          rcases HA.out.below (HB.out.trans (hQ.mono HB.out.size)) with h0 | ⟨b, off, rfl, hc⟩
          · have := HL.out; rw [h0] at this; simp at this; omega
          have q1 := hc (J + i) (by rw [HL.out]; omega)
          have ht1 : ((J : Int) + (i : Int)).toNat = J + i := by omega
          have hb1 : (J : Int) + (i : Int) < (len : Int) := by omega
          have hJI : (J : Int) ≤ 1024 := by omega
          clear hc hJJ
          generalize nth row (J + i) = x at *
          have HO := hidden6 hown
          have HQ := hidden6 hQ
          have hsz := hQ.size
          go_wp2_with (at_builtin; refine wpList_append_own _ rfl (.tmp 21) (.tmp 30) 22 rfl W1.heap.size 3 i0 (.int .i64 0) 1 8 Try.underlying22 HJ.out HJ0.out HJ1.out HJ2.out rfl (by decide) _ j _ rfl (hown.alloc _) ⟨wr.heap.size, 0, none⟩ 1 1 [.int .i64 x] rfl rfl (one_new6 _ _ _) (one_cell6 _) (by unfold maxLen; omega) (by omega) (by simp; omega) ?_; intro v' w2 hown2 hgrow2 _)
          go_roundg (m - (j + 1))
          case measure => omega
          case rel =>
            refine ⟨j + 1, by omega, rfl, by go_num, ?_, (HQ.out.alloc hsz _).grown hgrow2 (by simp; omega) (own_block6 HO.out)⟩
            rw [HSR.out, List.map_append]
            exact hown2
        · have hji : ¬ (j : Int) < (m : Int) := by omega
          have ej : j = m := by omega
          subst ej
          obtain ⟨d, dc, hv, -, -⟩ := owns_at hown
          subst hv
          have HR : Hid (CapR W1.heap.size wr d dc (nthL PS i)) := by
            show CapR _ _ _ _ _
            rw [RI.out]
            unfold CapR
            rw [List.length_map, List.length_range]
            exact hown
          have HRL : Hid ((nthL PS i).length = j) := by show _ = _; rw [RI.out]; simp
          have HQ := hidden6 hQ
          have hbo : Hid (Below W1.heap.size W1 (wr.alloc (.cells #[.slice d j dc] 22))) := hQ.alloc hQ.size _
          have HTT := hidden6 (take_L (O := PS) (i := i) (by rw [HPL.out]; omega))
          have TT : Hid (TabG w.heap.size (wr.alloc (.cells #[.slice d j dc] 22)) (.slice vx i vc) A C (PS.take i)) := HT.out.below hbo.out
          have TR : Hid ((wr.alloc (.cells #[.slice d j dc] 22)).ownsRow w.heap.size 22 1 (.slice vx i vc) i (tabC A C (PS.take i))) := by have h := TT.out.row; rw [hti] at h; exact h
          have hs1 := HB.out.size
          have hs2 := hQ.size
          clear hown hQ
          go_wp2_with (at_builtin; refine wpList_append_told _ rfl (.tmp 32) (.tmp 34) 37 rfl w.heap.size 22 i1 (.slice none 0 0) 1 24 Try.underlying37 HK.out HK0.out HK1.out HK2.out rfl (by decide) (.slice vx i vc) i (tabC A C (PS.take i)) rfl TR.out ⟨wr.heap.size, 0, none⟩ 1 1 (by decide) [.slice d j dc] rfl rfl (one_new6 _ _ _) (one_cellS _ _ _) (by unfold maxLen; omega) (by omega) (by simp; omega) ?_; intro v' w2 ho ht; have HO := hidden6 ho; have HG := hidden6 ht; clear ho ht)
          go_roundg (n - (i + 1))
          case measure => omega
          case rel =>
            have r := TabG.app HT.out hs1 hbo.out ((HR.out).later ((Below.refl _ _).alloc (Nat.le_refl _) (.cells #[.slice d j dc] 22))) (v' := _) (w4 := w2) (by rw [hti, HRL.out]; exact HO.out) (by rw [hti]; exact HG.out)
            rw [← HTT.out] at r
            have hbf : Below w.heap.size w w2 := by
              have q : Below w.heap.size w (wr.alloc (.cells #[.slice d j dc] 22)) := HB.out.trans (hbo.out.mono hs1)
              rcases HG.out with ⟨g, cap, e, -, hg⟩ | ⟨cap, -, hg⟩
              · exact q.grown hg q.size (fun k hk => by cases hk; exact (rowG_lt TR.out (k := g) (by rw [e]; rfl)).1)
              · exact q.grown hg q.size (fun k hk => by cases hk)
            exact ⟨i + 1, _, _, by omega, rfl, by go_num, r, hbf⟩
    · have hii : ¬ (i : Int) < (n : Int) := by omega
      have ei : i = n := by omega
      subst ei
      have HT2 : Hid (OutT w.heap.size wr A C vx PS) := by
        have h := HT.out
        have e : PS.take i = PS := List.take_of_length_le (by rw [HPL.out]; omega)
        rw [e] at h
        have h2 : TabG w.heap.size wr (.slice vx PS.length vc) A C PS := by rw [HPL.out]; exact h
        exact h2.out
      clear HT
      go_wp2
      go_ret
      exact ⟨vx, vc, A, C, rfl, HT2.out, HB.out⟩
theorem nthL_appL {I O : List (List Int)} {j : Nat} (h : j < I.length) : nthL (I ++ O) j = nthL I j := by
  unfold nthL; rw [List.getD_eq_getElem?_getD, List.getD_eq_getElem?_getD, List.getElem?_append_left h]
theorem nthL_appR (I O : List (List Int)) (j : Nat) : nthL (I ++ O) (I.length + j) = nthL O j := by
  unfold nthL; rw [List.getD_eq_getElem?_getD, List.getD_eq_getElem?_getD, List.getElem?_append_right (by omega), Nat.add_sub_cancel_left]
/-- One row of things, and another behind it. -/
def joinF {α : Type} (f g : Nat → α) (n : Nat) : Nat → α := fun j => if j < n then f j else g (j - n)
theorem joinF_lt {α : Type} {f g : Nat → α} {n j : Nat} (h : j < n) : joinF f g n j = f j := if_pos h
theorem joinF_ge {α : Type} {f g : Nat → α} {n j : Nat} : joinF f g n (n + j) = g j := by
  unfold joinF; rw [if_neg (by omega), Nat.add_sub_cancel_left]
theorem tabC_len (A : Nat → Option Addr) (C : Nat → Nat) (O : List (List Int)) : (tabC A C O).length = O.length := by simp [tabC]
theorem tabC_get (A : Nat → Option Addr) (C : Nat → Nat) (O : List (List Int)) {j : Nat} (h : j < O.length) : (tabC A C O)[j]? = some (.slice (A j) (nthL O j).length (C j)) := by
  unfold tabC; rw [List.getElem?_map, List.getElem?_range h]; rfl
theorem tabC_join (A A2 : Nat → Option Addr) (C C2 : Nat → Nat) (I O : List (List Int)) : tabC (joinF A A2 I.length) (joinF C C2 I.length) (I ++ O) = tabC A C I ++ tabC A2 C2 O := by
  refine List.ext_getElem? fun j => ?_
  by_cases h1 : j < I.length
  · rw [List.getElem?_append_left (by rw [tabC_len]; exact h1), tabC_get _ _ _ (by rw [List.length_append]; omega), tabC_get _ _ _ h1, joinF_lt h1, joinF_lt h1, nthL_appL h1]
  · obtain ⟨q, rfl⟩ : ∃ q, j = I.length + q := ⟨j - I.length, by omega⟩
    rw [List.getElem?_append_right (by rw [tabC_len]; omega), tabC_len, Nat.add_sub_cancel_left]
    by_cases h2 : q < O.length
    · rw [tabC_get _ _ _ (by rw [List.length_append]; omega), tabC_get _ _ _ h2, joinF_ge, joinF_ge, nthL_appR]
    · rw [List.getElem?_eq_none (by rw [tabC_len, List.length_append]; omega), List.getElem?_eq_none (by rw [tabC_len]; omega)]
theorem TabG.appAll {B B2 : Nat} {w w4 : World} {v v' : Value} {A A2 : Nat → Option Addr} {C C2 : Nat → Nat} {I O : List (List Int)} {x2 : Option Addr} (h : TabG B w v A C I) (h2 : OutT B2 w A2 C2 x2 O) (hsep : ∀ j x, j < I.length → A j = some x → x.block < B2) (hv : ∀ k, v.ownBlock = some k → k < B2) (hB : B ≤ B2)
    (ho : w4.ownsRow B 22 1 v' (I.length + O.length) (tabC A C I ++ tabC A2 C2 O))
    (ht : (∃ g cap, v = .slice (some ⟨g, 0, none⟩) I.length cap ∧ v' = .slice (some ⟨g, 0, none⟩) (I.length + O.length) cap ∧ w.grownBy w4 (some g)) ∨ (∃ cap, v' = .slice (some ⟨w.heap.size, 0, none⟩) (I.length + O.length) cap ∧ w.grownBy w4 none)) :
    TabG B w4 v' (joinF A A2 I.length) (joinF C C2 I.length) (I ++ O) ∧ (∀ k, k < w.heap.size → v.ownBlock ≠ some k → w4.heap[k]? = w.heap[k]?) := by
  have key : ∀ k, k < w.heap.size → v.ownBlock ≠ some k → w4.heap[k]? = w.heap[k]? := fun k hk hn => by
    rcases ht with ⟨g, cap, e, -, hg⟩ | ⟨cap, -, hg⟩
    · exact hg.block k hk (fun e2 => hn (by rw [e]; exact e2.symm))
    · exact hg.block k hk (fun e2 => by cases e2)
  have hl : (I ++ O).length = I.length + O.length := by simp
  have dnew : ∀ j x, j < O.length → A2 j = some x → v.ownBlock ≠ some x.block := fun j x hj hx e => by
    have h3 := ((h2.rows j hj).lt x hx).1
    have h4 := hv _ e
    omega
  refine ⟨⟨?_, fun j hj => ?_, fun j k x y hj hk hn hx hy => ?_, fun j x k hj hx hv' => ?_⟩, key⟩
  · rw [hl, tabC_join]; exact ho
  · rw [hl] at hj
    by_cases e : j < I.length
    · rw [joinF_lt e, joinF_lt e, nthL_appL e]
      exact (h.rows j e).keep fun x hx => key _ ((h.rows j e).lt x hx).2 (fun e2 => h.dt j x _ e hx e2 rfl)
    · obtain ⟨q, rfl⟩ : ∃ q, j = I.length + q := ⟨j - I.length, by omega⟩
      rw [joinF_ge, joinF_ge, nthL_appR]
      exact ((h2.rows q (by omega)).mono hB).keep fun x hx => key _ ((h2.rows q (by omega)).lt x hx).2 (dnew q x (by omega) hx)
  · rw [hl] at hj hk
    by_cases e1 : j < I.length
    · rw [joinF_lt e1] at hx
      by_cases e2 : k < I.length
      · rw [joinF_lt e2] at hy
        exact h.dd j k x y e1 e2 hn hx hy
      · obtain ⟨q, rfl⟩ : ∃ q, k = I.length + q := ⟨k - I.length, by omega⟩
        rw [joinF_ge] at hy
        have := hsep j x e1 hx
        have := ((h2.rows q (by omega)).lt y hy).1
        omega
    · obtain ⟨q, rfl⟩ : ∃ q, j = I.length + q := ⟨j - I.length, by omega⟩
      rw [joinF_ge] at hx
      by_cases e2 : k < I.length
      · rw [joinF_lt e2] at hy
        have := hsep k y e2 hy
        have := ((h2.rows q (by omega)).lt x hx).1
        omega
      · obtain ⟨p, rfl⟩ : ∃ p, k = I.length + p := ⟨k - I.length, by omega⟩
        rw [joinF_ge] at hy
        exact h2.apart q p x y (by omega) (by omega) (by omega) hx hy
  · rw [hl] at hj
    have hxl : x.block < w.heap.size ∧ v.ownBlock ≠ some x.block := by
      by_cases e : j < I.length
      · rw [joinF_lt e] at hx
        exact ⟨((h.rows j e).lt x hx).2, fun e2 => h.dt j x _ e hx e2 rfl⟩
      · obtain ⟨q, rfl⟩ : ∃ q, j = I.length + q := ⟨j - I.length, by omega⟩
        rw [joinF_ge] at hx
        exact ⟨((h2.rows q (by omega)).lt x hx).2, dnew q x (by omega) hx⟩
    rcases ht with ⟨g, cap, e, e', hg⟩ | ⟨cap, e', hg⟩
    · rw [e'] at hv'; cases hv'
      exact fun e3 => hxl.2 (by rw [e, e3]; rfl)
    · rw [e'] at hv'; cases hv'
      have h9 := hxl.1
      show x.block ≠ w.heap.size
      omega
theorem table_tabG {B : Nat} {w : World} {G c : Nat} {A : Nat → Option Addr} {C : Nat → Nat} {O : List (List Int)} (h : TabG B w (.slice (some ⟨G, 0, none⟩) O.length c) A C O) (hm : O.length ≤ 5864062014805) (hs : ∀ j, j < O.length → (nthL O j).length * 8 ≤ 140737488351232) :
    Table B w G O.length A (fun j => (nthL O j).length) C (fun j => nthL O j) := by
  have hg := rowG_lt h.row (k := G) rfl
  refine ⟨fun j hj => ⟨h.rows j hj, rfl⟩, fun j hj => ?_, h.dd, fun j x hj hx => h.dt j x G hj hx rfl, hg.2, by omega, hm, hs⟩
  rw [World.ownsRow.cellAt h.row j (by simpa using hj), tabC_get _ _ _ hj]
/-- append where nothing is laid behind. -/
theorem run_append_zero {P : Program} {w : World} (base : Nat) (t ty e : TypeId) (i : TypeInfo) (size : Nat) (ht : P.underlying t = some (.slice e)) (hi : P.info? e = some i)
    (v : Value) (n : Nat) (xs : List Value) (hown : w.ownsRow base e size v n xs) (y : Option Addr) (c : Nat) :
    (Builtin.append_ #[t, t] ty #[v, .slice y 0 c]).run P w = .ok v w := by
  rcases hown.2 with ⟨rfl, rfl⟩ | ⟨g, cap, cur, rfl, _, _, hnc, _⟩
  · cases y <;> simp [Builtin.append_, run_underlying ht, sizeOf, typeInfo, hi, Builtin.lenOf, Builtin.firstCells, loadCells, loadCellsFrom]
  · cases y <;> simp [Builtin.append_, run_underlying ht, sizeOf, typeInfo, hi, Builtin.lenOf, Builtin.firstCells, hnc, storeCells, loadCells, loadCellsFrom]
/-- Rows lent, in a table of a call's own. -/
structure OwnL (B : Nat) (w : World) (v : Value) (A : Nat → Option Addr) (C : Nat → Nat) (I : List (List Int)) : Prop where
  tab : TabG B w v A C I
  lend : ∀ j, j < I.length → ∃ g, A j = some ⟨g, 0, none⟩ ∧ C j = (nthL I j).length + 4 ∧ Lend B w g (nthL I j).length (nthL I j)
theorem ownL_nil (B : Nat) (w : World) : OwnL B w (.slice none 0 0) (fun _ => none) (fun _ => 0) [] := ⟨tabG_nil B w, fun j hj => by simp at hj⟩
theorem Lend.block {B : Nat} {w w' : World} {g len : Nat} {zs : List Int} (h : Lend B w g len zs) (hb : w'.heap[g]? = w.heap[g]?) : Lend B w' g len zs := ⟨h.1, h.2.1, h.2.2.block fun x hx => by cases hx; exact hb⟩
theorem Lend.mono {B B' : Nat} {w : World} {g len : Nat} {zs : List Int} (h : Lend B w g len zs) (hb : B' ≤ B) : Lend B' w g len zs := ⟨Nat.le_trans hb h.1, h.2⟩
theorem TabG.keep {B : Nat} {w w' : World} {v : Value} {A : Nat → Option Addr} {C : Nat → Nat} {O : List (List Int)} (h : TabG B w v A C O) (hk : ∀ k, B ≤ k → k < w.heap.size → w'.heap[k]? = w.heap[k]?) : TabG B w' v A C O :=
  ⟨rowG_later h.row fun k e => hk k (rowG_lt h.row e).1 (rowG_lt h.row e).2, fun j hj => (h.rows j hj).keep fun x hx => hk _ ((h.rows j hj).lt x hx).1 ((h.rows j hj).lt x hx).2, h.dd, h.dt⟩
theorem OwnL.keep {B : Nat} {w w' : World} {v : Value} {A : Nat → Option Addr} {C : Nat → Nat} {I : List (List Int)} (h : OwnL B w v A C I) (hk : ∀ k, B ≤ k → k < w.heap.size → w'.heap[k]? = w.heap[k]?) : OwnL B w' v A C I := by
  refine ⟨h.tab.keep hk, fun j hj => ?_⟩
  obtain ⟨g, h1, h2, h3⟩ := h.lend j hj
  have h4 := (h.tab.rows j hj).lt _ h1
  exact ⟨g, h1, h2, h3.block (hk g h4.1 h4.2)⟩
theorem OwnL.below {B : Nat} {w w' : World} {v : Value} {A : Nat → Option Addr} {C : Nat → Nat} {I : List (List Int)} (h : OwnL B w v A C I) (hb : Below w.heap.size w w') : OwnL B w' v A C I := h.keep fun k _ hk => hb.block k hk
theorem OwnL.app {B : Nat} {w w2 w4 : World} {v v' : Value} {A : Nat → Option Addr} {C : Nat → Nat} {O : List (List Int)} {g : Nat} {L : List Int} (h : OwnL B w v A C O) (hB : B ≤ w.heap.size) (hb : Below w.heap.size w w2) (hd : CapR w.heap.size w2 (some ⟨g, 0, none⟩) (L.length + 4) L) (hL : Lend w.heap.size w2 g L.length L)
    (ho : w4.ownsRow B 22 1 v' (O.length + 1) (tabC A C O ++ [.slice (some ⟨g, 0, none⟩) L.length (L.length + 4)]))
    (ht : (∃ g cap, v = .slice (some ⟨g, 0, none⟩) O.length cap ∧ v' = .slice (some ⟨g, 0, none⟩) (O.length + 1) cap ∧ w2.grownBy w4 (some g)) ∨ (∃ cap, v' = .slice (some ⟨w2.heap.size, 0, none⟩) (O.length + 1) cap ∧ w2.grownBy w4 none)) : OwnL B w4 v' (upd A O.length (some ⟨g, 0, none⟩)) (upd C O.length (L.length + 4)) (O ++ [L]) := by
  have h2 := h.below hb
  have key : ∀ k, k < w2.heap.size → v.ownBlock ≠ some k → w4.heap[k]? = w2.heap[k]? := fun k hk hn => by
    rcases ht with ⟨g, cap, e, -, hg⟩ | ⟨cap, -, hg⟩
    · exact hg.block k hk (fun e2 => hn (by rw [e]; exact e2.symm))
    · exact hg.block k hk (fun e2 => by cases e2)
  refine ⟨h.tab.app hB hb hd ho ht, fun j hj => ?_⟩
  rw [List.length_append, List.length_singleton] at hj
  by_cases e : j = O.length
  · subst e
    rw [upd_eq, upd_eq, nthL_end]
    refine ⟨g, rfl, rfl, (hL.mono hB).block (key g (hd.lt _ rfl).2 fun e => ?_)⟩
    have h3 := (hd.lt _ rfl).1
    have h4 := (rowG_lt h.tab.row e).2
    simp only at h3
    omega
  · rw [upd_ne e, upd_ne e, nthL_left (by omega)]
    obtain ⟨g', h5, h6, h7⟩ := h2.lend j (by omega)
    have h8 := (h2.tab.rows j (by omega)).lt _ h5
    exact ⟨g', h5, h6, h7.block (key g' h8.2 fun e2 => h.tab.dt j _ _ (by omega) h5 e2 rfl)⟩
set_option maxRecDepth 100000 in
set_option maxHeartbeats 1000000 in
theorem apart_none (w : World) : Calls Try.prog 10 #[.slice none 0 0] w fun e w' => e = .returned (.bool true) ∧ Below w.heap.size w w' := by
  have hmk : ∀ w : World, (Instr.makeSlice 37 (.int .i64 0) (.int .i64 0)).run Try.prog w = .ok (.slice (some ⟨w.heap.size, 0, none⟩) 0 0) (w.alloc (.cells (madeCells #[.slice none 0 0] 0) 22)) := fun w => run_make_row' (P := Try.prog) 37 22 (.slice none 0 0) 24 Try.underlying37 Try.info22 rfl .i64 .i64 0 (by omega) (by omega) w
  go_enter Try.func10, Try.ntmps10
  go_wp2
  clear hmk
  have HB := hidden6 ((Below.refl w.heap.size w).alloc (Nat.le_refl _) (.cells (madeCells #[.slice none 0 0] 0) 22))
  generalize w.alloc (.cells (madeCells #[.slice none 0 0] 0) 22) = w0 at *
  go_loopg [4] 0 (fun gk v wr => v = .int .i64 0 ∧ wr = w0)
  case atStart => exact ⟨rfl, rfl⟩
  case round =>
    obtain ⟨rfl, rfl⟩ := hrel
    go_wp2
    go_loopg [6] 0 (fun gk v w2 => v = .int .i64 0 ∧ w2 = wr)
    case atStart => exact ⟨rfl, rfl⟩
    case round =>
      obtain ⟨rfl, rfl⟩ := hrel
      go_wp2
      go_loopg [8] 0 (fun gk v w2 => v = .int .i64 0 ∧ w2 = wr)
      case atStart => exact ⟨rfl, rfl⟩
      case round =>
        obtain ⟨rfl, rfl⟩ := hrel
        go_wp2
        go_ret
        exact ⟨rfl, HB.out⟩
/-- The document's actor is this one, and its rows lie in these blocks. -/
def IsRN (N : Nat → Prop) (w : World) (t : Nat) (zs ks : List Int) (n : Nat) (v : Value) : Prop :=
  ∃ p cp i ci o co k ck, v = RA t (.slice p zs.length cp) (.slice i (insS t zs).length ci) (.slice o (outsS t zs).length co) (.slice k ks.length ck) (n : Int) ∧ At w p zs ∧ At w i (insS t zs) ∧ At w o (outsS t zs) ∧ At w k ks ∧
    (∀ x : Addr, p = some x → N x.block) ∧ (∀ x : Addr, i = some x → N x.block) ∧ (∀ x : Addr, o = some x → N x.block) ∧ (∀ x : Addr, k = some x → N x.block) ∧ (t = 1 → ∃ b off, k = some ⟨b, off, none⟩)
theorem cap_le {B : Nat} {w : World} {a : Option Addr} {c : Nat} {zs : List Int} (h : CapR B w a c zs) : zs.length ≤ c := by
  rcases h.2 with ⟨-, h2⟩ | ⟨g, cap, cur, hv, -, -, h3, -⟩
  · omega
  · cases hv; exact h3
theorem filt_own {B : Nat} {w : World} {v : Value} {x : Int} {ks : List Int} (h : w.ownsRow B 3 1 v (1 + ks.length) ([.int .i64 x] ++ ks.map (Value.int .i64))) : ∃ a c, ∃ _ : Hid (CapR B w a c (x :: ks)), v = .slice a (1 + ks.length) c := by
  have h2 : w.ownsRow B 3 1 v (x :: ks).length ((x :: ks).map (Value.int .i64)) := by rw [show (x :: ks).length = 1 + ks.length by simp; omega]; exact h
  obtain ⟨a, c, hv, -, -⟩ := owns_at h2
  rw [hv] at h2
  exact ⟨a, c, h2, by rw [hv]; simp; omega⟩
/-- These blocks, and those that were made between two worlds. -/
def Wid (N : Nat → Prop) (w w' : World) : Nat → Prop := fun k => N k ∨ (w.heap.size ≤ k ∧ k < w'.heap.size)
/-- How a firing whose lists fit ends. -/
def DoneF (N : Nat → Prop) (w : World) (t : Nat) (zs : List Int) (n : Nat) (r : Option (List (List Int) × List Int)) (e : Ending) (w' : World) : Prop :=
  match r with
  | some p => ∃ v x c A C, e = .returned (.tuple #[v, .slice x p.1.length c, .int .i64 0]) ∧ OutT w.heap.size w' A C x p.1 ∧ IsRN (Wid N w w') w' t zs p.2 n v ∧ Below w.heap.size w w'
  | none => ∃ p1 l1 k1 p2 l2 k2 p3 l3 k3 p4 l4 k4, e = .returned (.tuple #[RA t (.slice p1 l1 k1) (.slice p2 l2 k2) (.slice p3 l3 k3) (.slice p4 l4 k4) (n : Int), .slice none 0 0, .int .i64 70]) ∧ Below w.heap.size w w'
theorem IsRN.wider {N N' : Nat → Prop} {w : World} {t : Nat} {zs ks : List Int} {n : Nat} {v : Value} (h : IsRN N w t zs ks n v) (hN : ∀ k, N k → N' k) : IsRN N' w t zs ks n v := by
  obtain ⟨p, cp, i, ci, o, co, k, ck, hv, hp, hi, ho, hk, n1, n2, n3, n4, h4⟩ := h
  exact ⟨p, cp, i, ci, o, co, k, ck, hv, hp, hi, ho, hk, fun x hx => hN _ (n1 x hx), fun x hx => hN _ (n2 x hx), fun x hx => hN _ (n3 x hx), fun x hx => hN _ (n4 x hx), h4⟩
theorem At.blocks {w w' : World} {a : Option Addr} {zs : List Int} (h : At w a zs) (hb : ∀ x, a = some x → w'.heap[x.block]? = w.heap[x.block]?) : At w' a zs := h.block hb
theorem IsRN.keeps {N : Nat → Prop} {w w' : World} {t : Nat} {zs ks : List Int} {n : Nat} {v : Value} (h : IsRN N w t zs ks n v) (hN : ∀ k, N k → w'.heap[k]? = w.heap[k]?) : IsRN N w' t zs ks n v := by
  obtain ⟨p, cp, i, ci, o, co, k, ck, hv, hp, hi, ho, hk, n1, n2, n3, n4, h4⟩ := h
  exact ⟨p, cp, i, ci, o, co, k, ck, hv, hp.block fun x hx => hN _ (n1 x hx), hi.block fun x hx => hN _ (n2 x hx), ho.block fun x hx => hN _ (n3 x hx), hk.block fun x hx => hN _ (n4 x hx), n1, n2, n3, n4, h4⟩
/-- One row of one number, as it is built, with a store into a box behind it. -/
theorem one_out {w w9 : World} {y : Int} {K : Nat} (h : But K ((w.alloc (.cells #[.int .i64 y] 3)).alloc (.cells #[.slice (some ⟨w.heap.size, 0, none⟩) 1 1] 22)) w9) (hK : K < w.heap.size) : OutT w.heap.size w9 (fun _ => some ⟨w.heap.size, 0, none⟩) (fun _ => 1) (some ⟨w.heap.size + 1, 0, none⟩) [[y]] := by
  have h1 := table_one (w.alloc (.cells #[.int .i64 y] 3)) w.heap.size w.heap.size 1 [y] (by simp) (capR_one w y)
  rw [World.size_alloc] at h1
  exact h1.but h hK
set_option maxRecDepth 100000 in
set_option maxHeartbeats 2000000 in
theorem rfilter7_no (N : Nat → Prop) (w : World) (zs ks : List Int) (n : Nat) (v : Value) (x : Int) (h : IsRN N w 1 zs ks n v) (hx : -9223372036854775808 ≤ x ∧ x ≤ 9223372036854775807) (hl : ks.length + 1 = zs.length) (hz : zs.length ≤ 16) (hk : InR ks) (inr : InR zs) (hd : dotO 0 zs (x :: ks) = none) :
    Calls Try.prog 38 #[v, .int .i64 x] w (DoneF N w 1 zs n none) := by
  obtain ⟨p, cp, i, ci, o, co, k, ck, rfl, hp, hi, ho, hkk, -, -, -, -, h4⟩ := h
  obtain ⟨kb, ko, rfl⟩ := h4 rfl
  obtain ⟨i0, hj, hz0, hz1, hz2⟩ := info_parts Try.info3
  have HJ := hidden6 hj
  have HJ0 := hidden6 hz0
  have HJ1 := hidden6 hz1
  have HJ2 := hidden6 hz2
  have XR : Hid (InR (x :: ks)) := fun q => by
    cases q with
    | zero => exact hx
    | succ q => exact hk q
  have LD : Hid (∀ V a2 c2, At V p zs → At V a2 (x :: ks) → Calls Try.prog 42 #[.slice p zs.length cp, .slice a2 (1 + ks.length) c2] V fun e w' => e = .returned (.tuple #[.int .i64 0, .bool false]) ∧ Below V.heap.size V w') := fun V a2 c2 h1 h2 => by
    have := rlaid_any p a2 zs (x :: ks) zs.length cp c2 V rfl (by simp; omega) (by omega) inr XR.out h1 h2
    rw [hd] at this
    rw [show 1 + ks.length = zs.length by omega]
    exact this
  obtain ⟨li, hli⟩ : ∃ q, (insS 1 zs).length = q := ⟨_, rfl⟩
  obtain ⟨lo, hlo⟩ : ∃ q, (outsS 1 zs).length = q := ⟨_, rfl⟩
  have HLI := hidden6 hli
  have HLO := hidden6 hlo
  rw [hli, hlo]
  show Calls Try.prog 38 #[.agg #[.int .u8 1, .slice p zs.length cp, .slice i li ci, .slice o lo co, .slice (some ⟨kb, ko, none⟩) ks.length ck, .int .i64 (n : Int)], .int .i64 x] w _
  have hb0 := ((Below.refl w.heap.size w).alloc (Nat.le_refl _) (.cells #[.int .u8 1, .slice p zs.length cp, .slice i li ci, .slice o lo co, .slice (some ⟨kb, ko, none⟩) ks.length ck, .int .i64 (n : Int)] 31)).alloc (by simp) (.cells #[.int .u8 0, .slice none 0 0, .slice none 0 0, .slice none 0 0, .slice none 0 0, .int .i64 0] 31)
  have g2 := (blkA_new 31 w #[.int .u8 1, .slice p zs.length cp, .slice i li ci, .slice o lo co, .slice (some ⟨kb, ko, none⟩) ks.length ck, .int .i64 (n : Int)]).below ((Below.refl _ _).alloc (Nat.le_refl _) (.cells #[.int .u8 0, .slice none 0 0, .slice none 0 0, .slice none 0 0, .slice none 0 0, .int .i64 0] 31))
  have g4 : BlkA 31 (w.heap.size + 1) ((w.alloc (.cells #[.int .u8 1, .slice p zs.length cp, .slice i li ci, .slice o lo co, .slice (some ⟨kb, ko, none⟩) ks.length ck, .int .i64 (n : Int)] 31)).alloc (.cells #[.int .u8 0, .slice none 0 0, .slice none 0 0, .slice none 0 0, .slice none 0 0, .int .i64 0] 31)) #[.int .u8 0, .slice none 0 0, .slice none 0 0, .slice none 0 0, .slice none 0 0, .int .i64 0] := by
    have h3 := blkA_new 31 (w.alloc (.cells #[.int .u8 1, .slice p zs.length cp, .slice i li ci, .slice o lo co, .slice (some ⟨kb, ko, none⟩) ks.length ck, .int .i64 (n : Int)] 31)) #[.int .u8 0, .slice none 0 0, .slice none 0 0, .slice none 0 0, .slice none 0 0, .int .i64 0]
    rw [World.size_alloc] at h3
    exact h3
  have HP := hidden6 (hp.below hb0)
  have HI := hidden6 (hi.below hb0)
  have HO := hidden6 (ho.below hb0)
  have HK := hidden6 (hkk.below hb0)
  have HB0 := hidden6 hb0
  clear hp hi ho hkk h4 hd hj hz0 hz1 hz2 hli hlo
  go_enter Try.func38, Try.ntmps38
  go_upto_region 2 with fail
  generalize (w.alloc (.cells #[.int .u8 1, .slice p zs.length cp, .slice i li ci, .slice o lo co, .slice (some ⟨kb, ko, none⟩) ks.length ck, .int .i64 (n : Int)] 31)).alloc (.cells #[.int .u8 0, .slice none 0 0, .slice none 0 0, .slice none 0 0, .slice none 0 0, .int .i64 0] 31) = W0 at *
  have G2 := hidden6 g2
  have G4 := hidden6 g4
  have L2 : w.heap.size + 1 < W0.heap.size := g4.lt
  clear g2 g4 hb0
  have AP : ∀ (w1 : World), Below W0.heap.size W0 w1 → (w1.cell? ⟨w.heap.size, 1, none⟩ = some (.slice p zs.length cp) ∧ w1.cell? ⟨w.heap.size, 4, none⟩ = some (.slice (some ⟨kb, ko, none⟩) ks.length ck)) := fun w1 b => ⟨(G2.out.below b).cell (k := 1) rfl, (G2.out.below b).cell (k := 4) rfl⟩
  have HAP := hidden6 AP
  clear AP
  go_wp2_with (first
    | (go_at_call 42; (with_reducible refine (LD.out w2 a2 c2 (HP.out.below B2.out) S2.out.at).mono ?_); rintro e w3 ⟨rfl, b3⟩; have B3 := hidden6 (B2.out.trans (b3.mono B2.out.size)); clear b3; have y0 := (G2.out.below B3.out).cell (k := 0) rfl; have y1 := (G2.out.below B3.out).cell (k := 1) rfl; have y2 := (G2.out.below B3.out).cell (k := 2) rfl; have y3 := (G2.out.below B3.out).cell (k := 3) rfl; have y4 := (G2.out.below B3.out).cell (k := 4) rfl; have y5 := (G2.out.below B3.out).cell (k := 5) rfl; have z0 := (G4.out.below B3.out).cell (k := 0) rfl; have f0 := (G4.out.below B3.out).frozen 0; have z1 := (G4.out.below B3.out).cell (k := 1) rfl; have f1 := (G4.out.below B3.out).frozen 1; have z2 := (G4.out.below B3.out).cell (k := 2) rfl; have f2 := (G4.out.below B3.out).frozen 2; have z3 := (G4.out.below B3.out).cell (k := 3) rfl; have f3 := (G4.out.below B3.out).frozen 3; have z4 := (G4.out.below B3.out).cell (k := 4) rfl; have f4 := (G4.out.below B3.out).frozen 4; have z5 := (G4.out.below B3.out).cell (k := 5) rfl; have f5 := (G4.out.below B3.out).frozen 5; have e4 := (G2.out.below B3.out).frozen 4)
    | (at_builtin; refine wpList_append_own _ rfl (.tmp 14) (.tmp 16) 22 rfl W0.heap.size 3 i0 (.int .i64 0) 1 8 Try.underlying22 HJ.out HJ0.out HJ1.out HJ2.out rfl (by decide) _ 1 [.int .i64 x] rfl O1.out ⟨kb, ko, none⟩ ks.length ck (ks.map (Value.int .i64)) rfl (by simp) (lies_new (HK.out.below B1.out)) (ints_oneCell _ _) (by unfold maxLen; omega) (by omega) B1.out.size ?_; intro v2 w2 hown2 hgrow2 hno; clear hno; have B2 := hidden6 (B1.out.grown hgrow2 B1.out.size (own_block6 O1.out)); have h9 := (HAP.out w2 B2.out).1; obtain ⟨a2, c2, S2, rfl⟩ : ∃ a2 c2, ∃ S2 : Hid (CapR W0.heap.size w2 a2 c2 (x :: ks)), v2 = .slice a2 (1 + ks.length) c2 := filt_own hown2; clear hown2 hgrow2)
    | (at_builtin; (refine wpList_append_own _ rfl (.tmp 10) (.tmp 12) 22 rfl W0.heap.size 3 i0 (.int .i64 0) 1 8 Try.underlying22 HJ.out HJ0.out HJ1.out HJ2.out rfl (by decide) _ 0 [] rfl (World.ownsRow_nil _ _ _ _) ⟨W0.heap.size, 0, none⟩ 1 1 [.int .i64 x] rfl rfl (one_new6 _ _ _) (one_cell6 _) (by unfold maxLen; omega) (by omega) (by simp) ?_; intro v1 w1 hown1 hgrow1 hno; clear hno; have O1 : Hid (w1.ownsRow W0.heap.size 3 1 v1 1 [.int .i64 x]) := hown1; have B1 := hidden6 (((Below.refl W0.heap.size W0).alloc (Nat.le_refl _) _).grown hgrow1 (by simp) (fun q hq => by cases hq)); have h8 := (HAP.out w1 B1.out).2; clear hown1 hgrow1)))
  refine bodyPost_ret (v := .tuple #[.agg #[.int .u8 1, .slice p zs.length cp, .slice i li ci, .slice o lo co, .slice (some ⟨kb, ko, none⟩) ks.length ck, .int .i64 (n : Int)], .slice none 0 0, .int .i64 70]) (by simp [results, Try.results38, go_sem, z0, z1, z2, z3, z4, z5]) rfl ?_
  have q := HB0.out.trans (B3.out.mono HB0.out.size)
  exact ⟨_, _, _, _, _, _, _, _, _, _, _, _, rfl, q.trans ((six_but w3 (w.heap.size + 1) _ _ _ _ _ _).below (Nat.le_succ _) q.size)⟩
set_option maxRecDepth 100000 in
set_option maxHeartbeats 2000000 in
theorem rfilter7_yes (N : Nat → Prop) (w : World) (zs ks : List Int) (n : Nat) (v : Value) (x y : Int) (h : IsRN N w 1 zs ks n v) (hx : -9223372036854775808 ≤ x ∧ x ≤ 9223372036854775807) (hl : ks.length + 1 = zs.length) (hz : zs.length ≤ 16) (hk : InR ks) (inr : InR zs) (hd : dotO 0 zs (x :: ks) = some y) :
    Calls Try.prog 38 #[v, .int .i64 x] w (DoneF N w 1 zs n (some ([[y]], (x :: ks).take ks.length))) := by
  obtain ⟨p, cp, i, ci, o, co, k, ck, rfl, hp, hi, ho, hkk, np, ni, no, -, h4⟩ := h
  have NP := hidden6 np
  have NI := hidden6 ni
  have NO := hidden6 no
  obtain ⟨kb, ko, rfl⟩ := h4 rfl
  obtain ⟨i0, hj, hz0, hz1, hz2⟩ := info_parts Try.info3
  have HJ := hidden6 hj
  have HJ0 := hidden6 hz0
  have HJ1 := hidden6 hz1
  have HJ2 := hidden6 hz2
  have XR : Hid (InR (x :: ks)) := fun q => by
    cases q with
    | zero => exact hx
    | succ q => exact hk q
  have LD : Hid (∀ V a2 c2, At V p zs → At V a2 (x :: ks) → Calls Try.prog 42 #[.slice p zs.length cp, .slice a2 (1 + ks.length) c2] V fun e w' => e = .returned (.tuple #[.int .i64 y, .bool true]) ∧ Below V.heap.size V w') := fun V a2 c2 h1 h2 => by
    have := rlaid_any p a2 zs (x :: ks) zs.length cp c2 V rfl (by simp; omega) (by omega) inr XR.out h1 h2
    rw [hd] at this
    rw [show 1 + ks.length = zs.length by omega]
    exact this
  obtain ⟨li, hli⟩ : ∃ q, (insS 1 zs).length = q := ⟨_, rfl⟩
  obtain ⟨lo, hlo⟩ : ∃ q, (outsS 1 zs).length = q := ⟨_, rfl⟩
  have HLI := hidden6 hli
  have HLO := hidden6 hlo
  rw [hli, hlo]
  show Calls Try.prog 38 #[.agg #[.int .u8 1, .slice p zs.length cp, .slice i li ci, .slice o lo co, .slice (some ⟨kb, ko, none⟩) ks.length ck, .int .i64 (n : Int)], .int .i64 x] w _
  have hb0 := ((Below.refl w.heap.size w).alloc (Nat.le_refl _) (.cells #[.int .u8 1, .slice p zs.length cp, .slice i li ci, .slice o lo co, .slice (some ⟨kb, ko, none⟩) ks.length ck, .int .i64 (n : Int)] 31)).alloc (by simp) (.cells #[.int .u8 0, .slice none 0 0, .slice none 0 0, .slice none 0 0, .slice none 0 0, .int .i64 0] 31)
  have g2 := (blkA_new 31 w #[.int .u8 1, .slice p zs.length cp, .slice i li ci, .slice o lo co, .slice (some ⟨kb, ko, none⟩) ks.length ck, .int .i64 (n : Int)]).below ((Below.refl _ _).alloc (Nat.le_refl _) (.cells #[.int .u8 0, .slice none 0 0, .slice none 0 0, .slice none 0 0, .slice none 0 0, .int .i64 0] 31))
  have g4 : BlkA 31 (w.heap.size + 1) ((w.alloc (.cells #[.int .u8 1, .slice p zs.length cp, .slice i li ci, .slice o lo co, .slice (some ⟨kb, ko, none⟩) ks.length ck, .int .i64 (n : Int)] 31)).alloc (.cells #[.int .u8 0, .slice none 0 0, .slice none 0 0, .slice none 0 0, .slice none 0 0, .int .i64 0] 31)) #[.int .u8 0, .slice none 0 0, .slice none 0 0, .slice none 0 0, .slice none 0 0, .int .i64 0] := by
    have h3 := blkA_new 31 (w.alloc (.cells #[.int .u8 1, .slice p zs.length cp, .slice i li ci, .slice o lo co, .slice (some ⟨kb, ko, none⟩) ks.length ck, .int .i64 (n : Int)] 31)) #[.int .u8 0, .slice none 0 0, .slice none 0 0, .slice none 0 0, .slice none 0 0, .int .i64 0]
    rw [World.size_alloc] at h3
    exact h3
  have HP00 := hidden6 hp
  have HI00 := hidden6 hi
  have HO00 := hidden6 ho
  have HP := hidden6 (hp.below hb0)
  have HI := hidden6 (hi.below hb0)
  have HO := hidden6 (ho.below hb0)
  have HK := hidden6 (hkk.below hb0)
  have HB0 := hidden6 hb0
  clear hp hi ho hkk h4 hd hj hz0 hz1 hz2 hli hlo
  go_enter Try.func38, Try.ntmps38
  go_upto_region 2 with fail
  generalize (w.alloc (.cells #[.int .u8 1, .slice p zs.length cp, .slice i li ci, .slice o lo co, .slice (some ⟨kb, ko, none⟩) ks.length ck, .int .i64 (n : Int)] 31)).alloc (.cells #[.int .u8 0, .slice none 0 0, .slice none 0 0, .slice none 0 0, .slice none 0 0, .int .i64 0] 31) = W0 at *
  have G2 := hidden6 g2
  have G4 := hidden6 g4
  have L2 : w.heap.size + 1 < W0.heap.size := g4.lt
  clear g2 g4 hb0
  have AP : ∀ (w1 : World), Below W0.heap.size W0 w1 → (w1.cell? ⟨w.heap.size, 1, none⟩ = some (.slice p zs.length cp) ∧ w1.cell? ⟨w.heap.size, 4, none⟩ = some (.slice (some ⟨kb, ko, none⟩) ks.length ck)) := fun w1 b => ⟨(G2.out.below b).cell (k := 1) rfl, (G2.out.below b).cell (k := 4) rfl⟩
  have HAP := hidden6 AP
  clear AP
  go_upto_region 8 with (first
    | (go_at_call 42; (with_reducible refine (LD.out w2 a2 c2 (HP.out.below B2.out) S2.out.at).mono ?_); rintro e w3 ⟨rfl, b3⟩; have B3 := hidden6 (B2.out.trans (b3.mono B2.out.size)); have S3 := hidden6 (S2.out.later b3); clear b3; have y0 := (G2.out.below B3.out).cell (k := 0) rfl; have y1 := (G2.out.below B3.out).cell (k := 1) rfl; have y2 := (G2.out.below B3.out).cell (k := 2) rfl; have y3 := (G2.out.below B3.out).cell (k := 3) rfl; have y4 := (G2.out.below B3.out).cell (k := 4) rfl; have y5 := (G2.out.below B3.out).cell (k := 5) rfl; have z0 := (G4.out.below B3.out).cell (k := 0) rfl; have f0 := (G4.out.below B3.out).frozen 0; have z1 := (G4.out.below B3.out).cell (k := 1) rfl; have f1 := (G4.out.below B3.out).frozen 1; have z2 := (G4.out.below B3.out).cell (k := 2) rfl; have f2 := (G4.out.below B3.out).frozen 2; have z3 := (G4.out.below B3.out).cell (k := 3) rfl; have f3 := (G4.out.below B3.out).frozen 3; have z4 := (G4.out.below B3.out).cell (k := 4) rfl; have f4 := (G4.out.below B3.out).frozen 4; have z5 := (G4.out.below B3.out).cell (k := 5) rfl; have f5 := (G4.out.below B3.out).frozen 5; have e4 := (G2.out.below B3.out).frozen 4; have L3 : w.heap.size + 1 < w3.heap.size := (by have := B3.out.size; omega); have L4 : w.heap.size < w3.heap.size := (by omega); have kI : (ks.length : Int) ≤ 16 := (by omega); have cI : (ks.length : Int) ≤ (c2 : Int) := (by have := cap_le S2.out; simp at this; omega))
    | (at_builtin; refine wpList_append_own _ rfl (.tmp 14) (.tmp 16) 22 rfl W0.heap.size 3 i0 (.int .i64 0) 1 8 Try.underlying22 HJ.out HJ0.out HJ1.out HJ2.out rfl (by decide) _ 1 [.int .i64 x] rfl O1.out ⟨kb, ko, none⟩ ks.length ck (ks.map (Value.int .i64)) rfl (by simp) (lies_new (HK.out.below B1.out)) (ints_oneCell _ _) (by unfold maxLen; omega) (by omega) B1.out.size ?_; intro v2 w2 hown2 hgrow2 hno; clear hno; have B2 := hidden6 (B1.out.grown hgrow2 B1.out.size (own_block6 O1.out)); have h9 := (HAP.out w2 B2.out).1; obtain ⟨a2, c2, S2, rfl⟩ : ∃ a2 c2, ∃ S2 : Hid (CapR W0.heap.size w2 a2 c2 (x :: ks)), v2 = .slice a2 (1 + ks.length) c2 := filt_own hown2; clear hown2 hgrow2)
    | (at_builtin; (refine wpList_append_own _ rfl (.tmp 10) (.tmp 12) 22 rfl W0.heap.size 3 i0 (.int .i64 0) 1 8 Try.underlying22 HJ.out HJ0.out HJ1.out HJ2.out rfl (by decide) _ 0 [] rfl (World.ownsRow_nil _ _ _ _) ⟨W0.heap.size, 0, none⟩ 1 1 [.int .i64 x] rfl rfl (one_new6 _ _ _) (one_cell6 _) (by unfold maxLen; omega) (by omega) (by simp) ?_; intro v1 w1 hown1 hgrow1 hno; clear hno; have O1 : Hid (w1.ownsRow W0.heap.size 3 1 v1 1 [.int .i64 x]) := hown1; have B1 := hidden6 (((Below.refl W0.heap.size W0).alloc (Nat.le_refl _) _).grown hgrow1 (by simp) (fun q hq => by cases hq)); have h8 := (HAP.out w1 B1.out).2; clear hown1 hgrow1)))
  have N2 : BlkA 31 w.heap.size (w3.setCell ⟨w.heap.size, 4, none⟩ (.slice a2 ks.length c2)) #[.int .u8 1, .slice p zs.length cp, .slice i li ci, .slice o lo co, .slice a2 ks.length c2, .int .i64 (n : Int)] := (G2.out.below B3.out).set 4 (.slice a2 ks.length c2)
  have N4 : Hid (BlkA 31 (w.heap.size + 1) (w3.setCell ⟨w.heap.size, 4, none⟩ (.slice a2 ks.length c2)) #[.int .u8 0, .slice none 0 0, .slice none 0 0, .slice none 0 0, .slice none 0 0, .int .i64 0]) := (G4.out.below B3.out).keep (Below.heap_setCell _ _ _ _ (by show w.heap.size + 1 ≠ w.heap.size; omega))
  have BW : Hid (But w.heap.size w3 (w3.setCell ⟨w.heap.size, 4, none⟩ (.slice a2 ks.length c2))) := But.set _ _ _ _
  have LW : w3.heap.size = (w3.setCell ⟨w.heap.size, 4, none⟩ (.slice a2 ks.length c2)).heap.size := (World.size_setCell _ _ _).symm
  clear y0 y1 y2 y3 y4 y5 z0 z1 z2 z3 z4 z5 f0 f1 f2 f3 f4 f5 e4
  generalize w3.setCell ⟨w.heap.size, 4, none⟩ (.slice a2 ks.length c2) = w4 at *
  have L5 : w.heap.size + 1 < w4.heap.size := by omega
  have L6 : w.heap.size < w4.heap.size := by omega
  have y0 := N2.cell (k := 0) rfl
  have y1 := N2.cell (k := 1) rfl
  have y2 := N2.cell (k := 2) rfl
  have y3 := N2.cell (k := 3) rfl
  have y4 := N2.cell (k := 4) rfl
  have y5 := N2.cell (k := 5) rfl
  clear N2
  go_wp2_with (refine wpList_store6 _ rfl 31 (.tmp 4) (.tmp 34) rfl rfl size_actor (w.heap.size + 1) 31 _ _ _ _ _ _ _ _ _ _ _ _ _ _ _ _ _ _ _ _ rfl rfl ((N4.out.below ((Below.refl _ _).alloc (Nat.le_refl _) _)).below ((Below.refl _ _).alloc (Nat.le_refl _) _)) ?_; intro w9 hN9 hU9; have N9 := hidden6 hN9; have U9 := hidden6 hU9; clear hN9 hU9)
  have z0 : w9.cell? ⟨w.heap.size + 1, 0, none⟩ = some (.int .u8 1) := N9.out.cell rfl
  have z1 : w9.cell? ⟨w.heap.size + 1, 1, none⟩ = some (.slice p zs.length cp) := N9.out.cell rfl
  have z2 : w9.cell? ⟨w.heap.size + 1, 2, none⟩ = some (.slice i li ci) := N9.out.cell rfl
  have z3 : w9.cell? ⟨w.heap.size + 1, 3, none⟩ = some (.slice o lo co) := N9.out.cell rfl
  have z4 : w9.cell? ⟨w.heap.size + 1, 4, none⟩ = some (.slice a2 ks.length c2) := N9.out.cell rfl
  have z5 : w9.cell? ⟨w.heap.size + 1, 5, none⟩ = some (.int .i64 (n : Int)) := N9.out.cell rfl
  refine bodyPost_ret (v := .tuple #[.agg #[.int .u8 1, .slice p zs.length cp, .slice i li ci, .slice o lo co, .slice a2 ks.length c2, .int .i64 (n : Int)], .slice (some ⟨w4.heap.size + 1, 0, none⟩) 1 1, .int .i64 0]) (by simp [results, Try.results38, go_sem, z0, z1, z2, z3, z4, z5]) rfl ?_
  have q3 := HB0.out.trans (B3.out.mono HB0.out.size)
  have q4 := q3.trans (BW.out.below (Nat.le_refl _) q3.size)
  have q5 := (q4.alloc q4.size (.cells #[.int .i64 y] 3)).alloc (q4.alloc q4.size (.cells #[.int .i64 y] 3)).size (.cells #[.slice (some ⟨w4.heap.size, 0, none⟩) 1 1] 22)
  have q9 := q5.trans (U9.out.below (Nat.le_succ _) q5.size)
  have hW0 : w.heap.size + 2 ≤ W0.heap.size := by omega
  have s4 := S3.out.but BW.out (by omega)
  have s5 := (s4.later ((Below.refl _ _).alloc (Nat.le_refl _) (.cells #[.int .i64 y] 3))).later ((Below.refl _ _).alloc (Nat.le_refl _) (.cells #[.slice (some ⟨w4.heap.size, 0, none⟩) 1 1] 22))
  have s9 := s5.but U9.out (by omega)
  have ko := (one_out U9.out (by omega)).mono (show w.heap.size ≤ w4.heap.size by omega)
  have hat : At w9 a2 ((x :: ks).take ks.length) := At.prefix (ts := (x :: ks).drop ks.length) (by rw [List.take_append_drop]; exact s9.at)
  have htl : ((x :: ks).take ks.length).length = ks.length := by simp
  refine ⟨_, _, _, _, _, rfl, ko, ⟨p, cp, i, ci, o, co, a2, c2, by rw [htl, HLI.out, HLO.out]; rfl, HP00.out.below q9, HI00.out.below q9, HO00.out.below q9, hat, fun x hx => .inl (NP.out x hx), fun x hx => .inl (NI.out x hx), fun x hx => .inl (NO.out x hx), fun x hx => .inr ⟨by have := (s9.lt x hx).1; omega, (s9.lt x hx).2⟩, fun _ => ?_⟩, q9⟩
  obtain ⟨g, hg, -⟩ := s9.there (by simp)
  exact ⟨g, 0, hg⟩
theorem takes_facts {t : Nat} {zs : List Int} {I : List (List Int)} (h : takesS t zs I = true) : I.length = (insS t zs).length ∧ ∀ k, k < I.length → ((nthL I k).length : Int) = nth (insS t zs) k := by
  unfold takesS at h
  rw [decide_eq_true_iff] at h
  exact ⟨by rw [← h]; simp, fun k hk => by rw [← h, map_nth hk]⟩
theorem drew_world (w : World) (q : Nat) : Below w.heap.size w (w.drewN q) := ⟨rfl, rfl, rfl, Nat.le_refl _, fun _ _ => rfl⟩
theorem tdiv_range {x y : Int} (hx : -9223372036854775808 ≤ x ∧ x ≤ 9223372036854775807) (hy : -9223372036854775808 ≤ y ∧ y ≤ 9223372036854775807) (h0 : y ≠ 0) (h : ¬ (x = -9223372036854775808 ∧ y = -1)) : -9223372036854775808 ≤ x.tdiv y ∧ x.tdiv y ≤ 9223372036854775807 := by
  by_cases h1 : y = -1
  · subst h1
    have e : x.tdiv (-1) = 0 - x := by rw [Int.tdiv_neg, Int.tdiv_one]; omega
    rw [e]
    omega
  have h2 : -9223372036854775808 ≤ x.tdiv y ∧ x.tdiv y ≤ 9223372036854775807 := by
    by_cases e : y = 1
    · subst e; rw [Int.tdiv_one]; exact hx
    · have h3 : (x.tdiv y).natAbs = x.natAbs / y.natAbs := Int.natAbs_tdiv x y
      have h4 : x.natAbs / y.natAbs ≤ x.natAbs / 2 := Nat.div_le_div_left (by omega) (by decide)
      rw [← h3] at h4
      clear h3
      generalize x.tdiv y = d at h4 ⊢
      omega
  exact h2
set_option maxRecDepth 100000 in
set_option maxHeartbeats 4000000 in
theorem rquot_zero (N : Nat → Prop) (w : World) (zs ks : List Int) (n : Nat) (v : Value) (a : Option Addr) (len cap : Nat) (I : List (List Int)) (h : IsRN N w 7 zs ks n v) (hA : ArgL w a len I) (hT : takesS 7 zs I = true) (hz : nth (nthL I 1) 0 = 0) :
    Calls Try.prog 41 #[v, .slice a len cap] w (DoneF N w 7 zs n none) := by
  obtain ⟨p, cp, i, ci, o, co, k, ck, rfl, hp, hi, ho, hkk, np, ni, no, nk, h4⟩ := h
  obtain ⟨li, hli⟩ : ∃ q, (insS 7 zs).length = q := ⟨_, rfl⟩
  obtain ⟨lo, hlo⟩ : ∃ q, (outsS 7 zs).length = q := ⟨_, rfl⟩
  have HLI := hidden6 hli
  have HLO := hidden6 hlo
  have NP := hidden6 np
  have NI := hidden6 ni
  have NO := hidden6 no
  have NK := hidden6 nk
  have H4 := hidden6 h4
  have HP00 := hidden6 hp
  have HI00 := hidden6 hi
  have HO00 := hidden6 ho
  have HK00 := hidden6 hkk
  rw [hli, hlo]
  show Calls Try.prog 41 #[.agg #[.int .u8 7, .slice p zs.length cp, .slice i li ci, .slice o lo co, .slice k ks.length ck, .int .i64 (n : Int)], .slice a len cap] w _
  have hb0 := ((Below.refl w.heap.size w).alloc (Nat.le_refl _) (.cells #[.int .u8 7, .slice p zs.length cp, .slice i li ci, .slice o lo co, .slice k ks.length ck, .int .i64 (n : Int)] 31)).alloc (by simp) (.cells #[.int .u8 0, .slice none 0 0, .slice none 0 0, .slice none 0 0, .slice none 0 0, .int .i64 0] 31)
  have g2 := (blkA_new 31 w #[.int .u8 7, .slice p zs.length cp, .slice i li ci, .slice o lo co, .slice k ks.length ck, .int .i64 (n : Int)]).below ((Below.refl _ _).alloc (Nat.le_refl _) (.cells #[.int .u8 0, .slice none 0 0, .slice none 0 0, .slice none 0 0, .slice none 0 0, .int .i64 0] 31))
  have g4 : BlkA 31 (w.heap.size + 1) ((w.alloc (.cells #[.int .u8 7, .slice p zs.length cp, .slice i li ci, .slice o lo co, .slice k ks.length ck, .int .i64 (n : Int)] 31)).alloc (.cells #[.int .u8 0, .slice none 0 0, .slice none 0 0, .slice none 0 0, .slice none 0 0, .int .i64 0] 31)) #[.int .u8 0, .slice none 0 0, .slice none 0 0, .slice none 0 0, .slice none 0 0, .int .i64 0] := by
    have h3 := blkA_new 31 (w.alloc (.cells #[.int .u8 7, .slice p zs.length cp, .slice i li ci, .slice o lo co, .slice k ks.length ck, .int .i64 (n : Int)] 31)) #[.int .u8 0, .slice none 0 0, .slice none 0 0, .slice none 0 0, .slice none 0 0, .int .i64 0]
    rw [World.size_alloc] at h3
    exact h3
  have hA0 := hA.below hb0
  have hp0 := hp.below hb0
  have hk0 := hkk.below hb0
  have HB0 := hidden6 hb0
  obtain ⟨hlen, hrow⟩ := takes_facts hT
  have hl2 : I.length = 2 := hlen
  have hr0 : (nthL I 0).length = 1 := by have := hrow 0 (by omega); have e : nth (insS 7 zs) 0 = 1 := rfl; omega
  have hr1 : (nthL I 1).length = 1 := by have := hrow 1 (by omega); have e : nth (insS 7 zs) 1 = 1 := rfl; omega
  obtain ⟨ab, ao, xb, xo, xc, rfl, a1, a2⟩ := tok_cell (i := 0) (j := 0) hA0.lies (by omega) (by omega)
  obtain ⟨bb, bo, yb, yo, yc, he, a3, a4⟩ := tok_cell (i := 1) (j := 0) hA0.lies (by omega) (by omega)
  cases he
  rw [hr0] at a1
  rw [hr1] at a3
  have il : len = 2 := by rw [← hA0.size]; exact hl2
  subst il
  have rx := hA0.fits 0 0
  have ry := hA0.fits 1 0
  simp only [Nat.add_zero] at a1 a2 a4
  generalize nth (nthL I 0) 0 = x at *
  generalize nth (nthL I 1) 0 = y at *
  clear hT hlen hrow hl2 hr0 hr1 hA0 hp0 hk0
  clear hA np ni no nk h4 hli hlo hp hi ho hkk
  go_enter Try.func41, Try.ntmps41
  go_upto_region 1 with fail
  generalize (w.alloc (.cells #[.int .u8 7, .slice p zs.length cp, .slice i li ci, .slice o lo co, .slice k ks.length ck, .int .i64 (n : Int)] 31)).alloc (.cells #[.int .u8 0, .slice none 0 0, .slice none 0 0, .slice none 0 0, .slice none 0 0, .int .i64 0] 31) = W0 at *
  have G2 := hidden6 g2
  have G4 := hidden6 g4
  have L2 : w.heap.size + 1 < W0.heap.size := g4.lt
  have L1 : w.heap.size < W0.heap.size := by omega
  have e0 : W0.cell? ⟨w.heap.size, 0, none⟩ = some (.int .u8 7) := g2.cell rfl
  clear hb0
  subst hz
  clear g2 g4
  go_upto_region 23 with fail
  have N2 : BlkA 31 w.heap.size (W0) #[.int .u8 7, .slice p zs.length cp, .slice i li ci, .slice o lo co, .slice k ks.length ck, .int .i64 (n : Int)] := G2.out
  have N4 : Hid (BlkA 31 (w.heap.size + 1) (W0) #[.int .u8 0, .slice none 0 0, .slice none 0 0, .slice none 0 0, .slice none 0 0, .int .i64 0]) := G4.out
  have Q4 : Hid (Below w.heap.size w (W0)) := HB0.out
  generalize W0 = w4 at *
  have L5 : w.heap.size + 1 < w4.heap.size := N4.out.lt
  have L6 : w.heap.size < w4.heap.size := by omega
  have y0 : w4.cell? ⟨w.heap.size, 0, none⟩ = some (.int .u8 7) := N2.cell rfl
  have y1 : w4.cell? ⟨w.heap.size, 1, none⟩ = some (.slice p zs.length cp) := N2.cell rfl
  have y2 : w4.cell? ⟨w.heap.size, 2, none⟩ = some (.slice i li ci) := N2.cell rfl
  have y3 : w4.cell? ⟨w.heap.size, 3, none⟩ = some (.slice o lo co) := N2.cell rfl
  have y4 : w4.cell? ⟨w.heap.size, 4, none⟩ = some (.slice k ks.length ck) := N2.cell rfl
  have y5 : w4.cell? ⟨w.heap.size, 5, none⟩ = some (.int .i64 (n : Int)) := N2.cell rfl
  clear N2
  go_wp2_with (refine wpList_store6 _ rfl 31 (.tmp 4) (.tmp 110) rfl rfl size_actor (w.heap.size + 1) 31 _ _ _ _ _ _ _ _ _ _ _ _ _ _ _ _ _ _ _ _ rfl rfl (N4.out) ?_; intro w9 hN9 hU9; have N9 := hidden6 hN9; have U9 := hidden6 hU9; clear hN9 hU9)
  have z0 : w9.cell? ⟨w.heap.size + 1, 0, none⟩ = some (.int .u8 7) := N9.out.cell rfl
  have z1 : w9.cell? ⟨w.heap.size + 1, 1, none⟩ = some (.slice p zs.length cp) := N9.out.cell rfl
  have z2 : w9.cell? ⟨w.heap.size + 1, 2, none⟩ = some (.slice i li ci) := N9.out.cell rfl
  have z3 : w9.cell? ⟨w.heap.size + 1, 3, none⟩ = some (.slice o lo co) := N9.out.cell rfl
  have z4 : w9.cell? ⟨w.heap.size + 1, 4, none⟩ = some (.slice k ks.length ck) := N9.out.cell rfl
  have z5 : w9.cell? ⟨w.heap.size + 1, 5, none⟩ = some (.int .i64 (n : Int)) := N9.out.cell rfl
  refine bodyPost_ret (v := .tuple #[.agg #[.int .u8 7, .slice p zs.length cp, .slice i li ci, .slice o lo co, .slice k ks.length ck, .int .i64 (n : Int)], .slice none 0 0, .int .i64 70]) (by simp [results, Try.results41, go_sem, z0, z1, z2, z3, z4, z5]) rfl ?_
  exact ⟨_, _, _, _, _, _, _, _, _, _, _, _, rfl, Q4.out.trans (U9.out.below (Nat.le_succ _) Q4.out.size)⟩
set_option maxRecDepth 100000 in
set_option maxHeartbeats 4000000 in
theorem rquot_least (N : Nat → Prop) (w : World) (zs ks : List Int) (n : Nat) (v : Value) (a : Option Addr) (len cap : Nat) (I : List (List Int)) (h : IsRN N w 7 zs ks n v) (hA : ArgL w a len I) (hT : takesS 7 zs I = true) (hz : nth (nthL I 1) 0 ≠ 0) (hl : nth (nthL I 0) 0 = -9223372036854775808 ∧ nth (nthL I 1) 0 = -1) :
    Calls Try.prog 41 #[v, .slice a len cap] w (DoneF N w 7 zs n none) := by
  obtain ⟨p, cp, i, ci, o, co, k, ck, rfl, hp, hi, ho, hkk, np, ni, no, nk, h4⟩ := h
  obtain ⟨li, hli⟩ : ∃ q, (insS 7 zs).length = q := ⟨_, rfl⟩
  obtain ⟨lo, hlo⟩ : ∃ q, (outsS 7 zs).length = q := ⟨_, rfl⟩
  have HLI := hidden6 hli
  have HLO := hidden6 hlo
  have NP := hidden6 np
  have NI := hidden6 ni
  have NO := hidden6 no
  have NK := hidden6 nk
  have H4 := hidden6 h4
  have HP00 := hidden6 hp
  have HI00 := hidden6 hi
  have HO00 := hidden6 ho
  have HK00 := hidden6 hkk
  rw [hli, hlo]
  show Calls Try.prog 41 #[.agg #[.int .u8 7, .slice p zs.length cp, .slice i li ci, .slice o lo co, .slice k ks.length ck, .int .i64 (n : Int)], .slice a len cap] w _
  have hb0 := ((Below.refl w.heap.size w).alloc (Nat.le_refl _) (.cells #[.int .u8 7, .slice p zs.length cp, .slice i li ci, .slice o lo co, .slice k ks.length ck, .int .i64 (n : Int)] 31)).alloc (by simp) (.cells #[.int .u8 0, .slice none 0 0, .slice none 0 0, .slice none 0 0, .slice none 0 0, .int .i64 0] 31)
  have g2 := (blkA_new 31 w #[.int .u8 7, .slice p zs.length cp, .slice i li ci, .slice o lo co, .slice k ks.length ck, .int .i64 (n : Int)]).below ((Below.refl _ _).alloc (Nat.le_refl _) (.cells #[.int .u8 0, .slice none 0 0, .slice none 0 0, .slice none 0 0, .slice none 0 0, .int .i64 0] 31))
  have g4 : BlkA 31 (w.heap.size + 1) ((w.alloc (.cells #[.int .u8 7, .slice p zs.length cp, .slice i li ci, .slice o lo co, .slice k ks.length ck, .int .i64 (n : Int)] 31)).alloc (.cells #[.int .u8 0, .slice none 0 0, .slice none 0 0, .slice none 0 0, .slice none 0 0, .int .i64 0] 31)) #[.int .u8 0, .slice none 0 0, .slice none 0 0, .slice none 0 0, .slice none 0 0, .int .i64 0] := by
    have h3 := blkA_new 31 (w.alloc (.cells #[.int .u8 7, .slice p zs.length cp, .slice i li ci, .slice o lo co, .slice k ks.length ck, .int .i64 (n : Int)] 31)) #[.int .u8 0, .slice none 0 0, .slice none 0 0, .slice none 0 0, .slice none 0 0, .int .i64 0]
    rw [World.size_alloc] at h3
    exact h3
  have hA0 := hA.below hb0
  have hp0 := hp.below hb0
  have hk0 := hkk.below hb0
  have HB0 := hidden6 hb0
  obtain ⟨hlen, hrow⟩ := takes_facts hT
  have hl2 : I.length = 2 := hlen
  have hr0 : (nthL I 0).length = 1 := by have := hrow 0 (by omega); have e : nth (insS 7 zs) 0 = 1 := rfl; omega
  have hr1 : (nthL I 1).length = 1 := by have := hrow 1 (by omega); have e : nth (insS 7 zs) 1 = 1 := rfl; omega
  obtain ⟨ab, ao, xb, xo, xc, rfl, a1, a2⟩ := tok_cell (i := 0) (j := 0) hA0.lies (by omega) (by omega)
  obtain ⟨bb, bo, yb, yo, yc, he, a3, a4⟩ := tok_cell (i := 1) (j := 0) hA0.lies (by omega) (by omega)
  cases he
  rw [hr0] at a1
  rw [hr1] at a3
  have il : len = 2 := by rw [← hA0.size]; exact hl2
  subst il
  have rx := hA0.fits 0 0
  have ry := hA0.fits 1 0
  simp only [Nat.add_zero] at a1 a2 a4
  generalize nth (nthL I 0) 0 = x at *
  generalize nth (nthL I 1) 0 = y at *
  clear hT hlen hrow hl2 hr0 hr1 hA0 hp0 hk0
  clear hA np ni no nk h4 hli hlo hp hi ho hkk
  go_enter Try.func41, Try.ntmps41
  go_upto_region 1 with fail
  generalize (w.alloc (.cells #[.int .u8 7, .slice p zs.length cp, .slice i li ci, .slice o lo co, .slice k ks.length ck, .int .i64 (n : Int)] 31)).alloc (.cells #[.int .u8 0, .slice none 0 0, .slice none 0 0, .slice none 0 0, .slice none 0 0, .int .i64 0] 31) = W0 at *
  have G2 := hidden6 g2
  have G4 := hidden6 g4
  have L2 : w.heap.size + 1 < W0.heap.size := g4.lt
  have L1 : w.heap.size < W0.heap.size := by omega
  have e0 : W0.cell? ⟨w.heap.size, 0, none⟩ = some (.int .u8 7) := g2.cell rfl
  clear hb0
  obtain ⟨rfl, rfl⟩ := hl
  clear g2 g4
  go_upto_region 23 with fail
  have N2 : BlkA 31 w.heap.size (W0) #[.int .u8 7, .slice p zs.length cp, .slice i li ci, .slice o lo co, .slice k ks.length ck, .int .i64 (n : Int)] := G2.out
  have N4 : Hid (BlkA 31 (w.heap.size + 1) (W0) #[.int .u8 0, .slice none 0 0, .slice none 0 0, .slice none 0 0, .slice none 0 0, .int .i64 0]) := G4.out
  have Q4 : Hid (Below w.heap.size w (W0)) := HB0.out
  generalize W0 = w4 at *
  have L5 : w.heap.size + 1 < w4.heap.size := N4.out.lt
  have L6 : w.heap.size < w4.heap.size := by omega
  have y0 : w4.cell? ⟨w.heap.size, 0, none⟩ = some (.int .u8 7) := N2.cell rfl
  have y1 : w4.cell? ⟨w.heap.size, 1, none⟩ = some (.slice p zs.length cp) := N2.cell rfl
  have y2 : w4.cell? ⟨w.heap.size, 2, none⟩ = some (.slice i li ci) := N2.cell rfl
  have y3 : w4.cell? ⟨w.heap.size, 3, none⟩ = some (.slice o lo co) := N2.cell rfl
  have y4 : w4.cell? ⟨w.heap.size, 4, none⟩ = some (.slice k ks.length ck) := N2.cell rfl
  have y5 : w4.cell? ⟨w.heap.size, 5, none⟩ = some (.int .i64 (n : Int)) := N2.cell rfl
  clear N2
  go_wp2_with (refine wpList_store6 _ rfl 31 (.tmp 4) (.tmp 110) rfl rfl size_actor (w.heap.size + 1) 31 _ _ _ _ _ _ _ _ _ _ _ _ _ _ _ _ _ _ _ _ rfl rfl (N4.out) ?_; intro w9 hN9 hU9; have N9 := hidden6 hN9; have U9 := hidden6 hU9; clear hN9 hU9)
  have z0 : w9.cell? ⟨w.heap.size + 1, 0, none⟩ = some (.int .u8 7) := N9.out.cell rfl
  have z1 : w9.cell? ⟨w.heap.size + 1, 1, none⟩ = some (.slice p zs.length cp) := N9.out.cell rfl
  have z2 : w9.cell? ⟨w.heap.size + 1, 2, none⟩ = some (.slice i li ci) := N9.out.cell rfl
  have z3 : w9.cell? ⟨w.heap.size + 1, 3, none⟩ = some (.slice o lo co) := N9.out.cell rfl
  have z4 : w9.cell? ⟨w.heap.size + 1, 4, none⟩ = some (.slice k ks.length ck) := N9.out.cell rfl
  have z5 : w9.cell? ⟨w.heap.size + 1, 5, none⟩ = some (.int .i64 (n : Int)) := N9.out.cell rfl
  refine bodyPost_ret (v := .tuple #[.agg #[.int .u8 7, .slice p zs.length cp, .slice i li ci, .slice o lo co, .slice k ks.length ck, .int .i64 (n : Int)], .slice none 0 0, .int .i64 70]) (by simp [results, Try.results41, go_sem, z0, z1, z2, z3, z4, z5]) rfl ?_
  exact ⟨_, _, _, _, _, _, _, _, _, _, _, _, rfl, Q4.out.trans (U9.out.below (Nat.le_succ _) Q4.out.size)⟩
set_option maxRecDepth 100000 in
set_option maxHeartbeats 4000000 in
theorem rquot_yes (N : Nat → Prop) (w : World) (zs ks : List Int) (n : Nat) (v : Value) (a : Option Addr) (len cap : Nat) (I : List (List Int)) (h : IsRN N w 7 zs ks n v) (hA : ArgL w a len I) (hT : takesS 7 zs I = true) (hz : nth (nthL I 1) 0 ≠ 0) (hl : ¬ (nth (nthL I 0) 0 = -9223372036854775808 ∧ nth (nthL I 1) 0 = -1)) :
    Calls Try.prog 41 #[v, .slice a len cap] w (DoneF N w 7 zs n (some ([[(nth (nthL I 0) 0).tdiv (nth (nthL I 1) 0)]], ks))) := by
  obtain ⟨p, cp, i, ci, o, co, k, ck, rfl, hp, hi, ho, hkk, np, ni, no, nk, h4⟩ := h
  obtain ⟨li, hli⟩ : ∃ q, (insS 7 zs).length = q := ⟨_, rfl⟩
  obtain ⟨lo, hlo⟩ : ∃ q, (outsS 7 zs).length = q := ⟨_, rfl⟩
  have HLI := hidden6 hli
  have HLO := hidden6 hlo
  have NP := hidden6 np
  have NI := hidden6 ni
  have NO := hidden6 no
  have NK := hidden6 nk
  have H4 := hidden6 h4
  have HP00 := hidden6 hp
  have HI00 := hidden6 hi
  have HO00 := hidden6 ho
  have HK00 := hidden6 hkk
  rw [hli, hlo]
  show Calls Try.prog 41 #[.agg #[.int .u8 7, .slice p zs.length cp, .slice i li ci, .slice o lo co, .slice k ks.length ck, .int .i64 (n : Int)], .slice a len cap] w _
  have hb0 := ((Below.refl w.heap.size w).alloc (Nat.le_refl _) (.cells #[.int .u8 7, .slice p zs.length cp, .slice i li ci, .slice o lo co, .slice k ks.length ck, .int .i64 (n : Int)] 31)).alloc (by simp) (.cells #[.int .u8 0, .slice none 0 0, .slice none 0 0, .slice none 0 0, .slice none 0 0, .int .i64 0] 31)
  have g2 := (blkA_new 31 w #[.int .u8 7, .slice p zs.length cp, .slice i li ci, .slice o lo co, .slice k ks.length ck, .int .i64 (n : Int)]).below ((Below.refl _ _).alloc (Nat.le_refl _) (.cells #[.int .u8 0, .slice none 0 0, .slice none 0 0, .slice none 0 0, .slice none 0 0, .int .i64 0] 31))
  have g4 : BlkA 31 (w.heap.size + 1) ((w.alloc (.cells #[.int .u8 7, .slice p zs.length cp, .slice i li ci, .slice o lo co, .slice k ks.length ck, .int .i64 (n : Int)] 31)).alloc (.cells #[.int .u8 0, .slice none 0 0, .slice none 0 0, .slice none 0 0, .slice none 0 0, .int .i64 0] 31)) #[.int .u8 0, .slice none 0 0, .slice none 0 0, .slice none 0 0, .slice none 0 0, .int .i64 0] := by
    have h3 := blkA_new 31 (w.alloc (.cells #[.int .u8 7, .slice p zs.length cp, .slice i li ci, .slice o lo co, .slice k ks.length ck, .int .i64 (n : Int)] 31)) #[.int .u8 0, .slice none 0 0, .slice none 0 0, .slice none 0 0, .slice none 0 0, .int .i64 0]
    rw [World.size_alloc] at h3
    exact h3
  have hA0 := hA.below hb0
  have hp0 := hp.below hb0
  have hk0 := hkk.below hb0
  have HB0 := hidden6 hb0
  obtain ⟨hlen, hrow⟩ := takes_facts hT
  have hl2 : I.length = 2 := hlen
  have hr0 : (nthL I 0).length = 1 := by have := hrow 0 (by omega); have e : nth (insS 7 zs) 0 = 1 := rfl; omega
  have hr1 : (nthL I 1).length = 1 := by have := hrow 1 (by omega); have e : nth (insS 7 zs) 1 = 1 := rfl; omega
  obtain ⟨ab, ao, xb, xo, xc, rfl, a1, a2⟩ := tok_cell (i := 0) (j := 0) hA0.lies (by omega) (by omega)
  obtain ⟨bb, bo, yb, yo, yc, he, a3, a4⟩ := tok_cell (i := 1) (j := 0) hA0.lies (by omega) (by omega)
  cases he
  rw [hr0] at a1
  rw [hr1] at a3
  have il : len = 2 := by rw [← hA0.size]; exact hl2
  subst il
  have rx := hA0.fits 0 0
  have ry := hA0.fits 1 0
  simp only [Nat.add_zero] at a1 a2 a4
  generalize nth (nthL I 0) 0 = x at *
  generalize nth (nthL I 1) 0 = y at *
  clear hT hlen hrow hl2 hr0 hr1 hA0 hp0 hk0
  clear hA np ni no nk h4 hli hlo hp hi ho hkk
  go_enter Try.func41, Try.ntmps41
  go_upto_region 1 with fail
  generalize (w.alloc (.cells #[.int .u8 7, .slice p zs.length cp, .slice i li ci, .slice o lo co, .slice k ks.length ck, .int .i64 (n : Int)] 31)).alloc (.cells #[.int .u8 0, .slice none 0 0, .slice none 0 0, .slice none 0 0, .slice none 0 0, .int .i64 0] 31) = W0 at *
  have G2 := hidden6 g2
  have G4 := hidden6 g4
  have L2 : w.heap.size + 1 < W0.heap.size := g4.lt
  have L1 : w.heap.size < W0.heap.size := by omega
  have e0 : W0.cell? ⟨w.heap.size, 0, none⟩ = some (.int .u8 7) := g2.cell rfl
  clear hb0
  have c0 : (y == 0) = false := by simpa using hz
  have c1 : decide (y = 0) = false := decide_eq_false hz
  have hdv : -9223372036854775808 ≤ x.tdiv y ∧ x.tdiv y ≤ 9223372036854775807 := tdiv_range rx ry hz hl
  clear g2 g4
  by_cases hx : x = -9223372036854775808
  · have hy : y ≠ -1 := fun e => hl ⟨hx, e⟩
    have c2 : (x == -9223372036854775808) = true := by simpa using hx
    have c3 : (y == -1) = false := by simpa using hy
    have c4 : decide (y = -1) = false := decide_eq_false hy
    clear hx hl hy
    go_upto_region 12 with fail
    go_quiet (fail)
    go_upto_region 23 with fail
    have N2 : BlkA 31 w.heap.size (W0.drewN nq) #[.int .u8 7, .slice p zs.length cp, .slice i li ci, .slice o lo co, .slice k ks.length ck, .int .i64 (n : Int)] := (G2.out.below (drew_world _ _))
    have N4 : Hid (BlkA 31 (w.heap.size + 1) (W0.drewN nq) #[.int .u8 0, .slice none 0 0, .slice none 0 0, .slice none 0 0, .slice none 0 0, .int .i64 0]) := (G4.out.below (drew_world _ _))
    have Q4 : Hid (Below w.heap.size w (W0.drewN nq)) := (HB0.out.trans ((drew_world W0 nq).mono HB0.out.size))
    generalize W0.drewN nq = w4 at *
    have L5 : w.heap.size + 1 < w4.heap.size := N4.out.lt
    have L6 : w.heap.size < w4.heap.size := by omega
    have y0 : w4.cell? ⟨w.heap.size, 0, none⟩ = some (.int .u8 7) := N2.cell rfl
    have y1 : w4.cell? ⟨w.heap.size, 1, none⟩ = some (.slice p zs.length cp) := N2.cell rfl
    have y2 : w4.cell? ⟨w.heap.size, 2, none⟩ = some (.slice i li ci) := N2.cell rfl
    have y3 : w4.cell? ⟨w.heap.size, 3, none⟩ = some (.slice o lo co) := N2.cell rfl
    have y4 : w4.cell? ⟨w.heap.size, 4, none⟩ = some (.slice k ks.length ck) := N2.cell rfl
    have y5 : w4.cell? ⟨w.heap.size, 5, none⟩ = some (.int .i64 (n : Int)) := N2.cell rfl
    clear N2
    go_wp2_with (refine wpList_store6 _ rfl 31 (.tmp 4) (.tmp 111) rfl rfl size_actor (w.heap.size + 1) 31 _ _ _ _ _ _ _ _ _ _ _ _ _ _ _ _ _ _ _ _ rfl rfl ((N4.out.below ((Below.refl _ _).alloc (Nat.le_refl _) _)).below ((Below.refl _ _).alloc (Nat.le_refl _) _)) ?_; intro w9 hN9 hU9; have N9 := hidden6 hN9; have U9 := hidden6 hU9; clear hN9 hU9)
    have z0 : w9.cell? ⟨w.heap.size + 1, 0, none⟩ = some (.int .u8 7) := N9.out.cell rfl
    have z1 : w9.cell? ⟨w.heap.size + 1, 1, none⟩ = some (.slice p zs.length cp) := N9.out.cell rfl
    have z2 : w9.cell? ⟨w.heap.size + 1, 2, none⟩ = some (.slice i li ci) := N9.out.cell rfl
    have z3 : w9.cell? ⟨w.heap.size + 1, 3, none⟩ = some (.slice o lo co) := N9.out.cell rfl
    have z4 : w9.cell? ⟨w.heap.size + 1, 4, none⟩ = some (.slice k ks.length ck) := N9.out.cell rfl
    have z5 : w9.cell? ⟨w.heap.size + 1, 5, none⟩ = some (.int .i64 (n : Int)) := N9.out.cell rfl
    refine bodyPost_ret (v := .tuple #[.agg #[.int .u8 7, .slice p zs.length cp, .slice i li ci, .slice o lo co, .slice k ks.length ck, .int .i64 (n : Int)], .slice (some ⟨w4.heap.size + 1, 0, none⟩) 1 1, .int .i64 0]) (by simp [results, Try.results41, go_sem, z0, z1, z2, z3, z4, z5]) rfl ?_
    have q5 := (Q4.out.alloc Q4.out.size (.cells #[.int .i64 (x.tdiv y)] 3)).alloc (Q4.out.alloc Q4.out.size (.cells #[.int .i64 (x.tdiv y)] 3)).size (.cells #[.slice (some ⟨w4.heap.size, 0, none⟩) 1 1] 22)
    have q9 := q5.trans (U9.out.below (Nat.le_succ _) q5.size)
    have ko := (one_out U9.out (by omega)).mono (show w.heap.size ≤ w4.heap.size by omega)
    exact ⟨_, _, _, _, _, rfl, ko, ⟨p, cp, i, ci, o, co, k, ck, by rw [HLI.out, HLO.out]; rfl, HP00.out.below q9, HI00.out.below q9, HO00.out.below q9, HK00.out.below q9, fun x hx => .inl (NP.out x hx), fun x hx => .inl (NI.out x hx), fun x hx => .inl (NO.out x hx), fun x hx => .inl (NK.out x hx), H4.out⟩, q9⟩
  · have c2 : (x == -9223372036854775808) = false := by simpa using hx
    have c4 : decide (x = -9223372036854775808) = false := decide_eq_false hx
    clear hx hl
    go_upto_region 12 with fail
    go_quiet (fail)
    go_upto_region 23 with fail
    have N2 : BlkA 31 w.heap.size (W0.drewN nq) #[.int .u8 7, .slice p zs.length cp, .slice i li ci, .slice o lo co, .slice k ks.length ck, .int .i64 (n : Int)] := (G2.out.below (drew_world _ _))
    have N4 : Hid (BlkA 31 (w.heap.size + 1) (W0.drewN nq) #[.int .u8 0, .slice none 0 0, .slice none 0 0, .slice none 0 0, .slice none 0 0, .int .i64 0]) := (G4.out.below (drew_world _ _))
    have Q4 : Hid (Below w.heap.size w (W0.drewN nq)) := (HB0.out.trans ((drew_world W0 nq).mono HB0.out.size))
    generalize W0.drewN nq = w4 at *
    have L5 : w.heap.size + 1 < w4.heap.size := N4.out.lt
    have L6 : w.heap.size < w4.heap.size := by omega
    have y0 : w4.cell? ⟨w.heap.size, 0, none⟩ = some (.int .u8 7) := N2.cell rfl
    have y1 : w4.cell? ⟨w.heap.size, 1, none⟩ = some (.slice p zs.length cp) := N2.cell rfl
    have y2 : w4.cell? ⟨w.heap.size, 2, none⟩ = some (.slice i li ci) := N2.cell rfl
    have y3 : w4.cell? ⟨w.heap.size, 3, none⟩ = some (.slice o lo co) := N2.cell rfl
    have y4 : w4.cell? ⟨w.heap.size, 4, none⟩ = some (.slice k ks.length ck) := N2.cell rfl
    have y5 : w4.cell? ⟨w.heap.size, 5, none⟩ = some (.int .i64 (n : Int)) := N2.cell rfl
    clear N2
    go_wp2_with (refine wpList_store6 _ rfl 31 (.tmp 4) (.tmp 111) rfl rfl size_actor (w.heap.size + 1) 31 _ _ _ _ _ _ _ _ _ _ _ _ _ _ _ _ _ _ _ _ rfl rfl ((N4.out.below ((Below.refl _ _).alloc (Nat.le_refl _) _)).below ((Below.refl _ _).alloc (Nat.le_refl _) _)) ?_; intro w9 hN9 hU9; have N9 := hidden6 hN9; have U9 := hidden6 hU9; clear hN9 hU9)
    have z0 : w9.cell? ⟨w.heap.size + 1, 0, none⟩ = some (.int .u8 7) := N9.out.cell rfl
    have z1 : w9.cell? ⟨w.heap.size + 1, 1, none⟩ = some (.slice p zs.length cp) := N9.out.cell rfl
    have z2 : w9.cell? ⟨w.heap.size + 1, 2, none⟩ = some (.slice i li ci) := N9.out.cell rfl
    have z3 : w9.cell? ⟨w.heap.size + 1, 3, none⟩ = some (.slice o lo co) := N9.out.cell rfl
    have z4 : w9.cell? ⟨w.heap.size + 1, 4, none⟩ = some (.slice k ks.length ck) := N9.out.cell rfl
    have z5 : w9.cell? ⟨w.heap.size + 1, 5, none⟩ = some (.int .i64 (n : Int)) := N9.out.cell rfl
    refine bodyPost_ret (v := .tuple #[.agg #[.int .u8 7, .slice p zs.length cp, .slice i li ci, .slice o lo co, .slice k ks.length ck, .int .i64 (n : Int)], .slice (some ⟨w4.heap.size + 1, 0, none⟩) 1 1, .int .i64 0]) (by simp [results, Try.results41, go_sem, z0, z1, z2, z3, z4, z5]) rfl ?_
    have q5 := (Q4.out.alloc Q4.out.size (.cells #[.int .i64 (x.tdiv y)] 3)).alloc (Q4.out.alloc Q4.out.size (.cells #[.int .i64 (x.tdiv y)] 3)).size (.cells #[.slice (some ⟨w4.heap.size, 0, none⟩) 1 1] 22)
    have q9 := q5.trans (U9.out.below (Nat.le_succ _) q5.size)
    have ko := (one_out U9.out (by omega)).mono (show w.heap.size ≤ w4.heap.size by omega)
    exact ⟨_, _, _, _, _, rfl, ko, ⟨p, cp, i, ci, o, co, k, ck, by rw [HLI.out, HLO.out]; rfl, HP00.out.below q9, HI00.out.below q9, HO00.out.below q9, HK00.out.below q9, fun x hx => .inl (NP.out x hx), fun x hx => .inl (NI.out x hx), fun x hx => .inl (NO.out x hx), fun x hx => .inl (NK.out x hx), H4.out⟩, q9⟩
theorem rep_nth {n x : Int} {k : Nat} (h : k < (rep n x).length) : nth (rep n x) k = x := by
  unfold rep at h ⊢
  rw [List.length_replicate] at h
  exact nth_rep h
set_option maxRecDepth 100000 in
set_option maxHeartbeats 4000000 in
theorem radd_no (N : Nat → Prop) (w : World) (zs ks : List Int) (n : Nat) (v : Value) (a : Option Addr) (len cap : Nat) (I : List (List Int)) (h : IsRN N w 6 zs ks n v) (hA : ArgL w a len I) (hT : takesS 6 zs I = true) (hI16 : I.length ≤ 16) (hs : sumO 0 (I.map (nth · 0)) = none) :
    Calls Try.prog 41 #[v, .slice a len cap] w (DoneF N w 6 zs n none) := by
  obtain ⟨p, cp, i, ci, o, co, k, ck, rfl, hp, hi, ho, hkk, np, ni, no, nk, h4⟩ := h
  obtain ⟨li, hli⟩ : ∃ q, (insS 6 zs).length = q := ⟨_, rfl⟩
  obtain ⟨lo, hlo⟩ : ∃ q, (outsS 6 zs).length = q := ⟨_, rfl⟩
  have HLI := hidden6 hli
  have HLO := hidden6 hlo
  have NP := hidden6 np
  have NI := hidden6 ni
  have NO := hidden6 no
  have NK := hidden6 nk
  have H4 := hidden6 h4
  have HP00 := hidden6 hp
  have HI00 := hidden6 hi
  have HO00 := hidden6 ho
  have HK00 := hidden6 hkk
  rw [hli, hlo]
  show Calls Try.prog 41 #[.agg #[.int .u8 6, .slice p zs.length cp, .slice i li ci, .slice o lo co, .slice k ks.length ck, .int .i64 (n : Int)], .slice a len cap] w _
  have hb0 := ((Below.refl w.heap.size w).alloc (Nat.le_refl _) (.cells #[.int .u8 6, .slice p zs.length cp, .slice i li ci, .slice o lo co, .slice k ks.length ck, .int .i64 (n : Int)] 31)).alloc (by simp) (.cells #[.int .u8 0, .slice none 0 0, .slice none 0 0, .slice none 0 0, .slice none 0 0, .int .i64 0] 31)
  have g2 := (blkA_new 31 w #[.int .u8 6, .slice p zs.length cp, .slice i li ci, .slice o lo co, .slice k ks.length ck, .int .i64 (n : Int)]).below ((Below.refl _ _).alloc (Nat.le_refl _) (.cells #[.int .u8 0, .slice none 0 0, .slice none 0 0, .slice none 0 0, .slice none 0 0, .int .i64 0] 31))
  have g4 : BlkA 31 (w.heap.size + 1) ((w.alloc (.cells #[.int .u8 6, .slice p zs.length cp, .slice i li ci, .slice o lo co, .slice k ks.length ck, .int .i64 (n : Int)] 31)).alloc (.cells #[.int .u8 0, .slice none 0 0, .slice none 0 0, .slice none 0 0, .slice none 0 0, .int .i64 0] 31)) #[.int .u8 0, .slice none 0 0, .slice none 0 0, .slice none 0 0, .slice none 0 0, .int .i64 0] := by
    have h3 := blkA_new 31 (w.alloc (.cells #[.int .u8 6, .slice p zs.length cp, .slice i li ci, .slice o lo co, .slice k ks.length ck, .int .i64 (n : Int)] 31)) #[.int .u8 0, .slice none 0 0, .slice none 0 0, .slice none 0 0, .slice none 0 0, .int .i64 0]
    rw [World.size_alloc] at h3
    exact h3
  have hA0 := hA.below hb0
  have hp0 := hp.below hb0
  have hk0 := hkk.below hb0
  have HB0 := hidden6 hb0
  obtain ⟨hlen, hrow⟩ := takes_facts hT
  have hr1 : ∀ k, k < I.length → (nthL I k).length = 1 := fun k hk => by
    have h1 := hrow k hk
    have h2 : nth (insS 6 zs) k = 1 := rep_nth (by rw [← show (insS 6 zs).length = (rep (nth zs 0) 1).length from rfl, ← hlen]; exact hk)
    omega
  have HR1 := hidden6 hr1
  have HAL := hidden6 hA0
  have HSZ := hidden6 hA0.size
  have hlI : (len : Int) ≤ 16 := by have := hA0.size; omega
  have HS := hidden6 hs
  clear hT hlen hrow hr1 hA0 hp0 hk0 hs
  clear hA np ni no nk h4 hli hlo hp hi ho hkk
  go_enter Try.func41, Try.ntmps41
  go_upto_region 1 with fail
  generalize (w.alloc (.cells #[.int .u8 6, .slice p zs.length cp, .slice i li ci, .slice o lo co, .slice k ks.length ck, .int .i64 (n : Int)] 31)).alloc (.cells #[.int .u8 0, .slice none 0 0, .slice none 0 0, .slice none 0 0, .slice none 0 0, .int .i64 0] 31) = W0 at *
  have G2 := hidden6 g2
  have G4 := hidden6 g4
  have L2 : w.heap.size + 1 < W0.heap.size := g4.lt
  have L1 : w.heap.size < W0.heap.size := by omega
  have e0 : W0.cell? ⟨w.heap.size, 0, none⟩ = some (.int .u8 6) := g2.cell rfl
  clear hb0
  clear g2 g4
  go_wp2
  go_loopg [7, 8, 9] (len + 1) (fun gk g s j wr => ∃ (m : Nat) (b : Bool) (z : Int), m ≤ len ∧ gk = len + 1 - m ∧ j = .int .i64 (m : Int) ∧ g = .bool b ∧ s = .int .i64 z ∧ W0 = wr ∧ (b = true → -9223372036854775808 ≤ z ∧ z ≤ 9223372036854775807 ∧ sumO z ((I.drop m).map (nth · 0)) = sumO 0 (I.map (nth · 0))) ∧ (b = false → sumO 0 (I.map (nth · 0)) = none))
  case atStart => exact ⟨0, true, 0, Nat.zero_le _, rfl, rfl, rfl, rfl, rfl, fun _ => ⟨by decide, by decide, rfl⟩, fun e => by cases e⟩
  case round =>
    obtain ⟨m, b, z, hm, rfl, rfl, rfl, rfl, rfl, hb1, hb2⟩ := hrel
    have HB1 := hidden6 hb1
    have HB2 := hidden6 hb2
    clear hb1 hb2
    by_cases hgo : m < len ∧ b = true
    · obtain ⟨hlt, rfl⟩ := hgo
      obtain ⟨z1, z2, z3⟩ := HB1.out rfl
      have hmI : (m : Int) < (len : Int) := by omega
      have hmL : m < I.length := by have := HSZ.out; omega
      obtain ⟨ab, ao, xb, xo, xc, rfl, a1, a2⟩ := tok_cell (i := m) (j := 0) HAL.out.lies hmL (by rw [HR1.out m hmL]; decide)
      rw [HR1.out m hmL] at a1
      simp only [Nat.add_zero] at a2
      have AD := hidden6 (fun V => plus7_any z (nth (nthL I m) 0) V ⟨z1, z2⟩ (HAL.out.fits m 0))
      have HST : Hid (sumO z ((I.drop m).map (nth · 0)) = if fitB (z + nth (nthL I m) 0) = true then sumO (z + nth (nthL I m) 0) ((I.drop (m + 1)).map (nth · 0)) else none) := by
        show _ = _
        rw [List.drop_eq_getElem_cons hmL, List.map_cons, sumO_cons, nthL_get hmL]
      rw [z3] at HST
      generalize nth (nthL I m) 0 = x at *
      go_wp2_with (go_at_call 43; (with_reducible refine (AD.out _).mono ?_); rintro e w1 ⟨rfl, hw⟩; rw [hw]; clear hw; clear w1)
      go_roundg (len - m)
      case measure => omega
      case rel =>
        refine ⟨m + 1, fitB (z + x), fitV (z + x), by omega, by omega, by go_num, rfl, rfl, rfl, fun hf => ?_, fun hf => ?_⟩
        · have hr := fitB_true.1 hf
          rw [fitV_yes hr]
          have h1 := HST.out
          rw [if_pos hf] at h1
          exact ⟨hr.1, hr.2, h1.symm⟩
        · have h1 := HST.out
          rw [if_neg (by rw [hf]; decide)] at h1
          exact h1
    · have HEND : Hid (b = false) := by
        show b = false
        cases b with
        | false => rfl
        | true =>
          obtain ⟨z1, z2, z3⟩ := HB1.out rfl
          have e : m = I.length := by have := HSZ.out; have : ¬ (m < len) := fun h => hgo ⟨h, rfl⟩; omega
          rw [e, List.drop_length, HS.out] at z3
          cases z3
      have hbf := HEND.out
      subst hbf
      by_cases hlt : m < len
      · have hmI : (m : Int) < (len : Int) := by omega
        go_upto_region 23 with fail
        have N2 : BlkA 31 w.heap.size (W0) #[.int .u8 6, .slice p zs.length cp, .slice i li ci, .slice o lo co, .slice k ks.length ck, .int .i64 (n : Int)] := G2.out
        have N4 : Hid (BlkA 31 (w.heap.size + 1) (W0) #[.int .u8 0, .slice none 0 0, .slice none 0 0, .slice none 0 0, .slice none 0 0, .int .i64 0]) := G4.out
        have Q4 : Hid (Below w.heap.size w (W0)) := HB0.out
        generalize W0 = w4 at *
        have L5 : w.heap.size + 1 < w4.heap.size := N4.out.lt
        have L6 : w.heap.size < w4.heap.size := by omega
        have y0 : w4.cell? ⟨w.heap.size, 0, none⟩ = some (.int .u8 6) := N2.cell rfl
        have y1 : w4.cell? ⟨w.heap.size, 1, none⟩ = some (.slice p zs.length cp) := N2.cell rfl
        have y2 : w4.cell? ⟨w.heap.size, 2, none⟩ = some (.slice i li ci) := N2.cell rfl
        have y3 : w4.cell? ⟨w.heap.size, 3, none⟩ = some (.slice o lo co) := N2.cell rfl
        have y4 : w4.cell? ⟨w.heap.size, 4, none⟩ = some (.slice k ks.length ck) := N2.cell rfl
        have y5 : w4.cell? ⟨w.heap.size, 5, none⟩ = some (.int .i64 (n : Int)) := N2.cell rfl
        clear N2
        go_wp2_with (refine wpList_store6 _ rfl 31 (.tmp 4) (.tmp 110) rfl rfl size_actor (w.heap.size + 1) 31 _ _ _ _ _ _ _ _ _ _ _ _ _ _ _ _ _ _ _ _ rfl rfl (N4.out) ?_; intro w9 hN9 hU9; have N9 := hidden6 hN9; have U9 := hidden6 hU9; clear hN9 hU9)
        have z0 : w9.cell? ⟨w.heap.size + 1, 0, none⟩ = some (.int .u8 6) := N9.out.cell rfl
        have z1 : w9.cell? ⟨w.heap.size + 1, 1, none⟩ = some (.slice p zs.length cp) := N9.out.cell rfl
        have z2 : w9.cell? ⟨w.heap.size + 1, 2, none⟩ = some (.slice i li ci) := N9.out.cell rfl
        have z3 : w9.cell? ⟨w.heap.size + 1, 3, none⟩ = some (.slice o lo co) := N9.out.cell rfl
        have z4 : w9.cell? ⟨w.heap.size + 1, 4, none⟩ = some (.slice k ks.length ck) := N9.out.cell rfl
        have z5 : w9.cell? ⟨w.heap.size + 1, 5, none⟩ = some (.int .i64 (n : Int)) := N9.out.cell rfl
        refine bodyPost_ret (v := .tuple #[.agg #[.int .u8 6, .slice p zs.length cp, .slice i li ci, .slice o lo co, .slice k ks.length ck, .int .i64 (n : Int)], .slice none 0 0, .int .i64 70]) (by simp [results, Try.results41, go_sem, z0, z1, z2, z3, z4, z5]) rfl ?_
        exact ⟨_, _, _, _, _, _, _, _, _, _, _, _, rfl, Q4.out.trans (U9.out.below (Nat.le_succ _) Q4.out.size)⟩
      · have hmI : ¬ ((m : Int) < (len : Int)) := by omega
        have hmD : decide ((m : Int) < (len : Int)) = false := decide_eq_false hmI
        go_upto_region 23 with fail
        have N2 : BlkA 31 w.heap.size (W0) #[.int .u8 6, .slice p zs.length cp, .slice i li ci, .slice o lo co, .slice k ks.length ck, .int .i64 (n : Int)] := G2.out
        have N4 : Hid (BlkA 31 (w.heap.size + 1) (W0) #[.int .u8 0, .slice none 0 0, .slice none 0 0, .slice none 0 0, .slice none 0 0, .int .i64 0]) := G4.out
        have Q4 : Hid (Below w.heap.size w (W0)) := HB0.out
        generalize W0 = w4 at *
        have L5 : w.heap.size + 1 < w4.heap.size := N4.out.lt
        have L6 : w.heap.size < w4.heap.size := by omega
        have y0 : w4.cell? ⟨w.heap.size, 0, none⟩ = some (.int .u8 6) := N2.cell rfl
        have y1 : w4.cell? ⟨w.heap.size, 1, none⟩ = some (.slice p zs.length cp) := N2.cell rfl
        have y2 : w4.cell? ⟨w.heap.size, 2, none⟩ = some (.slice i li ci) := N2.cell rfl
        have y3 : w4.cell? ⟨w.heap.size, 3, none⟩ = some (.slice o lo co) := N2.cell rfl
        have y4 : w4.cell? ⟨w.heap.size, 4, none⟩ = some (.slice k ks.length ck) := N2.cell rfl
        have y5 : w4.cell? ⟨w.heap.size, 5, none⟩ = some (.int .i64 (n : Int)) := N2.cell rfl
        clear N2
        go_wp2_with (refine wpList_store6 _ rfl 31 (.tmp 4) (.tmp 110) rfl rfl size_actor (w.heap.size + 1) 31 _ _ _ _ _ _ _ _ _ _ _ _ _ _ _ _ _ _ _ _ rfl rfl (N4.out) ?_; intro w9 hN9 hU9; have N9 := hidden6 hN9; have U9 := hidden6 hU9; clear hN9 hU9)
        have z0 : w9.cell? ⟨w.heap.size + 1, 0, none⟩ = some (.int .u8 6) := N9.out.cell rfl
        have z1 : w9.cell? ⟨w.heap.size + 1, 1, none⟩ = some (.slice p zs.length cp) := N9.out.cell rfl
        have z2 : w9.cell? ⟨w.heap.size + 1, 2, none⟩ = some (.slice i li ci) := N9.out.cell rfl
        have z3 : w9.cell? ⟨w.heap.size + 1, 3, none⟩ = some (.slice o lo co) := N9.out.cell rfl
        have z4 : w9.cell? ⟨w.heap.size + 1, 4, none⟩ = some (.slice k ks.length ck) := N9.out.cell rfl
        have z5 : w9.cell? ⟨w.heap.size + 1, 5, none⟩ = some (.int .i64 (n : Int)) := N9.out.cell rfl
        refine bodyPost_ret (v := .tuple #[.agg #[.int .u8 6, .slice p zs.length cp, .slice i li ci, .slice o lo co, .slice k ks.length ck, .int .i64 (n : Int)], .slice none 0 0, .int .i64 70]) (by simp [results, Try.results41, go_sem, z0, z1, z2, z3, z4, z5]) rfl ?_
        exact ⟨_, _, _, _, _, _, _, _, _, _, _, _, rfl, Q4.out.trans (U9.out.below (Nat.le_succ _) Q4.out.size)⟩
set_option maxRecDepth 100000 in
set_option maxHeartbeats 4000000 in
theorem radd_yes (N : Nat → Prop) (w : World) (zs ks : List Int) (n : Nat) (v : Value) (a : Option Addr) (len cap : Nat) (I : List (List Int)) (y : Int) (h : IsRN N w 6 zs ks n v) (hA : ArgL w a len I) (hT : takesS 6 zs I = true) (hI16 : I.length ≤ 16) (hs : sumO 0 (I.map (nth · 0)) = some y) :
    Calls Try.prog 41 #[v, .slice a len cap] w (DoneF N w 6 zs n (some ([[y]], ks))) := by
  obtain ⟨p, cp, i, ci, o, co, k, ck, rfl, hp, hi, ho, hkk, np, ni, no, nk, h4⟩ := h
  obtain ⟨li, hli⟩ : ∃ q, (insS 6 zs).length = q := ⟨_, rfl⟩
  obtain ⟨lo, hlo⟩ : ∃ q, (outsS 6 zs).length = q := ⟨_, rfl⟩
  have HLI := hidden6 hli
  have HLO := hidden6 hlo
  have NP := hidden6 np
  have NI := hidden6 ni
  have NO := hidden6 no
  have NK := hidden6 nk
  have H4 := hidden6 h4
  have HP00 := hidden6 hp
  have HI00 := hidden6 hi
  have HO00 := hidden6 ho
  have HK00 := hidden6 hkk
  rw [hli, hlo]
  show Calls Try.prog 41 #[.agg #[.int .u8 6, .slice p zs.length cp, .slice i li ci, .slice o lo co, .slice k ks.length ck, .int .i64 (n : Int)], .slice a len cap] w _
  have hb0 := ((Below.refl w.heap.size w).alloc (Nat.le_refl _) (.cells #[.int .u8 6, .slice p zs.length cp, .slice i li ci, .slice o lo co, .slice k ks.length ck, .int .i64 (n : Int)] 31)).alloc (by simp) (.cells #[.int .u8 0, .slice none 0 0, .slice none 0 0, .slice none 0 0, .slice none 0 0, .int .i64 0] 31)
  have g2 := (blkA_new 31 w #[.int .u8 6, .slice p zs.length cp, .slice i li ci, .slice o lo co, .slice k ks.length ck, .int .i64 (n : Int)]).below ((Below.refl _ _).alloc (Nat.le_refl _) (.cells #[.int .u8 0, .slice none 0 0, .slice none 0 0, .slice none 0 0, .slice none 0 0, .int .i64 0] 31))
  have g4 : BlkA 31 (w.heap.size + 1) ((w.alloc (.cells #[.int .u8 6, .slice p zs.length cp, .slice i li ci, .slice o lo co, .slice k ks.length ck, .int .i64 (n : Int)] 31)).alloc (.cells #[.int .u8 0, .slice none 0 0, .slice none 0 0, .slice none 0 0, .slice none 0 0, .int .i64 0] 31)) #[.int .u8 0, .slice none 0 0, .slice none 0 0, .slice none 0 0, .slice none 0 0, .int .i64 0] := by
    have h3 := blkA_new 31 (w.alloc (.cells #[.int .u8 6, .slice p zs.length cp, .slice i li ci, .slice o lo co, .slice k ks.length ck, .int .i64 (n : Int)] 31)) #[.int .u8 0, .slice none 0 0, .slice none 0 0, .slice none 0 0, .slice none 0 0, .int .i64 0]
    rw [World.size_alloc] at h3
    exact h3
  have hA0 := hA.below hb0
  have hp0 := hp.below hb0
  have hk0 := hkk.below hb0
  have HB0 := hidden6 hb0
  obtain ⟨hlen, hrow⟩ := takes_facts hT
  have hr1 : ∀ k, k < I.length → (nthL I k).length = 1 := fun k hk => by
    have h1 := hrow k hk
    have h2 : nth (insS 6 zs) k = 1 := rep_nth (by rw [← show (insS 6 zs).length = (rep (nth zs 0) 1).length from rfl, ← hlen]; exact hk)
    omega
  have HR1 := hidden6 hr1
  have HAL := hidden6 hA0
  have HSZ := hidden6 hA0.size
  have hlI : (len : Int) ≤ 16 := by have := hA0.size; omega
  have HS := hidden6 hs
  clear hT hlen hrow hr1 hA0 hp0 hk0 hs
  clear hA np ni no nk h4 hli hlo hp hi ho hkk
  go_enter Try.func41, Try.ntmps41
  go_upto_region 1 with fail
  generalize (w.alloc (.cells #[.int .u8 6, .slice p zs.length cp, .slice i li ci, .slice o lo co, .slice k ks.length ck, .int .i64 (n : Int)] 31)).alloc (.cells #[.int .u8 0, .slice none 0 0, .slice none 0 0, .slice none 0 0, .slice none 0 0, .int .i64 0] 31) = W0 at *
  have G2 := hidden6 g2
  have G4 := hidden6 g4
  have L2 : w.heap.size + 1 < W0.heap.size := g4.lt
  have L1 : w.heap.size < W0.heap.size := by omega
  have e0 : W0.cell? ⟨w.heap.size, 0, none⟩ = some (.int .u8 6) := g2.cell rfl
  clear hb0
  clear g2 g4
  go_wp2
  go_loopg [7, 8, 9] (len + 1) (fun gk g s j wr => ∃ (m : Nat) (b : Bool) (z : Int), m ≤ len ∧ gk = len + 1 - m ∧ j = .int .i64 (m : Int) ∧ g = .bool b ∧ s = .int .i64 z ∧ W0 = wr ∧ (b = true → -9223372036854775808 ≤ z ∧ z ≤ 9223372036854775807 ∧ sumO z ((I.drop m).map (nth · 0)) = sumO 0 (I.map (nth · 0))) ∧ (b = false → sumO 0 (I.map (nth · 0)) = none))
  case atStart => exact ⟨0, true, 0, Nat.zero_le _, rfl, rfl, rfl, rfl, rfl, fun _ => ⟨by decide, by decide, rfl⟩, fun e => by cases e⟩
  case round =>
    obtain ⟨m, b, z, hm, rfl, rfl, rfl, rfl, rfl, hb1, hb2⟩ := hrel
    have HB1 := hidden6 hb1
    have HB2 := hidden6 hb2
    clear hb1 hb2
    by_cases hgo : m < len ∧ b = true
    · obtain ⟨hlt, rfl⟩ := hgo
      obtain ⟨z1, z2, z3⟩ := HB1.out rfl
      have hmI : (m : Int) < (len : Int) := by omega
      have hmL : m < I.length := by have := HSZ.out; omega
      obtain ⟨ab, ao, xb, xo, xc, rfl, a1, a2⟩ := tok_cell (i := m) (j := 0) HAL.out.lies hmL (by rw [HR1.out m hmL]; decide)
      rw [HR1.out m hmL] at a1
      simp only [Nat.add_zero] at a2
      have AD := hidden6 (fun V => plus7_any z (nth (nthL I m) 0) V ⟨z1, z2⟩ (HAL.out.fits m 0))
      have HST : Hid (sumO z ((I.drop m).map (nth · 0)) = if fitB (z + nth (nthL I m) 0) = true then sumO (z + nth (nthL I m) 0) ((I.drop (m + 1)).map (nth · 0)) else none) := by
        show _ = _
        rw [List.drop_eq_getElem_cons hmL, List.map_cons, sumO_cons, nthL_get hmL]
      rw [z3] at HST
      generalize nth (nthL I m) 0 = x at *
      go_wp2_with (go_at_call 43; (with_reducible refine (AD.out _).mono ?_); rintro e w1 ⟨rfl, hw⟩; rw [hw]; clear hw; clear w1)
      go_roundg (len - m)
      case measure => omega
      case rel =>
        refine ⟨m + 1, fitB (z + x), fitV (z + x), by omega, by omega, by go_num, rfl, rfl, rfl, fun hf => ?_, fun hf => ?_⟩
        · have hr := fitB_true.1 hf
          rw [fitV_yes hr]
          have h1 := HST.out
          rw [if_pos hf] at h1
          exact ⟨hr.1, hr.2, h1.symm⟩
        · have h1 := HST.out
          rw [if_neg (by rw [hf]; decide)] at h1
          exact h1
    · have HEND : Hid (b = true ∧ m = len ∧ z = y) := by
        cases b with
        | false => have := HB2.out rfl; rw [HS.out] at this; cases this
        | true =>
          obtain ⟨z1, z2, z3⟩ := HB1.out rfl
          have e : m = I.length := by have := HSZ.out; have : ¬ (m < len) := fun h => hgo ⟨h, rfl⟩; omega
          rw [e, List.drop_length, HS.out] at z3
          exact ⟨rfl, by have := HSZ.out; omega, Option.some.inj z3⟩
      obtain ⟨rfl, rfl, rfl⟩ := HEND.out
      have hmI : ¬ ((m : Int) < (m : Int)) := by omega
      have hmD : decide ((m : Int) < (m : Int)) = false := decide_eq_false hmI
      go_upto_region 23 with fail
      have N2 : BlkA 31 w.heap.size (W0) #[.int .u8 6, .slice p zs.length cp, .slice i li ci, .slice o lo co, .slice k ks.length ck, .int .i64 (n : Int)] := G2.out
      have N4 : Hid (BlkA 31 (w.heap.size + 1) (W0) #[.int .u8 0, .slice none 0 0, .slice none 0 0, .slice none 0 0, .slice none 0 0, .int .i64 0]) := G4.out
      have Q4 : Hid (Below w.heap.size w (W0)) := HB0.out
      generalize W0 = w4 at *
      have L5 : w.heap.size + 1 < w4.heap.size := N4.out.lt
      have L6 : w.heap.size < w4.heap.size := by omega
      have y0 : w4.cell? ⟨w.heap.size, 0, none⟩ = some (.int .u8 6) := N2.cell rfl
      have y1 : w4.cell? ⟨w.heap.size, 1, none⟩ = some (.slice p zs.length cp) := N2.cell rfl
      have y2 : w4.cell? ⟨w.heap.size, 2, none⟩ = some (.slice i li ci) := N2.cell rfl
      have y3 : w4.cell? ⟨w.heap.size, 3, none⟩ = some (.slice o lo co) := N2.cell rfl
      have y4 : w4.cell? ⟨w.heap.size, 4, none⟩ = some (.slice k ks.length ck) := N2.cell rfl
      have y5 : w4.cell? ⟨w.heap.size, 5, none⟩ = some (.int .i64 (n : Int)) := N2.cell rfl
      clear N2
      go_wp2_with (refine wpList_store6 _ rfl 31 (.tmp 4) (.tmp 111) rfl rfl size_actor (w.heap.size + 1) 31 _ _ _ _ _ _ _ _ _ _ _ _ _ _ _ _ _ _ _ _ rfl rfl ((N4.out.below ((Below.refl _ _).alloc (Nat.le_refl _) _)).below ((Below.refl _ _).alloc (Nat.le_refl _) _)) ?_; intro w9 hN9 hU9; have N9 := hidden6 hN9; have U9 := hidden6 hU9; clear hN9 hU9)
      have z0 : w9.cell? ⟨w.heap.size + 1, 0, none⟩ = some (.int .u8 6) := N9.out.cell rfl
      have z1 : w9.cell? ⟨w.heap.size + 1, 1, none⟩ = some (.slice p zs.length cp) := N9.out.cell rfl
      have z2 : w9.cell? ⟨w.heap.size + 1, 2, none⟩ = some (.slice i li ci) := N9.out.cell rfl
      have z3 : w9.cell? ⟨w.heap.size + 1, 3, none⟩ = some (.slice o lo co) := N9.out.cell rfl
      have z4 : w9.cell? ⟨w.heap.size + 1, 4, none⟩ = some (.slice k ks.length ck) := N9.out.cell rfl
      have z5 : w9.cell? ⟨w.heap.size + 1, 5, none⟩ = some (.int .i64 (n : Int)) := N9.out.cell rfl
      refine bodyPost_ret (v := .tuple #[.agg #[.int .u8 6, .slice p zs.length cp, .slice i li ci, .slice o lo co, .slice k ks.length ck, .int .i64 (n : Int)], .slice (some ⟨w4.heap.size + 1, 0, none⟩) 1 1, .int .i64 0]) (by simp [results, Try.results41, go_sem, z0, z1, z2, z3, z4, z5]) rfl ?_
      have q5 := (Q4.out.alloc Q4.out.size (.cells #[.int .i64 z] 3)).alloc (Q4.out.alloc Q4.out.size (.cells #[.int .i64 z] 3)).size (.cells #[.slice (some ⟨w4.heap.size, 0, none⟩) 1 1] 22)
      have q9 := q5.trans (U9.out.below (Nat.le_succ _) q5.size)
      have ko := (one_out U9.out (by omega)).mono (show w.heap.size ≤ w4.heap.size by omega)
      exact ⟨_, _, _, _, _, rfl, ko, ⟨p, cp, i, ci, o, co, k, ck, by rw [HLI.out, HLO.out]; rfl, HP00.out.below q9, HI00.out.below q9, HO00.out.below q9, HK00.out.below q9, fun x hx => .inl (NP.out x hx), fun x hx => .inl (NI.out x hx), fun x hx => .inl (NO.out x hx), fun x hx => .inl (NK.out x hx), H4.out⟩, q9⟩
set_option maxRecDepth 100000 in
set_option maxHeartbeats 4000000 in
theorem rsum_no (N : Nat → Prop) (w : World) (zs ks : List Int) (n : Nat) (v : Value) (a : Option Addr) (len cap : Nat) (I : List (List Int)) (h : IsRN N w 8 zs ks n v) (hA : ArgL w a len I) (hT : takesS 8 zs I = true) (hk1 : ks.length = 1) (hkr : InR ks) (hf : fitB (nth ks 0 + nth (nthL I 0) 0) = false) :
    Calls Try.prog 41 #[v, .slice a len cap] w (DoneF N w 8 zs n none) := by
  obtain ⟨p, cp, i, ci, o, co, k, ck, rfl, hp, hi, ho, hkk, np, ni, no, nk, h4⟩ := h
  obtain ⟨kb, kq, rfl, hkc⟩ : ∃ kb kq, k = some ⟨kb, kq, none⟩ ∧ w.cell? ⟨kb, kq, none⟩ = some (.int .i64 (nth ks 0)) := by
    rcases hkk with h0 | ⟨b, off, e, hc⟩
    · rw [h0] at hk1; simp at hk1
    · exact ⟨b, off, e, by have := hc 0 (by omega); rwa [Nat.add_zero] at this⟩
  obtain ⟨li, hli⟩ : ∃ q, (insS 8 zs).length = q := ⟨_, rfl⟩
  obtain ⟨lo, hlo⟩ : ∃ q, (outsS 8 zs).length = q := ⟨_, rfl⟩
  have HLI := hidden6 hli
  have HLO := hidden6 hlo
  have NP := hidden6 np
  have NI := hidden6 ni
  have NO := hidden6 no
  have NK := hidden6 nk
  have H4 := hidden6 h4
  have HP00 := hidden6 hp
  have HI00 := hidden6 hi
  have HO00 := hidden6 ho
  have HK00 := hidden6 hkk
  rw [hli, hlo]
  show Calls Try.prog 41 #[.agg #[.int .u8 8, .slice p zs.length cp, .slice i li ci, .slice o lo co, .slice (some ⟨kb, kq, none⟩) ks.length ck, .int .i64 (n : Int)], .slice a len cap] w _
  have hb0 := ((Below.refl w.heap.size w).alloc (Nat.le_refl _) (.cells #[.int .u8 8, .slice p zs.length cp, .slice i li ci, .slice o lo co, .slice (some ⟨kb, kq, none⟩) ks.length ck, .int .i64 (n : Int)] 31)).alloc (by simp) (.cells #[.int .u8 0, .slice none 0 0, .slice none 0 0, .slice none 0 0, .slice none 0 0, .int .i64 0] 31)
  have g2 := (blkA_new 31 w #[.int .u8 8, .slice p zs.length cp, .slice i li ci, .slice o lo co, .slice (some ⟨kb, kq, none⟩) ks.length ck, .int .i64 (n : Int)]).below ((Below.refl _ _).alloc (Nat.le_refl _) (.cells #[.int .u8 0, .slice none 0 0, .slice none 0 0, .slice none 0 0, .slice none 0 0, .int .i64 0] 31))
  have g4 : BlkA 31 (w.heap.size + 1) ((w.alloc (.cells #[.int .u8 8, .slice p zs.length cp, .slice i li ci, .slice o lo co, .slice (some ⟨kb, kq, none⟩) ks.length ck, .int .i64 (n : Int)] 31)).alloc (.cells #[.int .u8 0, .slice none 0 0, .slice none 0 0, .slice none 0 0, .slice none 0 0, .int .i64 0] 31)) #[.int .u8 0, .slice none 0 0, .slice none 0 0, .slice none 0 0, .slice none 0 0, .int .i64 0] := by
    have h3 := blkA_new 31 (w.alloc (.cells #[.int .u8 8, .slice p zs.length cp, .slice i li ci, .slice o lo co, .slice (some ⟨kb, kq, none⟩) ks.length ck, .int .i64 (n : Int)] 31)) #[.int .u8 0, .slice none 0 0, .slice none 0 0, .slice none 0 0, .slice none 0 0, .int .i64 0]
    rw [World.size_alloc] at h3
    exact h3
  have hA0 := hA.below hb0
  have hp0 := hp.below hb0
  have hk0 := hkk.below hb0
  have HB0 := hidden6 hb0
  have a5 := (hb0.cell (block_lt_of_cell hkc)).trans hkc
  have hkI : (0 : Int) < (ks.length : Int) := by omega
  obtain ⟨hlen, hrow⟩ := takes_facts hT
  have hl1 : I.length = 1 := hlen
  have hr0 : (nthL I 0).length = 1 := by have := hrow 0 (by omega); have e : nth (insS 8 zs) 0 = 1 := rfl; omega
  obtain ⟨ab, ao, xb, xo, xc, rfl, a1, a2⟩ := tok_cell (i := 0) (j := 0) hA0.lies (by omega) (by omega)
  rw [hr0] at a1
  have il : len = 1 := by rw [← hA0.size]; exact hl1
  subst il
  have rx := hA0.fits 0 0
  simp only [Nat.add_zero] at a1 a2
  have AD := hidden6 (fun V => plus7_any (nth ks 0) (nth (nthL I 0) 0) V (hkr 0) rx)
  rw [hf] at AD
  generalize fitV (nth ks 0 + nth (nthL I 0) 0) = fv at AD
  have HK1 := hidden6 hk1
  clear hk1
  clear hT hlen hrow hA0 hp0 hk0 hf hl1 hr0
  generalize nth (nthL I 0) 0 = x at *
  generalize nth ks 0 = k0 at *
  clear hA np ni no nk h4 hli hlo hp hi ho hkk
  go_enter Try.func41, Try.ntmps41
  go_upto_region 1 with fail
  generalize (w.alloc (.cells #[.int .u8 8, .slice p zs.length cp, .slice i li ci, .slice o lo co, .slice (some ⟨kb, kq, none⟩) ks.length ck, .int .i64 (n : Int)] 31)).alloc (.cells #[.int .u8 0, .slice none 0 0, .slice none 0 0, .slice none 0 0, .slice none 0 0, .int .i64 0] 31) = W0 at *
  have G2 := hidden6 g2
  have G4 := hidden6 g4
  have L2 : w.heap.size + 1 < W0.heap.size := g4.lt
  have L1 : w.heap.size < W0.heap.size := by omega
  have e0 : W0.cell? ⟨w.heap.size, 0, none⟩ = some (.int .u8 8) := g2.cell rfl
  clear hb0
  have e4 : W0.cell? ⟨w.heap.size, 4, none⟩ = some (.slice (some ⟨kb, kq, none⟩) ks.length ck) := g2.cell rfl
  have e1 : W0.cell? ⟨w.heap.size, 1, none⟩ = some (.slice p zs.length cp) := g2.cell rfl
  have f4 := g2.frozen 4
  clear g2 g4
  go_upto_region 14 with fail
  go_quiet (first | (go_at_call 43; (with_reducible refine (AD.out _).mono ?_); rintro e w' ⟨rfl, rfl⟩; exact ⟨rfl, _, rfl⟩))
  go_upto_region 23 with fail
  have N2 : BlkA 31 w.heap.size (W0.drewN nq) #[.int .u8 8, .slice p zs.length cp, .slice i li ci, .slice o lo co, .slice (some ⟨kb, kq, none⟩) ks.length ck, .int .i64 (n : Int)] := (G2.out.below (drew_world _ _))
  have N4 : Hid (BlkA 31 (w.heap.size + 1) (W0.drewN nq) #[.int .u8 0, .slice none 0 0, .slice none 0 0, .slice none 0 0, .slice none 0 0, .int .i64 0]) := (G4.out.below (drew_world _ _))
  have Q4 : Hid (Below w.heap.size w (W0.drewN nq)) := (HB0.out.trans ((drew_world W0 nq).mono HB0.out.size))
  generalize W0.drewN nq = w4 at *
  have L5 : w.heap.size + 1 < w4.heap.size := N4.out.lt
  have L6 : w.heap.size < w4.heap.size := by omega
  have y0 : w4.cell? ⟨w.heap.size, 0, none⟩ = some (.int .u8 8) := N2.cell rfl
  have y1 : w4.cell? ⟨w.heap.size, 1, none⟩ = some (.slice p zs.length cp) := N2.cell rfl
  have y2 : w4.cell? ⟨w.heap.size, 2, none⟩ = some (.slice i li ci) := N2.cell rfl
  have y3 : w4.cell? ⟨w.heap.size, 3, none⟩ = some (.slice o lo co) := N2.cell rfl
  have y4 : w4.cell? ⟨w.heap.size, 4, none⟩ = some (.slice (some ⟨kb, kq, none⟩) ks.length ck) := N2.cell rfl
  have y5 : w4.cell? ⟨w.heap.size, 5, none⟩ = some (.int .i64 (n : Int)) := N2.cell rfl
  clear N2
  go_wp2_with (refine wpList_store6 _ rfl 31 (.tmp 4) (.tmp 110) rfl rfl size_actor (w.heap.size + 1) 31 _ _ _ _ _ _ _ _ _ _ _ _ _ _ _ _ _ _ _ _ rfl rfl (N4.out) ?_; intro w9 hN9 hU9; have N9 := hidden6 hN9; have U9 := hidden6 hU9; clear hN9 hU9)
  have z0 : w9.cell? ⟨w.heap.size + 1, 0, none⟩ = some (.int .u8 8) := N9.out.cell rfl
  have z1 : w9.cell? ⟨w.heap.size + 1, 1, none⟩ = some (.slice p zs.length cp) := N9.out.cell rfl
  have z2 : w9.cell? ⟨w.heap.size + 1, 2, none⟩ = some (.slice i li ci) := N9.out.cell rfl
  have z3 : w9.cell? ⟨w.heap.size + 1, 3, none⟩ = some (.slice o lo co) := N9.out.cell rfl
  have z4 : w9.cell? ⟨w.heap.size + 1, 4, none⟩ = some (.slice (some ⟨kb, kq, none⟩) ks.length ck) := N9.out.cell rfl
  have z5 : w9.cell? ⟨w.heap.size + 1, 5, none⟩ = some (.int .i64 (n : Int)) := N9.out.cell rfl
  refine bodyPost_ret (v := .tuple #[.agg #[.int .u8 8, .slice p zs.length cp, .slice i li ci, .slice o lo co, .slice (some ⟨kb, kq, none⟩) ks.length ck, .int .i64 (n : Int)], .slice none 0 0, .int .i64 70]) (by simp [results, Try.results41, go_sem, z0, z1, z2, z3, z4, z5]) rfl ?_
  exact ⟨_, _, _, _, _, _, _, _, _, _, _, _, rfl, Q4.out.trans (U9.out.below (Nat.le_succ _) Q4.out.size)⟩
set_option maxRecDepth 100000 in
set_option maxHeartbeats 4000000 in
theorem rsum_yes (N : Nat → Prop) (w : World) (zs ks : List Int) (n : Nat) (v : Value) (a : Option Addr) (len cap : Nat) (I : List (List Int)) (h : IsRN N w 8 zs ks n v) (hA : ArgL w a len I) (hT : takesS 8 zs I = true) (hk1 : ks.length = 1) (hkr : InR ks) (hf : fitB (nth ks 0 + nth (nthL I 0) 0) = true) :
    Calls Try.prog 41 #[v, .slice a len cap] w (DoneF N w 8 zs n (some ([[nth ks 0 + nth (nthL I 0) 0]], [nth ks 0 + nth (nthL I 0) 0]))) := by
  obtain ⟨p, cp, i, ci, o, co, k, ck, rfl, hp, hi, ho, hkk, np, ni, no, nk, h4⟩ := h
  obtain ⟨kb, kq, rfl, hkc⟩ : ∃ kb kq, k = some ⟨kb, kq, none⟩ ∧ w.cell? ⟨kb, kq, none⟩ = some (.int .i64 (nth ks 0)) := by
    rcases hkk with h0 | ⟨b, off, e, hc⟩
    · rw [h0] at hk1; simp at hk1
    · exact ⟨b, off, e, by have := hc 0 (by omega); rwa [Nat.add_zero] at this⟩
  obtain ⟨li, hli⟩ : ∃ q, (insS 8 zs).length = q := ⟨_, rfl⟩
  obtain ⟨lo, hlo⟩ : ∃ q, (outsS 8 zs).length = q := ⟨_, rfl⟩
  have HLI := hidden6 hli
  have HLO := hidden6 hlo
  have NP := hidden6 np
  have NI := hidden6 ni
  have NO := hidden6 no
  have NK := hidden6 nk
  have H4 := hidden6 h4
  have HP00 := hidden6 hp
  have HI00 := hidden6 hi
  have HO00 := hidden6 ho
  have HK00 := hidden6 hkk
  rw [hli, hlo]
  show Calls Try.prog 41 #[.agg #[.int .u8 8, .slice p zs.length cp, .slice i li ci, .slice o lo co, .slice (some ⟨kb, kq, none⟩) ks.length ck, .int .i64 (n : Int)], .slice a len cap] w _
  have hb0 := ((Below.refl w.heap.size w).alloc (Nat.le_refl _) (.cells #[.int .u8 8, .slice p zs.length cp, .slice i li ci, .slice o lo co, .slice (some ⟨kb, kq, none⟩) ks.length ck, .int .i64 (n : Int)] 31)).alloc (by simp) (.cells #[.int .u8 0, .slice none 0 0, .slice none 0 0, .slice none 0 0, .slice none 0 0, .int .i64 0] 31)
  have g2 := (blkA_new 31 w #[.int .u8 8, .slice p zs.length cp, .slice i li ci, .slice o lo co, .slice (some ⟨kb, kq, none⟩) ks.length ck, .int .i64 (n : Int)]).below ((Below.refl _ _).alloc (Nat.le_refl _) (.cells #[.int .u8 0, .slice none 0 0, .slice none 0 0, .slice none 0 0, .slice none 0 0, .int .i64 0] 31))
  have g4 : BlkA 31 (w.heap.size + 1) ((w.alloc (.cells #[.int .u8 8, .slice p zs.length cp, .slice i li ci, .slice o lo co, .slice (some ⟨kb, kq, none⟩) ks.length ck, .int .i64 (n : Int)] 31)).alloc (.cells #[.int .u8 0, .slice none 0 0, .slice none 0 0, .slice none 0 0, .slice none 0 0, .int .i64 0] 31)) #[.int .u8 0, .slice none 0 0, .slice none 0 0, .slice none 0 0, .slice none 0 0, .int .i64 0] := by
    have h3 := blkA_new 31 (w.alloc (.cells #[.int .u8 8, .slice p zs.length cp, .slice i li ci, .slice o lo co, .slice (some ⟨kb, kq, none⟩) ks.length ck, .int .i64 (n : Int)] 31)) #[.int .u8 0, .slice none 0 0, .slice none 0 0, .slice none 0 0, .slice none 0 0, .int .i64 0]
    rw [World.size_alloc] at h3
    exact h3
  have hA0 := hA.below hb0
  have hp0 := hp.below hb0
  have hk0 := hkk.below hb0
  have HB0 := hidden6 hb0
  have a5 := (hb0.cell (block_lt_of_cell hkc)).trans hkc
  have hkI : (0 : Int) < (ks.length : Int) := by omega
  obtain ⟨hlen, hrow⟩ := takes_facts hT
  have hl1 : I.length = 1 := hlen
  have hr0 : (nthL I 0).length = 1 := by have := hrow 0 (by omega); have e : nth (insS 8 zs) 0 = 1 := rfl; omega
  obtain ⟨ab, ao, xb, xo, xc, rfl, a1, a2⟩ := tok_cell (i := 0) (j := 0) hA0.lies (by omega) (by omega)
  rw [hr0] at a1
  have il : len = 1 := by rw [← hA0.size]; exact hl1
  subst il
  have rx := hA0.fits 0 0
  simp only [Nat.add_zero] at a1 a2
  have AD := hidden6 (fun V => plus7_any (nth ks 0) (nth (nthL I 0) 0) V (hkr 0) rx)
  rw [hf] at AD
  rw [fitV_yes (fitB_true.1 hf)] at AD
  have HK1 := hidden6 hk1
  clear hk1
  clear hT hlen hrow hA0 hp0 hk0 hf hl1 hr0
  generalize nth (nthL I 0) 0 = x at *
  generalize nth ks 0 = k0 at *
  generalize hy0 : k0 + x = y at *
  clear hA np ni no nk h4 hli hlo hp hi ho hkk
  go_enter Try.func41, Try.ntmps41
  go_upto_region 1 with fail
  generalize (w.alloc (.cells #[.int .u8 8, .slice p zs.length cp, .slice i li ci, .slice o lo co, .slice (some ⟨kb, kq, none⟩) ks.length ck, .int .i64 (n : Int)] 31)).alloc (.cells #[.int .u8 0, .slice none 0 0, .slice none 0 0, .slice none 0 0, .slice none 0 0, .int .i64 0] 31) = W0 at *
  have G2 := hidden6 g2
  have G4 := hidden6 g4
  have L2 : w.heap.size + 1 < W0.heap.size := g4.lt
  have L1 : w.heap.size < W0.heap.size := by omega
  have e0 : W0.cell? ⟨w.heap.size, 0, none⟩ = some (.int .u8 8) := g2.cell rfl
  clear hb0
  have e4 : W0.cell? ⟨w.heap.size, 4, none⟩ = some (.slice (some ⟨kb, kq, none⟩) ks.length ck) := g2.cell rfl
  have e1 : W0.cell? ⟨w.heap.size, 1, none⟩ = some (.slice p zs.length cp) := g2.cell rfl
  have f4 := g2.frozen 4
  clear g2 g4
  go_upto_region 14 with fail
  go_quiet (first | (go_at_call 43; (with_reducible refine (AD.out _).mono ?_); rintro e w' ⟨rfl, rfl⟩; exact ⟨rfl, _, rfl⟩))
  have bb : Below W0.heap.size W0 ((W0.drewN nq).alloc (.cells #[.int .i64 y] 3)) := (drew_world W0 nq).alloc (drew_world W0 nq).size _
  have e4b : ((W0.drewN nq).alloc (.cells #[.int .i64 y] 3)).cell? ⟨w.heap.size, 4, none⟩ = some (.slice (some ⟨kb, kq, none⟩) ks.length ck) := (G2.out.below bb).cell rfl
  have f4b := (G2.out.below bb).frozen 4
  go_upto_region 23 with fail
  have N2 : BlkA 31 w.heap.size (((W0.drewN nq).alloc (.cells #[.int .i64 y] 3)).setCell ⟨w.heap.size, 4, none⟩ (.slice (some ⟨W0.heap.size, 0, none⟩) 1 1)) #[.int .u8 8, .slice p zs.length cp, .slice i li ci, .slice o lo co, .slice (some ⟨W0.heap.size, 0, none⟩) 1 1, .int .i64 (n : Int)] := (G2.out.below bb).set 4 (.slice (some ⟨W0.heap.size, 0, none⟩) 1 1)
  have N4 : Hid (BlkA 31 (w.heap.size + 1) (((W0.drewN nq).alloc (.cells #[.int .i64 y] 3)).setCell ⟨w.heap.size, 4, none⟩ (.slice (some ⟨W0.heap.size, 0, none⟩) 1 1)) #[.int .u8 0, .slice none 0 0, .slice none 0 0, .slice none 0 0, .slice none 0 0, .int .i64 0]) := (G4.out.below bb).keep (Below.heap_setCell _ _ _ _ (by show w.heap.size + 1 ≠ w.heap.size; omega))
  have Q4 : Hid (Below w.heap.size w (((W0.drewN nq).alloc (.cells #[.int .i64 y] 3)).setCell ⟨w.heap.size, 4, none⟩ (.slice (some ⟨W0.heap.size, 0, none⟩) 1 1))) := ((HB0.out.trans (bb.mono HB0.out.size)).setCell (p := ⟨w.heap.size, 4, none⟩) (Nat.le_refl _) _)
  have SK : Hid (CapR W0.heap.size (((W0.drewN nq).alloc (.cells #[.int .i64 y] 3)).setCell ⟨w.heap.size, 4, none⟩ (.slice (some ⟨W0.heap.size, 0, none⟩) 1 1)) (some ⟨W0.heap.size, 0, none⟩) 1 [y]) := by
    have h1 := capR_one (W0.drewN nq) y
    exact h1.setOther (ad := ⟨w.heap.size, 4, none⟩) (fun x hx => by cases hx; show W0.heap.size ≠ w.heap.size; omega) _
  clear bb
  generalize ((W0.drewN nq).alloc (.cells #[.int .i64 y] 3)).setCell ⟨w.heap.size, 4, none⟩ (.slice (some ⟨W0.heap.size, 0, none⟩) 1 1) = w4 at *
  have L5 : w.heap.size + 1 < w4.heap.size := N4.out.lt
  have L6 : w.heap.size < w4.heap.size := by omega
  have y0 : w4.cell? ⟨w.heap.size, 0, none⟩ = some (.int .u8 8) := N2.cell rfl
  have y1 : w4.cell? ⟨w.heap.size, 1, none⟩ = some (.slice p zs.length cp) := N2.cell rfl
  have y2 : w4.cell? ⟨w.heap.size, 2, none⟩ = some (.slice i li ci) := N2.cell rfl
  have y3 : w4.cell? ⟨w.heap.size, 3, none⟩ = some (.slice o lo co) := N2.cell rfl
  have y4 : w4.cell? ⟨w.heap.size, 4, none⟩ = some (.slice (some ⟨W0.heap.size, 0, none⟩) 1 1) := N2.cell rfl
  have y5 : w4.cell? ⟨w.heap.size, 5, none⟩ = some (.int .i64 (n : Int)) := N2.cell rfl
  clear N2
  go_wp2_with (refine wpList_store6 _ rfl 31 (.tmp 4) (.tmp 111) rfl rfl size_actor (w.heap.size + 1) 31 _ _ _ _ _ _ _ _ _ _ _ _ _ _ _ _ _ _ _ _ rfl rfl ((N4.out.below ((Below.refl _ _).alloc (Nat.le_refl _) _)).below ((Below.refl _ _).alloc (Nat.le_refl _) _)) ?_; intro w9 hN9 hU9; have N9 := hidden6 hN9; have U9 := hidden6 hU9; clear hN9 hU9)
  have z0 : w9.cell? ⟨w.heap.size + 1, 0, none⟩ = some (.int .u8 8) := N9.out.cell rfl
  have z1 : w9.cell? ⟨w.heap.size + 1, 1, none⟩ = some (.slice p zs.length cp) := N9.out.cell rfl
  have z2 : w9.cell? ⟨w.heap.size + 1, 2, none⟩ = some (.slice i li ci) := N9.out.cell rfl
  have z3 : w9.cell? ⟨w.heap.size + 1, 3, none⟩ = some (.slice o lo co) := N9.out.cell rfl
  have z4 : w9.cell? ⟨w.heap.size + 1, 4, none⟩ = some (.slice (some ⟨W0.heap.size, 0, none⟩) 1 1) := N9.out.cell rfl
  have z5 : w9.cell? ⟨w.heap.size + 1, 5, none⟩ = some (.int .i64 (n : Int)) := N9.out.cell rfl
  refine bodyPost_ret (v := .tuple #[.agg #[.int .u8 8, .slice p zs.length cp, .slice i li ci, .slice o lo co, .slice (some ⟨W0.heap.size, 0, none⟩) 1 1, .int .i64 (n : Int)], .slice (some ⟨w4.heap.size + 1, 0, none⟩) 1 1, .int .i64 0]) (by simp [results, Try.results41, go_sem, z0, z1, z2, z3, z4, z5]) rfl ?_
  have q5 := (Q4.out.alloc Q4.out.size (.cells #[.int .i64 y] 3)).alloc (Q4.out.alloc Q4.out.size (.cells #[.int .i64 y] 3)).size (.cells #[.slice (some ⟨w4.heap.size, 0, none⟩) 1 1] 22)
  have q9 := q5.trans (U9.out.below (Nat.le_succ _) q5.size)
  have ko := (one_out U9.out (by omega)).mono (show w.heap.size ≤ w4.heap.size by omega)
  have S4 := hidden6 (((SK.out.later ((Below.refl _ _).alloc (Nat.le_refl _) (.cells #[.int .i64 y] 3))).later ((Below.refl _ _).alloc (Nat.le_refl _) (.cells #[.slice (some ⟨w4.heap.size, 0, none⟩) 1 1] 22))).but U9.out (by omega))
  exact ⟨_, _, _, _, _, rfl, ko, ⟨p, cp, i, ci, o, co, (some ⟨W0.heap.size, 0, none⟩), 1, by rw [HLI.out, HLO.out]; rfl, HP00.out.below q9, HI00.out.below q9, HO00.out.below q9, S4.out.at, fun x hx => .inl (NP.out x hx), fun x hx => .inl (NI.out x hx), fun x hx => .inl (NO.out x hx), fun x hx => .inr ⟨by have := (S4.out.lt x hx).1; omega, (S4.out.lt x hx).2⟩, fun e => by cases e⟩, q9⟩
set_option maxRecDepth 100000 in
set_option maxHeartbeats 4000000 in
theorem rtick_no (N : Nat → Prop) (w : World) (zs ks : List Int) (n : Nat) (v : Value) (a : Option Addr) (len cap : Nat) (I : List (List Int)) (h : IsRN N w 10 zs ks n v) (hA : ArgL w a len I) (hT : takesS 10 zs I = true) (hk1 : ks.length = 1) (hkr : InR ks) (hz2 : zs.length = 2) (hzr : InR zs) (hf : fitB (nth ks 0 + nth zs 1) = false) :
    Calls Try.prog 41 #[v, .slice a len cap] w (DoneF N w 10 zs n none) := by
  obtain ⟨p, cp, i, ci, o, co, k, ck, rfl, hp, hi, ho, hkk, np, ni, no, nk, h4⟩ := h
  obtain ⟨kb, kq, rfl, hkc⟩ : ∃ kb kq, k = some ⟨kb, kq, none⟩ ∧ w.cell? ⟨kb, kq, none⟩ = some (.int .i64 (nth ks 0)) := by
    rcases hkk with h0 | ⟨b, off, e, hc⟩
    · rw [h0] at hk1; simp at hk1
    · exact ⟨b, off, e, by have := hc 0 (by omega); rwa [Nat.add_zero] at this⟩
  obtain ⟨pb, po, rfl, a2⟩ : ∃ pb po, p = some ⟨pb, po, none⟩ ∧ w.cell? ⟨pb, po + 1, none⟩ = some (.int .i64 (nth zs 1)) := by
    rcases hp with h0 | ⟨b, off, e, hc⟩
    · rw [h0] at hz2; simp at hz2
    · exact ⟨b, off, e, hc 1 (by omega)⟩
  obtain ⟨li, hli⟩ : ∃ q, (insS 10 zs).length = q := ⟨_, rfl⟩
  obtain ⟨lo, hlo⟩ : ∃ q, (outsS 10 zs).length = q := ⟨_, rfl⟩
  have HLI := hidden6 hli
  have HLO := hidden6 hlo
  have NP := hidden6 np
  have NI := hidden6 ni
  have NO := hidden6 no
  have NK := hidden6 nk
  have H4 := hidden6 h4
  have HP00 := hidden6 hp
  have HI00 := hidden6 hi
  have HO00 := hidden6 ho
  have HK00 := hidden6 hkk
  rw [hli, hlo]
  show Calls Try.prog 41 #[.agg #[.int .u8 10, .slice (some ⟨pb, po, none⟩) zs.length cp, .slice i li ci, .slice o lo co, .slice (some ⟨kb, kq, none⟩) ks.length ck, .int .i64 (n : Int)], .slice a len cap] w _
  have hb0 := ((Below.refl w.heap.size w).alloc (Nat.le_refl _) (.cells #[.int .u8 10, .slice (some ⟨pb, po, none⟩) zs.length cp, .slice i li ci, .slice o lo co, .slice (some ⟨kb, kq, none⟩) ks.length ck, .int .i64 (n : Int)] 31)).alloc (by simp) (.cells #[.int .u8 0, .slice none 0 0, .slice none 0 0, .slice none 0 0, .slice none 0 0, .int .i64 0] 31)
  have g2 := (blkA_new 31 w #[.int .u8 10, .slice (some ⟨pb, po, none⟩) zs.length cp, .slice i li ci, .slice o lo co, .slice (some ⟨kb, kq, none⟩) ks.length ck, .int .i64 (n : Int)]).below ((Below.refl _ _).alloc (Nat.le_refl _) (.cells #[.int .u8 0, .slice none 0 0, .slice none 0 0, .slice none 0 0, .slice none 0 0, .int .i64 0] 31))
  have g4 : BlkA 31 (w.heap.size + 1) ((w.alloc (.cells #[.int .u8 10, .slice (some ⟨pb, po, none⟩) zs.length cp, .slice i li ci, .slice o lo co, .slice (some ⟨kb, kq, none⟩) ks.length ck, .int .i64 (n : Int)] 31)).alloc (.cells #[.int .u8 0, .slice none 0 0, .slice none 0 0, .slice none 0 0, .slice none 0 0, .int .i64 0] 31)) #[.int .u8 0, .slice none 0 0, .slice none 0 0, .slice none 0 0, .slice none 0 0, .int .i64 0] := by
    have h3 := blkA_new 31 (w.alloc (.cells #[.int .u8 10, .slice (some ⟨pb, po, none⟩) zs.length cp, .slice i li ci, .slice o lo co, .slice (some ⟨kb, kq, none⟩) ks.length ck, .int .i64 (n : Int)] 31)) #[.int .u8 0, .slice none 0 0, .slice none 0 0, .slice none 0 0, .slice none 0 0, .int .i64 0]
    rw [World.size_alloc] at h3
    exact h3
  have hA0 := hA.below hb0
  have hp0 := hp.below hb0
  have hk0 := hkk.below hb0
  have HB0 := hidden6 hb0
  have a5 := (hb0.cell (block_lt_of_cell hkc)).trans hkc
  have a6 := (hb0.cell (block_lt_of_cell a2)).trans a2
  have hkI : (0 : Int) < (ks.length : Int) := by omega
  obtain ⟨hlen, hrow⟩ := takes_facts hT
  have rx := hzr 1
  have hzI : (1 : Int) < (zs.length : Int) := by omega
  have AD := hidden6 (fun V => plus7_any (nth ks 0) (nth zs 1) V (hkr 0) rx)
  rw [hf] at AD
  generalize fitV (nth ks 0 + nth zs 1) = fv at AD
  have HK1 := hidden6 hk1
  clear hk1
  clear hT hlen hrow hA0 hp0 hk0 hf hz2
  generalize nth zs 1 = x at *
  generalize nth ks 0 = k0 at *
  clear hA np ni no nk h4 hli hlo hp hi ho hkk
  go_enter Try.func41, Try.ntmps41
  go_upto_region 1 with fail
  generalize (w.alloc (.cells #[.int .u8 10, .slice (some ⟨pb, po, none⟩) zs.length cp, .slice i li ci, .slice o lo co, .slice (some ⟨kb, kq, none⟩) ks.length ck, .int .i64 (n : Int)] 31)).alloc (.cells #[.int .u8 0, .slice none 0 0, .slice none 0 0, .slice none 0 0, .slice none 0 0, .int .i64 0] 31) = W0 at *
  have G2 := hidden6 g2
  have G4 := hidden6 g4
  have L2 : w.heap.size + 1 < W0.heap.size := g4.lt
  have L1 : w.heap.size < W0.heap.size := by omega
  have e0 : W0.cell? ⟨w.heap.size, 0, none⟩ = some (.int .u8 10) := g2.cell rfl
  clear hb0
  have e4 : W0.cell? ⟨w.heap.size, 4, none⟩ = some (.slice (some ⟨kb, kq, none⟩) ks.length ck) := g2.cell rfl
  have e1 : W0.cell? ⟨w.heap.size, 1, none⟩ = some (.slice (some ⟨pb, po, none⟩) zs.length cp) := g2.cell rfl
  have f4 := g2.frozen 4
  clear g2 g4
  go_upto_region 23 with (go_at_call 43; (with_reducible refine (AD.out _).mono ?_); rintro e w1 ⟨rfl, hw⟩; rw [hw]; clear hw; clear w1)
  have N2 : BlkA 31 w.heap.size (W0) #[.int .u8 10, .slice (some ⟨pb, po, none⟩) zs.length cp, .slice i li ci, .slice o lo co, .slice (some ⟨kb, kq, none⟩) ks.length ck, .int .i64 (n : Int)] := G2.out
  have N4 : Hid (BlkA 31 (w.heap.size + 1) (W0) #[.int .u8 0, .slice none 0 0, .slice none 0 0, .slice none 0 0, .slice none 0 0, .int .i64 0]) := G4.out
  have Q4 : Hid (Below w.heap.size w (W0)) := HB0.out
  generalize W0 = w4 at *
  have L5 : w.heap.size + 1 < w4.heap.size := N4.out.lt
  have L6 : w.heap.size < w4.heap.size := by omega
  have y0 : w4.cell? ⟨w.heap.size, 0, none⟩ = some (.int .u8 10) := N2.cell rfl
  have y1 : w4.cell? ⟨w.heap.size, 1, none⟩ = some (.slice (some ⟨pb, po, none⟩) zs.length cp) := N2.cell rfl
  have y2 : w4.cell? ⟨w.heap.size, 2, none⟩ = some (.slice i li ci) := N2.cell rfl
  have y3 : w4.cell? ⟨w.heap.size, 3, none⟩ = some (.slice o lo co) := N2.cell rfl
  have y4 : w4.cell? ⟨w.heap.size, 4, none⟩ = some (.slice (some ⟨kb, kq, none⟩) ks.length ck) := N2.cell rfl
  have y5 : w4.cell? ⟨w.heap.size, 5, none⟩ = some (.int .i64 (n : Int)) := N2.cell rfl
  clear N2
  go_wp2_with (refine wpList_store6 _ rfl 31 (.tmp 4) (.tmp 110) rfl rfl size_actor (w.heap.size + 1) 31 _ _ _ _ _ _ _ _ _ _ _ _ _ _ _ _ _ _ _ _ rfl rfl (N4.out) ?_; intro w9 hN9 hU9; have N9 := hidden6 hN9; have U9 := hidden6 hU9; clear hN9 hU9)
  have z0 : w9.cell? ⟨w.heap.size + 1, 0, none⟩ = some (.int .u8 10) := N9.out.cell rfl
  have z1 : w9.cell? ⟨w.heap.size + 1, 1, none⟩ = some (.slice (some ⟨pb, po, none⟩) zs.length cp) := N9.out.cell rfl
  have z2 : w9.cell? ⟨w.heap.size + 1, 2, none⟩ = some (.slice i li ci) := N9.out.cell rfl
  have z3 : w9.cell? ⟨w.heap.size + 1, 3, none⟩ = some (.slice o lo co) := N9.out.cell rfl
  have z4 : w9.cell? ⟨w.heap.size + 1, 4, none⟩ = some (.slice (some ⟨kb, kq, none⟩) ks.length ck) := N9.out.cell rfl
  have z5 : w9.cell? ⟨w.heap.size + 1, 5, none⟩ = some (.int .i64 (n : Int)) := N9.out.cell rfl
  refine bodyPost_ret (v := .tuple #[.agg #[.int .u8 10, .slice (some ⟨pb, po, none⟩) zs.length cp, .slice i li ci, .slice o lo co, .slice (some ⟨kb, kq, none⟩) ks.length ck, .int .i64 (n : Int)], .slice none 0 0, .int .i64 70]) (by simp [results, Try.results41, go_sem, z0, z1, z2, z3, z4, z5]) rfl ?_
  exact ⟨_, _, _, _, _, _, _, _, _, _, _, _, rfl, Q4.out.trans (U9.out.below (Nat.le_succ _) Q4.out.size)⟩
set_option maxRecDepth 100000 in
set_option maxHeartbeats 4000000 in
theorem rtick_yes (N : Nat → Prop) (w : World) (zs ks : List Int) (n : Nat) (v : Value) (a : Option Addr) (len cap : Nat) (I : List (List Int)) (h : IsRN N w 10 zs ks n v) (hA : ArgL w a len I) (hT : takesS 10 zs I = true) (hk1 : ks.length = 1) (hkr : InR ks) (hz2 : zs.length = 2) (hzr : InR zs) (hf : fitB (nth ks 0 + nth zs 1) = true) :
    Calls Try.prog 41 #[v, .slice a len cap] w (DoneF N w 10 zs n (some ([[nth ks 0]], [nth ks 0 + nth zs 1]))) := by
  obtain ⟨p, cp, i, ci, o, co, k, ck, rfl, hp, hi, ho, hkk, np, ni, no, nk, h4⟩ := h
  obtain ⟨kb, kq, rfl, hkc⟩ : ∃ kb kq, k = some ⟨kb, kq, none⟩ ∧ w.cell? ⟨kb, kq, none⟩ = some (.int .i64 (nth ks 0)) := by
    rcases hkk with h0 | ⟨b, off, e, hc⟩
    · rw [h0] at hk1; simp at hk1
    · exact ⟨b, off, e, by have := hc 0 (by omega); rwa [Nat.add_zero] at this⟩
  obtain ⟨pb, po, rfl, a2⟩ : ∃ pb po, p = some ⟨pb, po, none⟩ ∧ w.cell? ⟨pb, po + 1, none⟩ = some (.int .i64 (nth zs 1)) := by
    rcases hp with h0 | ⟨b, off, e, hc⟩
    · rw [h0] at hz2; simp at hz2
    · exact ⟨b, off, e, hc 1 (by omega)⟩
  obtain ⟨li, hli⟩ : ∃ q, (insS 10 zs).length = q := ⟨_, rfl⟩
  obtain ⟨lo, hlo⟩ : ∃ q, (outsS 10 zs).length = q := ⟨_, rfl⟩
  have HLI := hidden6 hli
  have HLO := hidden6 hlo
  have NP := hidden6 np
  have NI := hidden6 ni
  have NO := hidden6 no
  have NK := hidden6 nk
  have H4 := hidden6 h4
  have HP00 := hidden6 hp
  have HI00 := hidden6 hi
  have HO00 := hidden6 ho
  have HK00 := hidden6 hkk
  rw [hli, hlo]
  show Calls Try.prog 41 #[.agg #[.int .u8 10, .slice (some ⟨pb, po, none⟩) zs.length cp, .slice i li ci, .slice o lo co, .slice (some ⟨kb, kq, none⟩) ks.length ck, .int .i64 (n : Int)], .slice a len cap] w _
  have hb0 := ((Below.refl w.heap.size w).alloc (Nat.le_refl _) (.cells #[.int .u8 10, .slice (some ⟨pb, po, none⟩) zs.length cp, .slice i li ci, .slice o lo co, .slice (some ⟨kb, kq, none⟩) ks.length ck, .int .i64 (n : Int)] 31)).alloc (by simp) (.cells #[.int .u8 0, .slice none 0 0, .slice none 0 0, .slice none 0 0, .slice none 0 0, .int .i64 0] 31)
  have g2 := (blkA_new 31 w #[.int .u8 10, .slice (some ⟨pb, po, none⟩) zs.length cp, .slice i li ci, .slice o lo co, .slice (some ⟨kb, kq, none⟩) ks.length ck, .int .i64 (n : Int)]).below ((Below.refl _ _).alloc (Nat.le_refl _) (.cells #[.int .u8 0, .slice none 0 0, .slice none 0 0, .slice none 0 0, .slice none 0 0, .int .i64 0] 31))
  have g4 : BlkA 31 (w.heap.size + 1) ((w.alloc (.cells #[.int .u8 10, .slice (some ⟨pb, po, none⟩) zs.length cp, .slice i li ci, .slice o lo co, .slice (some ⟨kb, kq, none⟩) ks.length ck, .int .i64 (n : Int)] 31)).alloc (.cells #[.int .u8 0, .slice none 0 0, .slice none 0 0, .slice none 0 0, .slice none 0 0, .int .i64 0] 31)) #[.int .u8 0, .slice none 0 0, .slice none 0 0, .slice none 0 0, .slice none 0 0, .int .i64 0] := by
    have h3 := blkA_new 31 (w.alloc (.cells #[.int .u8 10, .slice (some ⟨pb, po, none⟩) zs.length cp, .slice i li ci, .slice o lo co, .slice (some ⟨kb, kq, none⟩) ks.length ck, .int .i64 (n : Int)] 31)) #[.int .u8 0, .slice none 0 0, .slice none 0 0, .slice none 0 0, .slice none 0 0, .int .i64 0]
    rw [World.size_alloc] at h3
    exact h3
  have hA0 := hA.below hb0
  have hp0 := hp.below hb0
  have hk0 := hkk.below hb0
  have HB0 := hidden6 hb0
  have a5 := (hb0.cell (block_lt_of_cell hkc)).trans hkc
  have a6 := (hb0.cell (block_lt_of_cell a2)).trans a2
  have hkI : (0 : Int) < (ks.length : Int) := by omega
  obtain ⟨hlen, hrow⟩ := takes_facts hT
  have rx := hzr 1
  have hzI : (1 : Int) < (zs.length : Int) := by omega
  have AD := hidden6 (fun V => plus7_any (nth ks 0) (nth zs 1) V (hkr 0) rx)
  rw [hf] at AD
  rw [fitV_yes (fitB_true.1 hf)] at AD
  have HK1 := hidden6 hk1
  clear hk1
  clear hT hlen hrow hA0 hp0 hk0 hf hz2
  generalize nth zs 1 = x at *
  generalize nth ks 0 = k0 at *
  generalize hy0 : k0 + x = y at *
  clear hA np ni no nk h4 hli hlo hp hi ho hkk
  go_enter Try.func41, Try.ntmps41
  go_upto_region 1 with fail
  generalize (w.alloc (.cells #[.int .u8 10, .slice (some ⟨pb, po, none⟩) zs.length cp, .slice i li ci, .slice o lo co, .slice (some ⟨kb, kq, none⟩) ks.length ck, .int .i64 (n : Int)] 31)).alloc (.cells #[.int .u8 0, .slice none 0 0, .slice none 0 0, .slice none 0 0, .slice none 0 0, .int .i64 0] 31) = W0 at *
  have G2 := hidden6 g2
  have G4 := hidden6 g4
  have L2 : w.heap.size + 1 < W0.heap.size := g4.lt
  have L1 : w.heap.size < W0.heap.size := by omega
  have e0 : W0.cell? ⟨w.heap.size, 0, none⟩ = some (.int .u8 10) := g2.cell rfl
  clear hb0
  have e4 : W0.cell? ⟨w.heap.size, 4, none⟩ = some (.slice (some ⟨kb, kq, none⟩) ks.length ck) := g2.cell rfl
  have e1 : W0.cell? ⟨w.heap.size, 1, none⟩ = some (.slice (some ⟨pb, po, none⟩) zs.length cp) := g2.cell rfl
  have f4 := g2.frozen 4
  clear g2 g4
  have bb : Below W0.heap.size W0 ((W0).alloc (.cells #[.int .i64 y] 3)) := (Below.refl _ _).alloc (Nat.le_refl _) _
  have e4b : ((W0).alloc (.cells #[.int .i64 y] 3)).cell? ⟨w.heap.size, 4, none⟩ = some (.slice (some ⟨kb, kq, none⟩) ks.length ck) := (G2.out.below bb).cell rfl
  have f4b := (G2.out.below bb).frozen 4
  go_upto_region 23 with (go_at_call 43; (with_reducible refine (AD.out _).mono ?_); rintro e w1 ⟨rfl, hw⟩; rw [hw]; clear hw; clear w1)
  have N2 : BlkA 31 w.heap.size ((W0.setCell ⟨w.heap.size, 4, none⟩ (.slice (some ⟨W0.heap.size, 0, none⟩) 1 1)).alloc (.cells #[.int .i64 y] 3)) #[.int .u8 10, .slice (some ⟨pb, po, none⟩) zs.length cp, .slice i li ci, .slice o lo co, .slice (some ⟨W0.heap.size, 0, none⟩) 1 1, .int .i64 (n : Int)] := (G2.out.set 4 (.slice (some ⟨W0.heap.size, 0, none⟩) 1 1)).below ((Below.refl _ _).alloc (Nat.le_refl _) _)
  have N4 : Hid (BlkA 31 (w.heap.size + 1) ((W0.setCell ⟨w.heap.size, 4, none⟩ (.slice (some ⟨W0.heap.size, 0, none⟩) 1 1)).alloc (.cells #[.int .i64 y] 3)) #[.int .u8 0, .slice none 0 0, .slice none 0 0, .slice none 0 0, .slice none 0 0, .int .i64 0]) := (G4.out.keep (Below.heap_setCell _ _ _ _ (by show w.heap.size + 1 ≠ w.heap.size; omega))).below ((Below.refl _ _).alloc (Nat.le_refl _) _)
  have Q4 : Hid (Below w.heap.size w ((W0.setCell ⟨w.heap.size, 4, none⟩ (.slice (some ⟨W0.heap.size, 0, none⟩) 1 1)).alloc (.cells #[.int .i64 y] 3))) := (HB0.out.setCell (p := ⟨w.heap.size, 4, none⟩) (Nat.le_refl _) _).alloc (HB0.out.setCell (p := ⟨w.heap.size, 4, none⟩) (Nat.le_refl _) (.slice (some ⟨W0.heap.size, 0, none⟩) 1 1)).size _
  have SK : Hid (CapR W0.heap.size ((W0.setCell ⟨w.heap.size, 4, none⟩ (.slice (some ⟨W0.heap.size, 0, none⟩) 1 1)).alloc (.cells #[.int .i64 y] 3)) (some ⟨W0.heap.size, 0, none⟩) 1 [y]) := by
    have h1 := capR_one (W0.setCell ⟨w.heap.size, 4, none⟩ (.slice (some ⟨W0.heap.size, 0, none⟩) 1 1)) y
    rw [World.size_setCell] at h1
    exact h1
  clear bb
  generalize (W0.setCell ⟨w.heap.size, 4, none⟩ (.slice (some ⟨W0.heap.size, 0, none⟩) 1 1)).alloc (.cells #[.int .i64 y] 3) = w4 at *
  have L5 : w.heap.size + 1 < w4.heap.size := N4.out.lt
  have L6 : w.heap.size < w4.heap.size := by omega
  have y0 : w4.cell? ⟨w.heap.size, 0, none⟩ = some (.int .u8 10) := N2.cell rfl
  have y1 : w4.cell? ⟨w.heap.size, 1, none⟩ = some (.slice (some ⟨pb, po, none⟩) zs.length cp) := N2.cell rfl
  have y2 : w4.cell? ⟨w.heap.size, 2, none⟩ = some (.slice i li ci) := N2.cell rfl
  have y3 : w4.cell? ⟨w.heap.size, 3, none⟩ = some (.slice o lo co) := N2.cell rfl
  have y4 : w4.cell? ⟨w.heap.size, 4, none⟩ = some (.slice (some ⟨W0.heap.size, 0, none⟩) 1 1) := N2.cell rfl
  have y5 : w4.cell? ⟨w.heap.size, 5, none⟩ = some (.int .i64 (n : Int)) := N2.cell rfl
  clear N2
  go_wp2_with (refine wpList_store6 _ rfl 31 (.tmp 4) (.tmp 111) rfl rfl size_actor (w.heap.size + 1) 31 _ _ _ _ _ _ _ _ _ _ _ _ _ _ _ _ _ _ _ _ rfl rfl ((N4.out.below ((Below.refl _ _).alloc (Nat.le_refl _) _)).below ((Below.refl _ _).alloc (Nat.le_refl _) _)) ?_; intro w9 hN9 hU9; have N9 := hidden6 hN9; have U9 := hidden6 hU9; clear hN9 hU9)
  have z0 : w9.cell? ⟨w.heap.size + 1, 0, none⟩ = some (.int .u8 10) := N9.out.cell rfl
  have z1 : w9.cell? ⟨w.heap.size + 1, 1, none⟩ = some (.slice (some ⟨pb, po, none⟩) zs.length cp) := N9.out.cell rfl
  have z2 : w9.cell? ⟨w.heap.size + 1, 2, none⟩ = some (.slice i li ci) := N9.out.cell rfl
  have z3 : w9.cell? ⟨w.heap.size + 1, 3, none⟩ = some (.slice o lo co) := N9.out.cell rfl
  have z4 : w9.cell? ⟨w.heap.size + 1, 4, none⟩ = some (.slice (some ⟨W0.heap.size, 0, none⟩) 1 1) := N9.out.cell rfl
  have z5 : w9.cell? ⟨w.heap.size + 1, 5, none⟩ = some (.int .i64 (n : Int)) := N9.out.cell rfl
  refine bodyPost_ret (v := .tuple #[.agg #[.int .u8 10, .slice (some ⟨pb, po, none⟩) zs.length cp, .slice i li ci, .slice o lo co, .slice (some ⟨W0.heap.size, 0, none⟩) 1 1, .int .i64 (n : Int)], .slice (some ⟨w4.heap.size + 1, 0, none⟩) 1 1, .int .i64 0]) (by simp [results, Try.results41, go_sem, z0, z1, z2, z3, z4, z5]) rfl ?_
  have q5 := (Q4.out.alloc Q4.out.size (.cells #[.int .i64 k0] 3)).alloc (Q4.out.alloc Q4.out.size (.cells #[.int .i64 k0] 3)).size (.cells #[.slice (some ⟨w4.heap.size, 0, none⟩) 1 1] 22)
  have q9 := q5.trans (U9.out.below (Nat.le_succ _) q5.size)
  have ko := (one_out U9.out (by omega)).mono (show w.heap.size ≤ w4.heap.size by omega)
  have S4 := hidden6 (((SK.out.later ((Below.refl _ _).alloc (Nat.le_refl _) (.cells #[.int .i64 k0] 3))).later ((Below.refl _ _).alloc (Nat.le_refl _) (.cells #[.slice (some ⟨w4.heap.size, 0, none⟩) 1 1] 22))).but U9.out (by omega))
  exact ⟨_, _, _, _, _, rfl, ko, ⟨some ⟨pb, po, none⟩, cp, i, ci, o, co, (some ⟨W0.heap.size, 0, none⟩), 1, by rw [HLI.out, HLO.out]; rfl, HP00.out.below q9, HI00.out.below q9, HO00.out.below q9, S4.out.at, fun x hx => .inl (NP.out x hx), fun x hx => .inl (NI.out x hx), fun x hx => .inl (NO.out x hx), fun x hx => .inr ⟨by have := (S4.out.lt x hx).1; omega, (S4.out.lt x hx).2⟩, fun e => by cases e⟩, q9⟩
theorem done_some {N : Nat → Prop} {w W0 w1 w9 : World} {t : Nat} {zs : List Int} {n : Nat} {O : List (List Int)} {ks' : List Int} {v : Value} {x : Option Addr} {A : Nat → Option Addr} {C : Nat → Nat} {b : Nat} (hNl : ∀ k, N k → k < w.heap.size) (hb0 : Below w.heap.size w W0) (hO : OutT W0.heap.size w1 A C x O) (hI : IsRN (Wid N W0 w1) w1 t zs ks' n v) (h1 : Below W0.heap.size W0 w1) (hU : But b w1 w9) (hbw : w.heap.size ≤ b) (hb : b < W0.heap.size) :
    OutT w.heap.size w9 A C x O ∧ IsRN (Wid N w w9) w9 t zs ks' n v ∧ Below w.heap.size w w9 := by
  have q1 := hb0.trans (h1.mono hb0.size)
  have q9 := q1.trans (hU.below hbw q1.size)
  have hs0 := hb0.size
  have hs1 := h1.size
  have hs9 := hU.size
  refine ⟨(hO.but hU hb).mono hb0.size, (hI.keeps fun k hk => ?_).wider fun k hk => ?_, q9⟩
  · rcases hk with hk | ⟨h2, h3⟩
    · have := hNl k hk
      exact hU.block k (by omega) (by omega)
    · exact hU.block k h3 (by omega)
  · rcases hk with hk | ⟨h2, h3⟩
    · exact .inl hk
    · exact .inr ⟨by omega, by omega⟩
theorem done_none {w W0 w1 w9 : World} {b : Nat} (hb0 : Below w.heap.size w W0) (h1 : Below W0.heap.size W0 w1) (hU : But b w1 w9) (hbw : w.heap.size ≤ b) : Below w.heap.size w w9 := by
  have q1 := hb0.trans (h1.mono hb0.size)
  exact q1.trans (hU.below hbw q1.size)
theorem IsRN.below {N : Nat → Prop} {w w' : World} {t : Nat} {zs ks : List Int} {n : Nat} {v : Value} (h : IsRN N w t zs ks n v) (hb : Below w.heap.size w w') : IsRN N w' t zs ks n v := by
  obtain ⟨p, cp, i, ci, o, co, k, ck, hv, hp, hi, ho, hk, r⟩ := h
  exact ⟨p, cp, i, ci, o, co, k, ck, hv, hp.below hb, hi.below hb, ho.below hb, hk.below hb, r⟩
set_option maxRecDepth 100000 in
set_option maxHeartbeats 4000000 in
theorem rdone_6 (N : Nat → Prop) (w : World) (zs ks : List Int) (n : Nat) (v : Value) (a : Option Addr) (len cap : Nat) (h : IsRN N w 6 zs ks n v)  (hNl : ∀ k, N k → k < w.heap.size) (r : Option (List (List Int) × List Int)) (HR : ∀ W v, Below w.heap.size w W → IsRN N W 6 zs ks n v → Calls Try.prog 41 #[v, .slice a len cap] W (DoneF N W 6 zs n r)) :
    Calls Try.prog 31 #[v, .slice a len cap] w (DoneF N w 6 zs n r) := by
  obtain ⟨p, cp, i, ci, o, co, k, ck, rfl, hp, hi, ho, hkk, np, ni, no, nk, h4⟩ := h
  obtain ⟨li, hli⟩ : ∃ q, (insS 6 zs).length = q := ⟨_, rfl⟩
  obtain ⟨lo, hlo⟩ : ∃ q, (outsS 6 zs).length = q := ⟨_, rfl⟩
  have HLI := hidden6 hli
  have HLO := hidden6 hlo
  have NP := hidden6 np
  have NI := hidden6 ni
  have NO := hidden6 no
  have NK := hidden6 nk
  have H4 := hidden6 h4
  have HP00 := hidden6 hp
  have HI00 := hidden6 hi
  have HO00 := hidden6 ho
  have HK00 := hidden6 hkk
  rw [hli, hlo]
  show Calls Try.prog 31 #[.agg #[.int .u8 6, .slice p zs.length cp, .slice i li ci, .slice o lo co, .slice k ks.length ck, .int .i64 (n : Int)], .slice a len cap] w _
  have hb0 := ((Below.refl w.heap.size w).alloc (Nat.le_refl _) (.cells #[.int .u8 6, .slice p zs.length cp, .slice i li ci, .slice o lo co, .slice k ks.length ck, .int .i64 (n : Int)] 31)).alloc (by simp) (.cells #[.int .u8 0, .slice none 0 0, .slice none 0 0, .slice none 0 0, .slice none 0 0, .int .i64 0] 31)
  have g2 := (blkA_new 31 w #[.int .u8 6, .slice p zs.length cp, .slice i li ci, .slice o lo co, .slice k ks.length ck, .int .i64 (n : Int)]).below ((Below.refl _ _).alloc (Nat.le_refl _) (.cells #[.int .u8 0, .slice none 0 0, .slice none 0 0, .slice none 0 0, .slice none 0 0, .int .i64 0] 31))
  have g4 : BlkA 31 (w.heap.size + 1) ((w.alloc (.cells #[.int .u8 6, .slice p zs.length cp, .slice i li ci, .slice o lo co, .slice k ks.length ck, .int .i64 (n : Int)] 31)).alloc (.cells #[.int .u8 0, .slice none 0 0, .slice none 0 0, .slice none 0 0, .slice none 0 0, .int .i64 0] 31)) #[.int .u8 0, .slice none 0 0, .slice none 0 0, .slice none 0 0, .slice none 0 0, .int .i64 0] := by
    have h3 := blkA_new 31 (w.alloc (.cells #[.int .u8 6, .slice p zs.length cp, .slice i li ci, .slice o lo co, .slice k ks.length ck, .int .i64 (n : Int)] 31)) #[.int .u8 0, .slice none 0 0, .slice none 0 0, .slice none 0 0, .slice none 0 0, .int .i64 0]
    rw [World.size_alloc] at h3
    exact h3
  have hp0 := hp.below hb0
  have hk0 := hkk.below hb0
  have HB0 := hidden6 hb0
  have HNL := hidden6 hNl
  have HIS : Hid (IsRN N ((w.alloc (.cells #[.int .u8 6, .slice p zs.length cp, .slice i li ci, .slice o lo co, .slice k ks.length ck, .int .i64 (n : Int)] 31)).alloc (.cells #[.int .u8 0, .slice none 0 0, .slice none 0 0, .slice none 0 0, .slice none 0 0, .int .i64 0] 31)) 6 zs ks n (RA 6 (.slice p zs.length cp) (.slice i li ci) (.slice o lo co) (.slice k ks.length ck) (n : Int))) := ⟨p, cp, i, ci, o, co, k, ck, by rw [hli, hlo], hp0, hi.below hb0, ho.below hb0, hk0, np, ni, no, nk, h4⟩
  have RK : Hid (Calls Try.prog 41 #[.agg #[.int .u8 6, .slice p zs.length cp, .slice i li ci, .slice o lo co, .slice k ks.length ck, .int .i64 (n : Int)], .slice a len cap] ((w.alloc (.cells #[.int .u8 6, .slice p zs.length cp, .slice i li ci, .slice o lo co, .slice k ks.length ck, .int .i64 (n : Int)] 31)).alloc (.cells #[.int .u8 0, .slice none 0 0, .slice none 0 0, .slice none 0 0, .slice none 0 0, .int .i64 0] 31)) (DoneF N ((w.alloc (.cells #[.int .u8 6, .slice p zs.length cp, .slice i li ci, .slice o lo co, .slice k ks.length ck, .int .i64 (n : Int)] 31)).alloc (.cells #[.int .u8 0, .slice none 0 0, .slice none 0 0, .slice none 0 0, .slice none 0 0, .int .i64 0] 31)) 6 zs n r)) := HR _ _ hb0 HIS.out
  clear hNl HR hp0 hk0 HIS
  clear np ni no nk h4 hli hlo hp hi ho hkk
  go_enter Try.func31, Try.ntmps31
  go_upto_region 1 with fail
  generalize (w.alloc (.cells #[.int .u8 6, .slice p zs.length cp, .slice i li ci, .slice o lo co, .slice k ks.length ck, .int .i64 (n : Int)] 31)).alloc (.cells #[.int .u8 0, .slice none 0 0, .slice none 0 0, .slice none 0 0, .slice none 0 0, .int .i64 0] 31) = W0 at *
  have G2 := hidden6 g2
  have G4 := hidden6 g4
  have L2 : w.heap.size + 1 < W0.heap.size := g4.lt
  have L1 : w.heap.size < W0.heap.size := by omega
  have e0 : W0.cell? ⟨w.heap.size, 0, none⟩ = some (.int .u8 6) := g2.cell rfl
  clear hb0
  have y1 : W0.cell? ⟨w.heap.size, 1, none⟩ = some (.slice p zs.length cp) := g2.cell rfl
  have y2 : W0.cell? ⟨w.heap.size, 2, none⟩ = some (.slice i li ci) := g2.cell rfl
  have y3 : W0.cell? ⟨w.heap.size, 3, none⟩ = some (.slice o lo co) := g2.cell rfl
  have y4 : W0.cell? ⟨w.heap.size, 4, none⟩ = some (.slice k ks.length ck) := g2.cell rfl
  have y5 : W0.cell? ⟨w.heap.size, 5, none⟩ = some (.int .i64 (n : Int)) := g2.cell rfl
  clear g2 g4
  cases r with
  | none =>
    unfold DoneF at RK
    go_wp2_with (first
      | (refine wpList_store6 _ rfl 31 (.tmp 4) (.tmp 107) rfl rfl size_actor (w.heap.size + 1) 31 _ _ _ _ _ _ _ _ _ _ _ _ _ _ _ _ _ _ _ _ rfl rfl (G4.out.below B1.out) ?_; intro w9 hN9 hU9; have N9 := hidden6 hN9; have U9 := hidden6 hU9; clear hN9 hU9)
      | (go_at_call 41; (with_reducible refine RK.out.mono ?_); rintro e w1 ⟨p1, l1, k1, p2, l2, k2, p3, l3, k3, p4, l4, k4, rfl, b1⟩; have B1 := hidden6 b1; clear b1))
    have z0 : w9.cell? ⟨w.heap.size + 1, 0, none⟩ = some (.int .u8 6) := N9.out.cell rfl
    have z1 : w9.cell? ⟨w.heap.size + 1, 1, none⟩ = some (.slice p1 l1 k1) := N9.out.cell rfl
    have z2 : w9.cell? ⟨w.heap.size + 1, 2, none⟩ = some (.slice p2 l2 k2) := N9.out.cell rfl
    have z3 : w9.cell? ⟨w.heap.size + 1, 3, none⟩ = some (.slice p3 l3 k3) := N9.out.cell rfl
    have z4 : w9.cell? ⟨w.heap.size + 1, 4, none⟩ = some (.slice p4 l4 k4) := N9.out.cell rfl
    have z5 : w9.cell? ⟨w.heap.size + 1, 5, none⟩ = some (.int .i64 (n : Int)) := N9.out.cell rfl
    refine bodyPost_ret (v := .tuple #[.agg #[.int .u8 6, .slice p1 l1 k1, .slice p2 l2 k2, .slice p3 l3 k3, .slice p4 l4 k4, .int .i64 (n : Int)], .slice none 0 0, .int .i64 70]) (by simp [results, Try.results31, go_sem, z0, z1, z2, z3, z4, z5]) rfl ?_
    exact ⟨_, _, _, _, _, _, _, _, _, _, _, _, rfl, done_none HB0.out B1.out U9.out (Nat.le_succ _)⟩
  | some q =>
    unfold DoneF at RK
    go_wp2_with (first
      | (refine wpList_store6 _ rfl 31 (.tmp 4) (.tmp 107) rfl rfl size_actor (w.heap.size + 1) 31 _ _ _ _ _ _ _ _ _ _ _ _ _ _ _ _ _ _ _ _ rfl rfl (G4.out.below B1.out) ?_; intro w9 hN9 hU9; have N9 := hidden6 hN9; have U9 := hidden6 hU9; clear hN9 hU9)
      | (go_at_call 41; (with_reducible refine RK.out.mono ?_); rintro e w1 ⟨v1, x1, c1, A1, C1, rfl, hO, hI, b1⟩; have B1 := hidden6 b1; have HO := hidden6 hO; have HI := hidden6 hI; obtain ⟨p', cp', i', ci', o', co', k', ck', rfl, -⟩ := hI; clear b1 hO))
    have z0 : w9.cell? ⟨w.heap.size + 1, 0, none⟩ = some (.int .u8 6) := N9.out.cell rfl
    have z1 : w9.cell? ⟨w.heap.size + 1, 1, none⟩ = some (.slice p' zs.length cp') := N9.out.cell rfl
    have z2 : w9.cell? ⟨w.heap.size + 1, 2, none⟩ = some (.slice i' (insS 6 zs).length ci') := N9.out.cell rfl
    have z3 : w9.cell? ⟨w.heap.size + 1, 3, none⟩ = some (.slice o' (outsS 6 zs).length co') := N9.out.cell rfl
    have z4 : w9.cell? ⟨w.heap.size + 1, 4, none⟩ = some (.slice k' q.2.length ck') := N9.out.cell rfl
    have z5 : w9.cell? ⟨w.heap.size + 1, 5, none⟩ = some (.int .i64 (n : Int)) := N9.out.cell rfl
    refine bodyPost_ret (v := .tuple #[.agg #[.int .u8 6, .slice p' zs.length cp', .slice i' (insS 6 zs).length ci', .slice o' (outsS 6 zs).length co', .slice k' q.2.length ck', .int .i64 (n : Int)], .slice x1 q.1.length c1, .int .i64 0]) (by simp [results, Try.results31, go_sem, z0, z1, z2, z3, z4, z5]) rfl ?_
    obtain ⟨r1, r2, r3⟩ := done_some HNL.out HB0.out HO.out HI.out B1.out U9.out (Nat.le_succ _) L2
    exact ⟨_, _, _, _, _, rfl, r1, r2, r3⟩
set_option maxRecDepth 100000 in
set_option maxHeartbeats 4000000 in
theorem rdone_7 (N : Nat → Prop) (w : World) (zs ks : List Int) (n : Nat) (v : Value) (a : Option Addr) (len cap : Nat) (h : IsRN N w 7 zs ks n v)  (hNl : ∀ k, N k → k < w.heap.size) (r : Option (List (List Int) × List Int)) (HR : ∀ W v, Below w.heap.size w W → IsRN N W 7 zs ks n v → Calls Try.prog 41 #[v, .slice a len cap] W (DoneF N W 7 zs n r)) :
    Calls Try.prog 31 #[v, .slice a len cap] w (DoneF N w 7 zs n r) := by
  obtain ⟨p, cp, i, ci, o, co, k, ck, rfl, hp, hi, ho, hkk, np, ni, no, nk, h4⟩ := h
  obtain ⟨li, hli⟩ : ∃ q, (insS 7 zs).length = q := ⟨_, rfl⟩
  obtain ⟨lo, hlo⟩ : ∃ q, (outsS 7 zs).length = q := ⟨_, rfl⟩
  have HLI := hidden6 hli
  have HLO := hidden6 hlo
  have NP := hidden6 np
  have NI := hidden6 ni
  have NO := hidden6 no
  have NK := hidden6 nk
  have H4 := hidden6 h4
  have HP00 := hidden6 hp
  have HI00 := hidden6 hi
  have HO00 := hidden6 ho
  have HK00 := hidden6 hkk
  rw [hli, hlo]
  show Calls Try.prog 31 #[.agg #[.int .u8 7, .slice p zs.length cp, .slice i li ci, .slice o lo co, .slice k ks.length ck, .int .i64 (n : Int)], .slice a len cap] w _
  have hb0 := ((Below.refl w.heap.size w).alloc (Nat.le_refl _) (.cells #[.int .u8 7, .slice p zs.length cp, .slice i li ci, .slice o lo co, .slice k ks.length ck, .int .i64 (n : Int)] 31)).alloc (by simp) (.cells #[.int .u8 0, .slice none 0 0, .slice none 0 0, .slice none 0 0, .slice none 0 0, .int .i64 0] 31)
  have g2 := (blkA_new 31 w #[.int .u8 7, .slice p zs.length cp, .slice i li ci, .slice o lo co, .slice k ks.length ck, .int .i64 (n : Int)]).below ((Below.refl _ _).alloc (Nat.le_refl _) (.cells #[.int .u8 0, .slice none 0 0, .slice none 0 0, .slice none 0 0, .slice none 0 0, .int .i64 0] 31))
  have g4 : BlkA 31 (w.heap.size + 1) ((w.alloc (.cells #[.int .u8 7, .slice p zs.length cp, .slice i li ci, .slice o lo co, .slice k ks.length ck, .int .i64 (n : Int)] 31)).alloc (.cells #[.int .u8 0, .slice none 0 0, .slice none 0 0, .slice none 0 0, .slice none 0 0, .int .i64 0] 31)) #[.int .u8 0, .slice none 0 0, .slice none 0 0, .slice none 0 0, .slice none 0 0, .int .i64 0] := by
    have h3 := blkA_new 31 (w.alloc (.cells #[.int .u8 7, .slice p zs.length cp, .slice i li ci, .slice o lo co, .slice k ks.length ck, .int .i64 (n : Int)] 31)) #[.int .u8 0, .slice none 0 0, .slice none 0 0, .slice none 0 0, .slice none 0 0, .int .i64 0]
    rw [World.size_alloc] at h3
    exact h3
  have hp0 := hp.below hb0
  have hk0 := hkk.below hb0
  have HB0 := hidden6 hb0
  have HNL := hidden6 hNl
  have HIS : Hid (IsRN N ((w.alloc (.cells #[.int .u8 7, .slice p zs.length cp, .slice i li ci, .slice o lo co, .slice k ks.length ck, .int .i64 (n : Int)] 31)).alloc (.cells #[.int .u8 0, .slice none 0 0, .slice none 0 0, .slice none 0 0, .slice none 0 0, .int .i64 0] 31)) 7 zs ks n (RA 7 (.slice p zs.length cp) (.slice i li ci) (.slice o lo co) (.slice k ks.length ck) (n : Int))) := ⟨p, cp, i, ci, o, co, k, ck, by rw [hli, hlo], hp0, hi.below hb0, ho.below hb0, hk0, np, ni, no, nk, h4⟩
  have RK : Hid (Calls Try.prog 41 #[.agg #[.int .u8 7, .slice p zs.length cp, .slice i li ci, .slice o lo co, .slice k ks.length ck, .int .i64 (n : Int)], .slice a len cap] ((w.alloc (.cells #[.int .u8 7, .slice p zs.length cp, .slice i li ci, .slice o lo co, .slice k ks.length ck, .int .i64 (n : Int)] 31)).alloc (.cells #[.int .u8 0, .slice none 0 0, .slice none 0 0, .slice none 0 0, .slice none 0 0, .int .i64 0] 31)) (DoneF N ((w.alloc (.cells #[.int .u8 7, .slice p zs.length cp, .slice i li ci, .slice o lo co, .slice k ks.length ck, .int .i64 (n : Int)] 31)).alloc (.cells #[.int .u8 0, .slice none 0 0, .slice none 0 0, .slice none 0 0, .slice none 0 0, .int .i64 0] 31)) 7 zs n r)) := HR _ _ hb0 HIS.out
  clear hNl HR hp0 hk0 HIS
  clear np ni no nk h4 hli hlo hp hi ho hkk
  go_enter Try.func31, Try.ntmps31
  go_upto_region 1 with fail
  generalize (w.alloc (.cells #[.int .u8 7, .slice p zs.length cp, .slice i li ci, .slice o lo co, .slice k ks.length ck, .int .i64 (n : Int)] 31)).alloc (.cells #[.int .u8 0, .slice none 0 0, .slice none 0 0, .slice none 0 0, .slice none 0 0, .int .i64 0] 31) = W0 at *
  have G2 := hidden6 g2
  have G4 := hidden6 g4
  have L2 : w.heap.size + 1 < W0.heap.size := g4.lt
  have L1 : w.heap.size < W0.heap.size := by omega
  have e0 : W0.cell? ⟨w.heap.size, 0, none⟩ = some (.int .u8 7) := g2.cell rfl
  clear hb0
  have y1 : W0.cell? ⟨w.heap.size, 1, none⟩ = some (.slice p zs.length cp) := g2.cell rfl
  have y2 : W0.cell? ⟨w.heap.size, 2, none⟩ = some (.slice i li ci) := g2.cell rfl
  have y3 : W0.cell? ⟨w.heap.size, 3, none⟩ = some (.slice o lo co) := g2.cell rfl
  have y4 : W0.cell? ⟨w.heap.size, 4, none⟩ = some (.slice k ks.length ck) := g2.cell rfl
  have y5 : W0.cell? ⟨w.heap.size, 5, none⟩ = some (.int .i64 (n : Int)) := g2.cell rfl
  clear g2 g4
  cases r with
  | none =>
    unfold DoneF at RK
    go_wp2_with (first
      | (refine wpList_store6 _ rfl 31 (.tmp 4) (.tmp 107) rfl rfl size_actor (w.heap.size + 1) 31 _ _ _ _ _ _ _ _ _ _ _ _ _ _ _ _ _ _ _ _ rfl rfl (G4.out.below B1.out) ?_; intro w9 hN9 hU9; have N9 := hidden6 hN9; have U9 := hidden6 hU9; clear hN9 hU9)
      | (go_at_call 41; (with_reducible refine RK.out.mono ?_); rintro e w1 ⟨p1, l1, k1, p2, l2, k2, p3, l3, k3, p4, l4, k4, rfl, b1⟩; have B1 := hidden6 b1; clear b1))
    have z0 : w9.cell? ⟨w.heap.size + 1, 0, none⟩ = some (.int .u8 7) := N9.out.cell rfl
    have z1 : w9.cell? ⟨w.heap.size + 1, 1, none⟩ = some (.slice p1 l1 k1) := N9.out.cell rfl
    have z2 : w9.cell? ⟨w.heap.size + 1, 2, none⟩ = some (.slice p2 l2 k2) := N9.out.cell rfl
    have z3 : w9.cell? ⟨w.heap.size + 1, 3, none⟩ = some (.slice p3 l3 k3) := N9.out.cell rfl
    have z4 : w9.cell? ⟨w.heap.size + 1, 4, none⟩ = some (.slice p4 l4 k4) := N9.out.cell rfl
    have z5 : w9.cell? ⟨w.heap.size + 1, 5, none⟩ = some (.int .i64 (n : Int)) := N9.out.cell rfl
    refine bodyPost_ret (v := .tuple #[.agg #[.int .u8 7, .slice p1 l1 k1, .slice p2 l2 k2, .slice p3 l3 k3, .slice p4 l4 k4, .int .i64 (n : Int)], .slice none 0 0, .int .i64 70]) (by simp [results, Try.results31, go_sem, z0, z1, z2, z3, z4, z5]) rfl ?_
    exact ⟨_, _, _, _, _, _, _, _, _, _, _, _, rfl, done_none HB0.out B1.out U9.out (Nat.le_succ _)⟩
  | some q =>
    unfold DoneF at RK
    go_wp2_with (first
      | (refine wpList_store6 _ rfl 31 (.tmp 4) (.tmp 107) rfl rfl size_actor (w.heap.size + 1) 31 _ _ _ _ _ _ _ _ _ _ _ _ _ _ _ _ _ _ _ _ rfl rfl (G4.out.below B1.out) ?_; intro w9 hN9 hU9; have N9 := hidden6 hN9; have U9 := hidden6 hU9; clear hN9 hU9)
      | (go_at_call 41; (with_reducible refine RK.out.mono ?_); rintro e w1 ⟨v1, x1, c1, A1, C1, rfl, hO, hI, b1⟩; have B1 := hidden6 b1; have HO := hidden6 hO; have HI := hidden6 hI; obtain ⟨p', cp', i', ci', o', co', k', ck', rfl, -⟩ := hI; clear b1 hO))
    have z0 : w9.cell? ⟨w.heap.size + 1, 0, none⟩ = some (.int .u8 7) := N9.out.cell rfl
    have z1 : w9.cell? ⟨w.heap.size + 1, 1, none⟩ = some (.slice p' zs.length cp') := N9.out.cell rfl
    have z2 : w9.cell? ⟨w.heap.size + 1, 2, none⟩ = some (.slice i' (insS 7 zs).length ci') := N9.out.cell rfl
    have z3 : w9.cell? ⟨w.heap.size + 1, 3, none⟩ = some (.slice o' (outsS 7 zs).length co') := N9.out.cell rfl
    have z4 : w9.cell? ⟨w.heap.size + 1, 4, none⟩ = some (.slice k' q.2.length ck') := N9.out.cell rfl
    have z5 : w9.cell? ⟨w.heap.size + 1, 5, none⟩ = some (.int .i64 (n : Int)) := N9.out.cell rfl
    refine bodyPost_ret (v := .tuple #[.agg #[.int .u8 7, .slice p' zs.length cp', .slice i' (insS 7 zs).length ci', .slice o' (outsS 7 zs).length co', .slice k' q.2.length ck', .int .i64 (n : Int)], .slice x1 q.1.length c1, .int .i64 0]) (by simp [results, Try.results31, go_sem, z0, z1, z2, z3, z4, z5]) rfl ?_
    obtain ⟨r1, r2, r3⟩ := done_some HNL.out HB0.out HO.out HI.out B1.out U9.out (Nat.le_succ _) L2
    exact ⟨_, _, _, _, _, rfl, r1, r2, r3⟩
set_option maxRecDepth 100000 in
set_option maxHeartbeats 4000000 in
theorem rdone_8 (N : Nat → Prop) (w : World) (zs ks : List Int) (n : Nat) (v : Value) (a : Option Addr) (len cap : Nat) (h : IsRN N w 8 zs ks n v)  (hNl : ∀ k, N k → k < w.heap.size) (r : Option (List (List Int) × List Int)) (HR : ∀ W v, Below w.heap.size w W → IsRN N W 8 zs ks n v → Calls Try.prog 41 #[v, .slice a len cap] W (DoneF N W 8 zs n r)) :
    Calls Try.prog 31 #[v, .slice a len cap] w (DoneF N w 8 zs n r) := by
  obtain ⟨p, cp, i, ci, o, co, k, ck, rfl, hp, hi, ho, hkk, np, ni, no, nk, h4⟩ := h
  obtain ⟨li, hli⟩ : ∃ q, (insS 8 zs).length = q := ⟨_, rfl⟩
  obtain ⟨lo, hlo⟩ : ∃ q, (outsS 8 zs).length = q := ⟨_, rfl⟩
  have HLI := hidden6 hli
  have HLO := hidden6 hlo
  have NP := hidden6 np
  have NI := hidden6 ni
  have NO := hidden6 no
  have NK := hidden6 nk
  have H4 := hidden6 h4
  have HP00 := hidden6 hp
  have HI00 := hidden6 hi
  have HO00 := hidden6 ho
  have HK00 := hidden6 hkk
  rw [hli, hlo]
  show Calls Try.prog 31 #[.agg #[.int .u8 8, .slice p zs.length cp, .slice i li ci, .slice o lo co, .slice k ks.length ck, .int .i64 (n : Int)], .slice a len cap] w _
  have hb0 := ((Below.refl w.heap.size w).alloc (Nat.le_refl _) (.cells #[.int .u8 8, .slice p zs.length cp, .slice i li ci, .slice o lo co, .slice k ks.length ck, .int .i64 (n : Int)] 31)).alloc (by simp) (.cells #[.int .u8 0, .slice none 0 0, .slice none 0 0, .slice none 0 0, .slice none 0 0, .int .i64 0] 31)
  have g2 := (blkA_new 31 w #[.int .u8 8, .slice p zs.length cp, .slice i li ci, .slice o lo co, .slice k ks.length ck, .int .i64 (n : Int)]).below ((Below.refl _ _).alloc (Nat.le_refl _) (.cells #[.int .u8 0, .slice none 0 0, .slice none 0 0, .slice none 0 0, .slice none 0 0, .int .i64 0] 31))
  have g4 : BlkA 31 (w.heap.size + 1) ((w.alloc (.cells #[.int .u8 8, .slice p zs.length cp, .slice i li ci, .slice o lo co, .slice k ks.length ck, .int .i64 (n : Int)] 31)).alloc (.cells #[.int .u8 0, .slice none 0 0, .slice none 0 0, .slice none 0 0, .slice none 0 0, .int .i64 0] 31)) #[.int .u8 0, .slice none 0 0, .slice none 0 0, .slice none 0 0, .slice none 0 0, .int .i64 0] := by
    have h3 := blkA_new 31 (w.alloc (.cells #[.int .u8 8, .slice p zs.length cp, .slice i li ci, .slice o lo co, .slice k ks.length ck, .int .i64 (n : Int)] 31)) #[.int .u8 0, .slice none 0 0, .slice none 0 0, .slice none 0 0, .slice none 0 0, .int .i64 0]
    rw [World.size_alloc] at h3
    exact h3
  have hp0 := hp.below hb0
  have hk0 := hkk.below hb0
  have HB0 := hidden6 hb0
  have HNL := hidden6 hNl
  have HIS : Hid (IsRN N ((w.alloc (.cells #[.int .u8 8, .slice p zs.length cp, .slice i li ci, .slice o lo co, .slice k ks.length ck, .int .i64 (n : Int)] 31)).alloc (.cells #[.int .u8 0, .slice none 0 0, .slice none 0 0, .slice none 0 0, .slice none 0 0, .int .i64 0] 31)) 8 zs ks n (RA 8 (.slice p zs.length cp) (.slice i li ci) (.slice o lo co) (.slice k ks.length ck) (n : Int))) := ⟨p, cp, i, ci, o, co, k, ck, by rw [hli, hlo], hp0, hi.below hb0, ho.below hb0, hk0, np, ni, no, nk, h4⟩
  have RK : Hid (Calls Try.prog 41 #[.agg #[.int .u8 8, .slice p zs.length cp, .slice i li ci, .slice o lo co, .slice k ks.length ck, .int .i64 (n : Int)], .slice a len cap] ((w.alloc (.cells #[.int .u8 8, .slice p zs.length cp, .slice i li ci, .slice o lo co, .slice k ks.length ck, .int .i64 (n : Int)] 31)).alloc (.cells #[.int .u8 0, .slice none 0 0, .slice none 0 0, .slice none 0 0, .slice none 0 0, .int .i64 0] 31)) (DoneF N ((w.alloc (.cells #[.int .u8 8, .slice p zs.length cp, .slice i li ci, .slice o lo co, .slice k ks.length ck, .int .i64 (n : Int)] 31)).alloc (.cells #[.int .u8 0, .slice none 0 0, .slice none 0 0, .slice none 0 0, .slice none 0 0, .int .i64 0] 31)) 8 zs n r)) := HR _ _ hb0 HIS.out
  clear hNl HR hp0 hk0 HIS
  clear np ni no nk h4 hli hlo hp hi ho hkk
  go_enter Try.func31, Try.ntmps31
  go_upto_region 1 with fail
  generalize (w.alloc (.cells #[.int .u8 8, .slice p zs.length cp, .slice i li ci, .slice o lo co, .slice k ks.length ck, .int .i64 (n : Int)] 31)).alloc (.cells #[.int .u8 0, .slice none 0 0, .slice none 0 0, .slice none 0 0, .slice none 0 0, .int .i64 0] 31) = W0 at *
  have G2 := hidden6 g2
  have G4 := hidden6 g4
  have L2 : w.heap.size + 1 < W0.heap.size := g4.lt
  have L1 : w.heap.size < W0.heap.size := by omega
  have e0 : W0.cell? ⟨w.heap.size, 0, none⟩ = some (.int .u8 8) := g2.cell rfl
  clear hb0
  have y1 : W0.cell? ⟨w.heap.size, 1, none⟩ = some (.slice p zs.length cp) := g2.cell rfl
  have y2 : W0.cell? ⟨w.heap.size, 2, none⟩ = some (.slice i li ci) := g2.cell rfl
  have y3 : W0.cell? ⟨w.heap.size, 3, none⟩ = some (.slice o lo co) := g2.cell rfl
  have y4 : W0.cell? ⟨w.heap.size, 4, none⟩ = some (.slice k ks.length ck) := g2.cell rfl
  have y5 : W0.cell? ⟨w.heap.size, 5, none⟩ = some (.int .i64 (n : Int)) := g2.cell rfl
  clear g2 g4
  cases r with
  | none =>
    unfold DoneF at RK
    go_wp2_with (first
      | (refine wpList_store6 _ rfl 31 (.tmp 4) (.tmp 107) rfl rfl size_actor (w.heap.size + 1) 31 _ _ _ _ _ _ _ _ _ _ _ _ _ _ _ _ _ _ _ _ rfl rfl (G4.out.below B1.out) ?_; intro w9 hN9 hU9; have N9 := hidden6 hN9; have U9 := hidden6 hU9; clear hN9 hU9)
      | (go_at_call 41; (with_reducible refine RK.out.mono ?_); rintro e w1 ⟨p1, l1, k1, p2, l2, k2, p3, l3, k3, p4, l4, k4, rfl, b1⟩; have B1 := hidden6 b1; clear b1))
    have z0 : w9.cell? ⟨w.heap.size + 1, 0, none⟩ = some (.int .u8 8) := N9.out.cell rfl
    have z1 : w9.cell? ⟨w.heap.size + 1, 1, none⟩ = some (.slice p1 l1 k1) := N9.out.cell rfl
    have z2 : w9.cell? ⟨w.heap.size + 1, 2, none⟩ = some (.slice p2 l2 k2) := N9.out.cell rfl
    have z3 : w9.cell? ⟨w.heap.size + 1, 3, none⟩ = some (.slice p3 l3 k3) := N9.out.cell rfl
    have z4 : w9.cell? ⟨w.heap.size + 1, 4, none⟩ = some (.slice p4 l4 k4) := N9.out.cell rfl
    have z5 : w9.cell? ⟨w.heap.size + 1, 5, none⟩ = some (.int .i64 (n : Int)) := N9.out.cell rfl
    refine bodyPost_ret (v := .tuple #[.agg #[.int .u8 8, .slice p1 l1 k1, .slice p2 l2 k2, .slice p3 l3 k3, .slice p4 l4 k4, .int .i64 (n : Int)], .slice none 0 0, .int .i64 70]) (by simp [results, Try.results31, go_sem, z0, z1, z2, z3, z4, z5]) rfl ?_
    exact ⟨_, _, _, _, _, _, _, _, _, _, _, _, rfl, done_none HB0.out B1.out U9.out (Nat.le_succ _)⟩
  | some q =>
    unfold DoneF at RK
    go_wp2_with (first
      | (refine wpList_store6 _ rfl 31 (.tmp 4) (.tmp 107) rfl rfl size_actor (w.heap.size + 1) 31 _ _ _ _ _ _ _ _ _ _ _ _ _ _ _ _ _ _ _ _ rfl rfl (G4.out.below B1.out) ?_; intro w9 hN9 hU9; have N9 := hidden6 hN9; have U9 := hidden6 hU9; clear hN9 hU9)
      | (go_at_call 41; (with_reducible refine RK.out.mono ?_); rintro e w1 ⟨v1, x1, c1, A1, C1, rfl, hO, hI, b1⟩; have B1 := hidden6 b1; have HO := hidden6 hO; have HI := hidden6 hI; obtain ⟨p', cp', i', ci', o', co', k', ck', rfl, -⟩ := hI; clear b1 hO))
    have z0 : w9.cell? ⟨w.heap.size + 1, 0, none⟩ = some (.int .u8 8) := N9.out.cell rfl
    have z1 : w9.cell? ⟨w.heap.size + 1, 1, none⟩ = some (.slice p' zs.length cp') := N9.out.cell rfl
    have z2 : w9.cell? ⟨w.heap.size + 1, 2, none⟩ = some (.slice i' (insS 8 zs).length ci') := N9.out.cell rfl
    have z3 : w9.cell? ⟨w.heap.size + 1, 3, none⟩ = some (.slice o' (outsS 8 zs).length co') := N9.out.cell rfl
    have z4 : w9.cell? ⟨w.heap.size + 1, 4, none⟩ = some (.slice k' q.2.length ck') := N9.out.cell rfl
    have z5 : w9.cell? ⟨w.heap.size + 1, 5, none⟩ = some (.int .i64 (n : Int)) := N9.out.cell rfl
    refine bodyPost_ret (v := .tuple #[.agg #[.int .u8 8, .slice p' zs.length cp', .slice i' (insS 8 zs).length ci', .slice o' (outsS 8 zs).length co', .slice k' q.2.length ck', .int .i64 (n : Int)], .slice x1 q.1.length c1, .int .i64 0]) (by simp [results, Try.results31, go_sem, z0, z1, z2, z3, z4, z5]) rfl ?_
    obtain ⟨r1, r2, r3⟩ := done_some HNL.out HB0.out HO.out HI.out B1.out U9.out (Nat.le_succ _) L2
    exact ⟨_, _, _, _, _, rfl, r1, r2, r3⟩
set_option maxRecDepth 100000 in
set_option maxHeartbeats 4000000 in
theorem rdone_10 (N : Nat → Prop) (w : World) (zs ks : List Int) (n : Nat) (v : Value) (a : Option Addr) (len cap : Nat) (h : IsRN N w 10 zs ks n v)  (hNl : ∀ k, N k → k < w.heap.size) (r : Option (List (List Int) × List Int)) (HR : ∀ W v, Below w.heap.size w W → IsRN N W 10 zs ks n v → Calls Try.prog 41 #[v, .slice a len cap] W (DoneF N W 10 zs n r)) :
    Calls Try.prog 31 #[v, .slice a len cap] w (DoneF N w 10 zs n r) := by
  obtain ⟨p, cp, i, ci, o, co, k, ck, rfl, hp, hi, ho, hkk, np, ni, no, nk, h4⟩ := h
  obtain ⟨li, hli⟩ : ∃ q, (insS 10 zs).length = q := ⟨_, rfl⟩
  obtain ⟨lo, hlo⟩ : ∃ q, (outsS 10 zs).length = q := ⟨_, rfl⟩
  have HLI := hidden6 hli
  have HLO := hidden6 hlo
  have NP := hidden6 np
  have NI := hidden6 ni
  have NO := hidden6 no
  have NK := hidden6 nk
  have H4 := hidden6 h4
  have HP00 := hidden6 hp
  have HI00 := hidden6 hi
  have HO00 := hidden6 ho
  have HK00 := hidden6 hkk
  rw [hli, hlo]
  show Calls Try.prog 31 #[.agg #[.int .u8 10, .slice p zs.length cp, .slice i li ci, .slice o lo co, .slice k ks.length ck, .int .i64 (n : Int)], .slice a len cap] w _
  have hb0 := ((Below.refl w.heap.size w).alloc (Nat.le_refl _) (.cells #[.int .u8 10, .slice p zs.length cp, .slice i li ci, .slice o lo co, .slice k ks.length ck, .int .i64 (n : Int)] 31)).alloc (by simp) (.cells #[.int .u8 0, .slice none 0 0, .slice none 0 0, .slice none 0 0, .slice none 0 0, .int .i64 0] 31)
  have g2 := (blkA_new 31 w #[.int .u8 10, .slice p zs.length cp, .slice i li ci, .slice o lo co, .slice k ks.length ck, .int .i64 (n : Int)]).below ((Below.refl _ _).alloc (Nat.le_refl _) (.cells #[.int .u8 0, .slice none 0 0, .slice none 0 0, .slice none 0 0, .slice none 0 0, .int .i64 0] 31))
  have g4 : BlkA 31 (w.heap.size + 1) ((w.alloc (.cells #[.int .u8 10, .slice p zs.length cp, .slice i li ci, .slice o lo co, .slice k ks.length ck, .int .i64 (n : Int)] 31)).alloc (.cells #[.int .u8 0, .slice none 0 0, .slice none 0 0, .slice none 0 0, .slice none 0 0, .int .i64 0] 31)) #[.int .u8 0, .slice none 0 0, .slice none 0 0, .slice none 0 0, .slice none 0 0, .int .i64 0] := by
    have h3 := blkA_new 31 (w.alloc (.cells #[.int .u8 10, .slice p zs.length cp, .slice i li ci, .slice o lo co, .slice k ks.length ck, .int .i64 (n : Int)] 31)) #[.int .u8 0, .slice none 0 0, .slice none 0 0, .slice none 0 0, .slice none 0 0, .int .i64 0]
    rw [World.size_alloc] at h3
    exact h3
  have hp0 := hp.below hb0
  have hk0 := hkk.below hb0
  have HB0 := hidden6 hb0
  have HNL := hidden6 hNl
  have HIS : Hid (IsRN N ((w.alloc (.cells #[.int .u8 10, .slice p zs.length cp, .slice i li ci, .slice o lo co, .slice k ks.length ck, .int .i64 (n : Int)] 31)).alloc (.cells #[.int .u8 0, .slice none 0 0, .slice none 0 0, .slice none 0 0, .slice none 0 0, .int .i64 0] 31)) 10 zs ks n (RA 10 (.slice p zs.length cp) (.slice i li ci) (.slice o lo co) (.slice k ks.length ck) (n : Int))) := ⟨p, cp, i, ci, o, co, k, ck, by rw [hli, hlo], hp0, hi.below hb0, ho.below hb0, hk0, np, ni, no, nk, h4⟩
  have RK : Hid (Calls Try.prog 41 #[.agg #[.int .u8 10, .slice p zs.length cp, .slice i li ci, .slice o lo co, .slice k ks.length ck, .int .i64 (n : Int)], .slice a len cap] ((w.alloc (.cells #[.int .u8 10, .slice p zs.length cp, .slice i li ci, .slice o lo co, .slice k ks.length ck, .int .i64 (n : Int)] 31)).alloc (.cells #[.int .u8 0, .slice none 0 0, .slice none 0 0, .slice none 0 0, .slice none 0 0, .int .i64 0] 31)) (DoneF N ((w.alloc (.cells #[.int .u8 10, .slice p zs.length cp, .slice i li ci, .slice o lo co, .slice k ks.length ck, .int .i64 (n : Int)] 31)).alloc (.cells #[.int .u8 0, .slice none 0 0, .slice none 0 0, .slice none 0 0, .slice none 0 0, .int .i64 0] 31)) 10 zs n r)) := HR _ _ hb0 HIS.out
  clear hNl HR hp0 hk0 HIS
  clear np ni no nk h4 hli hlo hp hi ho hkk
  go_enter Try.func31, Try.ntmps31
  go_upto_region 1 with fail
  generalize (w.alloc (.cells #[.int .u8 10, .slice p zs.length cp, .slice i li ci, .slice o lo co, .slice k ks.length ck, .int .i64 (n : Int)] 31)).alloc (.cells #[.int .u8 0, .slice none 0 0, .slice none 0 0, .slice none 0 0, .slice none 0 0, .int .i64 0] 31) = W0 at *
  have G2 := hidden6 g2
  have G4 := hidden6 g4
  have L2 : w.heap.size + 1 < W0.heap.size := g4.lt
  have L1 : w.heap.size < W0.heap.size := by omega
  have e0 : W0.cell? ⟨w.heap.size, 0, none⟩ = some (.int .u8 10) := g2.cell rfl
  clear hb0
  have y1 : W0.cell? ⟨w.heap.size, 1, none⟩ = some (.slice p zs.length cp) := g2.cell rfl
  have y2 : W0.cell? ⟨w.heap.size, 2, none⟩ = some (.slice i li ci) := g2.cell rfl
  have y3 : W0.cell? ⟨w.heap.size, 3, none⟩ = some (.slice o lo co) := g2.cell rfl
  have y4 : W0.cell? ⟨w.heap.size, 4, none⟩ = some (.slice k ks.length ck) := g2.cell rfl
  have y5 : W0.cell? ⟨w.heap.size, 5, none⟩ = some (.int .i64 (n : Int)) := g2.cell rfl
  clear g2 g4
  cases r with
  | none =>
    unfold DoneF at RK
    go_wp2_with (first
      | (refine wpList_store6 _ rfl 31 (.tmp 4) (.tmp 107) rfl rfl size_actor (w.heap.size + 1) 31 _ _ _ _ _ _ _ _ _ _ _ _ _ _ _ _ _ _ _ _ rfl rfl (G4.out.below B1.out) ?_; intro w9 hN9 hU9; have N9 := hidden6 hN9; have U9 := hidden6 hU9; clear hN9 hU9)
      | (go_at_call 41; (with_reducible refine RK.out.mono ?_); rintro e w1 ⟨p1, l1, k1, p2, l2, k2, p3, l3, k3, p4, l4, k4, rfl, b1⟩; have B1 := hidden6 b1; clear b1))
    have z0 : w9.cell? ⟨w.heap.size + 1, 0, none⟩ = some (.int .u8 10) := N9.out.cell rfl
    have z1 : w9.cell? ⟨w.heap.size + 1, 1, none⟩ = some (.slice p1 l1 k1) := N9.out.cell rfl
    have z2 : w9.cell? ⟨w.heap.size + 1, 2, none⟩ = some (.slice p2 l2 k2) := N9.out.cell rfl
    have z3 : w9.cell? ⟨w.heap.size + 1, 3, none⟩ = some (.slice p3 l3 k3) := N9.out.cell rfl
    have z4 : w9.cell? ⟨w.heap.size + 1, 4, none⟩ = some (.slice p4 l4 k4) := N9.out.cell rfl
    have z5 : w9.cell? ⟨w.heap.size + 1, 5, none⟩ = some (.int .i64 (n : Int)) := N9.out.cell rfl
    refine bodyPost_ret (v := .tuple #[.agg #[.int .u8 10, .slice p1 l1 k1, .slice p2 l2 k2, .slice p3 l3 k3, .slice p4 l4 k4, .int .i64 (n : Int)], .slice none 0 0, .int .i64 70]) (by simp [results, Try.results31, go_sem, z0, z1, z2, z3, z4, z5]) rfl ?_
    exact ⟨_, _, _, _, _, _, _, _, _, _, _, _, rfl, done_none HB0.out B1.out U9.out (Nat.le_succ _)⟩
  | some q =>
    unfold DoneF at RK
    go_wp2_with (first
      | (refine wpList_store6 _ rfl 31 (.tmp 4) (.tmp 107) rfl rfl size_actor (w.heap.size + 1) 31 _ _ _ _ _ _ _ _ _ _ _ _ _ _ _ _ _ _ _ _ rfl rfl (G4.out.below B1.out) ?_; intro w9 hN9 hU9; have N9 := hidden6 hN9; have U9 := hidden6 hU9; clear hN9 hU9)
      | (go_at_call 41; (with_reducible refine RK.out.mono ?_); rintro e w1 ⟨v1, x1, c1, A1, C1, rfl, hO, hI, b1⟩; have B1 := hidden6 b1; have HO := hidden6 hO; have HI := hidden6 hI; obtain ⟨p', cp', i', ci', o', co', k', ck', rfl, -⟩ := hI; clear b1 hO))
    have z0 : w9.cell? ⟨w.heap.size + 1, 0, none⟩ = some (.int .u8 10) := N9.out.cell rfl
    have z1 : w9.cell? ⟨w.heap.size + 1, 1, none⟩ = some (.slice p' zs.length cp') := N9.out.cell rfl
    have z2 : w9.cell? ⟨w.heap.size + 1, 2, none⟩ = some (.slice i' (insS 10 zs).length ci') := N9.out.cell rfl
    have z3 : w9.cell? ⟨w.heap.size + 1, 3, none⟩ = some (.slice o' (outsS 10 zs).length co') := N9.out.cell rfl
    have z4 : w9.cell? ⟨w.heap.size + 1, 4, none⟩ = some (.slice k' q.2.length ck') := N9.out.cell rfl
    have z5 : w9.cell? ⟨w.heap.size + 1, 5, none⟩ = some (.int .i64 (n : Int)) := N9.out.cell rfl
    refine bodyPost_ret (v := .tuple #[.agg #[.int .u8 10, .slice p' zs.length cp', .slice i' (insS 10 zs).length ci', .slice o' (outsS 10 zs).length co', .slice k' q.2.length ck', .int .i64 (n : Int)], .slice x1 q.1.length c1, .int .i64 0]) (by simp [results, Try.results31, go_sem, z0, z1, z2, z3, z4, z5]) rfl ?_
    obtain ⟨r1, r2, r3⟩ := done_some HNL.out HB0.out HO.out HI.out B1.out U9.out (Nat.le_succ _) L2
    exact ⟨_, _, _, _, _, rfl, r1, r2, r3⟩
theorem cell_but {K : Nat} {w w' : World} (h : But K w w') {p : Addr} {x : Value} (hc : w.cell? p = some x) (hp : p.block ≠ K) : w'.cell? p = some x := by
  have e := h.block p.block (block_lt_of_cell hc) hp
  unfold World.cell? at hc ⊢
  rw [e]
  exact hc
theorem same_rn {N : Nat → Prop} {w w9 : World} {t n : Nat} {zs ks : List Int} {v : Value} (h : IsRN N w t zs ks n v) (hb : Below w.heap.size w w9) : IsRN (Wid N w w9) w9 t zs ks n v := (h.below hb).wider fun _ hk => .inl hk
set_option maxRecDepth 100000 in
set_option maxHeartbeats 4000000 in
theorem rdone_11 (N : Nat → Prop) (w : World) (zs ks : List Int) (n : Nat) (v : Value) (a : Option Addr) (len cap : Nat) (h : IsRN N w 11 zs ks n v)  :
    Calls Try.prog 31 #[v, .slice a len cap] w (DoneF N w 11 zs n (some ([], ks))) := by
  obtain ⟨p, cp, i, ci, o, co, k, ck, rfl, hp, hi, ho, hkk, np, ni, no, nk, h4⟩ := h
  obtain ⟨li, hli⟩ : ∃ q, (insS 11 zs).length = q := ⟨_, rfl⟩
  obtain ⟨lo, hlo⟩ : ∃ q, (outsS 11 zs).length = q := ⟨_, rfl⟩
  have HLI := hidden6 hli
  have HLO := hidden6 hlo
  have NP := hidden6 np
  have NI := hidden6 ni
  have NO := hidden6 no
  have NK := hidden6 nk
  have H4 := hidden6 h4
  have HP00 := hidden6 hp
  have HI00 := hidden6 hi
  have HO00 := hidden6 ho
  have HK00 := hidden6 hkk
  rw [hli, hlo]
  show Calls Try.prog 31 #[.agg #[.int .u8 11, .slice p zs.length cp, .slice i li ci, .slice o lo co, .slice k ks.length ck, .int .i64 (n : Int)], .slice a len cap] w _
  have hb0 := ((Below.refl w.heap.size w).alloc (Nat.le_refl _) (.cells #[.int .u8 11, .slice p zs.length cp, .slice i li ci, .slice o lo co, .slice k ks.length ck, .int .i64 (n : Int)] 31)).alloc (by simp) (.cells #[.int .u8 0, .slice none 0 0, .slice none 0 0, .slice none 0 0, .slice none 0 0, .int .i64 0] 31)
  have g2 := (blkA_new 31 w #[.int .u8 11, .slice p zs.length cp, .slice i li ci, .slice o lo co, .slice k ks.length ck, .int .i64 (n : Int)]).below ((Below.refl _ _).alloc (Nat.le_refl _) (.cells #[.int .u8 0, .slice none 0 0, .slice none 0 0, .slice none 0 0, .slice none 0 0, .int .i64 0] 31))
  have g4 : BlkA 31 (w.heap.size + 1) ((w.alloc (.cells #[.int .u8 11, .slice p zs.length cp, .slice i li ci, .slice o lo co, .slice k ks.length ck, .int .i64 (n : Int)] 31)).alloc (.cells #[.int .u8 0, .slice none 0 0, .slice none 0 0, .slice none 0 0, .slice none 0 0, .int .i64 0] 31)) #[.int .u8 0, .slice none 0 0, .slice none 0 0, .slice none 0 0, .slice none 0 0, .int .i64 0] := by
    have h3 := blkA_new 31 (w.alloc (.cells #[.int .u8 11, .slice p zs.length cp, .slice i li ci, .slice o lo co, .slice k ks.length ck, .int .i64 (n : Int)] 31)) #[.int .u8 0, .slice none 0 0, .slice none 0 0, .slice none 0 0, .slice none 0 0, .int .i64 0]
    rw [World.size_alloc] at h3
    exact h3
  have hp0 := hp.below hb0
  have hk0 := hkk.below hb0
  have HB0 := hidden6 hb0
  have HRN : Hid (IsRN N w 11 zs ks n (RA 11 (.slice p zs.length cp) (.slice i li ci) (.slice o lo co) (.slice k ks.length ck) (n : Int))) := ⟨p, cp, i, ci, o, co, k, ck, by rw [hli, hlo], hp, hi, ho, hkk, np, ni, no, nk, h4⟩
  clear hp0 hk0
  clear np ni no nk h4 hli hlo hp hi ho hkk
  go_enter Try.func31, Try.ntmps31
  go_upto_region 1 with fail
  generalize (w.alloc (.cells #[.int .u8 11, .slice p zs.length cp, .slice i li ci, .slice o lo co, .slice k ks.length ck, .int .i64 (n : Int)] 31)).alloc (.cells #[.int .u8 0, .slice none 0 0, .slice none 0 0, .slice none 0 0, .slice none 0 0, .int .i64 0] 31) = W0 at *
  have G2 := hidden6 g2
  have G4 := hidden6 g4
  have L2 : w.heap.size + 1 < W0.heap.size := g4.lt
  have L1 : w.heap.size < W0.heap.size := by omega
  have e0 : W0.cell? ⟨w.heap.size, 0, none⟩ = some (.int .u8 11) := g2.cell rfl
  clear hb0
  have y1 : W0.cell? ⟨w.heap.size, 1, none⟩ = some (.slice p zs.length cp) := g2.cell rfl
  have y2 : W0.cell? ⟨w.heap.size, 2, none⟩ = some (.slice i li ci) := g2.cell rfl
  have y3 : W0.cell? ⟨w.heap.size, 3, none⟩ = some (.slice o lo co) := g2.cell rfl
  have y4 : W0.cell? ⟨w.heap.size, 4, none⟩ = some (.slice k ks.length ck) := g2.cell rfl
  have y5 : W0.cell? ⟨w.heap.size, 5, none⟩ = some (.int .i64 (n : Int)) := g2.cell rfl
  clear g2 g4
  go_wp2_with (refine wpList_store6 _ rfl 31 (.tmp 4) (.tmp 103) rfl rfl size_actor (w.heap.size + 1) 31 _ _ _ _ _ _ _ _ _ _ _ _ _ _ _ _ _ _ _ _ rfl rfl (G4.out) ?_; intro w9 hN9 hU9; have N9 := hidden6 hN9; have U9 := hidden6 hU9; clear hN9 hU9)
  have z0 : w9.cell? ⟨w.heap.size + 1, 0, none⟩ = some (.int .u8 11) := N9.out.cell rfl
  have z1 : w9.cell? ⟨w.heap.size + 1, 1, none⟩ = some (.slice p zs.length cp) := N9.out.cell rfl
  have z2 : w9.cell? ⟨w.heap.size + 1, 2, none⟩ = some (.slice i li ci) := N9.out.cell rfl
  have z3 : w9.cell? ⟨w.heap.size + 1, 3, none⟩ = some (.slice o lo co) := N9.out.cell rfl
  have z4 : w9.cell? ⟨w.heap.size + 1, 4, none⟩ = some (.slice k ks.length ck) := N9.out.cell rfl
  have z5 : w9.cell? ⟨w.heap.size + 1, 5, none⟩ = some (.int .i64 (n : Int)) := N9.out.cell rfl
  refine bodyPost_ret (v := .tuple #[.agg #[.int .u8 11, .slice p zs.length cp, .slice i li ci, .slice o lo co, .slice k ks.length ck, .int .i64 (n : Int)], .slice none 0 0, .int .i64 0]) (by simp [results, Try.results31, go_sem, z0, z1, z2, z3, z4, z5]) rfl ?_
  have q9 := HB0.out.trans (U9.out.below (Nat.le_succ _) HB0.out.size)
  exact ⟨_, none, 0, _, _, rfl, outT_nil _ _, same_rn HRN.out q9, q9⟩
set_option maxRecDepth 100000 in
set_option maxHeartbeats 4000000 in
theorem rdone_2 (N : Nat → Prop) (w : World) (zs ks : List Int) (n : Nat) (v : Value) (a : Option Addr) (len cap : Nat) (I : List (List Int)) (h : IsRN N w 2 zs ks n v) (hA : ArgL w a len I) (hT : takesS 2 zs I = true) (hz1 : zs.length = 1) (hz : 1 ≤ nth zs 0 ∧ nth zs 0 ≤ 64) :
    Calls Try.prog 31 #[v, .slice a len cap] w (DoneF N w 2 zs n (some ([upS (nth zs 0).toNat (nth (nthL I 0) 0)], ks))) := by
  obtain ⟨p, cp, i, ci, o, co, k, ck, rfl, hp, hi, ho, hkk, np, ni, no, nk, h4⟩ := h
  obtain ⟨pb, po, rfl, hpc0⟩ : ∃ pb po, p = some ⟨pb, po, none⟩ ∧ w.cell? ⟨pb, po, none⟩ = some (.int .i64 (nth zs 0)) := by
    rcases hp with h0 | ⟨b, off, e, hc⟩
    · rw [h0] at hz1; simp at hz1
    · exact ⟨b, off, e, by have := hc 0 (by omega); rwa [Nat.add_zero] at this⟩
  obtain ⟨li, hli⟩ : ∃ q, (insS 2 zs).length = q := ⟨_, rfl⟩
  obtain ⟨lo, hlo⟩ : ∃ q, (outsS 2 zs).length = q := ⟨_, rfl⟩
  have HLI := hidden6 hli
  have HLO := hidden6 hlo
  have NP := hidden6 np
  have NI := hidden6 ni
  have NO := hidden6 no
  have NK := hidden6 nk
  have H4 := hidden6 h4
  have HP00 := hidden6 hp
  have HI00 := hidden6 hi
  have HO00 := hidden6 ho
  have HK00 := hidden6 hkk
  rw [hli, hlo]
  show Calls Try.prog 31 #[.agg #[.int .u8 2, .slice (some ⟨pb, po, none⟩) zs.length cp, .slice i li ci, .slice o lo co, .slice k ks.length ck, .int .i64 (n : Int)], .slice a len cap] w _
  have hb0 := ((Below.refl w.heap.size w).alloc (Nat.le_refl _) (.cells #[.int .u8 2, .slice (some ⟨pb, po, none⟩) zs.length cp, .slice i li ci, .slice o lo co, .slice k ks.length ck, .int .i64 (n : Int)] 31)).alloc (by simp) (.cells #[.int .u8 0, .slice none 0 0, .slice none 0 0, .slice none 0 0, .slice none 0 0, .int .i64 0] 31)
  have g2 := (blkA_new 31 w #[.int .u8 2, .slice (some ⟨pb, po, none⟩) zs.length cp, .slice i li ci, .slice o lo co, .slice k ks.length ck, .int .i64 (n : Int)]).below ((Below.refl _ _).alloc (Nat.le_refl _) (.cells #[.int .u8 0, .slice none 0 0, .slice none 0 0, .slice none 0 0, .slice none 0 0, .int .i64 0] 31))
  have g4 : BlkA 31 (w.heap.size + 1) ((w.alloc (.cells #[.int .u8 2, .slice (some ⟨pb, po, none⟩) zs.length cp, .slice i li ci, .slice o lo co, .slice k ks.length ck, .int .i64 (n : Int)] 31)).alloc (.cells #[.int .u8 0, .slice none 0 0, .slice none 0 0, .slice none 0 0, .slice none 0 0, .int .i64 0] 31)) #[.int .u8 0, .slice none 0 0, .slice none 0 0, .slice none 0 0, .slice none 0 0, .int .i64 0] := by
    have h3 := blkA_new 31 (w.alloc (.cells #[.int .u8 2, .slice (some ⟨pb, po, none⟩) zs.length cp, .slice i li ci, .slice o lo co, .slice k ks.length ck, .int .i64 (n : Int)] 31)) #[.int .u8 0, .slice none 0 0, .slice none 0 0, .slice none 0 0, .slice none 0 0, .int .i64 0]
    rw [World.size_alloc] at h3
    exact h3
  have hA0 := hA.below hb0
  have hp0 := hp.below hb0
  have hk0 := hkk.below hb0
  have HB0 := hidden6 hb0
  have pc0 := (hb0.cell (block_lt_of_cell hpc0)).trans hpc0
  have HRN : Hid (IsRN N w 2 zs ks n (RA 2 (.slice (some ⟨pb, po, none⟩) zs.length cp) (.slice i li ci) (.slice o lo co) (.slice k ks.length ck) (n : Int))) := ⟨some ⟨pb, po, none⟩, cp, i, ci, o, co, k, ck, by rw [hli, hlo], hp, hi, ho, hkk, np, ni, no, nk, h4⟩
  have hp1 := takes_facts hT
  have hl1 : I.length = 1 := hp1.1
  have hr0 : (nthL I 0).length = 1 := by have := hp1.2 0 (by omega); have e : nth (insS 2 zs) 0 = 1 := rfl; omega
  obtain ⟨ab, ao, xb, xo, xc, rfl, a1, a2⟩ := tok_cell (i := 0) (j := 0) hA0.lies (by omega) (by omega)
  rw [hr0] at a1
  have il : len = 1 := by rw [← hA0.size]; exact hl1
  subst il
  simp only [Nat.add_zero] at a1 a2
  obtain ⟨M, hM⟩ : ∃ M : Nat, nth zs 0 = (M : Int) := ⟨(nth zs 0).toNat, by omega⟩
  have hM1 : 1 ≤ M ∧ M ≤ 64 := by omega
  rw [hM] at pc0
  have hzI : (0 : Int) < (zs.length : Int) := by omega
  have GV : Hid ((upS (nth zs 0).toNat (nth (nthL I 0) 0)) = upS M (nth (nthL I 0) 0)) := by show _ = _; rw [hM]; rfl
  obtain ⟨i0, hj, hz0', hz1', hz2'⟩ := info_parts Try.info3
  rw [GV.out]
  clear hT hp1 hl1 hr0 hA0 hp0 hk0 hM hz hz1 hpc0
  generalize nth (nthL I 0) 0 = x at *
  clear hA np ni no nk h4 hli hlo hp hi ho hkk
  go_enter Try.func31, Try.ntmps31
  go_upto_region 1 with fail
  generalize (w.alloc (.cells #[.int .u8 2, .slice (some ⟨pb, po, none⟩) zs.length cp, .slice i li ci, .slice o lo co, .slice k ks.length ck, .int .i64 (n : Int)] 31)).alloc (.cells #[.int .u8 0, .slice none 0 0, .slice none 0 0, .slice none 0 0, .slice none 0 0, .int .i64 0] 31) = W0 at *
  have G2 := hidden6 g2
  have G4 := hidden6 g4
  have L2 : w.heap.size + 1 < W0.heap.size := g4.lt
  have L1 : w.heap.size < W0.heap.size := by omega
  have e0 : W0.cell? ⟨w.heap.size, 0, none⟩ = some (.int .u8 2) := g2.cell rfl
  clear hb0
  have y1 : W0.cell? ⟨w.heap.size, 1, none⟩ = some (.slice (some ⟨pb, po, none⟩) zs.length cp) := g2.cell rfl
  have y2 : W0.cell? ⟨w.heap.size, 2, none⟩ = some (.slice i li ci) := g2.cell rfl
  have y3 : W0.cell? ⟨w.heap.size, 3, none⟩ = some (.slice o lo co) := g2.cell rfl
  have y4 : W0.cell? ⟨w.heap.size, 4, none⟩ = some (.slice k ks.length ck) := g2.cell rfl
  have y5 : W0.cell? ⟨w.heap.size, 5, none⟩ = some (.int .i64 (n : Int)) := g2.cell rfl
  clear g2 g4
  go_upto_region 7 with (at_make; refine wpList_make_full _ rfl _ _ 22 rfl W0.heap.size 3 i0 (.int .i64 0) 1 Try.underlying22 hj hz0' hz1' _ _ _ _ M rfl rfl rfl rfl (by rw [hz2']; omega) (by unfold maxLen; omega) (Nat.le_refl _) ?_; intro w0 hown0 hgrow0; have B0 := hidden6 ((Below.refl W0.heap.size W0).grown hgrow0 (Nat.le_refl _) (fun k h => by cases h)); have C0 := hidden6 (made_zero hown0); have b1 := cell_keep6 B0.out a1; have b2 := cell_keep6 B0.out a2; have q0 : w0.cell? ⟨W0.heap.size, 0, none⟩ = some (.int .i64 0) := (by have e : List.replicate M (0 : Int) = [] ++ 0 :: List.replicate (M - 1) 0 := (by rw [List.nil_append, ← List.replicate_succ, show M - 1 + 1 = M by omega]); have h1 := C0.out; rw [e] at h1; exact h1.hd rfl); have qf := C0.out.fz 0; have mI : (0 : Int) < (M : Int) := (by omega); clear hown0 hgrow0)
  have CU : Hid (CapR W0.heap.size (w0.setCell ⟨W0.heap.size, 0, none⟩ (.int .i64 x)) (some ⟨W0.heap.size, 0, none⟩) M (upS M x)) := by
    have e : List.replicate M (0 : Int) = [] ++ 0 :: List.replicate (M - 1) 0 := by rw [List.nil_append, ← List.replicate_succ, show M - 1 + 1 = M by omega]
    have e2 : upS M x = [] ++ x :: List.replicate (M - 1) 0 := by unfold upS; rw [e]; rfl
    have h1 := C0.out
    rw [e] at h1
    have h2 := h1.set (k := 0) x rfl
    rw [← e2] at h2
    exact h2
  have B1 : Hid (Below W0.heap.size W0 (w0.setCell ⟨W0.heap.size, 0, none⟩ (.int .i64 x))) := B0.out.setCell (p := ⟨W0.heap.size, 0, none⟩) (Nat.le_refl _) _
  clear y1 y2 y3 y4 y5 b1 b2 q0 qf a1 a2 pc0 e0
  generalize w0.setCell ⟨W0.heap.size, 0, none⟩ (.int .i64 x) = w4 at *
  have L5 : w.heap.size + 1 < w4.heap.size := by have := B1.out.size; omega
  have L6 : w.heap.size < w4.heap.size := by omega
  have y0 : w4.cell? ⟨w.heap.size, 0, none⟩ = some (.int .u8 2) := (G2.out.below B1.out).cell rfl
  have y1 : w4.cell? ⟨w.heap.size, 1, none⟩ = some (.slice (some ⟨pb, po, none⟩) zs.length cp) := (G2.out.below B1.out).cell rfl
  have y2 : w4.cell? ⟨w.heap.size, 2, none⟩ = some (.slice i li ci) := (G2.out.below B1.out).cell rfl
  have y3 : w4.cell? ⟨w.heap.size, 3, none⟩ = some (.slice o lo co) := (G2.out.below B1.out).cell rfl
  have y4 : w4.cell? ⟨w.heap.size, 4, none⟩ = some (.slice k ks.length ck) := (G2.out.below B1.out).cell rfl
  have y5 : w4.cell? ⟨w.heap.size, 5, none⟩ = some (.int .i64 (n : Int)) := (G2.out.below B1.out).cell rfl
  go_wp2_with (refine wpList_store6 _ rfl 31 (.tmp 4) (.tmp 38) rfl rfl size_actor (w.heap.size + 1) 31 _ _ _ _ _ _ _ _ _ _ _ _ _ _ _ _ _ _ _ _ rfl rfl ((G4.out.below B1.out).below ((Below.refl _ _).alloc (Nat.le_refl _) _)) ?_; intro w9 hN9 hU9; have N9 := hidden6 hN9; have U9 := hidden6 hU9; clear hN9 hU9)
  have z0 : w9.cell? ⟨w.heap.size + 1, 0, none⟩ = some (.int .u8 2) := N9.out.cell rfl
  have z1 : w9.cell? ⟨w.heap.size + 1, 1, none⟩ = some (.slice (some ⟨pb, po, none⟩) zs.length cp) := N9.out.cell rfl
  have z2 : w9.cell? ⟨w.heap.size + 1, 2, none⟩ = some (.slice i li ci) := N9.out.cell rfl
  have z3 : w9.cell? ⟨w.heap.size + 1, 3, none⟩ = some (.slice o lo co) := N9.out.cell rfl
  have z4 : w9.cell? ⟨w.heap.size + 1, 4, none⟩ = some (.slice k ks.length ck) := N9.out.cell rfl
  have z5 : w9.cell? ⟨w.heap.size + 1, 5, none⟩ = some (.int .i64 (n : Int)) := N9.out.cell rfl
  refine bodyPost_ret (v := .tuple #[.agg #[.int .u8 2, .slice (some ⟨pb, po, none⟩) zs.length cp, .slice i li ci, .slice o lo co, .slice k ks.length ck, .int .i64 (n : Int)], .slice (some ⟨w4.heap.size, 0, none⟩) 1 1, .int .i64 0]) (by simp [results, Try.results31, go_sem, z0, z1, z2, z3, z4, z5]) rfl ?_
  have hO := table_one w4 W0.heap.size W0.heap.size M (upS M x) B1.out.size CU.out
  rw [up_len] at hO
  have hb5 : Below W0.heap.size W0 (w4.alloc (.cells #[.slice (some ⟨W0.heap.size, 0, none⟩) M M] 22)) := B1.out.alloc B1.out.size _
  have q9 := done_none HB0.out hb5 U9.out (Nat.le_succ _)
  have hO9 := (hO.but U9.out L2).mono HB0.out.size
  exact ⟨_, _, _, _, _, rfl, hO9, same_rn HRN.out q9, q9⟩
end Go.Proofs.Ytehgkgbijhobdaa

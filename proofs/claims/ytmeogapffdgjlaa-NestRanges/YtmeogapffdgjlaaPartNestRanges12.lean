/- Texts of one chain, laid one behind the other. -/
import Derived.Test.YtmeogapffdgjlaaPartNestRanges11
import Derived.WalkMore
namespace Go.Proofs.Ytmeogapffdgjlaa
open Go.ChangeShapes Go.WideShapes Go.ChangeAt Go.RowKit
set_option maxRecDepth 100000 in
theorem isLeafZ_any (t n : Int) (a : Option Addr) (k c : Nat) (w : World) : Calls Try.prog 60 #[.agg #[.int .i64 t, .int .i64 n, .slice a k c]] w fun e w' => e = .returned (.bool (decide (k = 0))) ∧ Below w.heap.size w w' := by
  have ba := (Below.refl w.heap.size w).alloc (Nat.le_refl _) (.cells #[.int .i64 t, .int .i64 n, .slice a k c] 57)
  have X := hiddenN (blkA_new 57 w #[.int .i64 t, .int .i64 n, .slice a k c])
  have BA := hiddenN ba
  have y2 := X.out.cell (k := 2) rfl
  simp only [List.getElem_toArray, List.getElem_cons_zero, List.getElem_cons_succ] at y2
  clear ba
  by_cases h : k = 0
  · subst h
    go_enter Try.func60, Try.ntmps60
    go_upto_region 1 with fail
    generalize w.alloc (.cells #[.int .i64 t, .int .i64 n, .slice a 0 c] 57) = W0 at *
    go_wp2
    go_ret
    exact ⟨rfl, BA.out⟩
  · have hk : ((k : Int) == 0) = false := by simpa using h
    go_enter Try.func60, Try.ntmps60
    go_upto_region 1 with fail
    generalize w.alloc (.cells #[.int .i64 t, .int .i64 n, .slice a k c] 57) = W0 at *
    go_wp2
    go_ret
    exact ⟨by simp [h], BA.out⟩
set_option maxRecDepth 100000 in
theorem isNodeZ_any (n : Int) (w : World) : Calls Try.prog 52 #[.int .i64 n] w fun e w' => e = .returned (.bool (decide (0 ≤ n ∧ n < 32))) ∧ w = w' := by
  by_cases h1 : 0 ≤ n
  · by_cases h2 : n < 32
    · go_enter Try.func52, Try.ntmps52
      go_wp2
      go_ret
      exact ⟨by first | rfl | (simp; omega), rfl⟩
    · go_enter Try.func52, Try.ntmps52
      go_wp2
      go_ret
      exact ⟨by first | rfl | (simp; omega), rfl⟩
  · go_enter Try.func52, Try.ntmps52
    go_wp2
    go_ret
    exact ⟨by first | rfl | (simp; omega), rfl⟩
set_option maxRecDepth 100000 in
theorem cappedZ_any (n : Int) (w : World) : Calls Try.prog 53 #[.int .i64 n] w fun e w' => e = .returned (.int .i64 (min n 2049)) ∧ w = w' := by
  by_cases h1 : n < 2049
  · go_enter Try.func53, Try.ntmps53
    go_wp2
    go_ret
    exact ⟨by first | rfl | (simp; omega), rfl⟩
  · by_cases h2 : 2049 < n
    · go_enter Try.func53, Try.ntmps53
      go_wp2
      go_ret
      exact ⟨by first | rfl | (simp; omega), rfl⟩
    · have e : n = 2049 := by omega
      subst e
      go_enter Try.func53, Try.ntmps53
      go_wp2
      go_ret
      exact ⟨by first | rfl | (simp; omega), rfl⟩
set_option maxRecDepth 100000 in
set_option maxHeartbeats 4000000 in
theorem flawZ_any (t n : Int) (a : Option Addr) (k c d lv : Nat) (hd dp : Value) (K : Nat) (w : World) (hK : BlkA 82 K w #[.int .i64 (lv : Int), hd, dp]) :
    Calls Try.prog 62 #[.pointer (some ⟨K, 0, none⟩), .agg #[.int .i64 t, .int .i64 n, .slice a k c], .int .i64 (d : Int)] w fun e w' => e = .returned (.int .i64 (flwZ d lv t n (decide (k = 0)) : Int)) ∧ Below w.heap.size w w' := by
  have ba := (Below.refl w.heap.size w).alloc (Nat.le_refl _) (.cells #[.int .i64 t, .int .i64 n, .slice a k c] 57)
  have X := hiddenN (blkA_new 57 w #[.int .i64 t, .int .i64 n, .slice a k c])
  have BA := hiddenN ba
  have HK := hiddenN (hK.below ba)
  have IL := hiddenN (isLeafZ_any t n a k c)
  have IN := hiddenN (isNodeZ_any n)
  have y0 := X.out.cell (k := 0) rfl
  have y1 := X.out.cell (k := 1) rfl
  have y2 := X.out.cell (k := 2) rfl
  simp only [List.getElem_toArray, List.getElem_cons_zero, List.getElem_cons_succ] at y0 y1 y2
  clear ba hK
  by_cases hk : k = 0
  · subst hk
    rw [decide_eq_true rfl] at IL ⊢
    by_cases q1 : 2048 ≤ lv
    · have q1' : (lv : Int) ≥ 2048 := by omega
      go_enter Try.func62, Try.ntmps62
      go_upto_region 1 with fail
      generalize w.alloc (.cells #[.int .i64 t, .int .i64 n, .slice a 0 c] 57) = W0 at *
      go_wp2_with (first | (go_at_call 60; (with_reducible refine (IL.out _).mono ?_); rintro e W1 ⟨rfl, b1⟩; have L1 := hiddenN (BA.out.trans (b1.mono BA.out.size)); have y0 := (X.out.below b1).cell (k := 0) rfl; have y1 := (X.out.below b1).cell (k := 1) rfl; have z0 := (HK.out.below b1).cell (k := 0) rfl; simp only [List.getElem_toArray, List.getElem_cons_zero, List.getElem_cons_succ] at y0 y1 z0; clear b1) | (go_at_call 52; (with_reducible refine (IN.out _).mono ?_); rintro e W2 ⟨rfl, hw⟩; subst hw))
      go_ret
      exact ⟨by unfold flwZ; rw [if_pos q1]; rfl, L1.out⟩
    · have q1' : ¬ (lv : Int) ≥ 2048 := by omega
      by_cases q3 : t < 1
      · go_enter Try.func62, Try.ntmps62
        go_upto_region 1 with fail
        generalize w.alloc (.cells #[.int .i64 t, .int .i64 n, .slice a 0 c] 57) = W0 at *
        go_wp2_with (first | (go_at_call 60; (with_reducible refine (IL.out _).mono ?_); rintro e W1 ⟨rfl, b1⟩; have L1 := hiddenN (BA.out.trans (b1.mono BA.out.size)); have y0 := (X.out.below b1).cell (k := 0) rfl; have y1 := (X.out.below b1).cell (k := 1) rfl; have z0 := (HK.out.below b1).cell (k := 0) rfl; simp only [List.getElem_toArray, List.getElem_cons_zero, List.getElem_cons_succ] at y0 y1 z0; clear b1) | (go_at_call 52; (with_reducible refine (IN.out _).mono ?_); rintro e W2 ⟨rfl, hw⟩; subst hw))
        go_ret
        exact ⟨by unfold flwZ; rw [if_neg q1, if_neg (fun h => by cases h.1), if_pos q3]; rfl, L1.out⟩
      · cases q5 : decide (0 ≤ n ∧ n < 32) with
        | true =>
          rw [q5] at IN
          go_enter Try.func62, Try.ntmps62
          go_upto_region 1 with fail
          generalize w.alloc (.cells #[.int .i64 t, .int .i64 n, .slice a 0 c] 57) = W0 at *
          go_wp2_with (first | (go_at_call 60; (with_reducible refine (IL.out _).mono ?_); rintro e W1 ⟨rfl, b1⟩; have L1 := hiddenN (BA.out.trans (b1.mono BA.out.size)); have y0 := (X.out.below b1).cell (k := 0) rfl; have y1 := (X.out.below b1).cell (k := 1) rfl; have z0 := (HK.out.below b1).cell (k := 0) rfl; simp only [List.getElem_toArray, List.getElem_cons_zero, List.getElem_cons_succ] at y0 y1 z0; clear b1) | (go_at_call 52; (with_reducible refine (IN.out _).mono ?_); rintro e W2 ⟨rfl, hw⟩; subst hw))
          go_ret
          exact ⟨by unfold flwZ; rw [if_neg q1, if_neg (fun h => by cases h.1), if_neg (show ¬ t < 1 by omega), if_neg (fun h => by cases h.1), if_neg (fun h => h.2 (of_decide_eq_true q5))]; rfl, L1.out⟩
        | false =>
          rw [q5] at IN
          go_enter Try.func62, Try.ntmps62
          go_upto_region 1 with fail
          generalize w.alloc (.cells #[.int .i64 t, .int .i64 n, .slice a 0 c] 57) = W0 at *
          go_wp2_with (first | (go_at_call 60; (with_reducible refine (IL.out _).mono ?_); rintro e W1 ⟨rfl, b1⟩; have L1 := hiddenN (BA.out.trans (b1.mono BA.out.size)); have y0 := (X.out.below b1).cell (k := 0) rfl; have y1 := (X.out.below b1).cell (k := 1) rfl; have z0 := (HK.out.below b1).cell (k := 0) rfl; simp only [List.getElem_toArray, List.getElem_cons_zero, List.getElem_cons_succ] at y0 y1 z0; clear b1) | (go_at_call 52; (with_reducible refine (IN.out _).mono ?_); rintro e W2 ⟨rfl, hw⟩; subst hw))
          go_ret
          exact ⟨by unfold flwZ; rw [if_neg q1, if_neg (fun h => by cases h.1), if_neg (show ¬ t < 1 by omega), if_neg (fun h => by cases h.1), if_pos ⟨rfl, of_decide_eq_false q5⟩]; rfl, L1.out⟩
  · rw [decide_eq_false hk] at IL ⊢
    by_cases q1 : 2048 ≤ lv
    · have q1' : (lv : Int) ≥ 2048 := by omega
      go_enter Try.func62, Try.ntmps62
      go_upto_region 1 with fail
      generalize w.alloc (.cells #[.int .i64 t, .int .i64 n, .slice a k c] 57) = W0 at *
      go_wp2_with (first | (go_at_call 60; (with_reducible refine (IL.out _).mono ?_); rintro e W1 ⟨rfl, b1⟩; have L1 := hiddenN (BA.out.trans (b1.mono BA.out.size)); have y0 := (X.out.below b1).cell (k := 0) rfl; have y1 := (X.out.below b1).cell (k := 1) rfl; have z0 := (HK.out.below b1).cell (k := 0) rfl; simp only [List.getElem_toArray, List.getElem_cons_zero, List.getElem_cons_succ] at y0 y1 z0; clear b1) | (go_at_call 52; (with_reducible refine (IN.out _).mono ?_); rintro e W2 ⟨rfl, hw⟩; subst hw))
      go_ret
      exact ⟨by unfold flwZ; rw [if_pos q1]; rfl, L1.out⟩
    · have q1' : ¬ (lv : Int) ≥ 2048 := by omega
      by_cases q2 : 16 < d
      · have q2' : (d : Int) > 16 := by omega
        go_enter Try.func62, Try.ntmps62
        go_upto_region 1 with fail
        generalize w.alloc (.cells #[.int .i64 t, .int .i64 n, .slice a k c] 57) = W0 at *
        go_wp2_with (first | (go_at_call 60; (with_reducible refine (IL.out _).mono ?_); rintro e W1 ⟨rfl, b1⟩; have L1 := hiddenN (BA.out.trans (b1.mono BA.out.size)); have y0 := (X.out.below b1).cell (k := 0) rfl; have y1 := (X.out.below b1).cell (k := 1) rfl; have z0 := (HK.out.below b1).cell (k := 0) rfl; simp only [List.getElem_toArray, List.getElem_cons_zero, List.getElem_cons_succ] at y0 y1 z0; clear b1) | (go_at_call 52; (with_reducible refine (IN.out _).mono ?_); rintro e W2 ⟨rfl, hw⟩; subst hw))
        go_ret
        exact ⟨by unfold flwZ; rw [if_neg q1, if_pos ⟨rfl, q2⟩]; rfl, L1.out⟩
      · have q2' : ¬ (d : Int) > 16 := by omega
        by_cases q3 : t < 1
        · go_enter Try.func62, Try.ntmps62
          go_upto_region 1 with fail
          generalize w.alloc (.cells #[.int .i64 t, .int .i64 n, .slice a k c] 57) = W0 at *
          go_wp2_with (first | (go_at_call 60; (with_reducible refine (IL.out _).mono ?_); rintro e W1 ⟨rfl, b1⟩; have L1 := hiddenN (BA.out.trans (b1.mono BA.out.size)); have y0 := (X.out.below b1).cell (k := 0) rfl; have y1 := (X.out.below b1).cell (k := 1) rfl; have z0 := (HK.out.below b1).cell (k := 0) rfl; simp only [List.getElem_toArray, List.getElem_cons_zero, List.getElem_cons_succ] at y0 y1 z0; clear b1) | (go_at_call 52; (with_reducible refine (IN.out _).mono ?_); rintro e W2 ⟨rfl, hw⟩; subst hw))
          go_ret
          exact ⟨by unfold flwZ; rw [if_neg q1, if_neg (fun h => q2 h.2), if_pos q3]; rfl, L1.out⟩
        · by_cases q4 : n = 0
          · subst q4
            go_enter Try.func62, Try.ntmps62
            go_upto_region 1 with fail
            generalize w.alloc (.cells #[.int .i64 t, .int .i64 0, .slice a k c] 57) = W0 at *
            go_wp2_with (first | (go_at_call 60; (with_reducible refine (IL.out _).mono ?_); rintro e W1 ⟨rfl, b1⟩; have L1 := hiddenN (BA.out.trans (b1.mono BA.out.size)); have y0 := (X.out.below b1).cell (k := 0) rfl; have y1 := (X.out.below b1).cell (k := 1) rfl; have z0 := (HK.out.below b1).cell (k := 0) rfl; simp only [List.getElem_toArray, List.getElem_cons_zero, List.getElem_cons_succ] at y0 y1 z0; clear b1) | (go_at_call 52; (with_reducible refine (IN.out _).mono ?_); rintro e W2 ⟨rfl, hw⟩; subst hw))
            go_ret
            exact ⟨by unfold flwZ; rw [if_neg q1, if_neg (fun h => q2 h.2), if_neg (show ¬ t < 1 by omega), if_neg (fun h => h.2 rfl), if_neg (fun h => by cases h.1)]; rfl, L1.out⟩
          · have q4' : (n != 0) = true := by simpa using q4
            go_enter Try.func62, Try.ntmps62
            go_upto_region 1 with fail
            generalize w.alloc (.cells #[.int .i64 t, .int .i64 n, .slice a k c] 57) = W0 at *
            go_wp2_with (first | (go_at_call 60; (with_reducible refine (IL.out _).mono ?_); rintro e W1 ⟨rfl, b1⟩; have L1 := hiddenN (BA.out.trans (b1.mono BA.out.size)); have y0 := (X.out.below b1).cell (k := 0) rfl; have y1 := (X.out.below b1).cell (k := 1) rfl; have z0 := (HK.out.below b1).cell (k := 0) rfl; simp only [List.getElem_toArray, List.getElem_cons_zero, List.getElem_cons_succ] at y0 y1 z0; clear b1) | (go_at_call 52; (with_reducible refine (IN.out _).mono ?_); rintro e W2 ⟨rfl, hw⟩; subst hw))
            go_ret
            exact ⟨by unfold flwZ; rw [if_neg q1, if_neg (fun h => q2 h.2), if_neg (show ¬ t < 1 by omega), if_pos ⟨rfl, q4⟩]; rfl, L1.out⟩
def LopE (x : Lp) (d lv hd dp K : Nat) (w : World) (e : Ending) (w' : World) : Prop := ∃ (y lv' hd' dp' : Nat), e = .returned (.tuple #[.int .i64 (y : Int), .int .i64 (oneZ d lv x : Int)]) ∧ BlkA 82 K w' #[.int .i64 (lv' : Int), .int .i64 (hd' : Int), .int .i64 (dp' : Int)] ∧ But K w w' ∧ (oneZ d lv x = 0 → y = min (to1 x) 2049 ∧ lv' = lv + lv1 x ∧ hd' = hd + hd1 x ∧ dp' = max dp (dp1 d x))
def RwsE (l : List Lp) (d lv hd dp K : Nat) (w : World) (e : Ending) (w' : World) : Prop := ∃ (y lv' hd' dp' : Nat), e = .returned (.tuple #[.int .i64 (y : Int), .int .i64 (errZ d lv l : Int)]) ∧ BlkA 82 K w' #[.int .i64 (lv' : Int), .int .i64 (hd' : Int), .int .i64 (dp' : Int)] ∧ But K w w' ∧ (errZ d lv l ≠ 0 → y = 0) ∧ (errZ d lv l = 0 → y = min (totZ l) 2049 ∧ lv' = lv + lvsZ l ∧ hd' = hd + hdsZ l ∧ dp' = max dp (dpsZ d l))
/-- Row's contract at a nest. -/
def RowOK (l : List Lp) : Prop := ∀ (B K : Nat) (m : Bool) (a : Option Addr) (c d lv hd dp : Nat) (w : World), Nst (· < B) m w a l → B ≤ K → BlkA 82 K w #[.int .i64 (lv : Int), .int .i64 (hd : Int), .int .i64 (dp : Int)] → lv ≤ 2048 → hd + sizZ l ≤ 1000000 → dp ≤ 16 → d ≤ 16 → Calls Try.prog 51 #[.pointer (some ⟨K, 0, none⟩), .slice a l.length c, .int .i64 (d : Int)] w (RwsE l d lv hd dp K w)
theorem cappedN_any (n : Nat) (w : World) : Calls Try.prog 53 #[.int .i64 (n : Int)] w fun e w' => e = .returned (.int .i64 ((min n 2049 : Nat) : Int)) ∧ w = w' := by
  refine (cappedZ_any n w).mono ?_
  rintro e w' ⟨rfl, hw⟩
  exact ⟨by rw [show ((min n 2049 : Nat) : Int) = min (n : Int) 2049 by omega], hw⟩
theorem But.keepB {K : Nat} {w w' : World} {T : TypeId} {x : Nat} {cs : Array Value} (h : But K w w') (hx : BlkA T x w cs) (hn : x ≠ K) : BlkA T x w' cs := hx.keep (h.block x hx.lt hn)
theorem Nst.but {B K : Nat} {m : Bool} {w w' : World} {a : Option Addr} {l : List Lp} (h : Nst (· < B) m w a l) (hb : But K w w') (hK : B ≤ K) (hB : B ≤ w.heap.size) : Nst (· < B) m w' a l := h.below (hb.below hK hB)
theorem wrap_fit {x : Int} (h1 : -9223372036854775808 ≤ x) (h2 : x ≤ 9223372036854775807) : wrap64 x = x := by
  unfold wrap64; omega
set_option maxRecDepth 100000 in
set_option maxHeartbeats 16000000 in
theorem loopZ_any (x : Lp) (hr : RowOK x.body) (B K : Nat) (m : Bool) (a : Option Addr) (c d lv hd dp : Nat) (w : World) (hN : Nst (· < B) m w a x.body) (hBK : B ≤ K) (hK : BlkA 82 K w #[.int .i64 (lv : Int), .int .i64 (hd : Int), .int .i64 (dp : Int)]) (hlv : lv ≤ 2048) (hhd : hd + 1 + sizZ x.body ≤ 1000000) (hdp : dp ≤ 16) (hd16 : d ≤ 16) :
    Calls Try.prog 59 #[.pointer (some ⟨K, 0, none⟩), .agg #[.int .i64 x.times, .int .i64 x.node, .slice a x.body.length c], .int .i64 (d : Int)] w (LopE x d lv hd dp K w) := by
  obtain ⟨t, n, bd⟩ := x
  simp only at hr hN hhd ⊢
  obtain ⟨f, hf⟩ : ∃ f, flwZ (if bd.isEmpty then d else d + 1) lv t n bd.isEmpty = f := ⟨_, rfl⟩
  obtain ⟨RE, hRE⟩ : ∃ Q, LopE ⟨t, n, bd⟩ d lv hd dp K w = Q := ⟨_, rfl⟩
  rw [hRE]
  have HRE := hiddenN hRE
  obtain ⟨k, hk⟩ : ∃ k, bd.length = k := ⟨_, rfl⟩
  have he : bd.isEmpty = decide (k = 0) := by rw [← hk]; cases bd <;> simp
  rw [he] at hf
  have HE := hiddenN he
  rw [hk]
  have ba := (Below.refl w.heap.size w).alloc (Nat.le_refl _) (.cells #[.int .i64 t, .int .i64 n, .slice a k c] 57)
  have X := hiddenN (blkA_new 57 w #[.int .i64 t, .int .i64 n, .slice a k c])
  have BA := hiddenN ba
  have U0 := hiddenN (But.of_below (K := K) ba)
  have HK := hiddenN (hK.below ba)
  have hKs : K < w.heap.size := hK.lt
  have hBs : B ≤ w.heap.size := by omega
  have IL := hiddenN (isLeafZ_any t n a k c)
  have FL := hiddenN (fun (d' : Nat) (u : World) (h : BlkA 82 K u #[.int .i64 (lv : Int), .int .i64 (hd : Int), .int .i64 (dp : Int)]) => flawZ_any t n a k c d' lv _ _ K u h)
  have NS := hiddenN hN
  have hlvI : (lv : Int) ≤ 2048 := by omega
  have hhI : (hd : Int) ≤ 1000000 := by omega
  have hdI : (d : Int) ≤ 16 := by omega
  have hdpI : (dp : Int) ≤ 16 := by omega
  have hxK : w.heap.size ≠ K := by omega
  have y0 := X.out.cell (k := 0) rfl
  have y1 := X.out.cell (k := 1) rfl
  have y2 := X.out.cell (k := 2) rfl
  simp only [List.getElem_toArray, List.getElem_cons_zero, List.getElem_cons_succ] at y0 y1 y2
  have CP := hiddenN cappedN_any
  clear ba hK hRE hN he hKs
  by_cases hk0 : k = 0
  · subst hk0
    have hbd : bd = [] := List.eq_nil_of_length_eq_zero hk
    subst hbd
    rw [decide_eq_true rfl, if_pos rfl] at hf
    rw [decide_eq_true rfl] at IL FL
    by_cases hf0 : f = 0
    · have hfl := flw_zero (hf.trans hf0)
      have ht1 : 1 ≤ t := hfl.2.2.1
      obtain ⟨tn, rfl⟩ : ∃ tn : Nat, t = (tn : Int) := ⟨t.toNat, by omega⟩
      have htn : 1 ≤ tn := by omega
      have HO : Hid (oneZ d lv ⟨(tn : Int), n, []⟩ = 0) := by
        show _ = _
        unfold oneZ
        simp only [List.isEmpty_nil, if_pos]
        rw [hf, hf0]; rfl
      have hlv1 : (lv : Int) < 2048 := by have := hfl.1; omega
      have FL0 : Hid (∀ (u : World), BlkA 82 K u #[.int .i64 (lv : Int), .int .i64 (hd : Int), .int .i64 (dp : Int)] → Calls Try.prog 62 #[.pointer (some ⟨K, 0, none⟩), .agg #[.int .i64 (tn : Int), .int .i64 n, .slice a 0 c], .int .i64 (d : Int)] u fun e w' => e = .returned (.int .i64 0) ∧ Below u.heap.size u w') := fun u h => by
        have := FL.out d u h
        rw [hf, hf0] at this
        exact this
      clear hf hfl hr FL
      by_cases h1 : (1 : Int) < (tn : Int)
      · have h1' : (tn : Int) > 1 := h1
        go_enter Try.func59, Try.ntmps59
        go_upto_region 1 with fail
        have X0 := X
        have HK0 := HK
        clear X HK
        generalize w.alloc (.cells #[.int .i64 (tn : Int), .int .i64 n, .slice a 0 c] 57) = W0 at *
        go_upto_region 3 with (go_at_call 60; (with_reducible refine (IL.out _).mono ?_); rintro e W1 ⟨rfl, b1⟩; have X1 := hiddenN (X0.out.below b1); have HK1 := hiddenN (HK0.out.below b1); have U1 := hiddenN (U0.out.trans (But.of_below b1)); clear b1)
        have y0 := X1.out.cell (k := 0) rfl
        have y1 := X1.out.cell (k := 1) rfl
        have y2 := X1.out.cell (k := 2) rfl
        have z0 := HK1.out.cell (k := 0) rfl
        have f0 := HK1.out.frozen 0
        simp only [List.getElem_toArray, List.getElem_cons_zero, List.getElem_cons_succ] at y0 y1 y2 z0
        go_upto_region 6 with (go_at_call 62; (with_reducible refine (FL0.out _ HK1.out).mono ?_); rintro e W2 ⟨rfl, b2⟩; have X2 := hiddenN (X1.out.below b2); have HK2 := hiddenN (HK1.out.below b2); have U2 := hiddenN (U1.out.trans (But.of_below b2)); clear b2)
        have y0 := X2.out.cell (k := 0) rfl
        have z1 := HK2.out.cell (k := 1) rfl
        have f1 := HK2.out.frozen 1
        simp only [List.getElem_toArray, List.getElem_cons_zero, List.getElem_cons_succ] at y0 z1
        go_upto_region 8 with fail
        have HK3 : Hid (BlkA 82 K (W2.setCell ⟨K, 1, none⟩ (.int .i64 ((hd : Int) + 1))) #[.int .i64 (lv : Int), .int .i64 ((hd + 1 : Nat) : Int), .int .i64 (dp : Int)]) := HK2.out.set 1 _
        have b3 := But.set W2 K 1 (.int .i64 ((hd : Int) + 1))
        have X3 := hiddenN (b3.keepB X2.out hxK)
        have U3 := hiddenN (U2.out.trans b3)
        clear b3 y0 z1 f1
        generalize W2.setCell ⟨K, 1, none⟩ (.int .i64 ((hd : Int) + 1)) = W3 at *
        have y0 := X3.out.cell (k := 0) rfl
        have y1 := X3.out.cell (k := 1) rfl
        have y2 := X3.out.cell (k := 2) rfl
        have z0 := HK3.out.cell (k := 0) rfl
        have f0 := HK3.out.frozen 0
        simp only [List.getElem_toArray, List.getElem_cons_zero, List.getElem_cons_succ] at y0 y1 y2 z0
        go_upto_region 9 with (go_at_call 60; (with_reducible refine (IL.out _).mono ?_); rintro e W4 ⟨rfl, b4⟩; have X4 := hiddenN (X3.out.below b4); have HK4 := hiddenN (HK3.out.below b4); have U4 := hiddenN (U3.out.trans (But.of_below b4)); clear b4)
        have y0 := X4.out.cell (k := 0) rfl
        have z0 := HK4.out.cell (k := 0) rfl
        have f0 := HK4.out.frozen 0
        simp only [List.getElem_toArray, List.getElem_cons_zero] at y0 z0
        go_upto_region 10 with fail
        have HK5 : Hid (BlkA 82 K (W4.setCell ⟨K, 0, none⟩ (.int .i64 ((lv : Int) + 1))) #[.int .i64 ((lv + 1 : Nat) : Int), .int .i64 ((hd + 1 : Nat) : Int), .int .i64 (dp : Int)]) := HK4.out.set 0 _
        have b5 := But.set W4 K 0 (.int .i64 ((lv : Int) + 1))
        have X5 := hiddenN (b5.keepB X4.out hxK)
        have U5 := hiddenN (U4.out.trans b5)
        clear b5 y0 z0 f0
        generalize W4.setCell ⟨K, 0, none⟩ (.int .i64 ((lv : Int) + 1)) = W5 at *
        have y0 := X5.out.cell (k := 0) rfl
        simp only [List.getElem_toArray, List.getElem_cons_zero] at y0
        go_wp2_with (go_at_call 53; (with_reducible refine (CP.out tn W5).mono ?_); rintro e W6 ⟨rfl, hw⟩; subst hw)
        rw [← HRE.out]
        exact ⟨min tn 2049, lv + 1, hd + 1, dp, by rw [HO.out]; rfl, HK5.out, U5.out, fun _ => ⟨by unfold to1; simp, rfl, by unfold hd1; rw [if_pos h1, hds_nil], by unfold dp1; simp⟩⟩
      · have h1' : ¬ (tn : Int) > 1 := h1
        go_enter Try.func59, Try.ntmps59
        go_upto_region 1 with fail
        have X0 := X
        have HK0 := HK
        clear X HK
        generalize w.alloc (.cells #[.int .i64 (tn : Int), .int .i64 n, .slice a 0 c] 57) = W0 at *
        go_upto_region 3 with (go_at_call 60; (with_reducible refine (IL.out _).mono ?_); rintro e W1 ⟨rfl, b1⟩; have X1 := hiddenN (X0.out.below b1); have HK1 := hiddenN (HK0.out.below b1); have U1 := hiddenN (U0.out.trans (But.of_below b1)); clear b1)
        have y0 := X1.out.cell (k := 0) rfl
        have y1 := X1.out.cell (k := 1) rfl
        have y2 := X1.out.cell (k := 2) rfl
        have z0 := HK1.out.cell (k := 0) rfl
        have f0 := HK1.out.frozen 0
        simp only [List.getElem_toArray, List.getElem_cons_zero, List.getElem_cons_succ] at y0 y1 y2 z0
        go_upto_region 6 with (go_at_call 62; (with_reducible refine (FL0.out _ HK1.out).mono ?_); rintro e W2 ⟨rfl, b2⟩; have X2 := hiddenN (X1.out.below b2); have HK2 := hiddenN (HK1.out.below b2); have U2 := hiddenN (U1.out.trans (But.of_below b2)); clear b2)
        have y0 := X2.out.cell (k := 0) rfl
        have z1 := HK2.out.cell (k := 1) rfl
        have f1 := HK2.out.frozen 1
        simp only [List.getElem_toArray, List.getElem_cons_zero, List.getElem_cons_succ] at y0 z1
        go_upto_region 8 with fail
        have HK3 := HK2
        have X3 := X2
        have U3 := U2
        clear y0 z1 f1
        obtain ⟨W3, hW3⟩ : ∃ q, W2 = q := ⟨_, rfl⟩
        rw [hW3] at HK3 X3 U3 ⊢
        clear hW3 HK2 X2 U2
        have y0 := X3.out.cell (k := 0) rfl
        have y1 := X3.out.cell (k := 1) rfl
        have y2 := X3.out.cell (k := 2) rfl
        have z0 := HK3.out.cell (k := 0) rfl
        have f0 := HK3.out.frozen 0
        simp only [List.getElem_toArray, List.getElem_cons_zero, List.getElem_cons_succ] at y0 y1 y2 z0
        go_upto_region 9 with (go_at_call 60; (with_reducible refine (IL.out _).mono ?_); rintro e W4 ⟨rfl, b4⟩; have X4 := hiddenN (X3.out.below b4); have HK4 := hiddenN (HK3.out.below b4); have U4 := hiddenN (U3.out.trans (But.of_below b4)); clear b4)
        have y0 := X4.out.cell (k := 0) rfl
        have z0 := HK4.out.cell (k := 0) rfl
        have f0 := HK4.out.frozen 0
        simp only [List.getElem_toArray, List.getElem_cons_zero] at y0 z0
        go_upto_region 10 with fail
        have HK5 : Hid (BlkA 82 K (W4.setCell ⟨K, 0, none⟩ (.int .i64 ((lv : Int) + 1))) #[.int .i64 ((lv + 1 : Nat) : Int), .int .i64 (hd : Int), .int .i64 (dp : Int)]) := HK4.out.set 0 _
        have b5 := But.set W4 K 0 (.int .i64 ((lv : Int) + 1))
        have X5 := hiddenN (b5.keepB X4.out hxK)
        have U5 := hiddenN (U4.out.trans b5)
        clear b5 y0 z0 f0
        generalize W4.setCell ⟨K, 0, none⟩ (.int .i64 ((lv : Int) + 1)) = W5 at *
        have y0 := X5.out.cell (k := 0) rfl
        simp only [List.getElem_toArray, List.getElem_cons_zero] at y0
        go_wp2_with (go_at_call 53; (with_reducible refine (CP.out tn W5).mono ?_); rintro e W6 ⟨rfl, hw⟩; subst hw)
        rw [← HRE.out]
        exact ⟨min tn 2049, lv + 1, hd, dp, by rw [HO.out]; rfl, HK5.out, U5.out, fun _ => ⟨by unfold to1; simp, rfl, by unfold hd1; simp only; rw [if_neg (show ¬ (1 : Int) < (tn : Int) by omega), hds_nil]; rfl, by unfold dp1; simp⟩⟩
    · have hfb : ((f : Int) != 0) = true := by simpa using hf0
      have HO : Hid (oneZ d lv ⟨t, n, []⟩ = f) := by
        show _ = _
        unfold oneZ
        simp only [List.isEmpty_nil, if_pos]
        rw [hf, if_pos hf0]
      have FL0 : Hid (∀ (u : World), BlkA 82 K u #[.int .i64 (lv : Int), .int .i64 (hd : Int), .int .i64 (dp : Int)] → Calls Try.prog 62 #[.pointer (some ⟨K, 0, none⟩), .agg #[.int .i64 t, .int .i64 n, .slice a 0 c], .int .i64 (d : Int)] u fun e w' => e = .returned (.int .i64 (f : Int)) ∧ Below u.heap.size u w') := fun u h => by
        have := FL.out d u h
        rw [hf] at this
        exact this
      clear hf hr FL
      go_enter Try.func59, Try.ntmps59
      go_upto_region 1 with fail
      have X0 := X
      have HK0 := HK
      clear X HK
      generalize w.alloc (.cells #[.int .i64 t, .int .i64 n, .slice a 0 c] 57) = W0 at *
      go_upto_region 3 with (go_at_call 60; (with_reducible refine (IL.out _).mono ?_); rintro e W1 ⟨rfl, b1⟩; have X1 := hiddenN (X0.out.below b1); have HK1 := hiddenN (HK0.out.below b1); have U1 := hiddenN (U0.out.trans (But.of_below b1)); clear b1)
      have y0 := X1.out.cell (k := 0) rfl
      have y1 := X1.out.cell (k := 1) rfl
      have y2 := X1.out.cell (k := 2) rfl
      have z0 := HK1.out.cell (k := 0) rfl
      have f0 := HK1.out.frozen 0
      simp only [List.getElem_toArray, List.getElem_cons_zero, List.getElem_cons_succ] at y0 y1 y2 z0
      go_wp2_with (go_at_call 62; (with_reducible refine (FL0.out _ HK1.out).mono ?_); rintro e W2 ⟨rfl, b2⟩; have X2 := hiddenN (X1.out.below b2); have HK2 := hiddenN (HK1.out.below b2); have U2 := hiddenN (U1.out.trans (But.of_below b2)); clear b2)
      rw [← HRE.out]
      exact ⟨0, lv, hd, dp, by rw [HO.out]; rfl, HK2.out, U2.out, fun e => absurd (HO.out.symm.trans e) hf0⟩
  · have hbd : bd ≠ [] := fun e => hk0 (by rw [← hk, e]; rfl)
    have hke : bd.isEmpty = false := by simpa using hbd
    have HKK := hiddenN hk
    rw [decide_eq_false hk0, if_neg (by decide)] at hf
    rw [decide_eq_false hk0] at IL FL
    have HR := hiddenN hr
    clear hr hk
    by_cases hf0 : f = 0
    · have hfl := flw_zero (hf.trans hf0)
      have ht1 : 1 ≤ t := hfl.2.2.1
      obtain ⟨tn, rfl⟩ : ∃ tn : Nat, t = (tn : Int) := ⟨t.toNat, by omega⟩
      have htn : 1 ≤ tn := by omega
      have hd15 : d + 1 ≤ 16 := (hfl.2.1 rfl).1
      have HO : Hid (oneZ d lv ⟨(tn : Int), n, bd⟩ = errZ (d + 1) lv bd) := by
        show _ = _
        unfold oneZ
        simp only [hke, if_neg Bool.false_ne_true]
        rw [hf, hf0]; rfl
      have FL0 : Hid (∀ (u : World), BlkA 82 K u #[.int .i64 (lv : Int), .int .i64 (hd : Int), .int .i64 (dp : Int)] → Calls Try.prog 62 #[.pointer (some ⟨K, 0, none⟩), .agg #[.int .i64 (tn : Int), .int .i64 n, .slice a k c], .int .i64 ((d : Int) + 1)] u fun e w' => e = .returned (.int .i64 0) ∧ Below u.heap.size u w') := fun u h => by
        have := FL.out (d + 1) u h
        rw [hf, hf0] at this
        exact this
      have hdI2 : (d : Int) ≤ 15 := by omega
      clear hf hfl FL hke
      by_cases h1 : (1 : Int) < (tn : Int)
      · have h1' : (tn : Int) > 1 := h1
        by_cases hm : dp < d + 1
        · have hmI : (dp : Int) < (d : Int) + 1 := by omega
          go_enter Try.func59, Try.ntmps59
          go_upto_region 1 with fail
          have X0 := X
          have HK0 := HK
          clear X HK
          generalize w.alloc (.cells #[.int .i64 (tn : Int), .int .i64 n, .slice a k c] 57) = W0 at *
          go_upto_region 3 with (go_at_call 60; (with_reducible refine (IL.out _).mono ?_); rintro e W1 ⟨rfl, b1⟩; have X1 := hiddenN (X0.out.below b1); have HK1 := hiddenN (HK0.out.below b1); have U1 := hiddenN (U0.out.trans (But.of_below b1)); clear b1)
          have y0 := X1.out.cell (k := 0) rfl
          have y1 := X1.out.cell (k := 1) rfl
          have y2 := X1.out.cell (k := 2) rfl
          have z0 := HK1.out.cell (k := 0) rfl
          have f0 := HK1.out.frozen 0
          simp only [List.getElem_toArray, List.getElem_cons_zero, List.getElem_cons_succ] at y0 y1 y2 z0
          go_upto_region 6 with (go_at_call 62; (with_reducible refine (FL0.out _ HK1.out).mono ?_); rintro e W2 ⟨rfl, b2⟩; have X2 := hiddenN (X1.out.below b2); have HK2 := hiddenN (HK1.out.below b2); have U2 := hiddenN (U1.out.trans (But.of_below b2)); clear b2)
          have y0 := X2.out.cell (k := 0) rfl
          have z1 := HK2.out.cell (k := 1) rfl
          have f1 := HK2.out.frozen 1
          simp only [List.getElem_toArray, List.getElem_cons_zero, List.getElem_cons_succ] at y0 z1
          go_upto_region 8 with fail
          have HK3 : Hid (BlkA 82 K (W2.setCell ⟨K, 1, none⟩ (.int .i64 ((hd : Int) + 1))) #[.int .i64 (lv : Int), .int .i64 ((hd + 1 : Nat) : Int), .int .i64 (dp : Int)]) := HK2.out.set 1 _
          have b3 := But.set W2 K 1 (.int .i64 ((hd : Int) + 1))
          have X3 := hiddenN (b3.keepB X2.out hxK)
          have U3 := hiddenN (U2.out.trans b3)
          clear b3 y0 z1 f1
          generalize W2.setCell ⟨K, 1, none⟩ (.int .i64 ((hd : Int) + 1)) = W3 at *
          have y0 := X3.out.cell (k := 0) rfl
          have y1 := X3.out.cell (k := 1) rfl
          have y2 := X3.out.cell (k := 2) rfl
          have z0 := HK3.out.cell (k := 0) rfl
          have f0 := HK3.out.frozen 0
          simp only [List.getElem_toArray, List.getElem_cons_zero, List.getElem_cons_succ] at y0 y1 y2 z0
          go_upto_region 11 with (go_at_call 60; (with_reducible refine (IL.out _).mono ?_); rintro e W4 ⟨rfl, b4⟩; have X4 := hiddenN (X3.out.below b4); have HK4 := hiddenN (HK3.out.below b4); have U4 := hiddenN (U3.out.trans (But.of_below b4)); clear b4)
          have y0 := X4.out.cell (k := 0) rfl
          have y2 := X4.out.cell (k := 2) rfl
          have z2 := HK4.out.cell (k := 2) rfl
          have f2 := HK4.out.frozen 2
          simp only [List.getElem_toArray, List.getElem_cons_zero, List.getElem_cons_succ] at y0 y2 z2
          go_upto_region 12 with fail
          have HK5 : Hid (BlkA 82 K (W4.setCell ⟨K, 2, none⟩ (.int .i64 ((d : Int) + 1))) #[.int .i64 (lv : Int), .int .i64 ((hd + 1 : Nat) : Int), .int .i64 ((d + 1 : Nat) : Int)]) := HK4.out.set 2 _
          have b5 := But.set W4 K 2 (.int .i64 ((d : Int) + 1))
          have X5 := hiddenN (b5.keepB X4.out hxK)
          have U5 := hiddenN (U4.out.trans b5)
          clear b5 y0 y2 z2 f2
          generalize W4.setCell ⟨K, 2, none⟩ (.int .i64 ((d : Int) + 1)) = W5 at *
          have y0 := X5.out.cell (k := 0) rfl
          have y2 := X5.out.cell (k := 2) rfl
          simp only [List.getElem_toArray, List.getElem_cons_zero, List.getElem_cons_succ] at y0 y2
          have RB := hiddenN (HR.out B K m a c (d + 1) lv (hd + 1) (d + 1 : Nat) W5 (NS.out.but U5.out hBK hBs) hBK HK5.out hlv (by omega) (by omega) (by omega))
          rw [HKK.out] at RB
          unfold RwsE at RB
          have hd1I : ((d + 1 : Nat) : Int) = (d : Int) + 1 := rfl
          rw [hd1I] at RB
          go_upto_region 13 with (go_at_call 51; (with_reducible refine RB.out.mono ?_); rintro e W6 ⟨y, lv', hd', dp', rfl, k6, u6, v6, v7⟩; have HK6 := hiddenN k6; have X6 := hiddenN (u6.keepB X5.out hxK); have U6 := hiddenN (U5.out.trans u6); have V6 := hiddenN v6; have V7 := hiddenN v7; clear k6 u6 v6 v7 y0 y2)
          have y0 := X6.out.cell (k := 0) rfl
          simp only [List.getElem_toArray, List.getElem_cons_zero] at y0
          have hy : y ≤ 2049 := by
            by_cases q : errZ (d + 1) lv bd = 0
            · have := (V7.out q).1; omega
            · have := V6.out q; omega
          obtain ⟨cc, hcc⟩ : ∃ cc, min tn 2049 = cc := ⟨_, rfl⟩
          have hc9 : cc ≤ 2049 := by omega
          have hp : y * cc ≤ 2049 * 2049 := Nat.mul_le_mul hy hc9
          have CP1 := hiddenN (CP.out tn W6)
          rw [hcc] at CP1
          have CP2 := hiddenN (CP.out (y * cc) W6)
          have hwr : wrap64 ((y : Int) * (cc : Int)) = ((y * cc : Nat) : Int) := by
            have q : ((y * cc : Nat) : Int) = (y : Int) * (cc : Int) := Int.natCast_mul ..
            rw [← q]
            exact wrap_fit (by omega) (by omega)
          obtain ⟨yc, hyc⟩ : ∃ q, y * cc = q := ⟨_, rfl⟩
          rw [hyc] at CP2 hwr
          obtain ⟨e7, he7⟩ : ∃ q, errZ (d + 1) lv bd = q := ⟨_, rfl⟩
          rw [he7] at V6 V7 ⊢
          have HE7 := hiddenN he7
          have HCC := hiddenN hcc
          have HYC := hiddenN hyc
          clear he7 hcc hp hyc
          go_wp2_with (first | (go_at_call 53; (with_reducible refine CP1.out.mono ?_); clear CP1; rintro e W7 ⟨rfl, hw⟩; subst hw) | (go_at_call 53; (with_reducible refine CP2.out.mono ?_); rintro e W8 ⟨rfl, hw⟩; subst hw))
          rw [← HRE.out]
          refine ⟨min yc 2049, lv', hd', dp', by rw [HO.out, HE7.out]; rfl, HK6.out, U6.out, fun e => ?_⟩
          rw [HO.out, HE7.out] at e
          obtain ⟨q1, q2, q3, q4⟩ := V7.out e
          have qe : ¬ (Lp.mk (tn : Int) n bd).body.isEmpty = true := by simpa using hbd
          have qp : 1 ≤ totZ bd := pos_tot (err_pos _ _ _ (HE7.out.trans e)) hbd
          refine ⟨?_, by unfold lv1; rw [if_neg qe]; exact q2, by unfold hd1; simp only; rw [if_pos h1]; omega, by unfold dp1; rw [if_neg qe]; simp only; omega⟩
          unfold to1
          rw [if_neg qe, ← HYC.out, ← HCC.out, q1]
          show min (min (totZ bd) 2049 * min tn 2049) 2049 = min (tn * totZ bd) 2049
          rw [cap_mul qp htn, Nat.mul_comm]
        · have hmI : (d : Int) + 1 ≤ (dp : Int) := by omega
          go_enter Try.func59, Try.ntmps59
          go_upto_region 1 with fail
          have X0 := X
          have HK0 := HK
          clear X HK
          generalize w.alloc (.cells #[.int .i64 (tn : Int), .int .i64 n, .slice a k c] 57) = W0 at *
          go_upto_region 3 with (go_at_call 60; (with_reducible refine (IL.out _).mono ?_); rintro e W1 ⟨rfl, b1⟩; have X1 := hiddenN (X0.out.below b1); have HK1 := hiddenN (HK0.out.below b1); have U1 := hiddenN (U0.out.trans (But.of_below b1)); clear b1)
          have y0 := X1.out.cell (k := 0) rfl
          have y1 := X1.out.cell (k := 1) rfl
          have y2 := X1.out.cell (k := 2) rfl
          have z0 := HK1.out.cell (k := 0) rfl
          have f0 := HK1.out.frozen 0
          simp only [List.getElem_toArray, List.getElem_cons_zero, List.getElem_cons_succ] at y0 y1 y2 z0
          go_upto_region 6 with (go_at_call 62; (with_reducible refine (FL0.out _ HK1.out).mono ?_); rintro e W2 ⟨rfl, b2⟩; have X2 := hiddenN (X1.out.below b2); have HK2 := hiddenN (HK1.out.below b2); have U2 := hiddenN (U1.out.trans (But.of_below b2)); clear b2)
          have y0 := X2.out.cell (k := 0) rfl
          have z1 := HK2.out.cell (k := 1) rfl
          have f1 := HK2.out.frozen 1
          simp only [List.getElem_toArray, List.getElem_cons_zero, List.getElem_cons_succ] at y0 z1
          go_upto_region 8 with fail
          have HK3 : Hid (BlkA 82 K (W2.setCell ⟨K, 1, none⟩ (.int .i64 ((hd : Int) + 1))) #[.int .i64 (lv : Int), .int .i64 ((hd + 1 : Nat) : Int), .int .i64 (dp : Int)]) := HK2.out.set 1 _
          have b3 := But.set W2 K 1 (.int .i64 ((hd : Int) + 1))
          have X3 := hiddenN (b3.keepB X2.out hxK)
          have U3 := hiddenN (U2.out.trans b3)
          clear b3 y0 z1 f1
          generalize W2.setCell ⟨K, 1, none⟩ (.int .i64 ((hd : Int) + 1)) = W3 at *
          have y0 := X3.out.cell (k := 0) rfl
          have y1 := X3.out.cell (k := 1) rfl
          have y2 := X3.out.cell (k := 2) rfl
          have z0 := HK3.out.cell (k := 0) rfl
          have f0 := HK3.out.frozen 0
          simp only [List.getElem_toArray, List.getElem_cons_zero, List.getElem_cons_succ] at y0 y1 y2 z0
          go_upto_region 11 with (go_at_call 60; (with_reducible refine (IL.out _).mono ?_); rintro e W4 ⟨rfl, b4⟩; have X4 := hiddenN (X3.out.below b4); have HK4 := hiddenN (HK3.out.below b4); have U4 := hiddenN (U3.out.trans (But.of_below b4)); clear b4)
          have y0 := X4.out.cell (k := 0) rfl
          have y2 := X4.out.cell (k := 2) rfl
          have z2 := HK4.out.cell (k := 2) rfl
          have f2 := HK4.out.frozen 2
          simp only [List.getElem_toArray, List.getElem_cons_zero, List.getElem_cons_succ] at y0 y2 z2
          go_upto_region 12 with fail
          have HK5 : Hid (BlkA 82 K (W4.setCell ⟨K, 2, none⟩ (.int .i64 (dp : Int))) #[.int .i64 (lv : Int), .int .i64 ((hd + 1 : Nat) : Int), .int .i64 (dp : Int)]) := HK4.out.set 2 _
          have b5 := But.set W4 K 2 (.int .i64 (dp : Int))
          have X5 := hiddenN (b5.keepB X4.out hxK)
          have U5 := hiddenN (U4.out.trans b5)
          clear b5 y0 y2 z2 f2
          generalize W4.setCell ⟨K, 2, none⟩ (.int .i64 (dp : Int)) = W5 at *
          have y0 := X5.out.cell (k := 0) rfl
          have y2 := X5.out.cell (k := 2) rfl
          simp only [List.getElem_toArray, List.getElem_cons_zero, List.getElem_cons_succ] at y0 y2
          have RB := hiddenN (HR.out B K m a c (d + 1) lv (hd + 1) dp W5 (NS.out.but U5.out hBK hBs) hBK HK5.out hlv (by omega) (by omega) (by omega))
          rw [HKK.out] at RB
          unfold RwsE at RB
          have hd1I : ((d + 1 : Nat) : Int) = (d : Int) + 1 := rfl
          rw [hd1I] at RB
          go_upto_region 13 with (go_at_call 51; (with_reducible refine RB.out.mono ?_); rintro e W6 ⟨y, lv', hd', dp', rfl, k6, u6, v6, v7⟩; have HK6 := hiddenN k6; have X6 := hiddenN (u6.keepB X5.out hxK); have U6 := hiddenN (U5.out.trans u6); have V6 := hiddenN v6; have V7 := hiddenN v7; clear k6 u6 v6 v7 y0 y2)
          have y0 := X6.out.cell (k := 0) rfl
          simp only [List.getElem_toArray, List.getElem_cons_zero] at y0
          have hy : y ≤ 2049 := by
            by_cases q : errZ (d + 1) lv bd = 0
            · have := (V7.out q).1; omega
            · have := V6.out q; omega
          obtain ⟨cc, hcc⟩ : ∃ cc, min tn 2049 = cc := ⟨_, rfl⟩
          have hc9 : cc ≤ 2049 := by omega
          have hp : y * cc ≤ 2049 * 2049 := Nat.mul_le_mul hy hc9
          have CP1 := hiddenN (CP.out tn W6)
          rw [hcc] at CP1
          have CP2 := hiddenN (CP.out (y * cc) W6)
          have hwr : wrap64 ((y : Int) * (cc : Int)) = ((y * cc : Nat) : Int) := by
            have q : ((y * cc : Nat) : Int) = (y : Int) * (cc : Int) := Int.natCast_mul ..
            rw [← q]
            exact wrap_fit (by omega) (by omega)
          obtain ⟨yc, hyc⟩ : ∃ q, y * cc = q := ⟨_, rfl⟩
          rw [hyc] at CP2 hwr
          obtain ⟨e7, he7⟩ : ∃ q, errZ (d + 1) lv bd = q := ⟨_, rfl⟩
          rw [he7] at V6 V7 ⊢
          have HE7 := hiddenN he7
          have HCC := hiddenN hcc
          have HYC := hiddenN hyc
          clear he7 hcc hp hyc
          go_wp2_with (first | (go_at_call 53; (with_reducible refine CP1.out.mono ?_); clear CP1; rintro e W7 ⟨rfl, hw⟩; subst hw) | (go_at_call 53; (with_reducible refine CP2.out.mono ?_); rintro e W8 ⟨rfl, hw⟩; subst hw))
          rw [← HRE.out]
          refine ⟨min yc 2049, lv', hd', dp', by rw [HO.out, HE7.out]; rfl, HK6.out, U6.out, fun e => ?_⟩
          rw [HO.out, HE7.out] at e
          obtain ⟨q1, q2, q3, q4⟩ := V7.out e
          have qe : ¬ (Lp.mk (tn : Int) n bd).body.isEmpty = true := by simpa using hbd
          have qp : 1 ≤ totZ bd := pos_tot (err_pos _ _ _ (HE7.out.trans e)) hbd
          refine ⟨?_, by unfold lv1; rw [if_neg qe]; exact q2, by unfold hd1; simp only; rw [if_pos h1]; omega, by unfold dp1; rw [if_neg qe]; simp only; omega⟩
          unfold to1
          rw [if_neg qe, ← HYC.out, ← HCC.out, q1]
          show min (min (totZ bd) 2049 * min tn 2049) 2049 = min (tn * totZ bd) 2049
          rw [cap_mul qp htn, Nat.mul_comm]
      · have h1' : ¬ (tn : Int) > 1 := h1
        by_cases hm : dp < d + 1
        · have hmI : (dp : Int) < (d : Int) + 1 := by omega
          go_enter Try.func59, Try.ntmps59
          go_upto_region 1 with fail
          have X0 := X
          have HK0 := HK
          clear X HK
          generalize w.alloc (.cells #[.int .i64 (tn : Int), .int .i64 n, .slice a k c] 57) = W0 at *
          go_upto_region 3 with (go_at_call 60; (with_reducible refine (IL.out _).mono ?_); rintro e W1 ⟨rfl, b1⟩; have X1 := hiddenN (X0.out.below b1); have HK1 := hiddenN (HK0.out.below b1); have U1 := hiddenN (U0.out.trans (But.of_below b1)); clear b1)
          have y0 := X1.out.cell (k := 0) rfl
          have y1 := X1.out.cell (k := 1) rfl
          have y2 := X1.out.cell (k := 2) rfl
          have z0 := HK1.out.cell (k := 0) rfl
          have f0 := HK1.out.frozen 0
          simp only [List.getElem_toArray, List.getElem_cons_zero, List.getElem_cons_succ] at y0 y1 y2 z0
          go_upto_region 6 with (go_at_call 62; (with_reducible refine (FL0.out _ HK1.out).mono ?_); rintro e W2 ⟨rfl, b2⟩; have X2 := hiddenN (X1.out.below b2); have HK2 := hiddenN (HK1.out.below b2); have U2 := hiddenN (U1.out.trans (But.of_below b2)); clear b2)
          have y0 := X2.out.cell (k := 0) rfl
          have z1 := HK2.out.cell (k := 1) rfl
          have f1 := HK2.out.frozen 1
          simp only [List.getElem_toArray, List.getElem_cons_zero, List.getElem_cons_succ] at y0 z1
          go_upto_region 8 with fail
          have HK3 := HK2
          have X3 := X2
          have U3 := U2
          clear y0 z1 f1
          obtain ⟨W3, hW3⟩ : ∃ q, W2 = q := ⟨_, rfl⟩
          rw [hW3] at HK3 X3 U3 ⊢
          clear hW3 HK2 X2 U2
          have y0 := X3.out.cell (k := 0) rfl
          have y1 := X3.out.cell (k := 1) rfl
          have y2 := X3.out.cell (k := 2) rfl
          have z0 := HK3.out.cell (k := 0) rfl
          have f0 := HK3.out.frozen 0
          simp only [List.getElem_toArray, List.getElem_cons_zero, List.getElem_cons_succ] at y0 y1 y2 z0
          go_upto_region 11 with (go_at_call 60; (with_reducible refine (IL.out _).mono ?_); rintro e W4 ⟨rfl, b4⟩; have X4 := hiddenN (X3.out.below b4); have HK4 := hiddenN (HK3.out.below b4); have U4 := hiddenN (U3.out.trans (But.of_below b4)); clear b4)
          have y0 := X4.out.cell (k := 0) rfl
          have y2 := X4.out.cell (k := 2) rfl
          have z2 := HK4.out.cell (k := 2) rfl
          have f2 := HK4.out.frozen 2
          simp only [List.getElem_toArray, List.getElem_cons_zero, List.getElem_cons_succ] at y0 y2 z2
          go_upto_region 12 with fail
          have HK5 : Hid (BlkA 82 K (W4.setCell ⟨K, 2, none⟩ (.int .i64 ((d : Int) + 1))) #[.int .i64 (lv : Int), .int .i64 (hd : Int), .int .i64 ((d + 1 : Nat) : Int)]) := HK4.out.set 2 _
          have b5 := But.set W4 K 2 (.int .i64 ((d : Int) + 1))
          have X5 := hiddenN (b5.keepB X4.out hxK)
          have U5 := hiddenN (U4.out.trans b5)
          clear b5 y0 y2 z2 f2
          generalize W4.setCell ⟨K, 2, none⟩ (.int .i64 ((d : Int) + 1)) = W5 at *
          have y0 := X5.out.cell (k := 0) rfl
          have y2 := X5.out.cell (k := 2) rfl
          simp only [List.getElem_toArray, List.getElem_cons_zero, List.getElem_cons_succ] at y0 y2
          have RB := hiddenN (HR.out B K m a c (d + 1) lv (hd) (d + 1 : Nat) W5 (NS.out.but U5.out hBK hBs) hBK HK5.out hlv (by omega) (by omega) (by omega))
          rw [HKK.out] at RB
          unfold RwsE at RB
          have hd1I : ((d + 1 : Nat) : Int) = (d : Int) + 1 := rfl
          rw [hd1I] at RB
          go_upto_region 13 with (go_at_call 51; (with_reducible refine RB.out.mono ?_); rintro e W6 ⟨y, lv', hd', dp', rfl, k6, u6, v6, v7⟩; have HK6 := hiddenN k6; have X6 := hiddenN (u6.keepB X5.out hxK); have U6 := hiddenN (U5.out.trans u6); have V6 := hiddenN v6; have V7 := hiddenN v7; clear k6 u6 v6 v7 y0 y2)
          have y0 := X6.out.cell (k := 0) rfl
          simp only [List.getElem_toArray, List.getElem_cons_zero] at y0
          have hy : y ≤ 2049 := by
            by_cases q : errZ (d + 1) lv bd = 0
            · have := (V7.out q).1; omega
            · have := V6.out q; omega
          obtain ⟨cc, hcc⟩ : ∃ cc, min tn 2049 = cc := ⟨_, rfl⟩
          have hc9 : cc ≤ 2049 := by omega
          have hp : y * cc ≤ 2049 * 2049 := Nat.mul_le_mul hy hc9
          have CP1 := hiddenN (CP.out tn W6)
          rw [hcc] at CP1
          have CP2 := hiddenN (CP.out (y * cc) W6)
          have hwr : wrap64 ((y : Int) * (cc : Int)) = ((y * cc : Nat) : Int) := by
            have q : ((y * cc : Nat) : Int) = (y : Int) * (cc : Int) := Int.natCast_mul ..
            rw [← q]
            exact wrap_fit (by omega) (by omega)
          obtain ⟨yc, hyc⟩ : ∃ q, y * cc = q := ⟨_, rfl⟩
          rw [hyc] at CP2 hwr
          obtain ⟨e7, he7⟩ : ∃ q, errZ (d + 1) lv bd = q := ⟨_, rfl⟩
          rw [he7] at V6 V7 ⊢
          have HE7 := hiddenN he7
          have HCC := hiddenN hcc
          have HYC := hiddenN hyc
          clear he7 hcc hp hyc
          go_wp2_with (first | (go_at_call 53; (with_reducible refine CP1.out.mono ?_); clear CP1; rintro e W7 ⟨rfl, hw⟩; subst hw) | (go_at_call 53; (with_reducible refine CP2.out.mono ?_); rintro e W8 ⟨rfl, hw⟩; subst hw))
          rw [← HRE.out]
          refine ⟨min yc 2049, lv', hd', dp', by rw [HO.out, HE7.out]; rfl, HK6.out, U6.out, fun e => ?_⟩
          rw [HO.out, HE7.out] at e
          obtain ⟨q1, q2, q3, q4⟩ := V7.out e
          have qe : ¬ (Lp.mk (tn : Int) n bd).body.isEmpty = true := by simpa using hbd
          have qp : 1 ≤ totZ bd := pos_tot (err_pos _ _ _ (HE7.out.trans e)) hbd
          refine ⟨?_, by unfold lv1; rw [if_neg qe]; exact q2, by unfold hd1; simp only; rw [if_neg (show ¬ (1 : Int) < (tn : Int) by omega)]; omega, by unfold dp1; rw [if_neg qe]; simp only; omega⟩
          unfold to1
          rw [if_neg qe, ← HYC.out, ← HCC.out, q1]
          show min (min (totZ bd) 2049 * min tn 2049) 2049 = min (tn * totZ bd) 2049
          rw [cap_mul qp htn, Nat.mul_comm]
        · have hmI : (d : Int) + 1 ≤ (dp : Int) := by omega
          go_enter Try.func59, Try.ntmps59
          go_upto_region 1 with fail
          have X0 := X
          have HK0 := HK
          clear X HK
          generalize w.alloc (.cells #[.int .i64 (tn : Int), .int .i64 n, .slice a k c] 57) = W0 at *
          go_upto_region 3 with (go_at_call 60; (with_reducible refine (IL.out _).mono ?_); rintro e W1 ⟨rfl, b1⟩; have X1 := hiddenN (X0.out.below b1); have HK1 := hiddenN (HK0.out.below b1); have U1 := hiddenN (U0.out.trans (But.of_below b1)); clear b1)
          have y0 := X1.out.cell (k := 0) rfl
          have y1 := X1.out.cell (k := 1) rfl
          have y2 := X1.out.cell (k := 2) rfl
          have z0 := HK1.out.cell (k := 0) rfl
          have f0 := HK1.out.frozen 0
          simp only [List.getElem_toArray, List.getElem_cons_zero, List.getElem_cons_succ] at y0 y1 y2 z0
          go_upto_region 6 with (go_at_call 62; (with_reducible refine (FL0.out _ HK1.out).mono ?_); rintro e W2 ⟨rfl, b2⟩; have X2 := hiddenN (X1.out.below b2); have HK2 := hiddenN (HK1.out.below b2); have U2 := hiddenN (U1.out.trans (But.of_below b2)); clear b2)
          have y0 := X2.out.cell (k := 0) rfl
          have z1 := HK2.out.cell (k := 1) rfl
          have f1 := HK2.out.frozen 1
          simp only [List.getElem_toArray, List.getElem_cons_zero, List.getElem_cons_succ] at y0 z1
          go_upto_region 8 with fail
          have HK3 := HK2
          have X3 := X2
          have U3 := U2
          clear y0 z1 f1
          obtain ⟨W3, hW3⟩ : ∃ q, W2 = q := ⟨_, rfl⟩
          rw [hW3] at HK3 X3 U3 ⊢
          clear hW3 HK2 X2 U2
          have y0 := X3.out.cell (k := 0) rfl
          have y1 := X3.out.cell (k := 1) rfl
          have y2 := X3.out.cell (k := 2) rfl
          have z0 := HK3.out.cell (k := 0) rfl
          have f0 := HK3.out.frozen 0
          simp only [List.getElem_toArray, List.getElem_cons_zero, List.getElem_cons_succ] at y0 y1 y2 z0
          go_upto_region 11 with (go_at_call 60; (with_reducible refine (IL.out _).mono ?_); rintro e W4 ⟨rfl, b4⟩; have X4 := hiddenN (X3.out.below b4); have HK4 := hiddenN (HK3.out.below b4); have U4 := hiddenN (U3.out.trans (But.of_below b4)); clear b4)
          have y0 := X4.out.cell (k := 0) rfl
          have y2 := X4.out.cell (k := 2) rfl
          have z2 := HK4.out.cell (k := 2) rfl
          have f2 := HK4.out.frozen 2
          simp only [List.getElem_toArray, List.getElem_cons_zero, List.getElem_cons_succ] at y0 y2 z2
          go_upto_region 12 with fail
          have HK5 : Hid (BlkA 82 K (W4.setCell ⟨K, 2, none⟩ (.int .i64 (dp : Int))) #[.int .i64 (lv : Int), .int .i64 (hd : Int), .int .i64 (dp : Int)]) := HK4.out.set 2 _
          have b5 := But.set W4 K 2 (.int .i64 (dp : Int))
          have X5 := hiddenN (b5.keepB X4.out hxK)
          have U5 := hiddenN (U4.out.trans b5)
          clear b5 y0 y2 z2 f2
          generalize W4.setCell ⟨K, 2, none⟩ (.int .i64 (dp : Int)) = W5 at *
          have y0 := X5.out.cell (k := 0) rfl
          have y2 := X5.out.cell (k := 2) rfl
          simp only [List.getElem_toArray, List.getElem_cons_zero, List.getElem_cons_succ] at y0 y2
          have RB := hiddenN (HR.out B K m a c (d + 1) lv (hd) dp W5 (NS.out.but U5.out hBK hBs) hBK HK5.out hlv (by omega) (by omega) (by omega))
          rw [HKK.out] at RB
          unfold RwsE at RB
          have hd1I : ((d + 1 : Nat) : Int) = (d : Int) + 1 := rfl
          rw [hd1I] at RB
          go_upto_region 13 with (go_at_call 51; (with_reducible refine RB.out.mono ?_); rintro e W6 ⟨y, lv', hd', dp', rfl, k6, u6, v6, v7⟩; have HK6 := hiddenN k6; have X6 := hiddenN (u6.keepB X5.out hxK); have U6 := hiddenN (U5.out.trans u6); have V6 := hiddenN v6; have V7 := hiddenN v7; clear k6 u6 v6 v7 y0 y2)
          have y0 := X6.out.cell (k := 0) rfl
          simp only [List.getElem_toArray, List.getElem_cons_zero] at y0
          have hy : y ≤ 2049 := by
            by_cases q : errZ (d + 1) lv bd = 0
            · have := (V7.out q).1; omega
            · have := V6.out q; omega
          obtain ⟨cc, hcc⟩ : ∃ cc, min tn 2049 = cc := ⟨_, rfl⟩
          have hc9 : cc ≤ 2049 := by omega
          have hp : y * cc ≤ 2049 * 2049 := Nat.mul_le_mul hy hc9
          have CP1 := hiddenN (CP.out tn W6)
          rw [hcc] at CP1
          have CP2 := hiddenN (CP.out (y * cc) W6)
          have hwr : wrap64 ((y : Int) * (cc : Int)) = ((y * cc : Nat) : Int) := by
            have q : ((y * cc : Nat) : Int) = (y : Int) * (cc : Int) := Int.natCast_mul ..
            rw [← q]
            exact wrap_fit (by omega) (by omega)
          obtain ⟨yc, hyc⟩ : ∃ q, y * cc = q := ⟨_, rfl⟩
          rw [hyc] at CP2 hwr
          obtain ⟨e7, he7⟩ : ∃ q, errZ (d + 1) lv bd = q := ⟨_, rfl⟩
          rw [he7] at V6 V7 ⊢
          have HE7 := hiddenN he7
          have HCC := hiddenN hcc
          have HYC := hiddenN hyc
          clear he7 hcc hp hyc
          go_wp2_with (first | (go_at_call 53; (with_reducible refine CP1.out.mono ?_); clear CP1; rintro e W7 ⟨rfl, hw⟩; subst hw) | (go_at_call 53; (with_reducible refine CP2.out.mono ?_); rintro e W8 ⟨rfl, hw⟩; subst hw))
          rw [← HRE.out]
          refine ⟨min yc 2049, lv', hd', dp', by rw [HO.out, HE7.out]; rfl, HK6.out, U6.out, fun e => ?_⟩
          rw [HO.out, HE7.out] at e
          obtain ⟨q1, q2, q3, q4⟩ := V7.out e
          have qe : ¬ (Lp.mk (tn : Int) n bd).body.isEmpty = true := by simpa using hbd
          have qp : 1 ≤ totZ bd := pos_tot (err_pos _ _ _ (HE7.out.trans e)) hbd
          refine ⟨?_, by unfold lv1; rw [if_neg qe]; exact q2, by unfold hd1; simp only; rw [if_neg (show ¬ (1 : Int) < (tn : Int) by omega)]; omega, by unfold dp1; rw [if_neg qe]; simp only; omega⟩
          unfold to1
          rw [if_neg qe, ← HYC.out, ← HCC.out, q1]
          show min (min (totZ bd) 2049 * min tn 2049) 2049 = min (tn * totZ bd) 2049
          rw [cap_mul qp htn, Nat.mul_comm]
    · have hfb : ((f : Int) != 0) = true := by simpa using hf0
      have HO : Hid (oneZ d lv ⟨t, n, bd⟩ = f) := by
        show _ = _
        unfold oneZ
        simp only [hke, if_neg Bool.false_ne_true]
        rw [hf, if_pos hf0]
      have FL0 : Hid (∀ (u : World), BlkA 82 K u #[.int .i64 (lv : Int), .int .i64 (hd : Int), .int .i64 (dp : Int)] → Calls Try.prog 62 #[.pointer (some ⟨K, 0, none⟩), .agg #[.int .i64 t, .int .i64 n, .slice a k c], .int .i64 ((d : Int) + 1)] u fun e w' => e = .returned (.int .i64 (f : Int)) ∧ Below u.heap.size u w') := fun u h => by
        have := FL.out (d + 1) u h
        rw [hf] at this
        exact this
      clear hf FL hke
      go_enter Try.func59, Try.ntmps59
      go_upto_region 1 with fail
      have X0 := X
      have HK0 := HK
      clear X HK
      generalize w.alloc (.cells #[.int .i64 t, .int .i64 n, .slice a k c] 57) = W0 at *
      go_upto_region 3 with (go_at_call 60; (with_reducible refine (IL.out _).mono ?_); rintro e W1 ⟨rfl, b1⟩; have X1 := hiddenN (X0.out.below b1); have HK1 := hiddenN (HK0.out.below b1); have U1 := hiddenN (U0.out.trans (But.of_below b1)); clear b1)
      have y0 := X1.out.cell (k := 0) rfl
      have y1 := X1.out.cell (k := 1) rfl
      have y2 := X1.out.cell (k := 2) rfl
      have z0 := HK1.out.cell (k := 0) rfl
      have f0 := HK1.out.frozen 0
      simp only [List.getElem_toArray, List.getElem_cons_zero, List.getElem_cons_succ] at y0 y1 y2 z0
      go_wp2_with (go_at_call 62; (with_reducible refine (FL0.out _ HK1.out).mono ?_); rintro e W2 ⟨rfl, b2⟩; have X2 := hiddenN (X1.out.below b2); have HK2 := hiddenN (HK1.out.below b2); have U2 := hiddenN (U1.out.trans (But.of_below b2)); clear b2)
      rw [← HRE.out]
      exact ⟨0, lv, hd, dp, by rw [HO.out]; rfl, HK2.out, U2.out, fun e => absurd (HO.out.symm.trans e) hf0⟩
/-- What is left of a nest behind k loops, as it lies. -/
def NsK (F : Nat → Prop) (m : Bool) (w : World) (a : Option Addr) (k : Nat) (r : List Lp) : Prop := r = [] ∨ ∃ b o, a = some ⟨b, o, none⟩ ∧ NstR F m w b (o + k * 3) r
theorem NsK.start {F : Nat → Prop} {m : Bool} {w : World} {a : Option Addr} {l : List Lp} (h : Nst F m w a l) : NsK F m w a 0 l := by
  rcases h with h | ⟨b, o, e, h⟩
  · exact .inl h
  · exact .inr ⟨b, o, e, by rw [Nat.zero_mul]; exact h⟩
theorem NsK.keep {F : Nat → Prop} {m : Bool} {w w' : World} {a : Option Addr} {k : Nat} {l : List Lp} (h : NsK F m w a k l) (hk : ∀ k, F k → w'.heap[k]? = w.heap[k]?) : NsK F m w' a k l := by
  rcases h with h | ⟨b, o, e, h⟩
  · exact .inl h
  · exact .inr ⟨b, o, e, NstR.keep hk _ _ _ h⟩
theorem NsK.below {B : Nat} {m : Bool} {w w' : World} {a : Option Addr} {k : Nat} {l : List Lp} (h : NsK (· < B) m w a k l) (hb : Below B w w') : NsK (· < B) m w' a k l := h.keep fun k hk => hb.block k hk
theorem NsK.tl {F : Nat → Prop} {m : Bool} {w : World} {a : Option Addr} {k : Nat} {x : Lp} {r : List Lp} (h : NsK F m w a k (x :: r)) : NsK F m w a (k + 1) r := by
  rcases h with h | ⟨b, o, e, h⟩
  · cases h
  · exact .inr ⟨b, o, e, h.tl⟩
theorem NsK.hd {F : Nat → Prop} {m : Bool} {w : World} {a : Option Addr} {k : Nat} {x : Lp} {r : List Lp} (h : NsK F m w a k (x :: r)) : ∃ (b o : Nat) (a1 : Option Addr) (c1 : Nat), a = some ⟨b, o, none⟩ ∧ w.cell? ⟨b, o + k * 3, none⟩ = some (.int .i64 x.times) ∧ w.cell? ⟨b, o + k * 3 + 1, none⟩ = some (.int .i64 x.node) ∧ w.cell? ⟨b, o + k * 3 + 2, none⟩ = some (.slice a1 x.body.length c1) ∧ Nst F m w a1 x.body := by
  rcases h with h | ⟨b, o, e, h⟩
  · cases h
  · obtain ⟨h1, h2, a1, c1, h3, h4⟩ := h.hd
    exact ⟨b, o, a1, c1, e, h1, h2, h3, h4⟩
theorem one_deep {d lv : Nat} {x : Lp} (h : oneZ d lv x = 0) : dp1 d x ≤ 16 := by
  have h1 : errZ d lv [x] = 0 := by rw [err_cons, h, err_nil_z]; rfl
  have := err_deep [x] d lv h1
  rw [dps_cons] at this
  omega
theorem hd1_siz (x : Lp) : hd1 x ≤ 1 + sizZ x.body := by
  unfold hd1
  have := hds_siz x.body
  split <;> omega
set_option maxRecDepth 100000 in
set_option maxHeartbeats 16000000 in
theorem rowZ_any (l : List Lp) : RowOK l := by
  refine nest_ind (fun l ih => ?_) l
  intro B K m a c d lv hd dp w hN hBK hK hlv hhd hdp hd16
  obtain ⟨RE, hRE⟩ : ∃ Q, RwsE l d lv hd dp K w = Q := ⟨_, rfl⟩
  rw [hRE]
  have HRE := hiddenN hRE
  have IH := hiddenN ih
  have N0 := hiddenN (NsK.start hN)
  have HK0 := hiddenN hK
  have hBs : B ≤ w.heap.size := Nat.le_trans hBK (Nat.le_of_lt hK.lt)
  obtain ⟨L, hL⟩ : ∃ L, l.length = L := ⟨_, rfl⟩
  have hLm : L ≤ 1000000 := by have := len_siz l; omega
  have hLI : (L : Int) ≤ 1000000 := by omega
  have HL := hiddenN hL
  have HHD := hiddenN hhd
  have HDP := hiddenN hdp
  have HLV := hiddenN hlv
  rw [hL]
  clear hRE ih hN hK hL hhd
  go_enter Try.func51, Try.ntmps51
  go_upto_region 3 with fail
  go_loopg [8, 15] L (fun gk tv iv wr => ∃ (pre rest : List Lp) (k T lvc hdc dpc : Nat), l = pre ++ rest ∧ pre.length = k ∧ gk = rest.length ∧ iv = .int .i64 (k : Int) ∧ tv = .int .i64 (T : Int) ∧ T = min (totZ pre) 2049 ∧ BlkA 82 K wr #[.int .i64 (lvc : Int), .int .i64 (hdc : Int), .int .i64 (dpc : Int)] ∧ But K w wr ∧ NsK (· < B) m wr a k rest ∧ errZ d lv l = errZ d lvc rest ∧ lvc = lv + lvsZ pre ∧ hdc = hd + hdsZ pre ∧ dpc = max dp (dpsZ d pre) ∧ lvc ≤ 2048 ∧ dpc ≤ 16 ∧ hdc + sizZ rest ≤ 1000000)
  case atStart => exact ⟨[], l, 0, 0, lv, hd, dp, rfl, rfl, HL.out.symm, rfl, rfl, by rw [tot_nil]; rfl, HK0.out, But.of_below (Below.refl _ _), N0.out, rfl, by rw [lvs_nil]; rfl, by rw [hds_nil]; rfl, by rw [dps_nil]; omega, HLV.out, HDP.out, HHD.out⟩
  case round =>
    clear HK0 N0
    obtain ⟨pre, rest, k, T, lvc, hdc, dpc, hl, hk, hg, rfl, rfl, hT, hKb, hU, hNs, hE, h1, h2, h3, h4, h5, h6⟩ := hrel
    subst hg
    have HK := hiddenN hKb
    have HU := hiddenN hU
    have NS := hiddenN hNs
    have HE := hiddenN hE
    have HL2 := hiddenN hl
    have HT := hiddenN hT
    have H1 := hiddenN h1
    have H2 := hiddenN h2
    have H3 := hiddenN h3
    have H4 := hiddenN h4
    have H5 := hiddenN h5
    have H6 := hiddenN h6
    have HPK := hiddenN hk
    have hLk : L = k + rest.length := by rw [← HL.out, hl, List.length_append, hk]
    have HLK := hiddenN hLk
    clear hLk
    have hT9 : (T : Int) ≤ 2049 := by omega
    have hKw : K < wr.heap.size := hKb.lt
    have hwr : w.heap.size ≤ wr.heap.size := hU.size
    clear hKb hU hNs hE hl hT h1 h2 h3 h4 h5 h6 hk
    cases rest with
    | nil =>
      have hki : ¬ ((k : Int) < (L : Int)) := by rw [HLK.out]; simp
      have hLk2 : Hid (pre = l) := by show _ = _; rw [HL2.out, List.append_nil]
      go_wp2
      rw [← HRE.out]
      have e0 : errZ d lv l = 0 := by rw [HE.out, err_nil_z]
      refine ⟨T, lvc, hdc, dpc, by rw [e0]; rfl, HK.out, HU.out, fun h => absurd e0 h, fun _ => ?_⟩
      rw [← hLk2.out]
      exact ⟨HT.out, H1.out, H2.out, H3.out⟩
    | cons x r =>
      have hki : (k : Int) < (L : Int) := by rw [HLK.out]; simp; omega
      have hkL : k < L := by rw [HLK.out]; simp
      have hkm : (k : Int) ≤ 1000000 := by omega
      obtain ⟨b, o, a1, c1, rfl, q0, q1, q2, q3⟩ := NS.out.hd
      have b1 := (Below.refl wr.heap.size wr).alloc (Nat.le_refl _) (.cells #[.int .i64 x.times, .int .i64 x.node, .slice a1 x.body.length c1] 57)
      have HK1 := hiddenN (HK.out.below b1)
      have U1 := hiddenN (HU.out.trans (But.of_below b1))
      have X1 := hiddenN (blkA_new 57 wr #[.int .i64 x.times, .int .i64 x.node, .slice a1 x.body.length c1])
      have NX := hiddenN (q3.below (b1.mono (by omega)))
      have hmem : x ∈ l := by rw [HL2.out]; exact List.mem_append_right _ (List.mem_cons_self ..)
      have LP := hiddenN (loopZ_any x (IH.out x hmem) B K m a1 c1 d lvc hdc dpc _ NX.out hBK HK1.out H4.out (by have := H6.out; rw [siz_cons] at this; omega) H5.out hd16)
      unfold LopE at LP
      have HX : Hid (errZ d lv l = if oneZ d lvc x ≠ 0 then oneZ d lvc x else errZ d (lvc + lv1 x) r) := by show _ = _; rw [HE.out, err_cons]
      have NSL : Hid (NsK (· < B) m w (some ⟨b, o, none⟩) (k + 1) r) := NS.out.tl.keep fun j hj => by
        have := HU.out.block j (Nat.lt_of_lt_of_le hj hBs) (by omega)
        exact this.symm
      clear b1 q3 NX hmem
      obtain ⟨L1, hL1⟩ : ∃ q, x.body.length = q := ⟨_, rfl⟩
      rw [hL1] at q2 X1
      rw [hL1] at LP
      obtain ⟨e1, he1⟩ : ∃ q, oneZ d lvc x = q := ⟨_, rfl⟩
      rw [he1] at LP HX
      have HE1 := hiddenN he1
      obtain ⟨tx, htx⟩ : ∃ q, x.times = q := ⟨_, rfl⟩
      obtain ⟨nx, hnx⟩ : ∃ q, x.node = q := ⟨_, rfl⟩
      rw [htx] at q0 X1 LP
      rw [hnx] at q1 X1 LP
      rw [htx, hnx, hL1] at HK1 U1
      have y0 := X1.out.cell (k := 0) rfl
      have y1 := X1.out.cell (k := 1) rfl
      have y2 := X1.out.cell (k := 2) rfl
      simp only [List.getElem_toArray, List.getElem_cons_zero, List.getElem_cons_succ] at y0 y1 y2
      clear htx hnx hL1 he1 X1 HE NS
      go_upto_region 5 with fail
      generalize wr.alloc (.cells #[.int .i64 tx, .int .i64 nx, .slice a1 L1 c1] 57) = W1 at *
      by_cases he : e1 = 0
      · subst he
        have hv : ∀ y : Nat, y = min (to1 x) 2049 → y ≤ 2049 := fun y h => by omega
        go_upto_region 8 with (go_at_call 59; (with_reducible refine LP.out.mono ?_); rintro e W2 ⟨y, lv2, hd2, dp2, rfl, k2, u2, v2⟩; have HK2 := hiddenN k2; have U2 := hiddenN (U1.out.trans u2); have V2 := hiddenN (v2 rfl); clear k2 u2 v2)
        have hy9 : (y : Int) ≤ 2049 := by have := V2.out.1; omega
        have CP1 : Hid (Calls Try.prog 53 #[.int .i64 ((T : Int) + (y : Int))] W2 fun e w' => e = .returned (.int .i64 ((min (T + y) 2049 : Nat) : Int)) ∧ W2 = w') := cappedN_any (T + y) W2
        have NS2 : Hid (NsK (· < B) m W2 (some ⟨b, o, none⟩) (k + 1) r) := (NSL.out.below (U2.out.below hBK hBs))
        clear LP y0 y1 y2 q0 q1 q2
        go_wp2_with (go_at_call 53; (with_reducible refine CP1.out.mono ?_); rintro e W3 ⟨rfl, hw⟩; subst hw)
        go_roundg r.length
        case measure => simp
        case rel =>
          obtain ⟨v1, v2, v3, v4⟩ := V2.out
          refine ⟨pre ++ [x], r, k + 1, min (T + y) 2049, lv2, hd2, dp2, by rw [HL2.out]; simp, by rw [List.length_append, HPK.out]; rfl, rfl, by go_num, rfl, ?_, HK2.out, U2.out, NS2.out, ?_, ?_, ?_, ?_, ?_, ?_, ?_⟩
          · rw [tot_snoc, HT.out, v1, cap_add]
          · rw [HX.out, v2]; rfl
          · rw [lvs_snoc, v2, H1.out]; omega
          · rw [hds_snoc, v3, H2.out]; omega
          · rw [dps_snoc, v4, H3.out]; omega
          · rw [v2]; exact one_lvs HE1.out H4.out
          · rw [v4]; have := one_deep HE1.out; have := H5.out; omega
          · have g1 := H6.out; have g2 := hd1_siz x; rw [siz_cons] at g1; omega
      · have hb1 : ((e1 : Int) != 0) = true := by simpa using he
        go_wp2_with (go_at_call 59; (with_reducible refine LP.out.mono ?_); rintro e W2 ⟨y, lv2, hd2, dp2, rfl, k2, u2, -⟩; have HK2 := hiddenN k2; have U2 := hiddenN (U1.out.trans u2); clear k2 u2)
        rw [← HRE.out]
        have e0 : errZ d lv l = e1 := by rw [HX.out, if_pos he]
        exact ⟨0, lv2, hd2, dp2, by rw [e0]; rfl, HK2.out, U2.out, fun _ => rfl, fun h => absurd (e0.symm.trans h) he⟩
theorem below_set4 {B K : Nat} {w W : World} (h : Below B w W) (hK : B ≤ K) (a b c d : Value) : Below B w ((((W.setCell ⟨K, 0, none⟩ a).setCell ⟨K, 1, none⟩ b).setCell ⟨K, 2, none⟩ c).setCell ⟨K, 3, none⟩ d) :=
  (((h.setCell (p := ⟨K, 0, none⟩) hK _).setCell (p := ⟨K, 1, none⟩) hK _).setCell (p := ⟨K, 2, none⟩) hK _).setCell (p := ⟨K, 3, none⟩) hK _
/-- Measure's Size. -/
def sizV (l : List Lp) : Value := .agg (if chkZ l = 0 then #[.int .i64 (lvsZ l : Int), .int .i64 (hdsZ l : Int), .int .i64 (dpsZ 0 l : Int), .int .i64 (totZ l : Int)] else #[.int .i64 0, .int .i64 0, .int .i64 0, .int .i64 0])
set_option maxRecDepth 100000 in
set_option maxHeartbeats 8000000 in
theorem measZ_any (l : List Lp) (m : Bool) (a : Option Addr) (c : Nat) (w : World) (hN : Nst (· < w.heap.size) m w a l) (hs : sizZ l ≤ 1000000) :
    Calls Try.prog 29 #[.slice a l.length c] w fun e w' => e = .returned (.tuple #[sizV l, .int .i64 (chkZ l : Int)]) ∧ Below w.heap.size w w' := by
  have b0 := (Below.refl w.heap.size w).alloc (Nat.le_refl _) (.cells #[.int .i64 0, .int .i64 0, .int .i64 0, .int .i64 0] 47)
  have b1 := b0.alloc b0.size (.cells #[.int .i64 0, .int .i64 0, .int .i64 0] 82)
  have hz : (w.alloc (.cells #[.int .i64 0, .int .i64 0, .int .i64 0, .int .i64 0] 47)).heap.size = w.heap.size + 1 := World.size_alloc _ _
  have x1 := blkA_new 82 (w.alloc (.cells #[.int .i64 0, .int .i64 0, .int .i64 0, .int .i64 0] 47)) #[.int .i64 0, .int .i64 0, .int .i64 0]
  have x0 := (blkA_new 47 w #[.int .i64 0, .int .i64 0, .int .i64 0, .int .i64 0]).below ((Below.refl _ _).alloc (Nat.le_refl _) (.cells #[.int .i64 0, .int .i64 0, .int .i64 0] 82))
  rw [hz] at x1
  have RW := hiddenN (rowZ_any l w.heap.size (w.heap.size + 1) m a c 0 0 0 0 _ (hN.below b1) (Nat.le_succ _) x1 (by decide) (by omega) (by decide) (by decide))
  unfold RwsE at RW
  rw [show ((0 : Nat) : Int) = 0 from rfl] at RW
  have X0 := hiddenN x0
  have B1 := hiddenN b1
  obtain ⟨E, hE⟩ : ∃ q, errZ 0 0 l = q := ⟨_, rfl⟩
  rw [hE] at RW
  have HE := hiddenN hE
  obtain ⟨L, hL⟩ : ∃ q, l.length = q := ⟨_, rfl⟩
  rw [hL] at RW ⊢
  obtain ⟨RE, hRE⟩ : ∃ Q : Ending → World → Prop, (fun e w' => e = .returned (.tuple #[sizV l, .int .i64 (chkZ l : Int)]) ∧ Below w.heap.size w w') = Q := ⟨_, rfl⟩
  rw [hRE]
  have HRE := hiddenN hRE
  clear b0 b1 hz x0 x1 hN hE hL hRE
  go_enter Try.func29, Try.ntmps29
  go_upto_region 2 with fail
  generalize (w.alloc (.cells #[.int .i64 0, .int .i64 0, .int .i64 0, .int .i64 0] 47)).alloc (.cells #[.int .i64 0, .int .i64 0, .int .i64 0] 82) = W1 at *
  go_upto_region 3 with (go_at_call 51; (with_reducible refine RW.out.mono ?_); rintro e W2 ⟨y, lv2, hd2, dp2, rfl, k2, u2, -, v2⟩; have HK2 := hiddenN k2; have X2 := hiddenN (u2.keepB X0.out (by omega)); have B2 := hiddenN (B1.out.trans (u2.below (Nat.le_succ _) B1.out.size)); have V2 := hiddenN v2; clear k2 u2 v2)
  have f0 := X2.out.frozen 0
  have f1 := X2.out.frozen 1
  have f2 := X2.out.frozen 2
  have f3 := X2.out.frozen 3
  have z0 := X2.out.cell (k := 0) rfl
  have z1 := X2.out.cell (k := 1) rfl
  have z2 := X2.out.cell (k := 2) rfl
  have z3 := X2.out.cell (k := 3) rfl
  have y0 := HK2.out.cell (k := 0) rfl
  have y1 := HK2.out.cell (k := 1) rfl
  have y2 := HK2.out.cell (k := 2) rfl
  simp only [List.getElem_toArray, List.getElem_cons_zero, List.getElem_cons_succ] at z0 z1 z2 z3 y0 y1 y2
  by_cases he : E = 0
  · subst he
    have hy : y = min (totZ l) 2049 := (V2.out rfl).1
    by_cases ht : 2048 < totZ l
    · have hyI : (y : Int) > 2048 := by omega
      clear hy
      go_wp2
      refine bodyPost_ret (v := .tuple #[.agg #[.int .i64 0, .int .i64 0, .int .i64 0, .int .i64 0], .int .i64 5]) (by simp [results, Try.results29, go_sem, z0, z1, z2, z3]) rfl ?_
      rw [← HRE.out]
      have e0 : chkZ l = 5 := by unfold chkZ; rw [HE.out, if_neg (by decide), if_pos ht]
      exact ⟨by unfold sizV; rw [e0]; rfl, below_set4 B2.out (Nat.le_refl _) _ _ _ _⟩
    · have hyI : ¬ (y : Int) > 2048 := by omega
      have HY : Hid (y = totZ l) := by show _ = _; omega
      clear hy
      go_wp2
      refine bodyPost_ret (v := .tuple #[.agg #[.int .i64 (lv2 : Int), .int .i64 (hd2 : Int), .int .i64 (dp2 : Int), .int .i64 (y : Int)], .int .i64 0]) (by simp [results, Try.results29, go_sem, z0, z1, z2, z3]) rfl ?_
      rw [← HRE.out]
      have e0 : chkZ l = 0 := by unfold chkZ; rw [HE.out, if_neg (by decide), if_neg (by omega)]
      obtain ⟨-, v2, v3, v4⟩ := V2.out trivial
      refine ⟨?_, below_set4 B2.out (Nat.le_refl _) _ _ _ _⟩
      unfold sizV
      rw [e0, if_pos rfl, v2, v3, v4, HY.out, Nat.zero_add, Nat.zero_add, Nat.zero_max]
      rfl
  · have hb1 : ((E : Int) != 0) = true := by simpa using he
    have hb2 : ((E : Int) == 0) = false := by simpa using he
    go_wp2
    refine bodyPost_ret (v := .tuple #[.agg #[.int .i64 0, .int .i64 0, .int .i64 0, .int .i64 0], .int .i64 (E : Int)]) (by simp [results, Try.results29, go_sem, z0, z1, z2, z3]) rfl ?_
    rw [← HRE.out]
    have e0 : chkZ l = E := by unfold chkZ; rw [HE.out, if_pos he]
    exact ⟨by unfold sizV; rw [e0, if_neg he], below_set4 B2.out (Nat.le_refl _) _ _ _ _⟩
set_option maxRecDepth 100000 in
set_option maxHeartbeats 8000000 in
theorem checkZ_any (l : List Lp) (m : Bool) (a : Option Addr) (c : Nat) (w : World) (hN : Nst (· < w.heap.size) m w a l) (hs : sizZ l ≤ 1000000) :
    Calls Try.prog 25 #[.slice a l.length c] w fun e w' => e = .returned (.int .i64 (chkZ l : Int)) ∧ Below w.heap.size w w' := by
  have ME := hiddenN (measZ_any l m a c w hN hs)
  obtain ⟨v0, v1, v2, v3, hv⟩ : ∃ v0 v1 v2 v3 : Int, sizV l = .agg #[.int .i64 v0, .int .i64 v1, .int .i64 v2, .int .i64 v3] := by
    unfold sizV
    split
    · exact ⟨_, _, _, _, rfl⟩
    · exact ⟨_, _, _, _, rfl⟩
  rw [hv] at ME
  generalize chkZ l = E at *
  generalize l.length = L at *
  clear hN hv
  go_enter Try.func25, Try.ntmps25
  go_wp2_with (go_at_call 29; (with_reducible refine ME.out.mono ?_); rintro e W1 ⟨rfl, b1⟩; have B1 := hiddenN b1; clear b1)
  go_ret
  exact ⟨rfl, B1.out.alloc B1.out.size _⟩
theorem one_flaw {d lv : Nat} {x : Lp} {c : Nat} (h : flwZ (if x.body.isEmpty then d else d + 1) lv x.times x.node x.body.isEmpty = c) (hc : c ≠ 0) : oneZ d lv x = c := by
  unfold oneZ
  rw [h, if_pos hc]
theorem one_leaf {d lv : Nat} {x : Lp} (h : flwZ (if x.body.isEmpty then d else d + 1) lv x.times x.node x.body.isEmpty = 0) (he : x.body.isEmpty = true) : oneZ d lv x = 0 := by
  unfold oneZ
  rw [h, if_neg (by decide), if_pos he]
theorem one_block {d lv : Nat} {x : Lp} (h : flwZ (if x.body.isEmpty then d else d + 1) lv x.times x.node x.body.isEmpty = 0) (he : ¬ x.body.isEmpty = true) : oneZ d lv x = errZ (d + 1) lv x.body := by
  unfold oneZ
  rw [h, if_neg (by decide), if_neg he]
theorem len_lvs : ∀ (l : List Lp), l.length ≤ lvsZ l
  | [] => Nat.zero_le _
  | x :: l => by
    rw [lvs_cons, List.length_cons]
    have h1 := len_lvs l
    have h2 : 1 ≤ lv1 x := by
      unfold lv1
      by_cases e : x.body.isEmpty = true
      · rw [if_pos e]; exact Nat.le_refl _
      · rw [if_neg e]; exact lvs_pos (fun k => e (empty_iff.2 k))
    omega
def FndE (l : List Lp) (d lv : Nat) (w : World) (e : Ending) (w' : World) : Prop := ∃ y : Nat, e = .returned (.tuple #[.int .i64 (errZ d lv l : Int), .int .i64 (y : Int)]) ∧ (errZ d lv l = 0 → y = lv + lvsZ l) ∧ Below w.heap.size w w'
def FndOK (l : List Lp) : Prop := ∀ (B : Nat) (m : Bool) (a : Option Addr) (c d lv : Nat) (w : World), Nst (· < B) m w a l → B ≤ w.heap.size → d ≤ 16 → lv ≤ 2048 → Calls Try.prog 54 #[.slice a l.length c, .int .i64 (d : Int), .int .i64 (lv : Int)] w (FndE l d lv w)
set_option maxRecDepth 100000 in
set_option maxHeartbeats 16000000 in
theorem findZ_any (l : List Lp) : FndOK l := by
  refine nest_ind (fun l ih => ?_) l
  intro B m a c d lv w hN hBs hd hlv
  obtain ⟨RE, hRE⟩ : ∃ Q, FndE l d lv w = Q := ⟨_, rfl⟩
  rw [hRE]
  have HRE := hiddenN hRE
  have IH := hiddenN ih
  have N0 := hiddenN (NsK.start hN)
  obtain ⟨L, hL⟩ : ∃ L, l.length = L := ⟨_, rfl⟩
  have HL := hiddenN hL
  have hdI : (d : Int) ≤ 16 := by omega
  have HLV := hiddenN hlv
  rw [hL]
  clear hRE ih hN hL
  go_enter Try.func54, Try.ntmps54
  go_upto_region 2 with fail
  go_loopg [2, 8] L (fun gk av iv wr => ∃ (pre rest : List Lp) (k lvc : Nat), l = pre ++ rest ∧ pre.length = k ∧ gk = rest.length ∧ iv = .int .i64 (k : Int) ∧ av = .int .i64 (lvc : Int) ∧ NsK (· < B) m wr a k rest ∧ Below w.heap.size w wr ∧ errZ d lv l = errZ d lvc rest ∧ lvc = lv + lvsZ pre ∧ lvc ≤ 2048)
  case atStart => exact ⟨[], l, 0, lv, rfl, rfl, HL.out.symm, rfl, rfl, N0.out, Below.refl _ _, rfl, by rw [lvs_nil]; rfl, HLV.out⟩
  case round =>
    clear N0
    obtain ⟨pre, rest, k, lvc, hl, hk, hgk, rfl, rfl, hNs, hb, hE, h1, h4⟩ := hrel
    subst hgk
    have NS := hiddenN hNs
    have HB := hiddenN hb
    have HE := hiddenN hE
    have HL2 := hiddenN hl
    have H1 := hiddenN h1
    have HPK := hiddenN hk
    have HLK : Hid (L = k + rest.length) := by show _ = _; rw [← HL.out, hl, List.length_append, hk]
    have hlvI : (lvc : Int) ≤ 2048 := by omega
    have hkm : (k : Int) ≤ 2048 := by
      have := len_lvs pre
      omega
    clear hNs hb hE hl h1 hk
    cases rest with
    | nil =>
      have hki : ¬ ((k : Int) < (L : Int)) := by rw [HLK.out]; simp
      go_wp2
      rw [← HRE.out]
      have e0 : errZ d lv l = 0 := by rw [HE.out, err_nil_z]
      have e1 : pre = l := by rw [HL2.out, List.append_nil]
      exact ⟨lvc, by rw [e0]; rfl, (fun _ => by rw [← e1]; exact H1.out), HB.out⟩
    | cons x r =>
      have hki : (k : Int) < (L : Int) := by rw [HLK.out]; simp; omega
      have hkL : k < L := by rw [HLK.out]; simp
      obtain ⟨b, o, a1, c1, rfl, q0, q1, q2, q3⟩ := NS.out.hd
      have hmem : x ∈ l := by rw [HL2.out]; exact List.mem_append_right _ (List.mem_cons_self ..)
      have HX : Hid (errZ d lv l = if oneZ d lvc x ≠ 0 then oneZ d lvc x else errZ d (lvc + lv1 x) r) := by show _ = _; rw [HE.out, err_cons]
      have L1 := hiddenN (HB.out.alloc HB.out.size (.cells #[.int .i64 x.times, .int .i64 x.node, .slice a1 x.body.length c1] 57))
      have X1 := hiddenN (blkA_new 57 wr #[.int .i64 x.times, .int .i64 x.node, .slice a1 x.body.length c1])
      have BW := hiddenN ((Below.refl wr.heap.size wr).alloc (Nat.le_refl _) (.cells #[.int .i64 x.times, .int .i64 x.node, .slice a1 x.body.length c1] 57))
      have hBw : B ≤ wr.heap.size := Nat.le_trans hBs HB.out.size
      have FX : Hid (d + 1 ≤ 16 → Calls Try.prog 54 #[.slice a1 x.body.length c1, .int .i64 ((d : Int) + 1), .int .i64 (lvc : Int)] (wr.alloc (.cells #[.int .i64 x.times, .int .i64 x.node, .slice a1 x.body.length c1] 57)) (FndE x.body (d + 1) lvc (wr.alloc (.cells #[.int .i64 x.times, .int .i64 x.node, .slice a1 x.body.length c1] 57)))) := fun h16 => IH.out x hmem B m a1 c1 (d + 1) lvc _ (q3.below (BW.out.mono hBw)) (Nat.le_trans hBw BW.out.size) h16 h4
      have NN0 := hiddenN (NS.out.tl.below (BW.out.mono hBw))
      have hMW : Hid (B ≤ (wr.alloc (.cells #[.int .i64 x.times, .int .i64 x.node, .slice a1 x.body.length c1] 57)).heap.size) := Nat.le_trans hBw BW.out.size
      obtain ⟨L1b, hL1⟩ : ∃ q, x.body.length = q := ⟨_, rfl⟩
      obtain ⟨tx, htx⟩ : ∃ q, x.times = q := ⟨_, rfl⟩
      obtain ⟨nx, hnx⟩ : ∃ q, x.node = q := ⟨_, rfl⟩
      have HTX := hiddenN htx
      have HNX := hiddenN hnx
      have HL1 := hiddenN hL1
      rw [htx] at q0 X1 FX L1 NN0 hMW
      rw [hnx] at q1 X1 FX L1 NN0 hMW
      rw [hL1] at q2 X1 FX L1 NN0 hMW
      have y0 := X1.out.cell (k := 0) rfl
      have y1 := X1.out.cell (k := 1) rfl
      have y2 := X1.out.cell (k := 2) rfl
      simp only [List.getElem_toArray, List.getElem_cons_zero, List.getElem_cons_succ] at y0 y1 y2
      clear q3 hmem hL1 htx hnx NS HE BW X1 hBw
      go_upto_region 5 with fail
      generalize wr.alloc (.cells #[.int .i64 tx, .int .i64 nx, .slice a1 L1b c1] 57) = W1 at *
      clear q0 q1 q2
      by_cases hb1 : 2048 ≤ lvc
      · have hbI : (lvc : Int) ≥ 2048 := by omega
        have HO : Hid (errZ d lv l = 5) := by
          show _ = _
          rw [HX.out, one_flaw (show flwZ _ lvc x.times x.node x.body.isEmpty = 5 by unfold flwZ; rw [if_pos hb1]) (by decide), if_pos (by decide)]
        go_wp2
        rw [← HRE.out]
        exact ⟨_, by rw [HO.out]; rfl, (fun h => absurd (HO.out.symm.trans h) (by decide)), L1.out⟩
      · have hbI : ¬ (lvc : Int) ≥ 2048 := by omega
        by_cases hz : L1b = 0
        · subst hz
          have hemp : x.body.isEmpty = true := by rw [empty_iff]; exact List.eq_nil_of_length_eq_zero HL1.out
          have HEM := hiddenN hemp
          clear hemp
          by_cases ht : tx < 1
          · have htI : x.times < 1 := by rw [HTX.out]; exact ht
            have HTI := hiddenN htI
            clear htI
            have HO : Hid (errZ d lv l = 160) := by
              show _ = _
              rw [HX.out, one_flaw (show flwZ _ lvc x.times x.node x.body.isEmpty = 160 by unfold flwZ; rw [if_neg hb1, HEM.out, if_neg (fun h => by cases h.1), if_pos HTI.out]) (by decide), if_pos (by decide)]
            go_wp2
            rw [← HRE.out]
            exact ⟨_, by rw [HO.out]; rfl, (fun h => absurd (HO.out.symm.trans h) (by decide)), L1.out⟩
          · by_cases hn0 : nx < 0
            · have HNI : Hid (¬ (0 ≤ x.node ∧ x.node < 32)) := by show ¬ _; rw [HNX.out]; omega
              have HTI : Hid (¬ x.times < 1) := by show ¬ _; rw [HTX.out]; exact ht
              have HO : Hid (errZ d lv l = 100) := by
                show _ = _
                rw [HX.out, one_flaw (show flwZ _ lvc x.times x.node x.body.isEmpty = 100 by unfold flwZ; rw [if_neg hb1, HEM.out, if_neg (fun h => by cases h.1), if_neg HTI.out, if_neg (fun h => by cases h.1), if_pos ⟨rfl, HNI.out⟩]) (by decide), if_pos (by decide)]
              go_wp2
              rw [← HRE.out]
              exact ⟨_, by rw [HO.out]; rfl, (fun h => absurd (HO.out.symm.trans h) (by decide)), L1.out⟩
            · by_cases hn1 : 32 ≤ nx
              · have HNI : Hid (¬ (0 ≤ x.node ∧ x.node < 32)) := by show ¬ _; rw [HNX.out]; omega
                have HTI : Hid (¬ x.times < 1) := by show ¬ _; rw [HTX.out]; exact ht
                have hn1' : nx ≥ 32 := hn1
                have HO : Hid (errZ d lv l = 100) := by
                  show _ = _
                  rw [HX.out, one_flaw (show flwZ _ lvc x.times x.node x.body.isEmpty = 100 by unfold flwZ; rw [if_neg hb1, HEM.out, if_neg (fun h => by cases h.1), if_neg HTI.out, if_neg (fun h => by cases h.1), if_pos ⟨rfl, HNI.out⟩]) (by decide), if_pos (by decide)]
                go_wp2
                rw [← HRE.out]
                exact ⟨_, by rw [HO.out]; rfl, (fun h => absurd (HO.out.symm.trans h) (by decide)), L1.out⟩
              · have HNI : Hid (0 ≤ x.node ∧ x.node < 32) := by show _ ∧ _; rw [HNX.out]; omega
                have HTI : Hid (¬ x.times < 1) := by show ¬ _; rw [HTX.out]; exact ht
                have HO : Hid (oneZ d lvc x = 0) := one_leaf (by unfold flwZ; rw [if_neg hb1, HEM.out, if_neg (fun h => by cases h.1), if_neg HTI.out, if_neg (fun h => by cases h.1), if_neg (fun h => h.2 HNI.out)]) HEM.out
                have hn1' : ¬ nx ≥ 32 := hn1
                have HV1 : Hid (lv1 x = 1) := by show _ = _; unfold lv1; rw [if_pos HEM.out]
                have NN := NN0
                have LL := L1
                have EE : Hid (errZ d lv l = errZ d (lvc + 1) r) := by show _ = _; rw [HX.out, HO.out, HV1.out]; rfl
                have VV : Hid (lvc + 1 = lv + lvsZ (pre ++ [x])) := by show _ = _; rw [lvs_snoc, HV1.out, H1.out]; omega
                have MM : Hid (lvc + 1 ≤ 2048) := by show _ ≤ _; omega
                go_wp2
                go_roundg r.length
                case measure => simp
                case rel => exact ⟨pre ++ [x], r, k + 1, lvc + 1, by rw [HL2.out]; simp, by rw [List.length_append, HPK.out]; rfl, rfl, by go_num, by first | rfl | go_num, NN.out, LL.out, EE.out, VV.out, MM.out⟩
        · have hzI : (L1b : Int) > 0 := by omega
          have hzn : 0 < L1b := by omega
          have hz0 : ((L1b : Int) == 0) = false := by simpa using hz
          have hemp : ¬ x.body.isEmpty = true := by rw [empty_iff]; intro e; exact hz (by rw [← HL1.out, e]; rfl)
          have hemf : x.body.isEmpty = false := by simpa using hemp
          have HEM := hiddenN hemp
          have HEF := hiddenN hemf
          clear hemp hemf
          by_cases hdd : 16 < d + 1
          · have hddI : (d : Int) + 1 > 16 := by omega
            have HO : Hid (errZ d lv l = 161) := by
              show _ = _
              rw [HX.out, one_flaw (show flwZ _ lvc x.times x.node x.body.isEmpty = 161 by unfold flwZ; rw [if_neg hb1, HEF.out, if_pos ⟨rfl, hdd⟩]) (by decide), if_pos (by decide)]
            go_wp2
            rw [← HRE.out]
            exact ⟨_, by rw [HO.out]; rfl, (fun h => absurd (HO.out.symm.trans h) (by decide)), L1.out⟩
          · have hddI : ¬ (d : Int) + 1 > 16 := by omega
            by_cases ht : tx < 1
            · have HTI : Hid (x.times < 1) := by show _ < _; rw [HTX.out]; exact ht
              have HO : Hid (errZ d lv l = 160) := by
                show _ = _
                rw [HX.out, one_flaw (show flwZ _ lvc x.times x.node x.body.isEmpty = 160 by unfold flwZ; rw [if_neg hb1, HEF.out, if_neg (fun h => hdd h.2), if_pos HTI.out]) (by decide), if_pos (by decide)]
              go_wp2
              rw [← HRE.out]
              exact ⟨_, by rw [HO.out]; rfl, (fun h => absurd (HO.out.symm.trans h) (by decide)), L1.out⟩
            · have HTI : Hid (¬ x.times < 1) := by show ¬ _; rw [HTX.out]; exact ht
              by_cases hn : nx = 0
              · subst hn
                have HO : Hid (oneZ d lvc x = errZ (d + 1) lvc x.body) := one_block (by unfold flwZ; rw [if_neg hb1, HEF.out, if_neg (fun h => hdd h.2), if_neg HTI.out, if_neg (fun h => h.2 HNX.out), if_neg (fun h => by cases h.1)]) HEM.out
                have FX1 := hiddenN (FX.out (by omega))
                unfold FndE at FX1
                obtain ⟨e2, he2⟩ : ∃ q, errZ (d + 1) lvc x.body = q := ⟨_, rfl⟩
                rw [he2] at FX1 HO
                have HE2 := hiddenN he2
                clear FX he2
                by_cases hz2 : e2 = 0
                · subst hz2
                  go_upto_region 18 with (go_at_call 54; (with_reducible refine FX1.out.mono ?_); rintro e W2 ⟨y, rfl, hy, b2⟩; have HY := hiddenN (hy rfl); have LL := hiddenN (L1.out.trans (b2.mono L1.out.size)); have NN := hiddenN (NN0.out.below (b2.mono hMW.out)); clear hy b2)
                  have HV1 : Hid (lv1 x = lvsZ x.body) := by show _ = _; unfold lv1; rw [if_neg HEM.out]
                  have EE : Hid (errZ d lv l = errZ d y r) := by show _ = _; rw [HX.out, HO.out, HV1.out, HY.out]; rfl
                  have VV : Hid (y = lv + lvsZ (pre ++ [x])) := by show _ = _; rw [lvs_snoc, HV1.out, HY.out, H1.out]; omega
                  have MM : Hid (y ≤ 2048) := by show _ ≤ _; rw [HY.out]; exact err_lvs _ _ _ h4 HE2.out
                  clear y0 y1 y2
                  go_wp2
                  go_roundg r.length
                  case measure => simp
                  case rel => exact ⟨pre ++ [x], r, k + 1, y, by rw [HL2.out]; simp, by rw [List.length_append, HPK.out]; rfl, rfl, by go_num, by first | rfl | go_num, NN.out, LL.out, EE.out, VV.out, MM.out⟩
                · have hzb : ((e2 : Int) != 0) = true := by simpa using hz2
                  go_wp2_with (go_at_call 54; (with_reducible refine FX1.out.mono ?_); rintro e W2 ⟨y, rfl, -, b2⟩; have LL := hiddenN (L1.out.trans (b2.mono L1.out.size)); clear b2)
                  rw [← HRE.out]
                  have e0 : errZ d lv l = e2 := by rw [HX.out, HO.out, if_pos hz2]
                  exact ⟨y, by rw [e0]; rfl, (fun h => absurd (e0.symm.trans h) hz2), LL.out⟩
              · have hnb : (nx != 0) = true := by simpa using hn
                have HNI : Hid (x.node ≠ 0) := by show _ ≠ _; rw [HNX.out]; exact hn
                have HO : Hid (errZ d lv l = 162) := by
                  show _ = _
                  rw [HX.out, one_flaw (show flwZ _ lvc x.times x.node x.body.isEmpty = 162 by unfold flwZ; rw [if_neg hb1, HEF.out, if_neg (fun h => hdd h.2), if_neg HTI.out, if_pos ⟨rfl, HNI.out⟩]) (by decide), if_pos (by decide)]
                go_wp2
                rw [← HRE.out]
                exact ⟨_, by rw [HO.out]; rfl, (fun h => absurd (HO.out.symm.trans h) (by decide)), L1.out⟩
def WgtOK (l : List Lp) : Prop := ∀ (F : Nat → Prop) (m : Bool) (a : Option Addr) (c d n : Nat) (w : World), Nst F m w a l → d ≤ 61 → n ≤ 65537 → Calls Try.prog 34 #[.slice a l.length c, .int .i64 (d : Int), .int .i64 (n : Int)] w fun e w' => ∃ x : Nat, e = .returned (.int .i64 (x : Int)) ∧ x ≤ 65537 ∧ (x ≤ 65536 → x = n + sizZ l) ∧ w = w'
set_option maxRecDepth 100000 in
set_option maxHeartbeats 8000000 in
theorem weightZ_any (l : List Lp) : WgtOK l := by
  refine nest_ind (fun l ih => ?_) l
  intro F m a c d n w hN hd hn
  obtain ⟨RE, hRE⟩ : ∃ Q : Ending → World → Prop, (fun e w' => ∃ x : Nat, e = .returned (.int .i64 (x : Int)) ∧ x ≤ 65537 ∧ (x ≤ 65536 → x = n + sizZ l) ∧ w = w') = Q := ⟨_, rfl⟩
  rw [hRE]
  have HRE := hiddenN hRE
  have IH := hiddenN ih
  have N0 := hiddenN (NsK.start hN)
  have hdI : (d : Int) ≤ 61 := by omega
  have hnI : (n : Int) ≤ 65537 := by omega
  obtain ⟨L, hL⟩ : ∃ L, l.length = L := ⟨_, rfl⟩
  have HL := hiddenN hL
  rw [hL]
  clear hRE ih hN hL
  by_cases hdeep : 60 < d
  · have hdp : (d : Int) > 60 := by omega
    go_enter Try.func34, Try.ntmps34
    go_wp2
    rw [← HRE.out]
    exact ⟨65537, rfl, Nat.le_refl _, fun h => absurd h (by decide), rfl⟩
  · have hdp : ¬ (d : Int) > 60 := by omega
    have hd60 : (d : Int) ≤ 60 := by omega
    go_enter Try.func34, Try.ntmps34
    go_upto_region 4 with fail
    go_loopg [2, 7] L (fun gk nv iv wr => ∃ (pre rest : List Lp) (k nn : Nat), l = pre ++ rest ∧ pre.length = k ∧ gk = rest.length ∧ iv = .int .i64 (k : Int) ∧ nv = .int .i64 (nn : Int) ∧ nn ≤ 65537 ∧ (nn ≤ 65536 → nn = n + sizZ pre) ∧ NsK F m w a k rest ∧ w = wr)
    case atStart => exact ⟨[], l, 0, n, rfl, rfl, HL.out.symm, rfl, rfl, hn, fun _ => by rw [siz_nil]; rfl, N0.out, rfl⟩
    case round =>
      obtain ⟨pre, rest, k, nn, hl, hk, hgk, rfl, rfl, hnn, hs, hNs, hw⟩ := hrel
      subst hw
      subst hgk
      have NS := hiddenN hNs
      have HL2 := hiddenN hl
      have HPK := hiddenN hk
      have HS := hiddenN hs
      have HLK : Hid (L = k + rest.length) := by show _ = _; rw [← HL.out, hl, List.length_append, hk]
      have hnnI : (nn : Int) ≤ 65537 := by omega
      clear hl hk hs hNs
      cases rest with
      | nil =>
        have hki : ¬ ((k : Int) < (L : Int)) := by rw [HLK.out]; simp
        go_wp2
        rw [← HRE.out]
        have e1 : pre = l := by rw [HL2.out, List.append_nil]
        exact ⟨nn, rfl, hnn, fun h => by rw [HS.out h, e1], rfl⟩
      | cons x r =>
        have hki : (k : Int) < (L : Int) := by rw [HLK.out]; simp; omega
        have hkL : k < L := by rw [HLK.out]; simp
        by_cases hbig : nn ≤ 65536
        · have hbI : (nn : Int) ≤ 65536 := by omega
          have hkm : (k : Int) ≤ 65536 := by
            have h1 := HS.out hbig
            have h2 := len_siz pre
            rw [HPK.out] at h2
            omega
          obtain ⟨b, o, a1, c1, rfl, q0, q1, q2, q3⟩ := NS.out.hd
          have hmem : x ∈ l := by rw [HL2.out]; exact List.mem_append_right _ (List.mem_cons_self ..)
          have WX : Hid (Calls Try.prog 34 #[.slice a1 x.body.length c1, .int .i64 ((d : Int) + 1), .int .i64 ((nn : Int) + 1)] w fun e w' => ∃ x1 : Nat, e = .returned (.int .i64 (x1 : Int)) ∧ x1 ≤ 65537 ∧ (x1 ≤ 65536 → x1 = nn + 1 + sizZ x.body) ∧ w = w') := IH.out x hmem F m a1 c1 (d + 1) (nn + 1) w q3 (by omega) (by omega)
          obtain ⟨L1, hL1⟩ : ∃ q, x.body.length = q := ⟨_, rfl⟩
          rw [hL1] at q2 WX
          clear q3 hmem hL1 q0 q1
          go_wp2_with (go_at_call 34; (with_reducible refine WX.out.mono ?_); rintro e W1 ⟨x1, rfl, h1, h2, hw⟩; subst hw; have H2 := hiddenN h2; have H1 := hiddenN h1; clear h1 h2)
          go_roundg r.length
          case measure => simp
          case rel => exact ⟨pre ++ [x], r, k + 1, x1, by rw [HL2.out]; simp, by rw [List.length_append, HPK.out]; rfl, rfl, by go_num, rfl, H1.out, (fun h => by rw [H2.out h, HS.out hbig, siz_app, siz_cons, siz_nil]; omega), NS.out.tl, rfl⟩
        · have hbI : ¬ ((nn : Int) ≤ 65536) := by omega
          go_wp2
          rw [← HRE.out]
          exact ⟨nn, rfl, hnn, fun h => absurd h hbig, rfl⟩
set_option maxRecDepth 100000 in
theorem heavyZ_any (l : List Lp) (F : Nat → Prop) (m : Bool) (a : Option Addr) (c : Nat) (w : World) (hN : Nst F m w a l) : Calls Try.prog 9 #[.slice a l.length c] w fun e w' => ∃ b, e = .returned (.bool b) ∧ (b = false → sizZ l ≤ 65536) ∧ w = w' := by
  have WG : Hid (Calls Try.prog 34 #[.slice a l.length c, .int .i64 0, .int .i64 0] w fun e w' => ∃ x : Nat, e = .returned (.int .i64 (x : Int)) ∧ x ≤ 65537 ∧ (x ≤ 65536 → x = 0 + sizZ l) ∧ w = w') := weightZ_any l F m a c 0 0 w hN (by decide) (by decide)
  generalize l.length = L at *
  clear hN
  go_enter Try.func9, Try.ntmps9
  go_wp2_with (go_at_call 34; (with_reducible refine WG.out.mono ?_); rintro e W1 ⟨x1, rfl, h1, h2, hw⟩; subst hw; have H2 := hiddenN h2; clear h1 h2)
  go_ret
  by_cases hx : x1 ≤ 65536
  · exact ⟨false, by first | rfl | (simp; omega), fun _ => by have := H2.out hx; omega, rfl⟩
  · exact ⟨true, by first | rfl | (simp; omega), (fun h => by cases h), rfl⟩
end Go.Proofs.Ytmeogapffdgjlaa

/- The document's shapes: its ports, one, two, good, Of. (Written by tmpl/mkH3.py.) -/
import Derived.Test.YthgblljokonejaaH2b
namespace Go.Proofs.Ythgblljokonejaa
open Go.ChangeShapes Go.WideShapes Go.ChangeAt Go.RowKit

theorem one_new6 (W : World) (x : Value) (t : TypeId) : ∀ j u, [x][j]? = some u → (W.alloc (.cells #[x] t)).cell? ((⟨W.heap.size, 0, none⟩ : Addr).add j) = some u := by
  intro j u hu
  match j, hu with
  | 0, hu => simp at hu; subst hu; simp [Addr.add]
theorem one_cell6 (x : Int) : ∀ u ∈ [Value.int .i64 x], u.oneCell' = true := by
  intro u hu; simp at hu; subst hu; rfl
theorem own_block6 {w : World} {base n : Nat} {v : Value} {xs : List Value} (h : w.ownsRow base 3 1 v n xs) : ∀ k, v.ownBlock = some k → base ≤ k := by
  intro k hk
  rcases h.2 with ⟨hv, -⟩ | ⟨g, cap, cur, hv, hg, -⟩
  · rw [hv] at hk; cases hk
  · rw [hv] at hk; cases hk; exact hg
set_option maxHeartbeats 1000000 in
theorem rports_any (n : Nat) (x : Int) (w : World) (hn : n ≤ 16) :
    Calls Try.prog 44 #[.int .i64 (n : Int), .int .i64 x] w (RowEnd w (List.replicate n x)) := by
  obtain ⟨i0, hi, hz0, hz1, hz2⟩ := info_parts Try.info3
  go_enter Try.func44, Try.ntmps44
  go_wp2
  go_loopg [5, 6] n (fun gk v u wr => ∃ k : Nat, k ≤ n ∧ gk = n - k ∧ u = .int .i64 (k : Int) ∧ wr.ownsRow w.heap.size 3 1 v k ((List.replicate k x).map (Value.int .i64)) ∧ Below w.heap.size w wr)
  case atStart => exact ⟨0, Nat.zero_le _, rfl, rfl, World.ownsRow_nil _ _ _ _, Below.refl _ _⟩
  case round =>
    obtain ⟨k, hk, rfl, rfl, hown, hB⟩ := hrel
    by_cases hlt : k < n
    · have hki : (k : Int) < (n : Int) := by omega
      have hsz := hB.size
      go_wp2_with (at_builtin; refine wpList_append_own _ rfl (.tmp 12) (.tmp 14) 22 rfl w.heap.size 3 i0 (.int .i64 0) 1 8 Try.underlying22 hi hz0 hz1 hz2 rfl (by decide) _ k _ rfl (hown.alloc _) ⟨wr.heap.size, 0, none⟩ 1 1 [.int .i64 x] rfl rfl (one_new6 _ _ _) (one_cell6 _) (by unfold maxLen; omega) (by omega) (by simp; omega) ?_; intro v' w2 hown2 hgrow2 _)
      go_roundg (n - (k + 1))
      case measure => omega
      case rel =>
        refine ⟨k + 1, by omega, rfl, by go_num, ?_, (hB.alloc hsz _).grown hgrow2 (by simp; omega) (own_block6 hown)⟩
        rw [List.replicate_succ', List.map_append]
        exact hown2
    · have ek : k = n := by omega
      subst ek
      have hki : ¬ (k : Int) < (k : Int) := by omega
      obtain ⟨a', cap', hv, -, -⟩ := owns_at hown
      subst hv
      have HO := hidden6 hown
      clear hown
      go_wp2
      go_ret
      refine ⟨a', cap', by rw [List.length_replicate]; rfl, ?_, hB⟩
      unfold CapR
      rw [List.length_replicate]
      exact HO.out
theorem rports_rep (n x : Int) (w : World) (h : 1 ≤ n ∧ n ≤ 16) : Calls Try.prog 44 #[.int .i64 n, .int .i64 x] w (RowEnd w (rep n x)) := by
  have e : n = ((n.toNat : Nat) : Int) := by omega
  unfold rep
  have := rports_any n.toNat x w (by omega)
  rw [← e] at this
  exact this
theorem rports_1 (x : Int) (w : World) : Calls Try.prog 44 #[.int .i64 1, .int .i64 x] w (RowEnd w [x]) := rports_any 1 x w (by decide)
theorem rports_2 (x : Int) (w : World) : Calls Try.prog 44 #[.int .i64 2, .int .i64 x] w (RowEnd w [x, x]) := rports_any 2 x w (by decide)
set_option maxRecDepth 100000 in
set_option maxHeartbeats 1000000 in
theorem one_any (a : Option Addr) (zs : List Int) (len cap : Nat) (m : Int) (w : World) (hl : zs.length = len) (h : At w a zs) : Calls Try.prog 73 #[.slice a len cap, .int .i64 m] w fun e w' => e = .returned (.bool (decide (zs.length = 1) && wB (nth zs 0) m)) ∧ Below w.heap.size w w' := by
  have B : Hid (Below w.heap.size w w) := Below.refl _ _
  rw [hl]
  unfold wB
  by_cases h1 : len = 1
  · have l1 : ((len : Int) == 1) = true := by simp; omega
    rw [decide_eq_true h1]
    rcases h with h0 | ⟨b, off, rfl, hc⟩
    · rw [h0] at hl; simp at hl; omega
    have c0 := hc 0 (by omega)
    rw [Nat.add_zero] at c0
    have l2 : (0 : Int) < (len : Int) := by omega
    clear hc
    generalize nth zs 0 = p0 at *
    by_cases k1 : 1 ≤ p0
    · rw [decide_eq_true k1]
      go_enter Try.func73, Try.ntmps73
      go_wp2
      go_ret
      exact ⟨by simp, B.out⟩
    · rw [decide_eq_false k1]
      go_enter Try.func73, Try.ntmps73
      go_wp2
      go_ret
      exact ⟨by simp, B.out⟩
  · have l1 : ((len : Int) == 1) = false := by simp; omega
    rw [decide_eq_false h1]
    go_enter Try.func73, Try.ntmps73
    go_wp2
    go_ret
    exact ⟨by simp, B.out⟩
theorem woven_or {p q : Int} (h : ¬ (1 ≤ p ∧ p ≤ 16) ∨ ¬ (1 ≤ q ∧ q ≤ 64)) : wovenB p q = false := by
  cases e : wovenB p q with
  | false => rfl
  | true =>
    unfold wovenB at e
    rw [Bool.and_eq_true, Bool.and_eq_true] at e
    rcases h with h | h
    · exact absurd (wB_bound e.1) h
    · exact absurd (wB_bound e.2.1) h
theorem woven_and {p q : Int} (h : (1 ≤ p ∧ p ≤ 16) ∧ (1 ≤ q ∧ q ≤ 64)) : wovenB p q = decide (p * q ≤ 64) := by
  unfold wovenB wB
  rw [decide_eq_true h.1.1, decide_eq_true h.1.2, decide_eq_true h.2.1, decide_eq_true h.2.2]
  rfl
set_option maxRecDepth 100000 in
set_option maxHeartbeats 2000000 in
theorem two_any (a : Option Addr) (zs : List Int) (len cap : Nat) (w : World) (hl : zs.length = len) (h : At w a zs) : Calls Try.prog 74 #[.slice a len cap] w fun e w' => e = .returned (.bool (decide (zs.length = 2) && wovenB (nth zs 0) (nth zs 1))) ∧ Below w.heap.size w w' := by
  have B : Hid (Below w.heap.size w w) := Below.refl _ _
  rw [hl]
  by_cases h1 : len = 2
  · have l1 : ((len : Int) != 2) = false := by simp; omega
    rw [decide_eq_true h1]
    rcases h with h0 | ⟨b, off, rfl, hc⟩
    · rw [h0] at hl; simp at hl; omega
    have c0 := hc 0 (by omega)
    have c1 := hc 1 (by omega)
    rw [Nat.add_zero] at c0
    have l2 : (0 : Int) < (len : Int) := by omega
    have l3 : (1 : Int) < (len : Int) := by omega
    clear hc
    generalize nth zs 0 = p0 at *
    generalize nth zs 1 = p1 at *
    by_cases k1 : p0 < 1
    · rw [woven_or (Or.inl (by omega))]
      go_enter Try.func74, Try.ntmps74
      go_wp2
      go_ret
      exact ⟨by simp, B.out⟩
    by_cases k2 : p0 > 16
    · rw [woven_or (Or.inl (by omega))]
      go_enter Try.func74, Try.ntmps74
      go_wp2
      go_ret
      exact ⟨by simp, B.out⟩
    by_cases k3 : p1 < 1
    · rw [woven_or (Or.inr (by omega))]
      go_enter Try.func74, Try.ntmps74
      go_wp2
      go_ret
      exact ⟨by simp, B.out⟩
    by_cases k4 : p1 > 64
    · rw [woven_or (Or.inr (by omega))]
      go_enter Try.func74, Try.ntmps74
      go_wp2
      go_ret
      exact ⟨by simp, B.out⟩
    have hb : (1 ≤ p0 ∧ p0 ≤ 16) ∧ (1 ≤ p1 ∧ p1 ≤ 64) := by omega
    have hm := mul_bound hb.1 hb.2
    rw [woven_and hb]
    have hw : IntKind.i64.wrap (p0 * p1) = p0 * p1 := wrap_id (by omega) (by omega)
    go_enter Try.func74, Try.ntmps74
    go_wp2
    go_quiet (fail)
    go_wp2
    go_ret
    exact ⟨by simp, by first | exact bdrew B.out _ | exact B.out⟩
  · have l1 : ((len : Int) != 2) = true := by simp; omega
    rw [decide_eq_false h1]
    go_enter Try.func74, Try.ntmps74
    go_wp2
    go_ret
    exact ⟨by simp, B.out⟩
set_option maxRecDepth 100000 in
set_option maxHeartbeats 1000000 in
theorem good_1 (a : Option Addr) (zs : List Int) (len cap : Nat) (w : World) (hl : zs.length = len) :
    Calls Try.prog 43 #[.int .u8 1, .slice a len cap] w fun e w' => e = .returned (.bool (okS 1 zs)) ∧ Below w.heap.size w w' := by
  have B : Hid (Below w.heap.size w w) := Below.refl _ _
  subst hl
  show Calls _ _ _ _ (fun e w' => e = .returned (.bool (wB (zs.length : Int) 16)) ∧ _)
  unfold wB
  by_cases h1 : 1 ≤ (zs.length : Int)
  · rw [decide_eq_true h1]
    go_enter Try.func43, Try.ntmps43
    go_wp2
    go_ret
    exact ⟨by simp, B.out⟩
  · rw [decide_eq_false h1]
    go_enter Try.func43, Try.ntmps43
    go_wp2
    go_ret
    exact ⟨by simp, B.out⟩
set_option maxRecDepth 100000 in
set_option maxHeartbeats 1000000 in
theorem good_2 (a : Option Addr) (zs : List Int) (len cap : Nat) (w : World) (hl : zs.length = len) (h : At w a zs) :
    Calls Try.prog 43 #[.int .u8 2, .slice a len cap] w fun e w' => e = .returned (.bool (okS 2 zs)) ∧ Below w.heap.size w w' := by
  have B : Hid (Below w.heap.size w w) := Below.refl _ _
  have H := hidden6 (one_any a zs len cap 64 w hl h)
  show Calls _ _ _ _ (fun e w' => e = .returned (.bool (decide (zs.length = 1) && wB (nth zs 0) 64)) ∧ _)
  generalize (decide (zs.length = 1) && wB (nth zs 0) 64) = r at *
  go_enter Try.func43, Try.ntmps43
  go_wp2_with (go_at_call 73; (with_reducible refine H.out.mono ?_); rintro e w1 ⟨rfl, b1⟩)
  go_ret
  exact ⟨rfl, b1⟩
set_option maxRecDepth 100000 in
set_option maxHeartbeats 1000000 in
theorem good_3 (a : Option Addr) (zs : List Int) (len cap : Nat) (w : World) (hl : zs.length = len) (h : At w a zs) :
    Calls Try.prog 43 #[.int .u8 3, .slice a len cap] w fun e w' => e = .returned (.bool (okS 3 zs)) ∧ Below w.heap.size w w' := by
  have B : Hid (Below w.heap.size w w) := Below.refl _ _
  have H := hidden6 (one_any a zs len cap 64 w hl h)
  show Calls _ _ _ _ (fun e w' => e = .returned (.bool (decide (zs.length = 1) && wB (nth zs 0) 64)) ∧ _)
  generalize (decide (zs.length = 1) && wB (nth zs 0) 64) = r at *
  go_enter Try.func43, Try.ntmps43
  go_wp2_with (go_at_call 73; (with_reducible refine H.out.mono ?_); rintro e w1 ⟨rfl, b1⟩)
  go_ret
  exact ⟨rfl, b1⟩
set_option maxRecDepth 100000 in
set_option maxHeartbeats 1000000 in
theorem good_4 (a : Option Addr) (zs : List Int) (len cap : Nat) (w : World) (hl : zs.length = len) (h : At w a zs) :
    Calls Try.prog 43 #[.int .u8 4, .slice a len cap] w fun e w' => e = .returned (.bool (okS 4 zs)) ∧ Below w.heap.size w w' := by
  have B : Hid (Below w.heap.size w w) := Below.refl _ _
  have H := hidden6 (two_any a zs len cap w hl h)
  show Calls _ _ _ _ (fun e w' => e = .returned (.bool (decide (zs.length = 2) && wovenB (nth zs 0) (nth zs 1))) ∧ _)
  generalize (decide (zs.length = 2) && wovenB (nth zs 0) (nth zs 1)) = r at *
  go_enter Try.func43, Try.ntmps43
  go_wp2_with (go_at_call 74; (with_reducible refine H.out.mono ?_); rintro e w1 ⟨rfl, b1⟩)
  go_ret
  exact ⟨rfl, b1⟩
set_option maxRecDepth 100000 in
set_option maxHeartbeats 1000000 in
theorem good_5 (a : Option Addr) (zs : List Int) (len cap : Nat) (w : World) (hl : zs.length = len) (h : At w a zs) :
    Calls Try.prog 43 #[.int .u8 5, .slice a len cap] w fun e w' => e = .returned (.bool (okS 5 zs)) ∧ Below w.heap.size w w' := by
  have B : Hid (Below w.heap.size w w) := Below.refl _ _
  have H := hidden6 (two_any a zs len cap w hl h)
  show Calls _ _ _ _ (fun e w' => e = .returned (.bool (decide (zs.length = 2) && wovenB (nth zs 0) (nth zs 1))) ∧ _)
  generalize (decide (zs.length = 2) && wovenB (nth zs 0) (nth zs 1)) = r at *
  go_enter Try.func43, Try.ntmps43
  go_wp2_with (go_at_call 74; (with_reducible refine H.out.mono ?_); rintro e w1 ⟨rfl, b1⟩)
  go_ret
  exact ⟨rfl, b1⟩
set_option maxRecDepth 100000 in
set_option maxHeartbeats 1000000 in
theorem good_6 (a : Option Addr) (zs : List Int) (len cap : Nat) (w : World) (hl : zs.length = len) (h : At w a zs) :
    Calls Try.prog 43 #[.int .u8 6, .slice a len cap] w fun e w' => e = .returned (.bool (okS 6 zs)) ∧ Below w.heap.size w w' := by
  have B : Hid (Below w.heap.size w w) := Below.refl _ _
  have H := hidden6 (one_any a zs len cap 16 w hl h)
  show Calls _ _ _ _ (fun e w' => e = .returned (.bool (decide (zs.length = 1) && wB (nth zs 0) 16)) ∧ _)
  generalize (decide (zs.length = 1) && wB (nth zs 0) 16) = r at *
  go_enter Try.func43, Try.ntmps43
  go_wp2_with (go_at_call 73; (with_reducible refine H.out.mono ?_); rintro e w1 ⟨rfl, b1⟩)
  go_ret
  exact ⟨rfl, b1⟩
set_option maxRecDepth 100000 in
set_option maxHeartbeats 1000000 in
theorem good_7 (a : Option Addr) (zs : List Int) (len cap : Nat) (w : World) (hl : zs.length = len) :
    Calls Try.prog 43 #[.int .u8 7, .slice a len cap] w fun e w' => e = .returned (.bool (okS 7 zs)) ∧ Below w.heap.size w w' := by
  have B : Hid (Below w.heap.size w w) := Below.refl _ _
  have e : okS 7 zs = decide (len = 0) := by rw [← hl]; rfl
  rw [e]
  clear e
  by_cases h1 : len = 0
  · have l1 : ((len : Int) == 0) = true := by simp; omega
    rw [decide_eq_true h1]
    go_enter Try.func43, Try.ntmps43
    go_wp2
    go_ret
    exact ⟨by simp, B.out⟩
  · have l1 : ((len : Int) == 0) = false := by simp; omega
    rw [decide_eq_false h1]
    go_enter Try.func43, Try.ntmps43
    go_wp2
    go_ret
    exact ⟨by simp, B.out⟩
set_option maxRecDepth 100000 in
set_option maxHeartbeats 1000000 in
theorem good_8 (a : Option Addr) (zs : List Int) (len cap : Nat) (w : World) (hl : zs.length = len) :
    Calls Try.prog 43 #[.int .u8 8, .slice a len cap] w fun e w' => e = .returned (.bool (okS 8 zs)) ∧ Below w.heap.size w w' := by
  have B : Hid (Below w.heap.size w w) := Below.refl _ _
  have e : okS 8 zs = decide (len = 0) := by rw [← hl]; rfl
  rw [e]
  clear e
  by_cases h1 : len = 0
  · have l1 : ((len : Int) == 0) = true := by simp; omega
    rw [decide_eq_true h1]
    go_enter Try.func43, Try.ntmps43
    go_wp2
    go_ret
    exact ⟨by simp, B.out⟩
  · have l1 : ((len : Int) == 0) = false := by simp; omega
    rw [decide_eq_false h1]
    go_enter Try.func43, Try.ntmps43
    go_wp2
    go_ret
    exact ⟨by simp, B.out⟩
set_option maxRecDepth 100000 in
set_option maxHeartbeats 1000000 in
theorem good_9 (a : Option Addr) (zs : List Int) (len cap : Nat) (w : World) (hl : zs.length = len) (h : At w a zs) :
    Calls Try.prog 43 #[.int .u8 9, .slice a len cap] w fun e w' => e = .returned (.bool (okS 9 zs)) ∧ Below w.heap.size w w' := by
  have B : Hid (Below w.heap.size w w) := Below.refl _ _
  have H := hidden6 (one_any a zs len cap 16 w hl h)
  show Calls _ _ _ _ (fun e w' => e = .returned (.bool (decide (zs.length = 1) && wB (nth zs 0) 16)) ∧ _)
  generalize (decide (zs.length = 1) && wB (nth zs 0) 16) = r at *
  go_enter Try.func43, Try.ntmps43
  go_wp2_with (go_at_call 73; (with_reducible refine H.out.mono ?_); rintro e w1 ⟨rfl, b1⟩)
  go_ret
  exact ⟨rfl, b1⟩
set_option maxRecDepth 100000 in
set_option maxHeartbeats 1000000 in
theorem good_10 (a : Option Addr) (zs : List Int) (len cap : Nat) (w : World) (hl : zs.length = len) :
    Calls Try.prog 43 #[.int .u8 10, .slice a len cap] w fun e w' => e = .returned (.bool (okS 10 zs)) ∧ Below w.heap.size w w' := by
  have B : Hid (Below w.heap.size w w) := Below.refl _ _
  have e : okS 10 zs = decide (len = 2) := by rw [← hl]; rfl
  rw [e]
  clear e
  by_cases h1 : len = 2
  · have l1 : ((len : Int) == 2) = true := by simp; omega
    rw [decide_eq_true h1]
    go_enter Try.func43, Try.ntmps43
    go_wp2
    go_ret
    exact ⟨by simp, B.out⟩
  · have l1 : ((len : Int) == 2) = false := by simp; omega
    rw [decide_eq_false h1]
    go_enter Try.func43, Try.ntmps43
    go_wp2
    go_ret
    exact ⟨by simp, B.out⟩
set_option maxRecDepth 100000 in
set_option maxHeartbeats 1000000 in
theorem good_11 (a : Option Addr) (zs : List Int) (len cap : Nat) (w : World) (hl : zs.length = len) (h : At w a zs) :
    Calls Try.prog 43 #[.int .u8 11, .slice a len cap] w fun e w' => e = .returned (.bool (okS 11 zs)) ∧ Below w.heap.size w w' := by
  have B : Hid (Below w.heap.size w w) := Below.refl _ _
  have H := hidden6 (one_any a zs len cap 64 w hl h)
  show Calls _ _ _ _ (fun e w' => e = .returned (.bool (decide (zs.length = 1) && wB (nth zs 0) 64)) ∧ _)
  generalize (decide (zs.length = 1) && wB (nth zs 0) 64) = r at *
  go_enter Try.func43, Try.ntmps43
  go_wp2_with (go_at_call 73; (with_reducible refine H.out.mono ?_); rintro e w1 ⟨rfl, b1⟩)
  go_ret
  exact ⟨rfl, b1⟩
theorem good_any (t : Nat) (ht : 1 ≤ t ∧ t ≤ 11) (a : Option Addr) (zs : List Int) (len cap : Nat) (w : World) (hl : zs.length = len) (h : At w a zs) :
    Calls Try.prog 43 #[.int .u8 (t : Int), .slice a len cap] w fun e w' => e = .returned (.bool (okS t zs)) ∧ Below w.heap.size w w' := by
  revert t
  exact eleven (good_1 a zs len cap w hl) (good_2 a zs len cap w hl h) (good_3 a zs len cap w hl h) (good_4 a zs len cap w hl h) (good_5 a zs len cap w hl h) (good_6 a zs len cap w hl h) (good_7 a zs len cap w hl) (good_8 a zs len cap w hl) (good_9 a zs len cap w hl h) (good_10 a zs len cap w hl) (good_11 a zs len cap w hl h)
end Go.Proofs.Ythgblljokonejaa

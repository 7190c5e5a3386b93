/- Texts of one chain, laid one behind the other. -/
import Derived.Test.YtdjplmlfcolklaaPartCodeChecks7
import Derived.Test.YtdjplmlfcolklaaPartCodeChecks4
import Derived.Deep.LoopGhost
import Derived.Deep.DeepCutAuto
namespace Go.Proofs.Ytdjplmlfcolklaa
open Go.ChangeShapes Go.WideShapes Go.ChangeAt Go.RowKit
def wB (n m : Int) : Bool := decide (1 ≤ n) && decide (n ≤ m)
def wovenB (n m : Int) : Bool := wB n 16 && (wB m 64 && decide (n * m ≤ 64))
/-- May a tag of the table have these parameters? -/
def okS (t : Nat) (zs : List Int) : Bool :=
  match t with
  | 1 => wB (zs.length : Int) 16
  | 2 => decide (zs.length = 1) && wB (nth zs 0) 64
  | 3 => decide (zs.length = 1) && wB (nth zs 0) 64
  | 4 => decide (zs.length = 2) && wovenB (nth zs 0) (nth zs 1)
  | 5 => decide (zs.length = 2) && wovenB (nth zs 0) (nth zs 1)
  | 6 => decide (zs.length = 1) && wB (nth zs 0) 16
  | 9 => decide (zs.length = 1) && wB (nth zs 0) 16
  | 10 => decide (zs.length = 2)
  | 11 => decide (zs.length = 1) && wB (nth zs 0) 64
  | _ => decide (zs.length = 0)
def rep (n x : Int) : List Int := List.replicate n.toNat x
def insS (t : Nat) (zs : List Int) : List Int :=
  match t with
  | 3 => [nth zs 0]
  | 4 => rep (nth zs 0) (nth zs 1)
  | 5 => [nth zs 0 * nth zs 1]
  | 6 => rep (nth zs 0) 1
  | 7 => [1, 1]
  | 10 => []
  | 11 => [nth zs 0]
  | _ => [1]
def outsS (t : Nat) (zs : List Int) : List Int :=
  match t with
  | 2 => [nth zs 0]
  | 4 => [nth zs 0 * nth zs 1]
  | 5 => rep (nth zs 0) (nth zs 1)
  | 9 => rep (nth zs 0) 1
  | 11 => []
  | _ => [1]
theorem hidden6 {p : Prop} (h : p) : Hid p := h
theorem cell_keep6 {w w' : World} (hb : Below w.heap.size w w') {p : Addr} {x : Value} (h : w.cell? p = some x) : w'.cell? p = some x := (hb.cell (block_lt_of_cell h)).trans h
theorem within_any (n m : Int) (w : World) : Calls Try.prog 85 #[.int .i64 n, .int .i64 m] w fun e w' => e = .returned (.bool (wB n m)) ∧ w' = w := by
  unfold wB
  by_cases h1 : 1 ≤ n
  · rw [decide_eq_true h1]
    by_cases h2 : n ≤ m
    · rw [decide_eq_true h2]
      go_enter Try.func85, Try.ntmps85
      go_wp2
      go_ret
      exact ⟨rfl, rfl⟩
    · rw [decide_eq_false h2]
      go_enter Try.func85, Try.ntmps85
      go_wp2
      go_ret
      exact ⟨rfl, rfl⟩
  · rw [decide_eq_false h1]
    go_enter Try.func85, Try.ntmps85
    go_wp2
    go_ret
    exact ⟨rfl, rfl⟩
theorem wB_bound {n m : Int} (h : wB n m = true) : 1 ≤ n ∧ n ≤ m := by
  unfold wB at h
  rw [Bool.and_eq_true, decide_eq_true_iff, decide_eq_true_iff] at h
  exact h
theorem mul_bound {n m : Int} (h1 : 1 ≤ n ∧ n ≤ 16) (h2 : 1 ≤ m ∧ m ≤ 64) : 1 ≤ n * m ∧ n * m ≤ 1024 :=
  ⟨Int.mul_pos (by omega : 0 < n) (by omega : 0 < m), Int.mul_le_mul h1.2 h2.2 (by omega) (by omega)⟩
set_option maxHeartbeats 1000000 in
theorem woven_any (n m : Int) (w : World) : Calls Try.prog 86 #[.int .i64 n, .int .i64 m] w fun e w' => e = .returned (.bool (wovenB n m)) ∧ w' = w := by
  have H : Hid (∀ x y w1, Calls Try.prog 85 #[.int .i64 x, .int .i64 y] w1 fun e w' => e = .returned (.bool (wB x y)) ∧ w' = w1) := fun x y w1 => within_any x y w1
  unfold wovenB
  cases h1 : wB n 16 with
  | false =>
    go_enter Try.func86, Try.ntmps86
    go_wp2_with (go_at_call 85; (with_reducible refine (H.out _ _ _).mono ?_); rintro e w' ⟨rfl, rfl⟩; rw [h1])
    go_ret
    exact ⟨rfl, rfl⟩
  | true =>
    cases h2 : wB m 64 with
    | false =>
      go_enter Try.func86, Try.ntmps86
      go_wp2_with (first
        | (go_at_call 85; (with_reducible refine (H.out n 16 _).mono ?_); rintro e w' ⟨rfl, rfl⟩; rw [h1])
        | (go_at_call 85; (with_reducible refine (H.out m 64 _).mono ?_); rintro e w' ⟨rfl, rfl⟩; rw [h2]))
      go_ret
      exact ⟨rfl, rfl⟩
    | true =>
      have hb := mul_bound (wB_bound h1) (wB_bound h2)
      obtain ⟨x, hx⟩ : ∃ x, n * m = x := ⟨_, rfl⟩
      rw [hx] at hb ⊢
      go_enter Try.func86, Try.ntmps86
      go_wp2_with (first
        | (go_at_call 85; (with_reducible refine (H.out n 16 _).mono ?_); rintro e w' ⟨rfl, rfl⟩; rw [h1])
        | (go_at_call 85; (with_reducible refine (H.out m 64 _).mono ?_); rintro e w' ⟨rfl, rfl⟩; rw [h2]))
      go_ret
      exact ⟨by simp, rfl⟩
theorem known_any (t : Nat) (w : World) (ht : t ≤ 255) : Calls Try.prog 70 #[.int .u8 (t : Int)] w fun e w' => e = .returned (.bool (decide (1 ≤ t) && decide (t ≤ 11))) ∧ w' = w := by
  by_cases h1 : 1 ≤ t
  · have h1' : (1 : Int) ≤ (t : Int) := by omega
    rw [decide_eq_true h1]
    by_cases h2 : t ≤ 11
    · have h2' : (t : Int) ≤ 11 := by omega
      rw [decide_eq_true h2]
      go_enter Try.func70, Try.ntmps70
      go_wp2
      go_ret
      exact ⟨rfl, rfl⟩
    · have h2' : ¬ (t : Int) ≤ 11 := by omega
      rw [decide_eq_false h2]
      go_enter Try.func70, Try.ntmps70
      go_wp2
      go_ret
      exact ⟨rfl, rfl⟩
  · have h1' : ¬ (1 : Int) ≤ (t : Int) := by omega
    rw [decide_eq_false h1]
    go_enter Try.func70, Try.ntmps70
    go_wp2
    go_ret
    exact ⟨rfl, rfl⟩
/-- How a new row's making ends. -/
def RowEnd (w : World) (zs : List Int) (e : Ending) (w' : World) : Prop := ∃ (a : Option Addr) (cap : Nat), e = .returned (.slice a zs.length cap) ∧ CapR w.heap.size w' a cap zs ∧ Below w.heap.size w w'
set_option maxHeartbeats 400000 in
theorem ports_any (b : Nat) (zs : List Int) (cap : Nat) (w : World) (hl : zs.length ≤ 16) (h : At w (some ⟨b, 0, none⟩) zs) :
    Calls Try.prog 87 #[.slice (some ⟨b, 0, none⟩) zs.length cap] w (RowEnd w zs) := by
  obtain ⟨i0, hi, hz0, hz1, hz2⟩ := info_parts Try.info3
  go_enter Try.func87, Try.ntmps87
  go_wp2_with (at_builtin; refine wpList_append_own _ rfl _ _ 43 rfl w.heap.size 3 i0 (.int .i64 0) 1 8 Try.underlying43 hi hz0 hz1 hz2 rfl (by decide) _ 0 [] rfl (World.ownsRow_nil _ _ _ _) ⟨b, 0, none⟩ zs.length cap (zs.map (Value.int .i64)) rfl (by simp) (lies_new h) (ints_oneCell _ _) ?c3 ?c4 (Nat.le_refl _) ?_)
  case c3 => unfold maxLen; omega
  case c4 => omega
  intro v' w1 hown hgrow _
  have hown' : w1.ownsRow w.heap.size 3 1 v' zs.length (zs.map (Value.int .i64)) := by simpa using hown
  obtain ⟨a', cap', hv, -, hat', hc', hn', hb'⟩ := owns_at (n := zs.length) (zs := zs) hown'
  rw [hv]
  go_wp2
  go_ret
  refine ⟨a', cap', rfl, ?_, (Below.refl _ _).grown hgrow (Nat.le_refl _) (fun k h => by cases h)⟩
  unfold CapR
  rw [← hv]
  exact hown'
set_option maxHeartbeats 400000 in
theorem ports_none (w : World) : Calls Try.prog 87 #[.slice none 0 0] w fun e w' => e = .returned (.slice none 0 0) ∧ w' = w := by
  obtain ⟨i0, hi, hz0, hz1, hz2⟩ := info_parts Try.info3
  go_enter Try.func87, Try.ntmps87
  go_wp2_with (at_builtin; refine wpList_append_own_none rfl _ _ 43 rfl w.heap.size 3 i0 1 Try.underlying43 hi _ 0 [] rfl (World.ownsRow_nil _ _ _ _) rfl ?_)
  go_ret
  exact ⟨rfl, rfl⟩
set_option maxHeartbeats 1000000 in
theorem alike_any (n : Nat) (x : Int) (w : World) (hn : n ≤ 16) :
    Calls Try.prog 88 #[.int .i64 (n : Int), .int .i64 x] w (RowEnd w (List.replicate n x)) := by
  obtain ⟨i0, hi, hz0, hz1, hz2⟩ := info_parts Try.info3
  go_enter Try.func88, Try.ntmps88
  go_wp2_with (at_make; refine wpList_make_full _ rfl _ _ 43 rfl w.heap.size 3 i0 (.int .i64 0) 1 Try.underlying43 hi hz0 hz1 _ _ _ _ n rfl rfl rfl rfl (by rw [hz2]; omega) (by unfold maxLen; omega) (Nat.le_refl _) ?_; intro w0 hown0 hgrow0; have hbel0 := (Below.refl w.heap.size w).grown hgrow0 (Nat.le_refl _) (fun k h => by cases h))
  have hcap0 : CapR w.heap.size w0 (some ⟨w.heap.size, 0, none⟩) n (List.replicate 0 x ++ List.replicate n 0) := by
    unfold CapR
    have e : (madeCells (Value.cells (.int .i64 0)) (n * 1)).toList = (List.replicate 0 x ++ List.replicate n 0).map (Value.int .i64) := by
      show (madeCells #[.int .i64 0] (n * 1)).toList = _
      apply List.ext_getElem?
      intro k
      rw [Nat.mul_one]
      by_cases hk : k < n <;> simp [madeCells, hk, Nat.mod_one]
    rw [e] at hown0
    simpa using hown0
  have HC0 := hidden6 hcap0
  have HB0 := hidden6 hbel0
  clear hown0 hgrow0 hcap0 hbel0
  go_loopg [11] n (fun gk v wr => ∃ k : Nat, k ≤ n ∧ gk = n - k ∧ v = .int .i64 (k : Int) ∧ CapR w.heap.size wr (some ⟨w.heap.size, 0, none⟩) n (List.replicate k x ++ List.replicate (n - k) 0) ∧ Below w.heap.size w wr)
  case atStart => exact ⟨0, Nat.zero_le _, rfl, rfl, HC0.out, HB0.out⟩
  case round =>
    clear HC0 HB0
    obtain ⟨k, hk, rfl, rfl, hC, hB⟩ := hrel
    by_cases hlt : k < n
    · have hki : (k : Int) < (n : Int) := by omega
      have es : List.replicate (n - k) (0 : Int) = 0 :: List.replicate (n - (k + 1)) 0 := by
        rw [show n - k = (n - (k + 1)) + 1 by omega, List.replicate_succ]
      rw [es] at hC
      have hc := hC.hd (k := k) (by simp)
      have hf := hC.fz k
      have hC2 : Hid (CapR w.heap.size (wr.setCell ⟨w.heap.size, k, none⟩ (.int .i64 x)) (some ⟨w.heap.size, 0, none⟩) n (List.replicate (k + 1) x ++ List.replicate (n - (k + 1)) 0)) := by
        have h1 := hC.set (k := k) x (by simp)
        rw [show List.replicate (k + 1) x ++ List.replicate (n - (k + 1)) 0 = List.replicate k x ++ x :: List.replicate (n - (k + 1)) 0 by rw [List.replicate_succ', List.append_assoc]; rfl]
        exact h1
      have HB := hidden6 (hB.setCell (p := ⟨w.heap.size, k, none⟩) (Nat.le_refl _) (.int .i64 x))
      clear hC hB es
      go_wp2
      go_roundg (n - (k + 1))
      case measure => omega
      case rel => exact ⟨k + 1, by omega, rfl, by go_num, hC2.out, HB.out⟩
    · have ek : k = n := by omega
      subst ek
      have hki : ¬ (k : Int) < (k : Int) := by omega
      rw [Nat.sub_self, List.replicate_zero, List.append_nil] at hC
      have HC := hidden6 hC
      clear hC
      go_wp2
      go_ret
      refine ⟨_, _, ?_, HC.out, hB⟩
      rw [List.length_replicate]
      rfl
set_option maxRecDepth 100000 in
set_option maxHeartbeats 1000000 in
theorem right_1 (a : Option Addr) (zs : List Int) (len cap : Nat) (w : World) (hl : zs.length = len) :
    Calls Try.prog 71 #[.int .u8 1, .slice a len cap] w fun e w' => e = .returned (.bool (okS 1 zs)) ∧ Below w.heap.size w w' := by
  have B : Hid (Below w.heap.size w w) := Below.refl _ _
  subst hl
  unfold okS
  go_enter Try.func71, Try.ntmps71
  go_wp2_with (go_at_call 85; (with_reducible refine (within_any _ _ _).mono ?_); rintro e w' ⟨rfl, rfl⟩)
  go_ret
  exact ⟨rfl, B.out⟩
set_option maxRecDepth 100000 in
set_option maxHeartbeats 1000000 in
theorem right_2 (a : Option Addr) (zs : List Int) (len cap : Nat) (w : World) (hl : zs.length = len) (h : At w a zs) :
    Calls Try.prog 71 #[.int .u8 2, .slice a len cap] w fun e w' => e = .returned (.bool (okS 2 zs)) ∧ Below w.heap.size w w' := by
  have B : Hid (Below w.heap.size w w) := Below.refl _ _
  have e : okS 2 zs = (decide (len = 1) && wB (nth zs 0) 64) := by rw [← hl]; rfl
  rw [e]
  clear e
  by_cases h1 : len = 1
  · have l1 : ((len : Int) == 1) = true := by simp; omega
    rw [decide_eq_true h1]
    rcases h with h0 | ⟨b, off, rfl, hc⟩
    · rw [h0] at hl; simp at hl; omega
    have c0 := hc 0 (by omega)
    rw [Nat.add_zero] at c0
    have l2 : (0 : Int) < (len : Int) := by omega
    clear hc
    generalize nth zs 0 = p0 at *
    go_enter Try.func71, Try.ntmps71
    go_wp2_with (go_at_call 85; (with_reducible refine (within_any _ _ _).mono ?_); rintro e w' ⟨rfl, rfl⟩)
    go_ret
    exact ⟨by simp, B.out⟩
  · have l1 : ((len : Int) == 1) = false := by simp; omega
    rw [decide_eq_false h1]
    go_enter Try.func71, Try.ntmps71
    go_wp2
    go_ret
    exact ⟨rfl, B.out⟩
set_option maxRecDepth 100000 in
set_option maxHeartbeats 1000000 in
theorem right_3 (a : Option Addr) (zs : List Int) (len cap : Nat) (w : World) (hl : zs.length = len) (h : At w a zs) :
    Calls Try.prog 71 #[.int .u8 3, .slice a len cap] w fun e w' => e = .returned (.bool (okS 3 zs)) ∧ Below w.heap.size w w' := by
  have B : Hid (Below w.heap.size w w) := Below.refl _ _
  have e : okS 3 zs = (decide (len = 1) && wB (nth zs 0) 64) := by rw [← hl]; rfl
  rw [e]
  clear e
  by_cases h1 : len = 1
  · have l1 : ((len : Int) == 1) = true := by simp; omega
    rw [decide_eq_true h1]
    rcases h with h0 | ⟨b, off, rfl, hc⟩
    · rw [h0] at hl; simp at hl; omega
    have c0 := hc 0 (by omega)
    rw [Nat.add_zero] at c0
    have l2 : (0 : Int) < (len : Int) := by omega
    clear hc
    generalize nth zs 0 = p0 at *
    go_enter Try.func71, Try.ntmps71
    go_wp2_with (go_at_call 85; (with_reducible refine (within_any _ _ _).mono ?_); rintro e w' ⟨rfl, rfl⟩)
    go_ret
    exact ⟨by simp, B.out⟩
  · have l1 : ((len : Int) == 1) = false := by simp; omega
    rw [decide_eq_false h1]
    go_enter Try.func71, Try.ntmps71
    go_wp2
    go_ret
    exact ⟨rfl, B.out⟩
set_option maxRecDepth 100000 in
set_option maxHeartbeats 1000000 in
theorem right_4 (a : Option Addr) (zs : List Int) (len cap : Nat) (w : World) (hl : zs.length = len) (h : At w a zs) :
    Calls Try.prog 71 #[.int .u8 4, .slice a len cap] w fun e w' => e = .returned (.bool (okS 4 zs)) ∧ Below w.heap.size w w' := by
  have B : Hid (Below w.heap.size w w) := Below.refl _ _
  have e : okS 4 zs = (decide (len = 2) && wovenB (nth zs 0) (nth zs 1)) := by rw [← hl]; rfl
  rw [e]
  clear e
  by_cases h1 : len = 2
  · have l2i : ((len : Int) == 2) = true := by simp; omega
    have l2 : (1 : Int) < (len : Int) := by omega
    have m0 : 0 < len := by omega
    rw [decide_eq_true h1]
    rcases h with h0 | ⟨b, off, rfl, hc⟩
    · rw [h0] at hl; simp at hl; omega
    have c0 := hc 0 (by omega)
    have c1 := hc 1 (by omega)
    rw [Nat.add_zero] at c0
    clear hc
    generalize nth zs 0 = p0 at *
    generalize nth zs 1 = p1 at *
    go_enter Try.func71, Try.ntmps71
    go_wp2
    refine wp_region_gen [] (fun d i u z => match i with
        | 0 => z = .slice (some ⟨b, off, none⟩) len cap
        | 1 => z = .int .i64 (len : Int)
        | 2 => z = .bool true
        | 3 => z = .bool true
        | 4 => z = .slice (some ⟨b, off, none⟩) len cap
        | 5 => z = .pointer (some ⟨b, off, none⟩)
        | 6 => z = .int .i64 p0
        | 7 => z = .slice (some ⟨b, off, none⟩) len cap
        | 8 => z = .pointer (some ⟨b, off + 1, none⟩)
        | 9 => z = .int .i64 p1
        | 10 => z = .bool (wovenB p0 p1)
        | 11 => z = .bool (wovenB p0 p1)
        | 12 => z = .bool (wovenB p0 p1)
        | _ => True) (fun _ u => u.cell? ⟨b, off, none⟩ = some (.int .i64 p0) ∧ u.cell? ⟨b, off + 1, none⟩ = some (.int .i64 p1) ∧ Below w.heap.size w u) (by kernel_rfl) (by kernel_rfl) (by kernel_rfl) ?_ ?_ ?_ ?_ ?_ ?_ (by kernel_rfl)
    · intro d i w v w' h hb
      match i, h with
      | 0, h => exact h
      | 1, h => exact h
      | 2, h => exact h
      | 3, h => exact h
      | 4, h => exact h
      | 5, h => exact h
      | 6, h => exact h
      | 7, h => exact h
      | 8, h => exact h
      | 9, h => exact h
      | 10, h => exact h
      | 11, h => exact h
      | 12, h => exact h
      | _ + 13, _ => trivial
    · intro d u u' h hb
      exact ⟨cell_keep6 hb h.1, cell_keep6 hb h.2.1, h.2.2.trans (hb.mono h.2.2.size)⟩
    · exact ⟨c0, c1, Below.refl _ _⟩
    · intro d i o ρ w' hm ho hf hg hC hcs hfs hfr hdep
      match i, hm, ho, hf, hg, hfr, hdep with
      | 0, _, ho, hf, hg, hfr, hdep =>
        simp only [gTA, gCZ, gSI] at ho
        subst ho
        refine ⟨fun _ => ?_, fun hw => absurd (show true = false from hw) (by decide)⟩
        have ts : ρ (.tmp 1) = .slice (some ⟨b, off, none⟩) len cap := hfr 1 (by kernel_rfl)
        simp [go_sem, ts]
        exact ⟨Below.refl _ _, rfl⟩
      | 1, _, ho, hf, hg, hfr, hdep =>
        simp only [gTA, gCZ, gCS, gSI] at ho
        subst ho
        refine ⟨fun _ => ?_, fun hw => absurd (show true = false from hw) (by decide)⟩
        have d0 : ρ (.tmp 39) = .slice (some ⟨b, off, none⟩) len cap := hdep 0 39 (by kernel_rfl) (by kernel_rfl)
        simp [go_sem, d0]
        exact ⟨Below.refl _ _, rfl⟩
      | 2, _, ho, hf, hg, hfr, hdep =>
        simp only [gTA, gCZ, gCS, gSI] at ho
        subst ho
        refine ⟨fun _ => ?_, fun hw => absurd (show true = false from hw) (by decide)⟩
        have d0 : ρ (.tmp 40) = .int .i64 (len : Int) := hdep 1 40 (by kernel_rfl) (by kernel_rfl)
        simp [go_sem, d0, hcs, l2i]
        exact ⟨Below.refl _ _, rfl⟩
      | 3, _, ho, hf, hg, hfr, hdep =>
        simp only [gTA, gCZ, gCS, gSI] at ho
        subst ho
        refine ⟨fun _ => ?_, fun hw => absurd (show true = false from hw) (by decide)⟩
        have d0 : ρ (.tmp 41) = .bool true := hdep 2 41 (by kernel_rfl) (by kernel_rfl)
        simp [go_sem, d0]
        exact ⟨Below.refl _ _, rfl⟩
      | 4, _, ho, hf, hg, hfr, hdep =>
        simp only [gTA, gCZ, gCS, gSI] at ho
        subst ho
        have gd : ρ (.tmp 42) = .bool true := hdep 3 42 (by kernel_rfl) (by kernel_rfl)
        refine ⟨fun _ => ?_, fun hw => absurd (show (match ρ (.tmp 42) with | .bool c => c == true | _ => false) = false from hw) (by rw [gd]; decide)⟩
        clear gd
        have ts : ρ (.tmp 1) = .slice (some ⟨b, off, none⟩) len cap := hfr 1 (by kernel_rfl)
        simp [go_sem, ts]
        exact ⟨Below.refl _ _, rfl⟩
      | 5, _, ho, hf, hg, hfr, hdep =>
        simp only [gTA, gCZ, gCS, gSI] at ho
        subst ho
        have gd : ρ (.tmp 42) = .bool true := hdep 3 42 (by kernel_rfl) (by kernel_rfl)
        refine ⟨fun _ => ?_, fun hw => absurd (show (match ρ (.tmp 42) with | .bool c => c == true | _ => false) = false from hw) (by rw [gd]; decide)⟩
        clear gd
        have d0 : ρ (.tmp 43) = .slice (some ⟨b, off, none⟩) len cap := hdep 4 43 (by kernel_rfl) (by kernel_rfl)
        simp [go_sem, d0, hcs, m0]
        exact ⟨Below.refl _ _, rfl⟩
      | 6, _, ho, hf, hg, hfr, hdep =>
        simp only [gTA, gCZ, gCS, gSI] at ho
        subst ho
        have gd : ρ (.tmp 42) = .bool true := hdep 3 42 (by kernel_rfl) (by kernel_rfl)
        refine ⟨fun _ => ?_, fun hw => absurd (show (match ρ (.tmp 42) with | .bool c => c == true | _ => false) = false from hw) (by rw [gd]; decide)⟩
        clear gd
        have c0 := hC.1
        have d0 : ρ (.tmp 44) = .pointer (some ⟨b, off, none⟩) := hdep 5 44 (by kernel_rfl) (by kernel_rfl)
        simp [go_sem, d0, c0]
        exact ⟨Below.refl _ _, rfl⟩
      | 7, _, ho, hf, hg, hfr, hdep =>
        simp only [gTA, gCZ, gCS, gSI] at ho
        subst ho
        have gd : ρ (.tmp 42) = .bool true := hdep 3 42 (by kernel_rfl) (by kernel_rfl)
        refine ⟨fun _ => ?_, fun hw => absurd (show (match ρ (.tmp 42) with | .bool c => c == true | _ => false) = false from hw) (by rw [gd]; decide)⟩
        clear gd
        have ts : ρ (.tmp 1) = .slice (some ⟨b, off, none⟩) len cap := hfr 1 (by kernel_rfl)
        simp [go_sem, ts]
        exact ⟨Below.refl _ _, rfl⟩
      | 8, _, ho, hf, hg, hfr, hdep =>
        simp only [gTA, gCZ, gCS, gSI] at ho
        subst ho
        have gd : ρ (.tmp 42) = .bool true := hdep 3 42 (by kernel_rfl) (by kernel_rfl)
        refine ⟨fun _ => ?_, fun hw => absurd (show (match ρ (.tmp 42) with | .bool c => c == true | _ => false) = false from hw) (by rw [gd]; decide)⟩
        clear gd
        have d0 : ρ (.tmp 46) = .slice (some ⟨b, off, none⟩) len cap := hdep 7 46 (by kernel_rfl) (by kernel_rfl)
        simp [go_sem, d0, hcs, l2]
        exact ⟨Below.refl _ _, rfl⟩
      | 9, _, ho, hf, hg, hfr, hdep =>
        simp only [gTA, gCZ, gCS, gSI] at ho
        subst ho
        have gd : ρ (.tmp 42) = .bool true := hdep 3 42 (by kernel_rfl) (by kernel_rfl)
        refine ⟨fun _ => ?_, fun hw => absurd (show (match ρ (.tmp 42) with | .bool c => c == true | _ => false) = false from hw) (by rw [gd]; decide)⟩
        clear gd
        have c1 := hC.2
        have d0 : ρ (.tmp 47) = .pointer (some ⟨b, off + 1, none⟩) := hdep 8 47 (by kernel_rfl) (by kernel_rfl)
        simp [go_sem, d0, c1]
        exact ⟨Below.refl _ _, rfl⟩
      | 10, _, ho, hf, hg, hfr, hdep =>
        simp only [gTA, gCZ, gCS, gSI] at ho
        subst ho
        have gd : ρ (.tmp 42) = .bool true := hdep 3 42 (by kernel_rfl) (by kernel_rfl)
        refine ⟨fun _ => ?_, fun hw => absurd (show (match ρ (.tmp 42) with | .bool c => c == true | _ => false) = false from hw) (by rw [gd]; decide)⟩
        clear gd
        have d0 : ρ (.tmp 45) = .int .i64 p0 := hdep 6 45 (by kernel_rfl) (by kernel_rfl)
        have d1 : ρ (.tmp 48) = .int .i64 p1 := hdep 9 48 (by kernel_rfl) (by kernel_rfl)
        simp [go_sem, d0, d1, hfs]
        exact ⟨rfl, (woven_any p0 p1 w').mono fun e u h => ⟨_, h.1, by rw [h.2]; exact Below.refl _ _, rfl⟩⟩
      | 11, _, ho, hf, hg, hfr, hdep =>
        simp only [gTA, gCZ, gCS, gSI] at ho
        subst ho
        refine ⟨fun _ => ?_, fun hw => absurd (show true = false from hw) (by decide)⟩
        have d0 : ρ (.tmp 42) = .bool true := hdep 3 42 (by kernel_rfl) (by kernel_rfl)
        have d1 : ρ (.tmp 49) = .bool (wovenB p0 p1) := hdep 10 49 (by kernel_rfl) (by kernel_rfl)
        simp [go_sem, d0, d1]
        exact ⟨Below.refl _ _, rfl⟩
      | 12, _, ho, hf, hg, hfr, hdep =>
        simp only [gTA, gCZ, gCS, gSI] at ho
        subst ho
        refine ⟨fun _ => ?_, fun hw => absurd (show true = false from hw) (by decide)⟩
        have d0 : ρ (.tmp 50) = .bool (wovenB p0 p1) := hdep 11 50 (by kernel_rfl) (by kernel_rfl)
        simp [go_sem, d0]
        exact ⟨Below.refl _ _, rfl⟩
      | n + 13, _, ho, _, _, _, _ => simp at ho
    · intro d i o ρ w' hm ho h0 hf hg hC hcs hfs hfr hdep
      exact absurd hm (by simp)
    · intro V w9 hC9 hS
      have e12 : V 12 = .bool (wovenB p0 p1) := hS 12 (by decide) (by intro h; cases h)
      simp only [puts, e12]
      simp only [Act.put, List.setIfInBounds_toArray, List.set_cons_zero, List.set_cons_succ]
      clear hS e12
      go_wp2
      go_ret
      exact ⟨by simp, hC9.2.2⟩
  · have l2i : ((len : Int) == 2) = false := by simp; omega
    rw [decide_eq_false h1]
    go_enter Try.func71, Try.ntmps71
    go_wp2
    refine wp_region_gen [] (fun d i u z => match i with
        | 0 => z = .slice a len cap
        | 1 => z = .int .i64 (len : Int)
        | 2 => z = .bool false
        | 3 => z = .bool false
        | 4 => z = undef
        | 5 => z = undef
        | 6 => z = undef
        | 7 => z = undef
        | 8 => z = undef
        | 9 => z = undef
        | 10 => z = undef
        | 11 => z = .bool false
        | 12 => z = .bool false
        | _ => True) (fun _ u => Below w.heap.size w u) (by kernel_rfl) (by kernel_rfl) (by kernel_rfl) ?_ ?_ ?_ ?_ ?_ ?_ (by kernel_rfl)
    · intro d i w v w' h hb
      match i, h with
      | 0, h => exact h
      | 1, h => exact h
      | 2, h => exact h
      | 3, h => exact h
      | 4, h => exact h
      | 5, h => exact h
      | 6, h => exact h
      | 7, h => exact h
      | 8, h => exact h
      | 9, h => exact h
      | 10, h => exact h
      | 11, h => exact h
      | 12, h => exact h
      | _ + 13, _ => trivial
    · intro d u u' h hb
      exact h.trans (hb.mono h.size)
    · exact Below.refl _ _
    · intro d i o ρ w' hm ho hf hg hC hcs hfs hfr hdep
      match i, hm, ho, hf, hg, hfr, hdep with
      | 0, _, ho, hf, hg, hfr, hdep =>
        simp only [gTA, gCZ, gSI] at ho
        subst ho
        refine ⟨fun _ => ?_, fun hw => absurd (show true = false from hw) (by decide)⟩
        have ts : ρ (.tmp 1) = .slice a len cap := hfr 1 (by kernel_rfl)
        simp [go_sem, ts]
        exact ⟨Below.refl _ _, rfl⟩
      | 1, _, ho, hf, hg, hfr, hdep =>
        simp only [gTA, gCZ, gCS, gSI] at ho
        subst ho
        refine ⟨fun _ => ?_, fun hw => absurd (show true = false from hw) (by decide)⟩
        have d0 : ρ (.tmp 39) = .slice a len cap := hdep 0 39 (by kernel_rfl) (by kernel_rfl)
        simp [go_sem, d0]
        exact ⟨Below.refl _ _, rfl⟩
      | 2, _, ho, hf, hg, hfr, hdep =>
        simp only [gTA, gCZ, gCS, gSI] at ho
        subst ho
        refine ⟨fun _ => ?_, fun hw => absurd (show true = false from hw) (by decide)⟩
        have d0 : ρ (.tmp 40) = .int .i64 (len : Int) := hdep 1 40 (by kernel_rfl) (by kernel_rfl)
        simp [go_sem, d0, hcs, l2i]
        exact ⟨Below.refl _ _, rfl⟩
      | 3, _, ho, hf, hg, hfr, hdep =>
        simp only [gTA, gCZ, gCS, gSI] at ho
        subst ho
        refine ⟨fun _ => ?_, fun hw => absurd (show true = false from hw) (by decide)⟩
        have d0 : ρ (.tmp 41) = .bool false := hdep 2 41 (by kernel_rfl) (by kernel_rfl)
        simp [go_sem, d0]
        exact ⟨Below.refl _ _, rfl⟩
      | 4, _, ho, hf, hg, hfr, hdep =>
        simp only [gTA, gCZ, gCS, gSI] at ho
        subst ho
        have gd : ρ (.tmp 42) = .bool false := hdep 3 42 (by kernel_rfl) (by kernel_rfl)
        exact ⟨fun hw => absurd (show (match ρ (.tmp 42) with | .bool c => c == true | _ => false) = true from hw) (by rw [gd]; decide), fun _ => rfl⟩
      | 5, _, ho, hf, hg, hfr, hdep =>
        simp only [gTA, gCZ, gCS, gSI] at ho
        subst ho
        have gd : ρ (.tmp 42) = .bool false := hdep 3 42 (by kernel_rfl) (by kernel_rfl)
        exact ⟨fun hw => absurd (show (match ρ (.tmp 42) with | .bool c => c == true | _ => false) = true from hw) (by rw [gd]; decide), fun _ => rfl⟩
      | 6, _, ho, hf, hg, hfr, hdep =>
        simp only [gTA, gCZ, gCS, gSI] at ho
        subst ho
        have gd : ρ (.tmp 42) = .bool false := hdep 3 42 (by kernel_rfl) (by kernel_rfl)
        exact ⟨fun hw => absurd (show (match ρ (.tmp 42) with | .bool c => c == true | _ => false) = true from hw) (by rw [gd]; decide), fun _ => rfl⟩
      | 7, _, ho, hf, hg, hfr, hdep =>
        simp only [gTA, gCZ, gCS, gSI] at ho
        subst ho
        have gd : ρ (.tmp 42) = .bool false := hdep 3 42 (by kernel_rfl) (by kernel_rfl)
        exact ⟨fun hw => absurd (show (match ρ (.tmp 42) with | .bool c => c == true | _ => false) = true from hw) (by rw [gd]; decide), fun _ => rfl⟩
      | 8, _, ho, hf, hg, hfr, hdep =>
        simp only [gTA, gCZ, gCS, gSI] at ho
        subst ho
        have gd : ρ (.tmp 42) = .bool false := hdep 3 42 (by kernel_rfl) (by kernel_rfl)
        exact ⟨fun hw => absurd (show (match ρ (.tmp 42) with | .bool c => c == true | _ => false) = true from hw) (by rw [gd]; decide), fun _ => rfl⟩
      | 9, _, ho, hf, hg, hfr, hdep =>
        simp only [gTA, gCZ, gCS, gSI] at ho
        subst ho
        have gd : ρ (.tmp 42) = .bool false := hdep 3 42 (by kernel_rfl) (by kernel_rfl)
        exact ⟨fun hw => absurd (show (match ρ (.tmp 42) with | .bool c => c == true | _ => false) = true from hw) (by rw [gd]; decide), fun _ => rfl⟩
      | 10, _, ho, hf, hg, hfr, hdep =>
        simp only [gTA, gCZ, gCS, gSI] at ho
        subst ho
        have gd : ρ (.tmp 42) = .bool false := hdep 3 42 (by kernel_rfl) (by kernel_rfl)
        exact ⟨fun hw => absurd (show (match ρ (.tmp 42) with | .bool c => c == true | _ => false) = true from hw) (by rw [gd]; decide), fun _ => rfl⟩
      | 11, _, ho, hf, hg, hfr, hdep =>
        simp only [gTA, gCZ, gCS, gSI] at ho
        subst ho
        refine ⟨fun _ => ?_, fun hw => absurd (show true = false from hw) (by decide)⟩
        have d0 : ρ (.tmp 42) = .bool false := hdep 3 42 (by kernel_rfl) (by kernel_rfl)
        simp [go_sem, d0, hcs]
        exact ⟨Below.refl _ _, rfl⟩
      | 12, _, ho, hf, hg, hfr, hdep =>
        simp only [gTA, gCZ, gCS, gSI] at ho
        subst ho
        refine ⟨fun _ => ?_, fun hw => absurd (show true = false from hw) (by decide)⟩
        have d0 : ρ (.tmp 50) = .bool false := hdep 11 50 (by kernel_rfl) (by kernel_rfl)
        simp [go_sem, d0]
        exact ⟨Below.refl _ _, rfl⟩
      | n + 13, _, ho, _, _, _, _ => simp at ho
    · intro d i o ρ w' hm ho h0 hf hg hC hcs hfs hfr hdep
      exact absurd hm (by simp)
    · intro V w9 hC9 hS
      have e12 : V 12 = .bool false := hS 12 (by decide) (by intro h; cases h)
      simp only [puts, e12]
      simp only [Act.put, List.setIfInBounds_toArray, List.set_cons_zero, List.set_cons_succ]
      clear hS e12
      go_wp2
      go_ret
      exact ⟨rfl, hC9⟩
set_option maxRecDepth 100000 in
set_option maxHeartbeats 1000000 in
theorem right_5 (a : Option Addr) (zs : List Int) (len cap : Nat) (w : World) (hl : zs.length = len) (h : At w a zs) :
    Calls Try.prog 71 #[.int .u8 5, .slice a len cap] w fun e w' => e = .returned (.bool (okS 5 zs)) ∧ Below w.heap.size w w' := by
  have B : Hid (Below w.heap.size w w) := Below.refl _ _
  have e : okS 5 zs = (decide (len = 2) && wovenB (nth zs 0) (nth zs 1)) := by rw [← hl]; rfl
  rw [e]
  clear e
  by_cases h1 : len = 2
  · have l2i : ((len : Int) == 2) = true := by simp; omega
    have l2 : (1 : Int) < (len : Int) := by omega
    have m0 : 0 < len := by omega
    rw [decide_eq_true h1]
    rcases h with h0 | ⟨b, off, rfl, hc⟩
    · rw [h0] at hl; simp at hl; omega
    have c0 := hc 0 (by omega)
    have c1 := hc 1 (by omega)
    rw [Nat.add_zero] at c0
    clear hc
    generalize nth zs 0 = p0 at *
    generalize nth zs 1 = p1 at *
    go_enter Try.func71, Try.ntmps71
    go_wp2
    refine wp_region_gen [] (fun d i u z => match i with
        | 0 => z = .slice (some ⟨b, off, none⟩) len cap
        | 1 => z = .int .i64 (len : Int)
        | 2 => z = .bool true
        | 3 => z = .bool true
        | 4 => z = .slice (some ⟨b, off, none⟩) len cap
        | 5 => z = .pointer (some ⟨b, off, none⟩)
        | 6 => z = .int .i64 p0
        | 7 => z = .slice (some ⟨b, off, none⟩) len cap
        | 8 => z = .pointer (some ⟨b, off + 1, none⟩)
        | 9 => z = .int .i64 p1
        | 10 => z = .bool (wovenB p0 p1)
        | 11 => z = .bool (wovenB p0 p1)
        | 12 => z = .bool (wovenB p0 p1)
        | _ => True) (fun _ u => u.cell? ⟨b, off, none⟩ = some (.int .i64 p0) ∧ u.cell? ⟨b, off + 1, none⟩ = some (.int .i64 p1) ∧ Below w.heap.size w u) (by kernel_rfl) (by kernel_rfl) (by kernel_rfl) ?_ ?_ ?_ ?_ ?_ ?_ (by kernel_rfl)
    · intro d i w v w' h hb
      match i, h with
      | 0, h => exact h
      | 1, h => exact h
      | 2, h => exact h
      | 3, h => exact h
      | 4, h => exact h
      | 5, h => exact h
      | 6, h => exact h
      | 7, h => exact h
      | 8, h => exact h
      | 9, h => exact h
      | 10, h => exact h
      | 11, h => exact h
      | 12, h => exact h
      | _ + 13, _ => trivial
    · intro d u u' h hb
      exact ⟨cell_keep6 hb h.1, cell_keep6 hb h.2.1, h.2.2.trans (hb.mono h.2.2.size)⟩
    · exact ⟨c0, c1, Below.refl _ _⟩
    · intro d i o ρ w' hm ho hf hg hC hcs hfs hfr hdep
      match i, hm, ho, hf, hg, hfr, hdep with
      | 0, _, ho, hf, hg, hfr, hdep =>
        simp only [gTA, gCZ, gSI] at ho
        subst ho
        refine ⟨fun _ => ?_, fun hw => absurd (show true = false from hw) (by decide)⟩
        have ts : ρ (.tmp 1) = .slice (some ⟨b, off, none⟩) len cap := hfr 1 (by kernel_rfl)
        simp [go_sem, ts]
        exact ⟨Below.refl _ _, rfl⟩
      | 1, _, ho, hf, hg, hfr, hdep =>
        simp only [gTA, gCZ, gCS, gSI] at ho
        subst ho
        refine ⟨fun _ => ?_, fun hw => absurd (show true = false from hw) (by decide)⟩
        have d0 : ρ (.tmp 39) = .slice (some ⟨b, off, none⟩) len cap := hdep 0 39 (by kernel_rfl) (by kernel_rfl)
        simp [go_sem, d0]
        exact ⟨Below.refl _ _, rfl⟩
      | 2, _, ho, hf, hg, hfr, hdep =>
        simp only [gTA, gCZ, gCS, gSI] at ho
        subst ho
        refine ⟨fun _ => ?_, fun hw => absurd (show true = false from hw) (by decide)⟩
        have d0 : ρ (.tmp 40) = .int .i64 (len : Int) := hdep 1 40 (by kernel_rfl) (by kernel_rfl)
        simp [go_sem, d0, hcs, l2i]
        exact ⟨Below.refl _ _, rfl⟩
      | 3, _, ho, hf, hg, hfr, hdep =>
        simp only [gTA, gCZ, gCS, gSI] at ho
        subst ho
        refine ⟨fun _ => ?_, fun hw => absurd (show true = false from hw) (by decide)⟩
        have d0 : ρ (.tmp 41) = .bool true := hdep 2 41 (by kernel_rfl) (by kernel_rfl)
        simp [go_sem, d0]
        exact ⟨Below.refl _ _, rfl⟩
      | 4, _, ho, hf, hg, hfr, hdep =>
        simp only [gTA, gCZ, gCS, gSI] at ho
        subst ho
        have gd : ρ (.tmp 42) = .bool true := hdep 3 42 (by kernel_rfl) (by kernel_rfl)
        refine ⟨fun _ => ?_, fun hw => absurd (show (match ρ (.tmp 42) with | .bool c => c == true | _ => false) = false from hw) (by rw [gd]; decide)⟩
        clear gd
        have ts : ρ (.tmp 1) = .slice (some ⟨b, off, none⟩) len cap := hfr 1 (by kernel_rfl)
        simp [go_sem, ts]
        exact ⟨Below.refl _ _, rfl⟩
      | 5, _, ho, hf, hg, hfr, hdep =>
        simp only [gTA, gCZ, gCS, gSI] at ho
        subst ho
        have gd : ρ (.tmp 42) = .bool true := hdep 3 42 (by kernel_rfl) (by kernel_rfl)
        refine ⟨fun _ => ?_, fun hw => absurd (show (match ρ (.tmp 42) with | .bool c => c == true | _ => false) = false from hw) (by rw [gd]; decide)⟩
        clear gd
        have d0 : ρ (.tmp 43) = .slice (some ⟨b, off, none⟩) len cap := hdep 4 43 (by kernel_rfl) (by kernel_rfl)
        simp [go_sem, d0, hcs, m0]
        exact ⟨Below.refl _ _, rfl⟩
      | 6, _, ho, hf, hg, hfr, hdep =>
        simp only [gTA, gCZ, gCS, gSI] at ho
        subst ho
        have gd : ρ (.tmp 42) = .bool true := hdep 3 42 (by kernel_rfl) (by kernel_rfl)
        refine ⟨fun _ => ?_, fun hw => absurd (show (match ρ (.tmp 42) with | .bool c => c == true | _ => false) = false from hw) (by rw [gd]; decide)⟩
        clear gd
        have c0 := hC.1
        have d0 : ρ (.tmp 44) = .pointer (some ⟨b, off, none⟩) := hdep 5 44 (by kernel_rfl) (by kernel_rfl)
        simp [go_sem, d0, c0]
        exact ⟨Below.refl _ _, rfl⟩
      | 7, _, ho, hf, hg, hfr, hdep =>
        simp only [gTA, gCZ, gCS, gSI] at ho
        subst ho
        have gd : ρ (.tmp 42) = .bool true := hdep 3 42 (by kernel_rfl) (by kernel_rfl)
        refine ⟨fun _ => ?_, fun hw => absurd (show (match ρ (.tmp 42) with | .bool c => c == true | _ => false) = false from hw) (by rw [gd]; decide)⟩
        clear gd
        have ts : ρ (.tmp 1) = .slice (some ⟨b, off, none⟩) len cap := hfr 1 (by kernel_rfl)
        simp [go_sem, ts]
        exact ⟨Below.refl _ _, rfl⟩
      | 8, _, ho, hf, hg, hfr, hdep =>
        simp only [gTA, gCZ, gCS, gSI] at ho
        subst ho
        have gd : ρ (.tmp 42) = .bool true := hdep 3 42 (by kernel_rfl) (by kernel_rfl)
        refine ⟨fun _ => ?_, fun hw => absurd (show (match ρ (.tmp 42) with | .bool c => c == true | _ => false) = false from hw) (by rw [gd]; decide)⟩
        clear gd
        have d0 : ρ (.tmp 46) = .slice (some ⟨b, off, none⟩) len cap := hdep 7 46 (by kernel_rfl) (by kernel_rfl)
        simp [go_sem, d0, hcs, l2]
        exact ⟨Below.refl _ _, rfl⟩
      | 9, _, ho, hf, hg, hfr, hdep =>
        simp only [gTA, gCZ, gCS, gSI] at ho
        subst ho
        have gd : ρ (.tmp 42) = .bool true := hdep 3 42 (by kernel_rfl) (by kernel_rfl)
        refine ⟨fun _ => ?_, fun hw => absurd (show (match ρ (.tmp 42) with | .bool c => c == true | _ => false) = false from hw) (by rw [gd]; decide)⟩
        clear gd
        have c1 := hC.2
        have d0 : ρ (.tmp 47) = .pointer (some ⟨b, off + 1, none⟩) := hdep 8 47 (by kernel_rfl) (by kernel_rfl)
        simp [go_sem, d0, c1]
        exact ⟨Below.refl _ _, rfl⟩
      | 10, _, ho, hf, hg, hfr, hdep =>
        simp only [gTA, gCZ, gCS, gSI] at ho
        subst ho
        have gd : ρ (.tmp 42) = .bool true := hdep 3 42 (by kernel_rfl) (by kernel_rfl)
        refine ⟨fun _ => ?_, fun hw => absurd (show (match ρ (.tmp 42) with | .bool c => c == true | _ => false) = false from hw) (by rw [gd]; decide)⟩
        clear gd
        have d0 : ρ (.tmp 45) = .int .i64 p0 := hdep 6 45 (by kernel_rfl) (by kernel_rfl)
        have d1 : ρ (.tmp 48) = .int .i64 p1 := hdep 9 48 (by kernel_rfl) (by kernel_rfl)
        simp [go_sem, d0, d1, hfs]
        exact ⟨rfl, (woven_any p0 p1 w').mono fun e u h => ⟨_, h.1, by rw [h.2]; exact Below.refl _ _, rfl⟩⟩
      | 11, _, ho, hf, hg, hfr, hdep =>
        simp only [gTA, gCZ, gCS, gSI] at ho
        subst ho
        refine ⟨fun _ => ?_, fun hw => absurd (show true = false from hw) (by decide)⟩
        have d0 : ρ (.tmp 42) = .bool true := hdep 3 42 (by kernel_rfl) (by kernel_rfl)
        have d1 : ρ (.tmp 49) = .bool (wovenB p0 p1) := hdep 10 49 (by kernel_rfl) (by kernel_rfl)
        simp [go_sem, d0, d1]
        exact ⟨Below.refl _ _, rfl⟩
      | 12, _, ho, hf, hg, hfr, hdep =>
        simp only [gTA, gCZ, gCS, gSI] at ho
        subst ho
        refine ⟨fun _ => ?_, fun hw => absurd (show true = false from hw) (by decide)⟩
        have d0 : ρ (.tmp 50) = .bool (wovenB p0 p1) := hdep 11 50 (by kernel_rfl) (by kernel_rfl)
        simp [go_sem, d0]
        exact ⟨Below.refl _ _, rfl⟩
      | n + 13, _, ho, _, _, _, _ => simp at ho
    · intro d i o ρ w' hm ho h0 hf hg hC hcs hfs hfr hdep
      exact absurd hm (by simp)
    · intro V w9 hC9 hS
      have e12 : V 12 = .bool (wovenB p0 p1) := hS 12 (by decide) (by intro h; cases h)
      simp only [puts, e12]
      simp only [Act.put, List.setIfInBounds_toArray, List.set_cons_zero, List.set_cons_succ]
      clear hS e12
      go_wp2
      go_ret
      exact ⟨by simp, hC9.2.2⟩
  · have l2i : ((len : Int) == 2) = false := by simp; omega
    rw [decide_eq_false h1]
    go_enter Try.func71, Try.ntmps71
    go_wp2
    refine wp_region_gen [] (fun d i u z => match i with
        | 0 => z = .slice a len cap
        | 1 => z = .int .i64 (len : Int)
        | 2 => z = .bool false
        | 3 => z = .bool false
        | 4 => z = undef
        | 5 => z = undef
        | 6 => z = undef
        | 7 => z = undef
        | 8 => z = undef
        | 9 => z = undef
        | 10 => z = undef
        | 11 => z = .bool false
        | 12 => z = .bool false
        | _ => True) (fun _ u => Below w.heap.size w u) (by kernel_rfl) (by kernel_rfl) (by kernel_rfl) ?_ ?_ ?_ ?_ ?_ ?_ (by kernel_rfl)
    · intro d i w v w' h hb
      match i, h with
      | 0, h => exact h
      | 1, h => exact h
      | 2, h => exact h
      | 3, h => exact h
      | 4, h => exact h
      | 5, h => exact h
      | 6, h => exact h
      | 7, h => exact h
      | 8, h => exact h
      | 9, h => exact h
      | 10, h => exact h
      | 11, h => exact h
      | 12, h => exact h
      | _ + 13, _ => trivial
    · intro d u u' h hb
      exact h.trans (hb.mono h.size)
    · exact Below.refl _ _
    · intro d i o ρ w' hm ho hf hg hC hcs hfs hfr hdep
      match i, hm, ho, hf, hg, hfr, hdep with
      | 0, _, ho, hf, hg, hfr, hdep =>
        simp only [gTA, gCZ, gSI] at ho
        subst ho
        refine ⟨fun _ => ?_, fun hw => absurd (show true = false from hw) (by decide)⟩
        have ts : ρ (.tmp 1) = .slice a len cap := hfr 1 (by kernel_rfl)
        simp [go_sem, ts]
        exact ⟨Below.refl _ _, rfl⟩
      | 1, _, ho, hf, hg, hfr, hdep =>
        simp only [gTA, gCZ, gCS, gSI] at ho
        subst ho
        refine ⟨fun _ => ?_, fun hw => absurd (show true = false from hw) (by decide)⟩
        have d0 : ρ (.tmp 39) = .slice a len cap := hdep 0 39 (by kernel_rfl) (by kernel_rfl)
        simp [go_sem, d0]
        exact ⟨Below.refl _ _, rfl⟩
      | 2, _, ho, hf, hg, hfr, hdep =>
        simp only [gTA, gCZ, gCS, gSI] at ho
        subst ho
        refine ⟨fun _ => ?_, fun hw => absurd (show true = false from hw) (by decide)⟩
        have d0 : ρ (.tmp 40) = .int .i64 (len : Int) := hdep 1 40 (by kernel_rfl) (by kernel_rfl)
        simp [go_sem, d0, hcs, l2i]
        exact ⟨Below.refl _ _, rfl⟩
      | 3, _, ho, hf, hg, hfr, hdep =>
        simp only [gTA, gCZ, gCS, gSI] at ho
        subst ho
        refine ⟨fun _ => ?_, fun hw => absurd (show true = false from hw) (by decide)⟩
        have d0 : ρ (.tmp 41) = .bool false := hdep 2 41 (by kernel_rfl) (by kernel_rfl)
        simp [go_sem, d0]
        exact ⟨Below.refl _ _, rfl⟩
      | 4, _, ho, hf, hg, hfr, hdep =>
        simp only [gTA, gCZ, gCS, gSI] at ho
        subst ho
        have gd : ρ (.tmp 42) = .bool false := hdep 3 42 (by kernel_rfl) (by kernel_rfl)
        exact ⟨fun hw => absurd (show (match ρ (.tmp 42) with | .bool c => c == true | _ => false) = true from hw) (by rw [gd]; decide), fun _ => rfl⟩
      | 5, _, ho, hf, hg, hfr, hdep =>
        simp only [gTA, gCZ, gCS, gSI] at ho
        subst ho
        have gd : ρ (.tmp 42) = .bool false := hdep 3 42 (by kernel_rfl) (by kernel_rfl)
        exact ⟨fun hw => absurd (show (match ρ (.tmp 42) with | .bool c => c == true | _ => false) = true from hw) (by rw [gd]; decide), fun _ => rfl⟩
      | 6, _, ho, hf, hg, hfr, hdep =>
        simp only [gTA, gCZ, gCS, gSI] at ho
        subst ho
        have gd : ρ (.tmp 42) = .bool false := hdep 3 42 (by kernel_rfl) (by kernel_rfl)
        exact ⟨fun hw => absurd (show (match ρ (.tmp 42) with | .bool c => c == true | _ => false) = true from hw) (by rw [gd]; decide), fun _ => rfl⟩
      | 7, _, ho, hf, hg, hfr, hdep =>
        simp only [gTA, gCZ, gCS, gSI] at ho
        subst ho
        have gd : ρ (.tmp 42) = .bool false := hdep 3 42 (by kernel_rfl) (by kernel_rfl)
        exact ⟨fun hw => absurd (show (match ρ (.tmp 42) with | .bool c => c == true | _ => false) = true from hw) (by rw [gd]; decide), fun _ => rfl⟩
      | 8, _, ho, hf, hg, hfr, hdep =>
        simp only [gTA, gCZ, gCS, gSI] at ho
        subst ho
        have gd : ρ (.tmp 42) = .bool false := hdep 3 42 (by kernel_rfl) (by kernel_rfl)
        exact ⟨fun hw => absurd (show (match ρ (.tmp 42) with | .bool c => c == true | _ => false) = true from hw) (by rw [gd]; decide), fun _ => rfl⟩
      | 9, _, ho, hf, hg, hfr, hdep =>
        simp only [gTA, gCZ, gCS, gSI] at ho
        subst ho
        have gd : ρ (.tmp 42) = .bool false := hdep 3 42 (by kernel_rfl) (by kernel_rfl)
        exact ⟨fun hw => absurd (show (match ρ (.tmp 42) with | .bool c => c == true | _ => false) = true from hw) (by rw [gd]; decide), fun _ => rfl⟩
      | 10, _, ho, hf, hg, hfr, hdep =>
        simp only [gTA, gCZ, gCS, gSI] at ho
        subst ho
        have gd : ρ (.tmp 42) = .bool false := hdep 3 42 (by kernel_rfl) (by kernel_rfl)
        exact ⟨fun hw => absurd (show (match ρ (.tmp 42) with | .bool c => c == true | _ => false) = true from hw) (by rw [gd]; decide), fun _ => rfl⟩
      | 11, _, ho, hf, hg, hfr, hdep =>
        simp only [gTA, gCZ, gCS, gSI] at ho
        subst ho
        refine ⟨fun _ => ?_, fun hw => absurd (show true = false from hw) (by decide)⟩
        have d0 : ρ (.tmp 42) = .bool false := hdep 3 42 (by kernel_rfl) (by kernel_rfl)
        simp [go_sem, d0, hcs]
        exact ⟨Below.refl _ _, rfl⟩
      | 12, _, ho, hf, hg, hfr, hdep =>
        simp only [gTA, gCZ, gCS, gSI] at ho
        subst ho
        refine ⟨fun _ => ?_, fun hw => absurd (show true = false from hw) (by decide)⟩
        have d0 : ρ (.tmp 50) = .bool false := hdep 11 50 (by kernel_rfl) (by kernel_rfl)
        simp [go_sem, d0]
        exact ⟨Below.refl _ _, rfl⟩
      | n + 13, _, ho, _, _, _, _ => simp at ho
    · intro d i o ρ w' hm ho h0 hf hg hC hcs hfs hfr hdep
      exact absurd hm (by simp)
    · intro V w9 hC9 hS
      have e12 : V 12 = .bool false := hS 12 (by decide) (by intro h; cases h)
      simp only [puts, e12]
      simp only [Act.put, List.setIfInBounds_toArray, List.set_cons_zero, List.set_cons_succ]
      clear hS e12
      go_wp2
      go_ret
      exact ⟨rfl, hC9⟩
set_option maxRecDepth 100000 in
set_option maxHeartbeats 1000000 in
theorem right_6 (a : Option Addr) (zs : List Int) (len cap : Nat) (w : World) (hl : zs.length = len) (h : At w a zs) :
    Calls Try.prog 71 #[.int .u8 6, .slice a len cap] w fun e w' => e = .returned (.bool (okS 6 zs)) ∧ Below w.heap.size w w' := by
  have B : Hid (Below w.heap.size w w) := Below.refl _ _
  have e : okS 6 zs = (decide (len = 1) && wB (nth zs 0) 16) := by rw [← hl]; rfl
  rw [e]
  clear e
  by_cases h1 : len = 1
  · have l1 : ((len : Int) == 1) = true := by simp; omega
    rw [decide_eq_true h1]
    rcases h with h0 | ⟨b, off, rfl, hc⟩
    · rw [h0] at hl; simp at hl; omega
    have c0 := hc 0 (by omega)
    rw [Nat.add_zero] at c0
    have l2 : (0 : Int) < (len : Int) := by omega
    clear hc
    generalize nth zs 0 = p0 at *
    go_enter Try.func71, Try.ntmps71
    go_wp2_with (go_at_call 85; (with_reducible refine (within_any _ _ _).mono ?_); rintro e w' ⟨rfl, rfl⟩)
    go_ret
    exact ⟨by simp, B.out⟩
  · have l1 : ((len : Int) == 1) = false := by simp; omega
    rw [decide_eq_false h1]
    go_enter Try.func71, Try.ntmps71
    go_wp2
    go_ret
    exact ⟨rfl, B.out⟩
set_option maxRecDepth 100000 in
set_option maxHeartbeats 1000000 in
theorem right_7 (a : Option Addr) (zs : List Int) (len cap : Nat) (w : World) (hl : zs.length = len) :
    Calls Try.prog 71 #[.int .u8 7, .slice a len cap] w fun e w' => e = .returned (.bool (okS 7 zs)) ∧ Below w.heap.size w w' := by
  have B : Hid (Below w.heap.size w w) := Below.refl _ _
  have e : okS 7 zs = decide (len = 0) := by rw [← hl]; rfl
  rw [e]
  clear e
  by_cases h1 : len = 0
  · have l1 : ((len : Int) == 0) = true := by simp; omega
    rw [decide_eq_true h1]
    go_enter Try.func71, Try.ntmps71
    go_wp2
    go_ret
    exact ⟨by simp, B.out⟩
  · have l1 : ((len : Int) == 0) = false := by simp; omega
    rw [decide_eq_false h1]
    go_enter Try.func71, Try.ntmps71
    go_wp2
    go_ret
    exact ⟨by simp, B.out⟩
set_option maxRecDepth 100000 in
set_option maxHeartbeats 1000000 in
theorem right_8 (a : Option Addr) (zs : List Int) (len cap : Nat) (w : World) (hl : zs.length = len) :
    Calls Try.prog 71 #[.int .u8 8, .slice a len cap] w fun e w' => e = .returned (.bool (okS 8 zs)) ∧ Below w.heap.size w w' := by
  have B : Hid (Below w.heap.size w w) := Below.refl _ _
  have e : okS 8 zs = decide (len = 0) := by rw [← hl]; rfl
  rw [e]
  clear e
  by_cases h1 : len = 0
  · have l1 : ((len : Int) == 0) = true := by simp; omega
    rw [decide_eq_true h1]
    go_enter Try.func71, Try.ntmps71
    go_wp2
    go_ret
    exact ⟨by simp, B.out⟩
  · have l1 : ((len : Int) == 0) = false := by simp; omega
    rw [decide_eq_false h1]
    go_enter Try.func71, Try.ntmps71
    go_wp2
    go_ret
    exact ⟨by simp, B.out⟩
set_option maxRecDepth 100000 in
set_option maxHeartbeats 1000000 in
theorem right_9 (a : Option Addr) (zs : List Int) (len cap : Nat) (w : World) (hl : zs.length = len) (h : At w a zs) :
    Calls Try.prog 71 #[.int .u8 9, .slice a len cap] w fun e w' => e = .returned (.bool (okS 9 zs)) ∧ Below w.heap.size w w' := by
  have B : Hid (Below w.heap.size w w) := Below.refl _ _
  have e : okS 9 zs = (decide (len = 1) && wB (nth zs 0) 16) := by rw [← hl]; rfl
  rw [e]
  clear e
  by_cases h1 : len = 1
  · have l1 : ((len : Int) == 1) = true := by simp; omega
    rw [decide_eq_true h1]
    rcases h with h0 | ⟨b, off, rfl, hc⟩
    · rw [h0] at hl; simp at hl; omega
    have c0 := hc 0 (by omega)
    rw [Nat.add_zero] at c0
    have l2 : (0 : Int) < (len : Int) := by omega
    clear hc
    generalize nth zs 0 = p0 at *
    go_enter Try.func71, Try.ntmps71
    go_wp2_with (go_at_call 85; (with_reducible refine (within_any _ _ _).mono ?_); rintro e w' ⟨rfl, rfl⟩)
    go_ret
    exact ⟨by simp, B.out⟩
  · have l1 : ((len : Int) == 1) = false := by simp; omega
    rw [decide_eq_false h1]
    go_enter Try.func71, Try.ntmps71
    go_wp2
    go_ret
    exact ⟨rfl, B.out⟩
set_option maxRecDepth 100000 in
set_option maxHeartbeats 1000000 in
theorem right_10 (a : Option Addr) (zs : List Int) (len cap : Nat) (w : World) (hl : zs.length = len) :
    Calls Try.prog 71 #[.int .u8 10, .slice a len cap] w fun e w' => e = .returned (.bool (okS 10 zs)) ∧ Below w.heap.size w w' := by
  have B : Hid (Below w.heap.size w w) := Below.refl _ _
  have e : okS 10 zs = decide (len = 2) := by rw [← hl]; rfl
  rw [e]
  clear e
  by_cases h1 : len = 2
  · have l1 : ((len : Int) == 2) = true := by simp; omega
    rw [decide_eq_true h1]
    go_enter Try.func71, Try.ntmps71
    go_wp2
    go_ret
    exact ⟨by simp, B.out⟩
  · have l1 : ((len : Int) == 2) = false := by simp; omega
    rw [decide_eq_false h1]
    go_enter Try.func71, Try.ntmps71
    go_wp2
    go_ret
    exact ⟨by simp, B.out⟩
set_option maxRecDepth 100000 in
set_option maxHeartbeats 1000000 in
theorem right_11 (a : Option Addr) (zs : List Int) (len cap : Nat) (w : World) (hl : zs.length = len) (h : At w a zs) :
    Calls Try.prog 71 #[.int .u8 11, .slice a len cap] w fun e w' => e = .returned (.bool (okS 11 zs)) ∧ Below w.heap.size w w' := by
  have B : Hid (Below w.heap.size w w) := Below.refl _ _
  have e : okS 11 zs = (decide (len = 1) && wB (nth zs 0) 64) := by rw [← hl]; rfl
  rw [e]
  clear e
  by_cases h1 : len = 1
  · have l1 : ((len : Int) == 1) = true := by simp; omega
    rw [decide_eq_true h1]
    rcases h with h0 | ⟨b, off, rfl, hc⟩
    · rw [h0] at hl; simp at hl; omega
    have c0 := hc 0 (by omega)
    rw [Nat.add_zero] at c0
    have l2 : (0 : Int) < (len : Int) := by omega
    clear hc
    generalize nth zs 0 = p0 at *
    go_enter Try.func71, Try.ntmps71
    go_wp2_with (go_at_call 85; (with_reducible refine (within_any _ _ _).mono ?_); rintro e w' ⟨rfl, rfl⟩)
    go_ret
    exact ⟨by simp, B.out⟩
  · have l1 : ((len : Int) == 1) = false := by simp; omega
    rw [decide_eq_false h1]
    go_enter Try.func71, Try.ntmps71
    go_wp2
    go_ret
    exact ⟨rfl, B.out⟩
/-- One number laid for a call; a new row. -/
def Pt (u : World) (x : Int) (v : Value) : Prop := ∃ g, v = .slice (some ⟨g, 0, none⟩) 1 1 ∧ At u (some ⟨g, 0, none⟩) [x]
def Mk (B : Nat) (u : World) (zs : List Int) (v : Value) : Prop := ∃ a c, v = .slice a zs.length c ∧ CapR B u a c zs
theorem Pt.later {u u' : World} {x : Int} {v : Value} (h : Pt u x v) (hb : Below u.heap.size u u') : Pt u' x v := by
  obtain ⟨g, e, h⟩ := h
  exact ⟨g, e, h.below hb⟩
theorem Mk.later {B : Nat} {u u' : World} {zs : List Int} {v : Value} (h : Mk B u zs v) (hb : Below u.heap.size u u') : Mk B u' zs v := by
  obtain ⟨a, c, e, h⟩ := h
  exact ⟨a, c, e, h.later hb⟩
theorem at1n (V : World) (x : Int) (t : TypeId) : At (V.alloc (.cells #[.int .i64 x] t)) (some ⟨V.heap.size, 0, none⟩) [x] := by
  refine Or.inr ⟨_, _, rfl, fun k hk => ?_⟩
  match k, hk with
  | 0, _ => exact by simp [nth]
theorem pt_new (V : World) (x : Int) (t : TypeId) : Pt (V.alloc (.cells #[.int .i64 x] t)) x (.slice (some ⟨V.heap.size, 0, none⟩) 1 1) := ⟨_, rfl, at1n V x t⟩
theorem said_of {f : FuncId} {args : Array Value} {w : World} {zs : List Int} {B : Nat} (h : Calls Try.prog f args w (RowEnd w zs)) (hB : B ≤ w.heap.size) : Calls Try.prog f args w (fun e w' => ∃ v, e = .returned v ∧ Below w.heap.size w w' ∧ Mk B w' zs v) :=
  h.mono fun _ _ ⟨a, c, he, hc, hb⟩ => ⟨_, he, hb, a, c, rfl, hc.mono hB⟩
theorem alike_rep (n x : Int) (w : World) (h : 1 ≤ n ∧ n ≤ 16) : Calls Try.prog 88 #[.int .i64 n, .int .i64 x] w (RowEnd w (rep n x)) := by
  have e : n = ((n.toNat : Nat) : Int) := by omega
  unfold rep
  have := alike_any n.toNat x w (by omega)
  rw [← e] at this
  exact this
/-- Two new rows, the second made behind the first. -/
def TwoEnd (w : World) (P Q : List Int) (e : Ending) (w' : World) : Prop :=
  ∃ a c1 b c2, e = .returned (.tuple #[.slice a P.length c1, .slice b Q.length c2]) ∧ CapR w.heap.size w' a c1 P ∧ CapR w.heap.size w' b c2 Q ∧ (∀ x y, a = some x → b = some y → x.block < y.block) ∧ Below w.heap.size w w'
theorem two_end {w w1 w2 : World} {B : Nat} {P Q : List Int} {a b : Option Addr} {c1 c2 : Nat} (hB : B = w.heap.size) (h1 : CapR B w1 a c1 P) (hb1 : Below B w w1) (h2 : CapR w1.heap.size w2 b c2 Q) (hb2 : Below w1.heap.size w1 w2) :
    CapR w.heap.size w2 a c1 P ∧ CapR w.heap.size w2 b c2 Q ∧ (∀ x y, a = some x → b = some y → x.block < y.block) ∧ Below w.heap.size w w2 := by
  subst hB
  refine ⟨h1.later hb2, h2.mono hb1.size, fun x y hx hy => ?_, hb1.trans (hb2.mono hb1.size)⟩
  have := (h1.lt x hx).2
  have := (h2.lt y hy).1
  omega
theorem ports_one (g : Nat) (x : Int) (w : World) (h : At w (some ⟨g, 0, none⟩) [x]) : Calls Try.prog 87 #[.slice (some ⟨g, 0, none⟩) 1 1] w fun e w' => ∃ a c, e = .returned (.slice a 1 c) ∧ CapR w.heap.size w' a c [x] ∧ Below w.heap.size w w' :=
  ports_any g [x] 1 w (by simp) h
theorem ports1 (x : Int) (V : World) (t : TypeId) : Calls Try.prog 87 #[.slice (some ⟨V.heap.size, 0, none⟩) 1 1] (V.alloc (.cells #[.int .i64 x] t)) fun e w' => ∃ a c, e = .returned (.slice a 1 c) ∧ CapR V.heap.size w' a c [x] ∧ Below V.heap.size V w' :=
  (ports_any V.heap.size [x] 1 _ (by simp) (at1n V x t)).mono fun _ _ ⟨a, c, he, hc, hb⟩ => ⟨a, c, he, hc.mono (by simp), ((Below.refl V.heap.size V).alloc (Nat.le_refl _) _).trans (hb.mono (by simp))⟩
theorem ports2 (x y : Int) (V : World) (t : TypeId) : Calls Try.prog 87 #[.slice (some ⟨V.heap.size, 0, none⟩) 2 2] (V.alloc (.cells #[.int .i64 x, .int .i64 y] t)) fun e w' => ∃ a c, e = .returned (.slice a 2 c) ∧ CapR V.heap.size w' a c [x, y] ∧ Below V.heap.size V w' :=
  (ports_any V.heap.size [x, y] 2 _ (by simp) (at2n rfl)).mono fun _ _ ⟨a, c, he, hc, hb⟩ => ⟨a, c, he, hc.mono (by simp), ((Below.refl V.heap.size V).alloc (Nat.le_refl _) _).trans (hb.mono (by simp))⟩
theorem wrap_id {x : Int} (h1 : -9223372036854775808 ≤ x) (h2 : x ≤ 9223372036854775807) : IntKind.i64.wrap x = x := by
  rw [IntKind.wrap_i64]
  omega
set_option maxRecDepth 100000 in
set_option maxHeartbeats 2000000 in
theorem rates_1 (a : Option Addr) (zs : List Int) (len cap : Nat) (w : World) :
    Calls Try.prog 72 #[.int .u8 1, .slice a len cap] w (TwoEnd w (insS 1 zs) (outsS 1 zs)) := by
  show Calls _ _ _ _ (TwoEnd w [1] [1])
  go_enter Try.func72, Try.ntmps72
  go_wp2_with (first
    | (go_at_call 87; (with_reducible refine (ports1 _ w1 _).mono ?_); rintro e w2 ⟨a2, n2, rfl, m2, b2⟩)
    | (go_at_call 87; (with_reducible refine (ports1 _ _ _).mono ?_); rintro e w1 ⟨a1, n1, rfl, m1, b1⟩))
  go_ret2
  exact ⟨a1, n1, a2, n2, rfl, two_end rfl m1 b1 m2 b2⟩
set_option maxRecDepth 100000 in
set_option maxHeartbeats 2000000 in
theorem rates_7 (a : Option Addr) (zs : List Int) (len cap : Nat) (w : World) :
    Calls Try.prog 72 #[.int .u8 7, .slice a len cap] w (TwoEnd w (insS 7 zs) (outsS 7 zs)) := by
  show Calls _ _ _ _ (TwoEnd w [1, 1] [1])
  go_enter Try.func72, Try.ntmps72
  go_wp2_with (first
    | (go_at_call 87; (with_reducible refine (ports1 _ w1 _).mono ?_); rintro e w2 ⟨a2, n2, rfl, m2, b2⟩)
    | (go_at_call 87; (with_reducible refine (ports2 _ _ _ _).mono ?_); rintro e w1 ⟨a1, n1, rfl, m1, b1⟩))
  go_ret2
  exact ⟨a1, n1, a2, n2, rfl, two_end rfl m1 b1 m2 b2⟩
set_option maxRecDepth 100000 in
set_option maxHeartbeats 2000000 in
theorem rates_8 (a : Option Addr) (zs : List Int) (len cap : Nat) (w : World) :
    Calls Try.prog 72 #[.int .u8 8, .slice a len cap] w (TwoEnd w (insS 8 zs) (outsS 8 zs)) := by
  show Calls _ _ _ _ (TwoEnd w [1] [1])
  go_enter Try.func72, Try.ntmps72
  go_wp2_with (first
    | (go_at_call 87; (with_reducible refine (ports1 _ w1 _).mono ?_); rintro e w2 ⟨a2, n2, rfl, m2, b2⟩)
    | (go_at_call 87; (with_reducible refine (ports1 _ _ _).mono ?_); rintro e w1 ⟨a1, n1, rfl, m1, b1⟩))
  go_ret2
  exact ⟨a1, n1, a2, n2, rfl, two_end rfl m1 b1 m2 b2⟩
set_option maxRecDepth 100000 in
set_option maxHeartbeats 2000000 in
theorem rates_10 (a : Option Addr) (zs : List Int) (len cap : Nat) (w : World) :
    Calls Try.prog 72 #[.int .u8 10, .slice a len cap] w (TwoEnd w (insS 10 zs) (outsS 10 zs)) := by
  show Calls _ _ _ _ (TwoEnd w [] [1])
  go_enter Try.func72, Try.ntmps72
  go_wp2_with (first
    | (go_at_call 87; (with_reducible refine (ports1 _ _ _).mono ?_); rintro e w1 ⟨a1, n1, rfl, m1, b1⟩)
    | (go_at_call 87; (with_reducible refine (ports_none _).mono ?_); rintro e w3 ⟨rfl, rfl⟩))
  go_ret2
  exact ⟨none, 0, a1, n1, rfl, World.ownsRow_nil _ _ _ _, m1, (fun x y hx => by cases hx), b1⟩
set_option maxRecDepth 100000 in
set_option maxHeartbeats 2000000 in
theorem rates_3 (a : Option Addr) (zs : List Int) (len cap : Nat) (w : World) (hl : zs.length = len) (h1 : len = 1) (h : At w a zs) :
    Calls Try.prog 72 #[.int .u8 3, .slice a len cap] w (TwoEnd w (insS 3 zs) (outsS 3 zs)) := by
  show Calls _ _ _ _ (TwoEnd w [nth zs 0] [1])
  rcases h with h0 | ⟨b, off, rfl, hc⟩
  · rw [h0] at hl; simp at hl; omega
  have c0 := hc 0 (by omega)
  rw [Nat.add_zero] at c0
  have m0 : 0 < len := by omega
  have l0 : (0 : Int) < (len : Int) := by omega
  clear hc
  generalize nth zs 0 = p0 at *
  go_enter Try.func72, Try.ntmps72
  go_wp2_with (first
    | (go_at_call 87; (with_reducible refine (ports1 _ w1 _).mono ?_); rintro e w2 ⟨a2, n2, rfl, m2, b2⟩)
    | (go_at_call 87; (with_reducible refine (ports1 _ _ _).mono ?_); rintro e w1 ⟨a1, n1, rfl, m1, b1⟩))
  go_ret2
  exact ⟨a1, n1, a2, n2, rfl, two_end rfl m1 b1 m2 b2⟩
set_option maxRecDepth 100000 in
set_option maxHeartbeats 2000000 in
theorem rates_11 (a : Option Addr) (zs : List Int) (len cap : Nat) (w : World) (hl : zs.length = len) (h1 : len = 1) (h : At w a zs) :
    Calls Try.prog 72 #[.int .u8 11, .slice a len cap] w (TwoEnd w (insS 11 zs) (outsS 11 zs)) := by
  show Calls _ _ _ _ (TwoEnd w [nth zs 0] [])
  rcases h with h0 | ⟨b, off, rfl, hc⟩
  · rw [h0] at hl; simp at hl; omega
  have c0 := hc 0 (by omega)
  rw [Nat.add_zero] at c0
  have m0 : 0 < len := by omega
  have l0 : (0 : Int) < (len : Int) := by omega
  clear hc
  generalize nth zs 0 = p0 at *
  go_enter Try.func72, Try.ntmps72
  go_wp2_with (first
    | (go_at_call 87; (with_reducible refine (ports_none _).mono ?_); rintro e w3 ⟨rfl, rfl⟩)
    | (go_at_call 87; (with_reducible refine (ports1 _ _ _).mono ?_); rintro e w1 ⟨a1, n1, rfl, m1, b1⟩))
  go_ret2
  exact ⟨a1, n1, none, 0, rfl, m1, World.ownsRow_nil _ _ _ _, (fun x y _ hy => by cases hy), b1⟩
set_option maxRecDepth 100000 in
set_option maxHeartbeats 2000000 in
theorem rates_6 (a : Option Addr) (zs : List Int) (len cap : Nat) (w : World) (hl : zs.length = len) (h1 : len = 1) (h : At w a zs) (hw : 1 ≤ nth zs 0 ∧ nth zs 0 ≤ 16) :
    Calls Try.prog 72 #[.int .u8 6, .slice a len cap] w (TwoEnd w (insS 6 zs) (outsS 6 zs)) := by
  show Calls _ _ _ _ (TwoEnd w (rep (nth zs 0) 1) [1])
  rcases h with h0 | ⟨b, off, rfl, hc⟩
  · rw [h0] at hl; simp at hl; omega
  have c0 := hc 0 (by omega)
  rw [Nat.add_zero] at c0
  have m0 : 0 < len := by omega
  have l0 : (0 : Int) < (len : Int) := by omega
  clear hc
  generalize nth zs 0 = p0 at *
  go_enter Try.func72, Try.ntmps72
  go_wp2_with (first
    | (go_at_call 87; (with_reducible refine (ports1 _ w1 _).mono ?_); rintro e w2 ⟨a2, n2, rfl, m2, b2⟩)
    | (go_at_call 88; (with_reducible refine (alike_rep _ _ _ hw).mono ?_); rintro e w1 ⟨a1, n1, rfl, m1, b1⟩))
  go_ret2
  exact ⟨a1, n1, a2, n2, rfl, two_end rfl m1 b1 m2 b2⟩
set_option maxRecDepth 100000 in
set_option maxHeartbeats 2000000 in
theorem rates_2 (a : Option Addr) (zs : List Int) (len cap : Nat) (w : World) (hl : zs.length = len) (h1 : len = 1) (h : At w a zs) :
    Calls Try.prog 72 #[.int .u8 2, .slice a len cap] w (TwoEnd w (insS 2 zs) (outsS 2 zs)) := by
  show Calls _ _ _ _ (TwoEnd w [1] [nth zs 0])
  rcases h with h0 | ⟨b, off, rfl, hc⟩
  · rw [h0] at hl; simp at hl; omega
  have c0 := hc 0 (by omega)
  rw [Nat.add_zero] at c0
  have m0 : 0 < len := by omega
  have l0 : (0 : Int) < (len : Int) := by omega
  clear hc
  generalize nth zs 0 = p0 at *
  go_enter Try.func72, Try.ntmps72
  go_wp2
  refine wp_region_said 6 (fun i u v => match i with
      | 0 => Pt u 1 v
      | 1 => Mk w.heap.size u [1] v
      | 2 => v = .slice (some ⟨b, off, none⟩) len cap
      | 3 => v = .pointer (some ⟨b, off, none⟩)
      | 4 => v = .int .i64 p0
      | 5 => Pt u p0 v
      | _ => True) (by kernel_rfl) (by kernel_rfl) (by kernel_rfl) (by kernel_rfl) ?_ ?_ ?_
  · intro i w v w' h hb
    match i, h with
    | 0, h => exact Pt.later h hb
    | 1, h => exact Mk.later h hb
    | 2, h => exact h
    | 3, h => exact h
    | 4, h => exact h
    | 5, h => exact Pt.later h hb
    | _ + 6, _ => trivial
  · intro i o ρ w' hi ho hb hc hf hfr hdep
    have k0 := cell_keep6 hb c0
    match i, hi with
    | 0, _ =>
      simp only [gTA, gCZ, gSI] at ho
      subst ho
      simp [go_sem, hc]
      exact ⟨(Below.refl _ _).alloc (Nat.le_refl _) _, pt_new _ _ _⟩
    | 1, _ =>
      simp only [gTA, gCZ, gCS, gSI] at ho
      subst ho
      obtain ⟨g, ts, hat⟩ : Pt w' 1 (ρ (.tmp 9)) := hdep 0 9 (by kernel_rfl) (by kernel_rfl)
      simp [go_sem, ts, hf]
      exact ⟨rfl, said_of (ports_any g [1] 1 w' (by simp) hat) hb.size⟩
    | 2, _ =>
      simp only [gTA, gCZ, gCS, gSI] at ho
      subst ho
      have ts : ρ (.tmp 1) = .slice (some ⟨b, off, none⟩) len cap := hfr 1 (by kernel_rfl)
      simp [go_sem, ts]
      exact ⟨Below.refl _ _, rfl⟩
    | 3, _ =>
      simp only [gTA, gCZ, gCS, gSI] at ho
      subst ho
      have ts : ρ (.tmp 11) = .slice (some ⟨b, off, none⟩) len cap := hdep 2 11 (by kernel_rfl) (by kernel_rfl)
      simp [go_sem, ts, hc, m0]
      exact ⟨Below.refl _ _, rfl⟩
    | 4, _ =>
      simp only [gTA, gCZ, gCS, gSI] at ho
      subst ho
      have ts : ρ (.tmp 12) = .pointer (some ⟨b, off, none⟩) := hdep 3 12 (by kernel_rfl) (by kernel_rfl)
      simp [go_sem, ts, k0]
      exact ⟨Below.refl _ _, rfl⟩
    | 5, _ =>
      simp only [gTA, gCZ, gCS, gSI] at ho
      subst ho
      have ts : ρ (.tmp 13) = .int .i64 p0 := hdep 4 13 (by kernel_rfl) (by kernel_rfl)
      simp [go_sem, ts]
      exact ⟨(Below.refl _ _).alloc (Nat.le_refl _) _, pt_new _ _ _⟩
  · intro V w9 q9 hS
    obtain ⟨g0, e0, P0⟩ : Pt w9 1 (V 0) := hS 0 (by decide)
    obtain ⟨a1, n1, e1, M1⟩ : Mk w.heap.size w9 [1] (V 1) := hS 1 (by decide)
    have e2 : V 2 = .slice (some ⟨b, off, none⟩) len cap := hS 2 (by decide)
    have e3 : V 3 = .pointer (some ⟨b, off, none⟩) := hS 3 (by decide)
    have e4 : V 4 = .int .i64 p0 := hS 4 (by decide)
    obtain ⟨g5, e5, P5⟩ : Pt w9 p0 (V 5) := hS 5 (by decide)
    simp only [List.drop_succ_cons, List.drop_zero, List.take_succ_cons, List.take_zero, puts, e0, e1, e2, e3, e4, e5]
    clear hS e0 e1 e2 e3 e4 e5 V
    go_wp2_with (go_at_call 87; (with_reducible refine (ports_one g5 (p0) w9 P5).mono ?_); rintro e w2 ⟨a2, n2, rfl, m2, b2⟩)
    go_ret2
    exact ⟨a1, n1, a2, n2, rfl, two_end rfl M1 q9 m2 b2⟩
set_option maxRecDepth 100000 in
set_option maxHeartbeats 2000000 in
theorem rates_9 (a : Option Addr) (zs : List Int) (len cap : Nat) (w : World) (hl : zs.length = len) (h1 : len = 1) (h : At w a zs) (hw : 1 ≤ nth zs 0 ∧ nth zs 0 ≤ 16) :
    Calls Try.prog 72 #[.int .u8 9, .slice a len cap] w (TwoEnd w (insS 9 zs) (outsS 9 zs)) := by
  show Calls _ _ _ _ (TwoEnd w [1] (rep (nth zs 0) 1))
  rcases h with h0 | ⟨b, off, rfl, hc⟩
  · rw [h0] at hl; simp at hl; omega
  have c0 := hc 0 (by omega)
  rw [Nat.add_zero] at c0
  have m0 : 0 < len := by omega
  have l0 : (0 : Int) < (len : Int) := by omega
  clear hc
  generalize nth zs 0 = p0 at *
  go_enter Try.func72, Try.ntmps72
  go_wp2
  refine wp_region_said 5 (fun i u v => match i with
      | 0 => Pt u 1 v
      | 1 => Mk w.heap.size u [1] v
      | 2 => v = .slice (some ⟨b, off, none⟩) len cap
      | 3 => v = .pointer (some ⟨b, off, none⟩)
      | 4 => v = .int .i64 p0
      | _ => True) (by kernel_rfl) (by kernel_rfl) (by kernel_rfl) (by kernel_rfl) ?_ ?_ ?_
  · intro i w v w' h hb
    match i, h with
    | 0, h => exact Pt.later h hb
    | 1, h => exact Mk.later h hb
    | 2, h => exact h
    | 3, h => exact h
    | 4, h => exact h
    | _ + 5, _ => trivial
  · intro i o ρ w' hi ho hb hc hf hfr hdep
    have k0 := cell_keep6 hb c0
    match i, hi with
    | 0, _ =>
      simp only [gTA, gCZ, gSI] at ho
      subst ho
      simp [go_sem, hc]
      exact ⟨(Below.refl _ _).alloc (Nat.le_refl _) _, pt_new _ _ _⟩
    | 1, _ =>
      simp only [gTA, gCZ, gCS, gSI] at ho
      subst ho
      obtain ⟨g, ts, hat⟩ : Pt w' 1 (ρ (.tmp 77)) := hdep 0 77 (by kernel_rfl) (by kernel_rfl)
      simp [go_sem, ts, hf]
      exact ⟨rfl, said_of (ports_any g [1] 1 w' (by simp) hat) hb.size⟩
    | 2, _ =>
      simp only [gTA, gCZ, gCS, gSI] at ho
      subst ho
      have ts : ρ (.tmp 1) = .slice (some ⟨b, off, none⟩) len cap := hfr 1 (by kernel_rfl)
      simp [go_sem, ts]
      exact ⟨Below.refl _ _, rfl⟩
    | 3, _ =>
      simp only [gTA, gCZ, gCS, gSI] at ho
      subst ho
      have ts : ρ (.tmp 79) = .slice (some ⟨b, off, none⟩) len cap := hdep 2 79 (by kernel_rfl) (by kernel_rfl)
      simp [go_sem, ts, hc, m0]
      exact ⟨Below.refl _ _, rfl⟩
    | 4, _ =>
      simp only [gTA, gCZ, gCS, gSI] at ho
      subst ho
      have ts : ρ (.tmp 80) = .pointer (some ⟨b, off, none⟩) := hdep 3 80 (by kernel_rfl) (by kernel_rfl)
      simp [go_sem, ts, k0]
      exact ⟨Below.refl _ _, rfl⟩
  · intro V w9 q9 hS
    obtain ⟨g0, e0, P0⟩ : Pt w9 1 (V 0) := hS 0 (by decide)
    obtain ⟨a1, n1, e1, M1⟩ : Mk w.heap.size w9 [1] (V 1) := hS 1 (by decide)
    have e2 : V 2 = .slice (some ⟨b, off, none⟩) len cap := hS 2 (by decide)
    have e3 : V 3 = .pointer (some ⟨b, off, none⟩) := hS 3 (by decide)
    have e4 : V 4 = .int .i64 p0 := hS 4 (by decide)
    simp only [List.drop_succ_cons, List.drop_zero, List.take_succ_cons, List.take_zero, puts, e0, e1, e2, e3, e4]
    clear hS e0 e1 e2 e3 e4 V
    go_wp2_with (go_at_call 88; (with_reducible refine (alike_rep p0 1 w9 hw).mono ?_); rintro e w2 ⟨a2, n2, rfl, m2, b2⟩)
    go_ret2
    exact ⟨a1, n1, a2, n2, rfl, two_end rfl M1 q9 m2 b2⟩
set_option maxRecDepth 100000 in
set_option maxHeartbeats 2000000 in
theorem rates_4 (a : Option Addr) (zs : List Int) (len cap : Nat) (w : World) (hl : zs.length = len) (h1 : len = 2) (h : At w a zs) (hw : (1 ≤ nth zs 0 ∧ nth zs 0 ≤ 16) ∧ (1 ≤ nth zs 1 ∧ nth zs 1 ≤ 64)) :
    Calls Try.prog 72 #[.int .u8 4, .slice a len cap] w (TwoEnd w (insS 4 zs) (outsS 4 zs)) := by
  show Calls _ _ _ _ (TwoEnd w (rep (nth zs 0) (nth zs 1)) [nth zs 0 * nth zs 1])
  rcases h with h0 | ⟨b, off, rfl, hc⟩
  · rw [h0] at hl; simp at hl; omega
  have c0 := hc 0 (by omega)
  rw [Nat.add_zero] at c0
  have m0 : 0 < len := by omega
  have l0 : (0 : Int) < (len : Int) := by omega
  have c1 := hc 1 (by omega)
  have l2 : (1 : Int) < (len : Int) := by omega
  clear hc
  generalize nth zs 0 = p0 at *
  generalize nth zs 1 = p1 at *
  have hmb := mul_bound hw.1 hw.2
  have hmul : IntKind.i64.wrap (p0 * p1) = p0 * p1 := wrap_id (by omega) (by omega)
  go_enter Try.func72, Try.ntmps72
  go_wp2
  refine wp_region_said 15 (fun i u v => match i with
      | 0 => v = .slice (some ⟨b, off, none⟩) len cap
      | 1 => v = .pointer (some ⟨b, off, none⟩)
      | 2 => v = .int .i64 p0
      | 3 => v = .slice (some ⟨b, off, none⟩) len cap
      | 4 => v = .pointer (some ⟨b, off + 1, none⟩)
      | 5 => v = .int .i64 p1
      | 6 => Mk w.heap.size u (rep p0 p1) v
      | 7 => v = .slice (some ⟨b, off, none⟩) len cap
      | 8 => v = .pointer (some ⟨b, off, none⟩)
      | 9 => v = .int .i64 p0
      | 10 => v = .slice (some ⟨b, off, none⟩) len cap
      | 11 => v = .pointer (some ⟨b, off + 1, none⟩)
      | 12 => v = .int .i64 p1
      | 13 => v = .int .i64 (p0 * p1)
      | 14 => Pt u (p0 * p1) v
      | _ => True) (by kernel_rfl) (by kernel_rfl) (by kernel_rfl) (by kernel_rfl) ?_ ?_ ?_
  · intro i w v w' h hb
    match i, h with
    | 0, h => exact h
    | 1, h => exact h
    | 2, h => exact h
    | 3, h => exact h
    | 4, h => exact h
    | 5, h => exact h
    | 6, h => exact Mk.later h hb
    | 7, h => exact h
    | 8, h => exact h
    | 9, h => exact h
    | 10, h => exact h
    | 11, h => exact h
    | 12, h => exact h
    | 13, h => exact h
    | 14, h => exact Pt.later h hb
    | _ + 15, _ => trivial
  · intro i o ρ w' hi ho hb hc hf hfr hdep
    have k0 := cell_keep6 hb c0
    have k1 := cell_keep6 hb c1
    match i, hi with
    | 0, _ =>
      simp only [gTA, gCZ, gSI] at ho
      subst ho
      have ts : ρ (.tmp 1) = .slice (some ⟨b, off, none⟩) len cap := hfr 1 (by kernel_rfl)
      simp [go_sem, ts]
      exact ⟨Below.refl _ _, rfl⟩
    | 1, _ =>
      simp only [gTA, gCZ, gCS, gSI] at ho
      subst ho
      have ts : ρ (.tmp 27) = .slice (some ⟨b, off, none⟩) len cap := hdep 0 27 (by kernel_rfl) (by kernel_rfl)
      simp [go_sem, ts, hc, m0]
      exact ⟨Below.refl _ _, rfl⟩
    | 2, _ =>
      simp only [gTA, gCZ, gCS, gSI] at ho
      subst ho
      have ts : ρ (.tmp 28) = .pointer (some ⟨b, off, none⟩) := hdep 1 28 (by kernel_rfl) (by kernel_rfl)
      simp [go_sem, ts, k0]
      exact ⟨Below.refl _ _, rfl⟩
    | 3, _ =>
      simp only [gTA, gCZ, gCS, gSI] at ho
      subst ho
      have ts : ρ (.tmp 1) = .slice (some ⟨b, off, none⟩) len cap := hfr 1 (by kernel_rfl)
      simp [go_sem, ts]
      exact ⟨Below.refl _ _, rfl⟩
    | 4, _ =>
      simp only [gTA, gCZ, gCS, gSI] at ho
      subst ho
      have ts : ρ (.tmp 30) = .slice (some ⟨b, off, none⟩) len cap := hdep 3 30 (by kernel_rfl) (by kernel_rfl)
      simp [go_sem, ts, hc, l2]
      exact ⟨Below.refl _ _, rfl⟩
    | 5, _ =>
      simp only [gTA, gCZ, gCS, gSI] at ho
      subst ho
      have ts : ρ (.tmp 31) = .pointer (some ⟨b, off + 1, none⟩) := hdep 4 31 (by kernel_rfl) (by kernel_rfl)
      simp [go_sem, ts, k1]
      exact ⟨Below.refl _ _, rfl⟩
    | 6, _ =>
      simp only [gTA, gCZ, gCS, gSI] at ho
      subst ho
      have t0 : ρ (.tmp 29) = .int .i64 p0 := hdep 2 29 (by kernel_rfl) (by kernel_rfl)
      have t1 : ρ (.tmp 32) = .int .i64 p1 := hdep 5 32 (by kernel_rfl) (by kernel_rfl)
      simp [go_sem, t0, t1, hf]
      exact ⟨rfl, said_of (alike_rep p0 p1 w' hw.1) hb.size⟩
    | 7, _ =>
      simp only [gTA, gCZ, gCS, gSI] at ho
      subst ho
      have ts : ρ (.tmp 1) = .slice (some ⟨b, off, none⟩) len cap := hfr 1 (by kernel_rfl)
      simp [go_sem, ts]
      exact ⟨Below.refl _ _, rfl⟩
    | 8, _ =>
      simp only [gTA, gCZ, gCS, gSI] at ho
      subst ho
      have ts : ρ (.tmp 34) = .slice (some ⟨b, off, none⟩) len cap := hdep 7 34 (by kernel_rfl) (by kernel_rfl)
      simp [go_sem, ts, hc, m0]
      exact ⟨Below.refl _ _, rfl⟩
    | 9, _ =>
      simp only [gTA, gCZ, gCS, gSI] at ho
      subst ho
      have ts : ρ (.tmp 35) = .pointer (some ⟨b, off, none⟩) := hdep 8 35 (by kernel_rfl) (by kernel_rfl)
      simp [go_sem, ts, k0]
      exact ⟨Below.refl _ _, rfl⟩
    | 10, _ =>
      simp only [gTA, gCZ, gCS, gSI] at ho
      subst ho
      have ts : ρ (.tmp 1) = .slice (some ⟨b, off, none⟩) len cap := hfr 1 (by kernel_rfl)
      simp [go_sem, ts]
      exact ⟨Below.refl _ _, rfl⟩
    | 11, _ =>
      simp only [gTA, gCZ, gCS, gSI] at ho
      subst ho
      have ts : ρ (.tmp 37) = .slice (some ⟨b, off, none⟩) len cap := hdep 10 37 (by kernel_rfl) (by kernel_rfl)
      simp [go_sem, ts, hc, l2]
      exact ⟨Below.refl _ _, rfl⟩
    | 12, _ =>
      simp only [gTA, gCZ, gCS, gSI] at ho
      subst ho
      have ts : ρ (.tmp 38) = .pointer (some ⟨b, off + 1, none⟩) := hdep 11 38 (by kernel_rfl) (by kernel_rfl)
      simp [go_sem, ts, k1]
      exact ⟨Below.refl _ _, rfl⟩
    | 13, _ =>
      simp only [gTA, gCZ, gCS, gSI] at ho
      subst ho
      have t1 : ρ (.tmp 36) = .int .i64 p0 := hdep 9 36 (by kernel_rfl) (by kernel_rfl)
      have t2 : ρ (.tmp 39) = .int .i64 p1 := hdep 12 39 (by kernel_rfl) (by kernel_rfl)
      simp [go_sem, t1, t2]
      exact ⟨Below.refl _ _, by rw [hmul]⟩
    | 14, _ =>
      simp only [gTA, gCZ, gCS, gSI] at ho
      subst ho
      have ts : ρ (.tmp 40) = .int .i64 (p0 * p1) := hdep 13 40 (by kernel_rfl) (by kernel_rfl)
      simp [go_sem, ts]
      exact ⟨(Below.refl _ _).alloc (Nat.le_refl _) _, pt_new _ _ _⟩
  · intro V w9 q9 hS
    have e0 : V 0 = .slice (some ⟨b, off, none⟩) len cap := hS 0 (by decide)
    have e1 : V 1 = .pointer (some ⟨b, off, none⟩) := hS 1 (by decide)
    have e2 : V 2 = .int .i64 p0 := hS 2 (by decide)
    have e3 : V 3 = .slice (some ⟨b, off, none⟩) len cap := hS 3 (by decide)
    have e4 : V 4 = .pointer (some ⟨b, off + 1, none⟩) := hS 4 (by decide)
    have e5 : V 5 = .int .i64 p1 := hS 5 (by decide)
    obtain ⟨a6, n6, e6, M6⟩ : Mk w.heap.size w9 (rep p0 p1) (V 6) := hS 6 (by decide)
    have e7 : V 7 = .slice (some ⟨b, off, none⟩) len cap := hS 7 (by decide)
    have e8 : V 8 = .pointer (some ⟨b, off, none⟩) := hS 8 (by decide)
    have e9 : V 9 = .int .i64 p0 := hS 9 (by decide)
    have e10 : V 10 = .slice (some ⟨b, off, none⟩) len cap := hS 10 (by decide)
    have e11 : V 11 = .pointer (some ⟨b, off + 1, none⟩) := hS 11 (by decide)
    have e12 : V 12 = .int .i64 p1 := hS 12 (by decide)
    have e13 : V 13 = .int .i64 (p0 * p1) := hS 13 (by decide)
    obtain ⟨g14, e14, P14⟩ : Pt w9 (p0 * p1) (V 14) := hS 14 (by decide)
    simp only [List.drop_succ_cons, List.drop_zero, List.take_succ_cons, List.take_zero, puts, e0, e1, e2, e3, e4, e5, e6, e7, e8, e9, e10, e11, e12, e13, e14]
    clear hS e0 e1 e2 e3 e4 e5 e6 e7 e8 e9 e10 e11 e12 e13 e14 V
    go_wp2_with (go_at_call 87; (with_reducible refine (ports_one g14 (p0 * p1) w9 P14).mono ?_); rintro e w2 ⟨a2, n2, rfl, m2, b2⟩)
    go_ret2
    exact ⟨a6, n6, a2, n2, rfl, two_end rfl M6 q9 m2 b2⟩
set_option maxRecDepth 100000 in
set_option maxHeartbeats 2000000 in
theorem rates_5 (a : Option Addr) (zs : List Int) (len cap : Nat) (w : World) (hl : zs.length = len) (h1 : len = 2) (h : At w a zs) (hw : (1 ≤ nth zs 0 ∧ nth zs 0 ≤ 16) ∧ (1 ≤ nth zs 1 ∧ nth zs 1 ≤ 64)) :
    Calls Try.prog 72 #[.int .u8 5, .slice a len cap] w (TwoEnd w (insS 5 zs) (outsS 5 zs)) := by
  show Calls _ _ _ _ (TwoEnd w [nth zs 0 * nth zs 1] (rep (nth zs 0) (nth zs 1)))
  rcases h with h0 | ⟨b, off, rfl, hc⟩
  · rw [h0] at hl; simp at hl; omega
  have c0 := hc 0 (by omega)
  rw [Nat.add_zero] at c0
  have m0 : 0 < len := by omega
  have l0 : (0 : Int) < (len : Int) := by omega
  have c1 := hc 1 (by omega)
  have l2 : (1 : Int) < (len : Int) := by omega
  clear hc
  generalize nth zs 0 = p0 at *
  generalize nth zs 1 = p1 at *
  have hmb := mul_bound hw.1 hw.2
  have hmul : IntKind.i64.wrap (p0 * p1) = p0 * p1 := wrap_id (by omega) (by omega)
  go_enter Try.func72, Try.ntmps72
  go_wp2
  refine wp_region_said 15 (fun i u v => match i with
      | 0 => v = .slice (some ⟨b, off, none⟩) len cap
      | 1 => v = .pointer (some ⟨b, off, none⟩)
      | 2 => v = .int .i64 p0
      | 3 => v = .slice (some ⟨b, off, none⟩) len cap
      | 4 => v = .pointer (some ⟨b, off + 1, none⟩)
      | 5 => v = .int .i64 p1
      | 6 => v = .int .i64 (p0 * p1)
      | 7 => Pt u (p0 * p1) v
      | 8 => Mk w.heap.size u [(p0 * p1)] v
      | 9 => v = .slice (some ⟨b, off, none⟩) len cap
      | 10 => v = .pointer (some ⟨b, off, none⟩)
      | 11 => v = .int .i64 p0
      | 12 => v = .slice (some ⟨b, off, none⟩) len cap
      | 13 => v = .pointer (some ⟨b, off + 1, none⟩)
      | 14 => v = .int .i64 p1
      | _ => True) (by kernel_rfl) (by kernel_rfl) (by kernel_rfl) (by kernel_rfl) ?_ ?_ ?_
  · intro i w v w' h hb
    match i, h with
    | 0, h => exact h
    | 1, h => exact h
    | 2, h => exact h
    | 3, h => exact h
    | 4, h => exact h
    | 5, h => exact h
    | 6, h => exact h
    | 7, h => exact Pt.later h hb
    | 8, h => exact Mk.later h hb
    | 9, h => exact h
    | 10, h => exact h
    | 11, h => exact h
    | 12, h => exact h
    | 13, h => exact h
    | 14, h => exact h
    | _ + 15, _ => trivial
  · intro i o ρ w' hi ho hb hc hf hfr hdep
    have k0 := cell_keep6 hb c0
    have k1 := cell_keep6 hb c1
    match i, hi with
    | 0, _ =>
      simp only [gTA, gCZ, gSI] at ho
      subst ho
      have ts : ρ (.tmp 1) = .slice (some ⟨b, off, none⟩) len cap := hfr 1 (by kernel_rfl)
      simp [go_sem, ts]
      exact ⟨Below.refl _ _, rfl⟩
    | 1, _ =>
      simp only [gTA, gCZ, gCS, gSI] at ho
      subst ho
      have ts : ρ (.tmp 45) = .slice (some ⟨b, off, none⟩) len cap := hdep 0 45 (by kernel_rfl) (by kernel_rfl)
      simp [go_sem, ts, hc, m0]
      exact ⟨Below.refl _ _, rfl⟩
    | 2, _ =>
      simp only [gTA, gCZ, gCS, gSI] at ho
      subst ho
      have ts : ρ (.tmp 46) = .pointer (some ⟨b, off, none⟩) := hdep 1 46 (by kernel_rfl) (by kernel_rfl)
      simp [go_sem, ts, k0]
      exact ⟨Below.refl _ _, rfl⟩
    | 3, _ =>
      simp only [gTA, gCZ, gCS, gSI] at ho
      subst ho
      have ts : ρ (.tmp 1) = .slice (some ⟨b, off, none⟩) len cap := hfr 1 (by kernel_rfl)
      simp [go_sem, ts]
      exact ⟨Below.refl _ _, rfl⟩
    | 4, _ =>
      simp only [gTA, gCZ, gCS, gSI] at ho
      subst ho
      have ts : ρ (.tmp 48) = .slice (some ⟨b, off, none⟩) len cap := hdep 3 48 (by kernel_rfl) (by kernel_rfl)
      simp [go_sem, ts, hc, l2]
      exact ⟨Below.refl _ _, rfl⟩
    | 5, _ =>
      simp only [gTA, gCZ, gCS, gSI] at ho
      subst ho
      have ts : ρ (.tmp 49) = .pointer (some ⟨b, off + 1, none⟩) := hdep 4 49 (by kernel_rfl) (by kernel_rfl)
      simp [go_sem, ts, k1]
      exact ⟨Below.refl _ _, rfl⟩
    | 6, _ =>
      simp only [gTA, gCZ, gCS, gSI] at ho
      subst ho
      have t1 : ρ (.tmp 47) = .int .i64 p0 := hdep 2 47 (by kernel_rfl) (by kernel_rfl)
      have t2 : ρ (.tmp 50) = .int .i64 p1 := hdep 5 50 (by kernel_rfl) (by kernel_rfl)
      simp [go_sem, t1, t2]
      exact ⟨Below.refl _ _, by rw [hmul]⟩
    | 7, _ =>
      simp only [gTA, gCZ, gCS, gSI] at ho
      subst ho
      have ts : ρ (.tmp 51) = .int .i64 (p0 * p1) := hdep 6 51 (by kernel_rfl) (by kernel_rfl)
      simp [go_sem, ts]
      exact ⟨(Below.refl _ _).alloc (Nat.le_refl _) _, pt_new _ _ _⟩
    | 8, _ =>
      simp only [gTA, gCZ, gCS, gSI] at ho
      subst ho
      obtain ⟨g, ts, hat⟩ : Pt w' (p0 * p1) (ρ (.tmp 52)) := hdep 7 52 (by kernel_rfl) (by kernel_rfl)
      simp [go_sem, ts, hf]
      exact ⟨rfl, said_of (ports_any g [(p0 * p1)] 1 w' (by simp) hat) hb.size⟩
    | 9, _ =>
      simp only [gTA, gCZ, gCS, gSI] at ho
      subst ho
      have ts : ρ (.tmp 1) = .slice (some ⟨b, off, none⟩) len cap := hfr 1 (by kernel_rfl)
      simp [go_sem, ts]
      exact ⟨Below.refl _ _, rfl⟩
    | 10, _ =>
      simp only [gTA, gCZ, gCS, gSI] at ho
      subst ho
      have ts : ρ (.tmp 54) = .slice (some ⟨b, off, none⟩) len cap := hdep 9 54 (by kernel_rfl) (by kernel_rfl)
      simp [go_sem, ts, hc, m0]
      exact ⟨Below.refl _ _, rfl⟩
    | 11, _ =>
      simp only [gTA, gCZ, gCS, gSI] at ho
      subst ho
      have ts : ρ (.tmp 55) = .pointer (some ⟨b, off, none⟩) := hdep 10 55 (by kernel_rfl) (by kernel_rfl)
      simp [go_sem, ts, k0]
      exact ⟨Below.refl _ _, rfl⟩
    | 12, _ =>
      simp only [gTA, gCZ, gCS, gSI] at ho
      subst ho
      have ts : ρ (.tmp 1) = .slice (some ⟨b, off, none⟩) len cap := hfr 1 (by kernel_rfl)
      simp [go_sem, ts]
      exact ⟨Below.refl _ _, rfl⟩
    | 13, _ =>
      simp only [gTA, gCZ, gCS, gSI] at ho
      subst ho
      have ts : ρ (.tmp 57) = .slice (some ⟨b, off, none⟩) len cap := hdep 12 57 (by kernel_rfl) (by kernel_rfl)
      simp [go_sem, ts, hc, l2]
      exact ⟨Below.refl _ _, rfl⟩
    | 14, _ =>
      simp only [gTA, gCZ, gCS, gSI] at ho
      subst ho
      have ts : ρ (.tmp 58) = .pointer (some ⟨b, off + 1, none⟩) := hdep 13 58 (by kernel_rfl) (by kernel_rfl)
      simp [go_sem, ts, k1]
      exact ⟨Below.refl _ _, rfl⟩
  · intro V w9 q9 hS
    have e0 : V 0 = .slice (some ⟨b, off, none⟩) len cap := hS 0 (by decide)
    have e1 : V 1 = .pointer (some ⟨b, off, none⟩) := hS 1 (by decide)
    have e2 : V 2 = .int .i64 p0 := hS 2 (by decide)
    have e3 : V 3 = .slice (some ⟨b, off, none⟩) len cap := hS 3 (by decide)
    have e4 : V 4 = .pointer (some ⟨b, off + 1, none⟩) := hS 4 (by decide)
    have e5 : V 5 = .int .i64 p1 := hS 5 (by decide)
    have e6 : V 6 = .int .i64 (p0 * p1) := hS 6 (by decide)
    obtain ⟨g7, e7, P7⟩ : Pt w9 (p0 * p1) (V 7) := hS 7 (by decide)
    obtain ⟨a8, n8, e8, M8⟩ : Mk w.heap.size w9 [(p0 * p1)] (V 8) := hS 8 (by decide)
    have e9 : V 9 = .slice (some ⟨b, off, none⟩) len cap := hS 9 (by decide)
    have e10 : V 10 = .pointer (some ⟨b, off, none⟩) := hS 10 (by decide)
    have e11 : V 11 = .int .i64 p0 := hS 11 (by decide)
    have e12 : V 12 = .slice (some ⟨b, off, none⟩) len cap := hS 12 (by decide)
    have e13 : V 13 = .pointer (some ⟨b, off + 1, none⟩) := hS 13 (by decide)
    have e14 : V 14 = .int .i64 p1 := hS 14 (by decide)
    simp only [List.drop_succ_cons, List.drop_zero, List.take_succ_cons, List.take_zero, puts, e0, e1, e2, e3, e4, e5, e6, e7, e8, e9, e10, e11, e12, e13, e14]
    clear hS e0 e1 e2 e3 e4 e5 e6 e7 e8 e9 e10 e11 e12 e13 e14 V
    go_wp2_with (go_at_call 88; (with_reducible refine (alike_rep p0 p1 w9 hw.1).mono ?_); rintro e w2 ⟨a2, n2, rfl, m2, b2⟩)
    go_ret2
    exact ⟨a8, n8, a2, n2, rfl, two_end rfl M8 q9 m2 b2⟩
/-- What Of answers: the two sides' rates, and the error's number. -/
def ofS (t : Nat) (zs : List Int) : List Int × List Int × Int :=
  if 1 ≤ t ∧ t ≤ 11 then (if okS t zs = true then (insS t zs, outsS t zs, 0) else ([], [], 61)) else ([], [], 60)
theorem eleven {p : Nat → Prop} (h1 : p 1) (h2 : p 2) (h3 : p 3) (h4 : p 4) (h5 : p 5) (h6 : p 6) (h7 : p 7) (h8 : p 8) (h9 : p 9) (h10 : p 10) (h11 : p 11) : ∀ t, 1 ≤ t ∧ t ≤ 11 → p t := fun t ht => by
  match t, ht with
  | 0, ht => omega
  | 1, _ => exact h1
  | 2, _ => exact h2
  | 3, _ => exact h3
  | 4, _ => exact h4
  | 5, _ => exact h5
  | 6, _ => exact h6
  | 7, _ => exact h7
  | 8, _ => exact h8
  | 9, _ => exact h9
  | 10, _ => exact h10
  | 11, _ => exact h11
  | n + 12, ht => omega
theorem ok_one {zs : List Int} {len : Nat} {m : Int} (hl : zs.length = len) (h : (decide (zs.length = 1) && wB (nth zs 0) m) = true) : len = 1 ∧ 1 ≤ nth zs 0 ∧ nth zs 0 ≤ m := by
  rw [Bool.and_eq_true, decide_eq_true_iff] at h
  exact ⟨by omega, wB_bound h.2⟩
theorem ok_two {zs : List Int} {len : Nat} (hl : zs.length = len) (h : (decide (zs.length = 2) && wovenB (nth zs 0) (nth zs 1)) = true) : len = 2 ∧ (1 ≤ nth zs 0 ∧ nth zs 0 ≤ 16) ∧ (1 ≤ nth zs 1 ∧ nth zs 1 ≤ 64) := by
  unfold wovenB at h
  rw [Bool.and_eq_true, decide_eq_true_iff, Bool.and_eq_true, Bool.and_eq_true] at h
  exact ⟨by omega, wB_bound h.2.1, wB_bound h.2.2.1⟩
theorem right_any (t : Nat) (ht : 1 ≤ t ∧ t ≤ 11) (a : Option Addr) (zs : List Int) (len cap : Nat) (w : World) (hl : zs.length = len) (h : At w a zs) :
    Calls Try.prog 71 #[.int .u8 (t : Int), .slice a len cap] w fun e w' => e = .returned (.bool (okS t zs)) ∧ Below w.heap.size w w' := by
  revert t
  exact eleven (right_1 a zs len cap w hl) (right_2 a zs len cap w hl h) (right_3 a zs len cap w hl h) (right_4 a zs len cap w hl h) (right_5 a zs len cap w hl h) (right_6 a zs len cap w hl h) (right_7 a zs len cap w hl) (right_8 a zs len cap w hl) (right_9 a zs len cap w hl h) (right_10 a zs len cap w hl) (right_11 a zs len cap w hl h)
theorem rates_any (t : Nat) (ht : 1 ≤ t ∧ t ≤ 11) (a : Option Addr) (zs : List Int) (len cap : Nat) (w : World) (hl : zs.length = len) (h : At w a zs) (hk : okS t zs = true) :
    Calls Try.prog 72 #[.int .u8 (t : Int), .slice a len cap] w (TwoEnd w (insS t zs) (outsS t zs)) := by
  revert hk
  revert t
  exact eleven (fun _ => rates_1 a zs len cap w) (fun k => rates_2 a zs len cap w hl (ok_one hl k).1 h) (fun k => rates_3 a zs len cap w hl (ok_one hl k).1 h) (fun k => rates_4 a zs len cap w hl (ok_two hl k).1 h (ok_two hl k).2) (fun k => rates_5 a zs len cap w hl (ok_two hl k).1 h (ok_two hl k).2)
    (fun k => rates_6 a zs len cap w hl (ok_one hl k).1 h (ok_one hl k).2) (fun _ => rates_7 a zs len cap w) (fun _ => rates_8 a zs len cap w) (fun k => rates_9 a zs len cap w hl (ok_one hl k).1 h (ok_one hl k).2) (fun _ => rates_10 a zs len cap w) (fun k => rates_11 a zs len cap w hl (ok_one hl k).1 h)
/-- How a reading of the table ends. -/
def OfEnd (w : World) (r : List Int × List Int × Int) (e : Ending) (w' : World) : Prop :=
  ∃ a c1 b c2, e = .returned (.tuple #[.slice a r.1.length c1, .slice b r.2.1.length c2, .int .i64 r.2.2]) ∧ CapR w.heap.size w' a c1 r.1 ∧ CapR w.heap.size w' b c2 r.2.1 ∧ (∀ x y, a = some x → b = some y → x.block < y.block) ∧ Below w.heap.size w w'
theorem of_nil {w w' : World} {f : Int} (hb : Below w.heap.size w w') : OfEnd w ([], [], f) (.returned (.tuple #[.slice none 0 0, .slice none 0 0, .int .i64 f])) w' :=
  ⟨none, 0, none, 0, rfl, World.ownsRow_nil _ _ _ _, World.ownsRow_nil _ _ _ _, (fun x y hx => by cases hx), hb⟩
set_option maxRecDepth 100000 in
set_option maxHeartbeats 1000000 in
theorem shapeOf_any (t : Nat) (a : Option Addr) (zs : List Int) (len cap : Nat) (w : World) (ht : t ≤ 255) (hl : zs.length = len) (h : At w a zs) :
    Calls Try.prog 46 #[.int .u8 (t : Int), .slice a len cap] w (OfEnd w (ofS t zs)) := by
  have HK := hidden6 (known_any t w ht)
  unfold ofS
  by_cases h1 : 1 ≤ t ∧ t ≤ 11
  · rw [if_pos h1]
    have e1 : (decide (1 ≤ t) && decide (t ≤ 11)) = true := by rw [decide_eq_true h1.1, decide_eq_true h1.2]; rfl
    rw [e1] at HK
    have HR := hidden6 (right_any t h1 a zs len cap w hl h)
    by_cases h2 : okS t zs = true
    · rw [if_pos h2]
      have HT : Hid (∀ w1, Below w.heap.size w w1 → Calls Try.prog 72 #[.int .u8 (t : Int), .slice a len cap] w1 (TwoEnd w1 (insS t zs) (outsS t zs))) := fun w1 hb => rates_any t h1 a zs len cap w1 hl (h.below hb) h2
      unfold OfEnd
      unfold TwoEnd at HT
      rw [h2] at HR
      generalize insS t zs = P at *
      generalize outsS t zs = Q at *
      clear h e1 h2
      go_enter Try.func46, Try.ntmps46
      go_wp2_with (first
        | (go_at_call 72; (with_reducible refine (HT.out w2 b2).mono ?_); rintro e w3 ⟨x, c1, y, c2, rfl, m1, m2, hxy, b3⟩)
        | (go_at_call 71; (with_reducible refine HR.out.mono ?_); rintro e w2 ⟨rfl, b2⟩)
        | (go_at_call 70; (with_reducible refine HK.out.mono ?_); rintro e w1 ⟨rfl, rfl⟩))
      go_ret3
      exact ⟨x, c1, y, c2, rfl, m1.mono b2.size, m2.mono b2.size, hxy, b2.trans (b3.mono b2.size)⟩
    · rw [if_neg h2]
      have e2 : okS t zs = false := by simpa using h2
      rw [e2] at HR
      clear h e1 h2
      go_enter Try.func46, Try.ntmps46
      go_wp2_with (first
        | (go_at_call 71; (with_reducible refine HR.out.mono ?_); rintro e w2 ⟨rfl, b2⟩)
        | (go_at_call 70; (with_reducible refine HK.out.mono ?_); rintro e w1 ⟨rfl, rfl⟩))
      go_ret3
      exact of_nil b2
  · rw [if_neg h1]
    have e1 : (decide (1 ≤ t) && decide (t ≤ 11)) = false := by
      by_cases h2 : 1 ≤ t
      · rw [decide_eq_false (p := t ≤ 11) (fun h3 => h1 ⟨h2, h3⟩), Bool.and_false]
      · rw [decide_eq_false h2]; rfl
    rw [e1] at HK
    clear h e1 h1
    go_enter Try.func46, Try.ntmps46
    go_wp2_with (go_at_call 70; (with_reducible refine HK.out.mono ?_); rintro e w1 ⟨rfl, rfl⟩)
    go_ret3
    exact of_nil (Below.refl _ _)
theorem one_new6 (W : World) (x : Value) (t : TypeId) : ∀ j u, [x][j]? = some u → (W.alloc (.cells #[x] t)).cell? ((⟨W.heap.size, 0, none⟩ : Addr).add j) = some u := by
  intro j u hu
  match j, hu with
  | 0, hu => simp at hu; subst hu; simp [Addr.add]
theorem one_cell6 (x : Int) : ∀ u ∈ [Value.int .i64 x], u.oneCell' = true := by
  intro u hu; simp at hu; subst hu; rfl
theorem own_block6 {w : World} {base n : Nat} {v : Value} {xs : List Value} (h : w.ownsRow base 3 1 v n xs) : ∀ k, v.ownBlock = some k → base ≤ k := by
  intro k hk
  rcases h.2 with ⟨hv, -⟩ | ⟨g, cap, cur, hv, hg, -⟩
  · rw [hv] at hk; cases hk
  · rw [hv] at hk; cases hk; exact hg
set_option maxHeartbeats 1000000 in
theorem rports_any (n : Nat) (x : Int) (w : World) (hn : n ≤ 16) :
    Calls Try.prog 42 #[.int .i64 (n : Int), .int .i64 x] w (RowEnd w (List.replicate n x)) := by
  obtain ⟨i0, hi, hz0, hz1, hz2⟩ := info_parts Try.info3
  go_enter Try.func42, Try.ntmps42
  go_wp2
  go_loopg [5, 6] n (fun gk v u wr => ∃ k : Nat, k ≤ n ∧ gk = n - k ∧ u = .int .i64 (k : Int) ∧ wr.ownsRow w.heap.size 3 1 v k ((List.replicate k x).map (Value.int .i64)) ∧ Below w.heap.size w wr)
  case atStart => exact ⟨0, Nat.zero_le _, rfl, rfl, World.ownsRow_nil _ _ _ _, Below.refl _ _⟩
  case round =>
    obtain ⟨k, hk, rfl, rfl, hown, hB⟩ := hrel
    by_cases hlt : k < n
    · have hki : (k : Int) < (n : Int) := by omega
      have hsz := hB.size
      go_wp2_with (at_builtin; refine wpList_append_own _ rfl (.tmp 12) (.tmp 14) 43 rfl w.heap.size 3 i0 (.int .i64 0) 1 8 Try.underlying43 hi hz0 hz1 hz2 rfl (by decide) _ k _ rfl (hown.alloc _) ⟨wr.heap.size, 0, none⟩ 1 1 [.int .i64 x] rfl rfl (one_new6 _ _ _) (one_cell6 _) (by unfold maxLen; omega) (by omega) (by simp; omega) ?_; intro v' w2 hown2 hgrow2 _)
      go_roundg (n - (k + 1))
      case measure => omega
      case rel =>
        refine ⟨k + 1, by omega, rfl, by go_num, ?_, (hB.alloc hsz _).grown hgrow2 (by simp; omega) (own_block6 hown)⟩
        rw [List.replicate_succ', List.map_append]
        exact hown2
    · have ek : k = n := by omega
      subst ek
      have hki : ¬ (k : Int) < (k : Int) := by omega
      obtain ⟨a', cap', hv, -, -⟩ := owns_at hown
      subst hv
      have HO := hidden6 hown
      clear hown
      go_wp2
      go_ret
      refine ⟨a', cap', by rw [List.length_replicate]; rfl, ?_, hB⟩
      unfold CapR
      rw [List.length_replicate]
      exact HO.out
theorem rports_rep (n x : Int) (w : World) (h : 1 ≤ n ∧ n ≤ 16) : Calls Try.prog 42 #[.int .i64 n, .int .i64 x] w (RowEnd w (rep n x)) := by
  have e : n = ((n.toNat : Nat) : Int) := by omega
  unfold rep
  have := rports_any n.toNat x w (by omega)
  rw [← e] at this
  exact this
theorem rports_1 (x : Int) (w : World) : Calls Try.prog 42 #[.int .i64 1, .int .i64 x] w (RowEnd w [x]) := rports_any 1 x w (by decide)
theorem rports_2 (x : Int) (w : World) : Calls Try.prog 42 #[.int .i64 2, .int .i64 x] w (RowEnd w [x, x]) := rports_any 2 x w (by decide)
set_option maxRecDepth 100000 in
set_option maxHeartbeats 1000000 in
theorem one_any (a : Option Addr) (zs : List Int) (len cap : Nat) (m : Int) (w : World) (hl : zs.length = len) (h : At w a zs) : Calls Try.prog 66 #[.slice a len cap, .int .i64 m] w fun e w' => e = .returned (.bool (decide (zs.length = 1) && wB (nth zs 0) m)) ∧ Below w.heap.size w w' := by
  have B : Hid (Below w.heap.size w w) := Below.refl _ _
  rw [hl]
  unfold wB
  by_cases h1 : len = 1
  · have l1 : ((len : Int) == 1) = true := by simp; omega
    rw [decide_eq_true h1]
    rcases h with h0 | ⟨b, off, rfl, hc⟩
    · rw [h0] at hl; simp at hl; omega
    have c0 := hc 0 (by omega)
    rw [Nat.add_zero] at c0
    have l2 : (0 : Int) < (len : Int) := by omega
    clear hc
    generalize nth zs 0 = p0 at *
    by_cases k1 : 1 ≤ p0
    · rw [decide_eq_true k1]
      go_enter Try.func66, Try.ntmps66
      go_wp2
      go_ret
      exact ⟨by simp, B.out⟩
    · rw [decide_eq_false k1]
      go_enter Try.func66, Try.ntmps66
      go_wp2
      go_ret
      exact ⟨by simp, B.out⟩
  · have l1 : ((len : Int) == 1) = false := by simp; omega
    rw [decide_eq_false h1]
    go_enter Try.func66, Try.ntmps66
    go_wp2
    go_ret
    exact ⟨by simp, B.out⟩
theorem woven_or {p q : Int} (h : ¬ (1 ≤ p ∧ p ≤ 16) ∨ ¬ (1 ≤ q ∧ q ≤ 64)) : wovenB p q = false := by
  cases e : wovenB p q with
  | false => rfl
  | true =>
    unfold wovenB at e
    rw [Bool.and_eq_true, Bool.and_eq_true] at e
    rcases h with h | h
    · exact absurd (wB_bound e.1) h
    · exact absurd (wB_bound e.2.1) h
theorem woven_and {p q : Int} (h : (1 ≤ p ∧ p ≤ 16) ∧ (1 ≤ q ∧ q ≤ 64)) : wovenB p q = decide (p * q ≤ 64) := by
  unfold wovenB wB
  rw [decide_eq_true h.1.1, decide_eq_true h.1.2, decide_eq_true h.2.1, decide_eq_true h.2.2]
  rfl
set_option maxRecDepth 100000 in
set_option maxHeartbeats 2000000 in
theorem two_any (a : Option Addr) (zs : List Int) (len cap : Nat) (w : World) (hl : zs.length = len) (h : At w a zs) : Calls Try.prog 67 #[.slice a len cap] w fun e w' => e = .returned (.bool (decide (zs.length = 2) && wovenB (nth zs 0) (nth zs 1))) ∧ Below w.heap.size w w' := by
  have B : Hid (Below w.heap.size w w) := Below.refl _ _
  rw [hl]
  by_cases h1 : len = 2
  · have l1 : ((len : Int) != 2) = false := by simp; omega
    rw [decide_eq_true h1]
    rcases h with h0 | ⟨b, off, rfl, hc⟩
    · rw [h0] at hl; simp at hl; omega
    have c0 := hc 0 (by omega)
    have c1 := hc 1 (by omega)
    rw [Nat.add_zero] at c0
    have l2 : (0 : Int) < (len : Int) := by omega
    have l3 : (1 : Int) < (len : Int) := by omega
    clear hc
    generalize nth zs 0 = p0 at *
    generalize nth zs 1 = p1 at *
    by_cases k1 : p0 < 1
    · rw [woven_or (Or.inl (by omega))]
      go_enter Try.func67, Try.ntmps67
      go_wp2
      go_ret
      exact ⟨by simp, B.out⟩
    by_cases k2 : p0 > 16
    · rw [woven_or (Or.inl (by omega))]
      go_enter Try.func67, Try.ntmps67
      go_wp2
      go_ret
      exact ⟨by simp, B.out⟩
    by_cases k3 : p1 < 1
    · rw [woven_or (Or.inr (by omega))]
      go_enter Try.func67, Try.ntmps67
      go_wp2
      go_ret
      exact ⟨by simp, B.out⟩
    by_cases k4 : p1 > 64
    · rw [woven_or (Or.inr (by omega))]
      go_enter Try.func67, Try.ntmps67
      go_wp2
      go_ret
      exact ⟨by simp, B.out⟩
    have hb : (1 ≤ p0 ∧ p0 ≤ 16) ∧ (1 ≤ p1 ∧ p1 ≤ 64) := by omega
    have hm := mul_bound hb.1 hb.2
    rw [woven_and hb]
    have hw : IntKind.i64.wrap (p0 * p1) = p0 * p1 := wrap_id (by omega) (by omega)
    go_enter Try.func67, Try.ntmps67
    go_wp2
    go_quiet (fail)
    go_wp2
    go_ret
    exact ⟨by simp, by first | exact bdrew B.out _ | exact B.out⟩
  · have l1 : ((len : Int) != 2) = true := by simp; omega
    rw [decide_eq_false h1]
    go_enter Try.func67, Try.ntmps67
    go_wp2
    go_ret
    exact ⟨by simp, B.out⟩
set_option maxRecDepth 100000 in
set_option maxHeartbeats 1000000 in
theorem good_1 (a : Option Addr) (zs : List Int) (len cap : Nat) (w : World) (hl : zs.length = len) :
    Calls Try.prog 41 #[.int .u8 1, .slice a len cap] w fun e w' => e = .returned (.bool (okS 1 zs)) ∧ Below w.heap.size w w' := by
  have B : Hid (Below w.heap.size w w) := Below.refl _ _
  subst hl
  show Calls _ _ _ _ (fun e w' => e = .returned (.bool (wB (zs.length : Int) 16)) ∧ _)
  unfold wB
  by_cases h1 : 1 ≤ (zs.length : Int)
  · rw [decide_eq_true h1]
    go_enter Try.func41, Try.ntmps41
    go_wp2
    go_ret
    exact ⟨by simp, B.out⟩
  · rw [decide_eq_false h1]
    go_enter Try.func41, Try.ntmps41
    go_wp2
    go_ret
    exact ⟨by simp, B.out⟩
set_option maxRecDepth 100000 in
set_option maxHeartbeats 1000000 in
theorem good_2 (a : Option Addr) (zs : List Int) (len cap : Nat) (w : World) (hl : zs.length = len) (h : At w a zs) :
    Calls Try.prog 41 #[.int .u8 2, .slice a len cap] w fun e w' => e = .returned (.bool (okS 2 zs)) ∧ Below w.heap.size w w' := by
  have B : Hid (Below w.heap.size w w) := Below.refl _ _
  have H := hidden6 (one_any a zs len cap 64 w hl h)
  show Calls _ _ _ _ (fun e w' => e = .returned (.bool (decide (zs.length = 1) && wB (nth zs 0) 64)) ∧ _)
  generalize (decide (zs.length = 1) && wB (nth zs 0) 64) = r at *
  go_enter Try.func41, Try.ntmps41
  go_wp2_with (go_at_call 66; (with_reducible refine H.out.mono ?_); rintro e w1 ⟨rfl, b1⟩)
  go_ret
  exact ⟨rfl, b1⟩
set_option maxRecDepth 100000 in
set_option maxHeartbeats 1000000 in
theorem good_3 (a : Option Addr) (zs : List Int) (len cap : Nat) (w : World) (hl : zs.length = len) (h : At w a zs) :
    Calls Try.prog 41 #[.int .u8 3, .slice a len cap] w fun e w' => e = .returned (.bool (okS 3 zs)) ∧ Below w.heap.size w w' := by
  have B : Hid (Below w.heap.size w w) := Below.refl _ _
  have H := hidden6 (one_any a zs len cap 64 w hl h)
  show Calls _ _ _ _ (fun e w' => e = .returned (.bool (decide (zs.length = 1) && wB (nth zs 0) 64)) ∧ _)
  generalize (decide (zs.length = 1) && wB (nth zs 0) 64) = r at *
  go_enter Try.func41, Try.ntmps41
  go_wp2_with (go_at_call 66; (with_reducible refine H.out.mono ?_); rintro e w1 ⟨rfl, b1⟩)
  go_ret
  exact ⟨rfl, b1⟩
set_option maxRecDepth 100000 in
set_option maxHeartbeats 1000000 in
theorem good_4 (a : Option Addr) (zs : List Int) (len cap : Nat) (w : World) (hl : zs.length = len) (h : At w a zs) :
    Calls Try.prog 41 #[.int .u8 4, .slice a len cap] w fun e w' => e = .returned (.bool (okS 4 zs)) ∧ Below w.heap.size w w' := by
  have B : Hid (Below w.heap.size w w) := Below.refl _ _
  have H := hidden6 (two_any a zs len cap w hl h)
  show Calls _ _ _ _ (fun e w' => e = .returned (.bool (decide (zs.length = 2) && wovenB (nth zs 0) (nth zs 1))) ∧ _)
  generalize (decide (zs.length = 2) && wovenB (nth zs 0) (nth zs 1)) = r at *
  go_enter Try.func41, Try.ntmps41
  go_wp2_with (go_at_call 67; (with_reducible refine H.out.mono ?_); rintro e w1 ⟨rfl, b1⟩)
  go_ret
  exact ⟨rfl, b1⟩
set_option maxRecDepth 100000 in
set_option maxHeartbeats 1000000 in
theorem good_5 (a : Option Addr) (zs : List Int) (len cap : Nat) (w : World) (hl : zs.length = len) (h : At w a zs) :
    Calls Try.prog 41 #[.int .u8 5, .slice a len cap] w fun e w' => e = .returned (.bool (okS 5 zs)) ∧ Below w.heap.size w w' := by
  have B : Hid (Below w.heap.size w w) := Below.refl _ _
  have H := hidden6 (two_any a zs len cap w hl h)
  show Calls _ _ _ _ (fun e w' => e = .returned (.bool (decide (zs.length = 2) && wovenB (nth zs 0) (nth zs 1))) ∧ _)
  generalize (decide (zs.length = 2) && wovenB (nth zs 0) (nth zs 1)) = r at *
  go_enter Try.func41, Try.ntmps41
  go_wp2_with (go_at_call 67; (with_reducible refine H.out.mono ?_); rintro e w1 ⟨rfl, b1⟩)
  go_ret
  exact ⟨rfl, b1⟩
set_option maxRecDepth 100000 in
set_option maxHeartbeats 1000000 in
theorem good_6 (a : Option Addr) (zs : List Int) (len cap : Nat) (w : World) (hl : zs.length = len) (h : At w a zs) :
    Calls Try.prog 41 #[.int .u8 6, .slice a len cap] w fun e w' => e = .returned (.bool (okS 6 zs)) ∧ Below w.heap.size w w' := by
  have B : Hid (Below w.heap.size w w) := Below.refl _ _
  have H := hidden6 (one_any a zs len cap 16 w hl h)
  show Calls _ _ _ _ (fun e w' => e = .returned (.bool (decide (zs.length = 1) && wB (nth zs 0) 16)) ∧ _)
  generalize (decide (zs.length = 1) && wB (nth zs 0) 16) = r at *
  go_enter Try.func41, Try.ntmps41
  go_wp2_with (go_at_call 66; (with_reducible refine H.out.mono ?_); rintro e w1 ⟨rfl, b1⟩)
  go_ret
  exact ⟨rfl, b1⟩
set_option maxRecDepth 100000 in
set_option maxHeartbeats 1000000 in
theorem good_7 (a : Option Addr) (zs : List Int) (len cap : Nat) (w : World) (hl : zs.length = len) :
    Calls Try.prog 41 #[.int .u8 7, .slice a len cap] w fun e w' => e = .returned (.bool (okS 7 zs)) ∧ Below w.heap.size w w' := by
  have B : Hid (Below w.heap.size w w) := Below.refl _ _
  have e : okS 7 zs = decide (len = 0) := by rw [← hl]; rfl
  rw [e]
  clear e
  by_cases h1 : len = 0
  · have l1 : ((len : Int) == 0) = true := by simp; omega
    rw [decide_eq_true h1]
    go_enter Try.func41, Try.ntmps41
    go_wp2
    go_ret
    exact ⟨by simp, B.out⟩
  · have l1 : ((len : Int) == 0) = false := by simp; omega
    rw [decide_eq_false h1]
    go_enter Try.func41, Try.ntmps41
    go_wp2
    go_ret
    exact ⟨by simp, B.out⟩
set_option maxRecDepth 100000 in
set_option maxHeartbeats 1000000 in
theorem good_8 (a : Option Addr) (zs : List Int) (len cap : Nat) (w : World) (hl : zs.length = len) :
    Calls Try.prog 41 #[.int .u8 8, .slice a len cap] w fun e w' => e = .returned (.bool (okS 8 zs)) ∧ Below w.heap.size w w' := by
  have B : Hid (Below w.heap.size w w) := Below.refl _ _
  have e : okS 8 zs = decide (len = 0) := by rw [← hl]; rfl
  rw [e]
  clear e
  by_cases h1 : len = 0
  · have l1 : ((len : Int) == 0) = true := by simp; omega
    rw [decide_eq_true h1]
    go_enter Try.func41, Try.ntmps41
    go_wp2
    go_ret
    exact ⟨by simp, B.out⟩
  · have l1 : ((len : Int) == 0) = false := by simp; omega
    rw [decide_eq_false h1]
    go_enter Try.func41, Try.ntmps41
    go_wp2
    go_ret
    exact ⟨by simp, B.out⟩
set_option maxRecDepth 100000 in
set_option maxHeartbeats 1000000 in
theorem good_9 (a : Option Addr) (zs : List Int) (len cap : Nat) (w : World) (hl : zs.length = len) (h : At w a zs) :
    Calls Try.prog 41 #[.int .u8 9, .slice a len cap] w fun e w' => e = .returned (.bool (okS 9 zs)) ∧ Below w.heap.size w w' := by
  have B : Hid (Below w.heap.size w w) := Below.refl _ _
  have H := hidden6 (one_any a zs len cap 16 w hl h)
  show Calls _ _ _ _ (fun e w' => e = .returned (.bool (decide (zs.length = 1) && wB (nth zs 0) 16)) ∧ _)
  generalize (decide (zs.length = 1) && wB (nth zs 0) 16) = r at *
  go_enter Try.func41, Try.ntmps41
  go_wp2_with (go_at_call 66; (with_reducible refine H.out.mono ?_); rintro e w1 ⟨rfl, b1⟩)
  go_ret
  exact ⟨rfl, b1⟩
set_option maxRecDepth 100000 in
set_option maxHeartbeats 1000000 in
theorem good_10 (a : Option Addr) (zs : List Int) (len cap : Nat) (w : World) (hl : zs.length = len) :
    Calls Try.prog 41 #[.int .u8 10, .slice a len cap] w fun e w' => e = .returned (.bool (okS 10 zs)) ∧ Below w.heap.size w w' := by
  have B : Hid (Below w.heap.size w w) := Below.refl _ _
  have e : okS 10 zs = decide (len = 2) := by rw [← hl]; rfl
  rw [e]
  clear e
  by_cases h1 : len = 2
  · have l1 : ((len : Int) == 2) = true := by simp; omega
    rw [decide_eq_true h1]
    go_enter Try.func41, Try.ntmps41
    go_wp2
    go_ret
    exact ⟨by simp, B.out⟩
  · have l1 : ((len : Int) == 2) = false := by simp; omega
    rw [decide_eq_false h1]
    go_enter Try.func41, Try.ntmps41
    go_wp2
    go_ret
    exact ⟨by simp, B.out⟩
set_option maxRecDepth 100000 in
set_option maxHeartbeats 1000000 in
theorem good_11 (a : Option Addr) (zs : List Int) (len cap : Nat) (w : World) (hl : zs.length = len) (h : At w a zs) :
    Calls Try.prog 41 #[.int .u8 11, .slice a len cap] w fun e w' => e = .returned (.bool (okS 11 zs)) ∧ Below w.heap.size w w' := by
  have B : Hid (Below w.heap.size w w) := Below.refl _ _
  have H := hidden6 (one_any a zs len cap 64 w hl h)
  show Calls _ _ _ _ (fun e w' => e = .returned (.bool (decide (zs.length = 1) && wB (nth zs 0) 64)) ∧ _)
  generalize (decide (zs.length = 1) && wB (nth zs 0) 64) = r at *
  go_enter Try.func41, Try.ntmps41
  go_wp2_with (go_at_call 66; (with_reducible refine H.out.mono ?_); rintro e w1 ⟨rfl, b1⟩)
  go_ret
  exact ⟨rfl, b1⟩
theorem good_any (t : Nat) (ht : 1 ≤ t ∧ t ≤ 11) (a : Option Addr) (zs : List Int) (len cap : Nat) (w : World) (hl : zs.length = len) (h : At w a zs) :
    Calls Try.prog 41 #[.int .u8 (t : Int), .slice a len cap] w fun e w' => e = .returned (.bool (okS t zs)) ∧ Below w.heap.size w w' := by
  revert t
  exact eleven (good_1 a zs len cap w hl) (good_2 a zs len cap w hl h) (good_3 a zs len cap w hl h) (good_4 a zs len cap w hl h) (good_5 a zs len cap w hl h) (good_6 a zs len cap w hl h) (good_7 a zs len cap w hl) (good_8 a zs len cap w hl) (good_9 a zs len cap w hl h) (good_10 a zs len cap w hl) (good_11 a zs len cap w hl h)
end Go.Proofs.Ytdjplmlfcolklaa

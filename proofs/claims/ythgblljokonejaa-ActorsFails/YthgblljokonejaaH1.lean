/- Shapes: which parameters a tag may have, and its rates, plain; shape's within, woven, known, ports, alike, right. (Written by tmpl/mkH1.py.) -/
import Derived.Test.YthgblljokonejaaOwnC
import Derived.Test.YthgblljokonejaaRegGen
import Derived.Deep.LoopGhost
import Derived.Deep.DeepCutAuto
namespace Go.Proofs.Ythgblljokonejaa
open Go.ChangeShapes Go.WideShapes Go.ChangeAt Go.RowKit

def wB (n m : Int) : Bool := decide (1 ≤ n) && decide (n ≤ m)
def wovenB (n m : Int) : Bool := wB n 16 && (wB m 64 && decide (n * m ≤ 64))
/-- May a tag of the table have these parameters? -/
def okS (t : Nat) (zs : List Int) : Bool :=
  match t with
  | 1 => wB (zs.length : Int) 16
  | 2 => decide (zs.length = 1) && wB (nth zs 0) 64
  | 3 => decide (zs.length = 1) && wB (nth zs 0) 64
  | 4 => decide (zs.length = 2) && wovenB (nth zs 0) (nth zs 1)
  | 5 => decide (zs.length = 2) && wovenB (nth zs 0) (nth zs 1)
  | 6 => decide (zs.length = 1) && wB (nth zs 0) 16
  | 9 => decide (zs.length = 1) && wB (nth zs 0) 16
  | 10 => decide (zs.length = 2)
  | 11 => decide (zs.length = 1) && wB (nth zs 0) 64
  | _ => decide (zs.length = 0)
def rep (n x : Int) : List Int := List.replicate n.toNat x
def insS (t : Nat) (zs : List Int) : List Int :=
  match t with
  | 3 => [nth zs 0]
  | 4 => rep (nth zs 0) (nth zs 1)
  | 5 => [nth zs 0 * nth zs 1]
  | 6 => rep (nth zs 0) 1
  | 7 => [1, 1]
  | 10 => []
  | 11 => [nth zs 0]
  | _ => [1]
def outsS (t : Nat) (zs : List Int) : List Int :=
  match t with
  | 2 => [nth zs 0]
  | 4 => [nth zs 0 * nth zs 1]
  | 5 => rep (nth zs 0) (nth zs 1)
  | 9 => rep (nth zs 0) 1
  | 11 => []
  | _ => [1]
theorem hidden6 {p : Prop} (h : p) : Hid p := h
theorem cell_keep6 {w w' : World} (hb : Below w.heap.size w w') {p : Addr} {x : Value} (h : w.cell? p = some x) : w'.cell? p = some x := (hb.cell (block_lt_of_cell h)).trans h

theorem within_any (n m : Int) (w : World) : Calls Try.prog 69 #[.int .i64 n, .int .i64 m] w fun e w' => e = .returned (.bool (wB n m)) ∧ w' = w := by
  unfold wB
  by_cases h1 : 1 ≤ n
  · rw [decide_eq_true h1]
    by_cases h2 : n ≤ m
    · rw [decide_eq_true h2]
      go_enter Try.func69, Try.ntmps69
      go_wp2
      go_ret
      exact ⟨rfl, rfl⟩
    · rw [decide_eq_false h2]
      go_enter Try.func69, Try.ntmps69
      go_wp2
      go_ret
      exact ⟨rfl, rfl⟩
  · rw [decide_eq_false h1]
    go_enter Try.func69, Try.ntmps69
    go_wp2
    go_ret
    exact ⟨rfl, rfl⟩
theorem wB_bound {n m : Int} (h : wB n m = true) : 1 ≤ n ∧ n ≤ m := by
  unfold wB at h
  rw [Bool.and_eq_true, decide_eq_true_iff, decide_eq_true_iff] at h
  exact h
theorem mul_bound {n m : Int} (h1 : 1 ≤ n ∧ n ≤ 16) (h2 : 1 ≤ m ∧ m ≤ 64) : 1 ≤ n * m ∧ n * m ≤ 1024 :=
  ⟨Int.mul_pos (by omega : 0 < n) (by omega : 0 < m), Int.mul_le_mul h1.2 h2.2 (by omega) (by omega)⟩
set_option maxHeartbeats 1000000 in
theorem woven_any (n m : Int) (w : World) : Calls Try.prog 70 #[.int .i64 n, .int .i64 m] w fun e w' => e = .returned (.bool (wovenB n m)) ∧ w' = w := by
  have H : Hid (∀ x y w1, Calls Try.prog 69 #[.int .i64 x, .int .i64 y] w1 fun e w' => e = .returned (.bool (wB x y)) ∧ w' = w1) := fun x y w1 => within_any x y w1
  unfold wovenB
  cases h1 : wB n 16 with
  | false =>
    go_enter Try.func70, Try.ntmps70
    go_wp2_with (go_at_call 69; (with_reducible refine (H.out _ _ _).mono ?_); rintro e w' ⟨rfl, rfl⟩; rw [h1])
    go_ret
    exact ⟨rfl, rfl⟩
  | true =>
    cases h2 : wB m 64 with
    | false =>
      go_enter Try.func70, Try.ntmps70
      go_wp2_with (first
        | (go_at_call 69; (with_reducible refine (H.out n 16 _).mono ?_); rintro e w' ⟨rfl, rfl⟩; rw [h1])
        | (go_at_call 69; (with_reducible refine (H.out m 64 _).mono ?_); rintro e w' ⟨rfl, rfl⟩; rw [h2]))
      go_ret
      exact ⟨rfl, rfl⟩
    | true =>
      have hb := mul_bound (wB_bound h1) (wB_bound h2)
      obtain ⟨x, hx⟩ : ∃ x, n * m = x := ⟨_, rfl⟩
      rw [hx] at hb ⊢
      go_enter Try.func70, Try.ntmps70
      go_wp2_with (first
        | (go_at_call 69; (with_reducible refine (H.out n 16 _).mono ?_); rintro e w' ⟨rfl, rfl⟩; rw [h1])
        | (go_at_call 69; (with_reducible refine (H.out m 64 _).mono ?_); rintro e w' ⟨rfl, rfl⟩; rw [h2]))
      go_ret
      exact ⟨by simp, rfl⟩
theorem known_any (t : Nat) (w : World) (ht : t ≤ 255) : Calls Try.prog 39 #[.int .u8 (t : Int)] w fun e w' => e = .returned (.bool (decide (1 ≤ t) && decide (t ≤ 11))) ∧ w' = w := by
  by_cases h1 : 1 ≤ t
  · have h1' : (1 : Int) ≤ (t : Int) := by omega
    rw [decide_eq_true h1]
    by_cases h2 : t ≤ 11
    · have h2' : (t : Int) ≤ 11 := by omega
      rw [decide_eq_true h2]
      go_enter Try.func39, Try.ntmps39
      go_wp2
      go_ret
      exact ⟨rfl, rfl⟩
    · have h2' : ¬ (t : Int) ≤ 11 := by omega
      rw [decide_eq_false h2]
      go_enter Try.func39, Try.ntmps39
      go_wp2
      go_ret
      exact ⟨rfl, rfl⟩
  · have h1' : ¬ (1 : Int) ≤ (t : Int) := by omega
    rw [decide_eq_false h1]
    go_enter Try.func39, Try.ntmps39
    go_wp2
    go_ret
    exact ⟨rfl, rfl⟩
/-- How a new row's making ends. -/
def RowEnd (w : World) (zs : List Int) (e : Ending) (w' : World) : Prop := ∃ (a : Option Addr) (cap : Nat), e = .returned (.slice a zs.length cap) ∧ CapR w.heap.size w' a cap zs ∧ Below w.heap.size w w'
set_option maxHeartbeats 400000 in
theorem ports_any (b : Nat) (zs : List Int) (cap : Nat) (w : World) (hl : zs.length ≤ 16) (h : At w (some ⟨b, 0, none⟩) zs) :
    Calls Try.prog 71 #[.slice (some ⟨b, 0, none⟩) zs.length cap] w (RowEnd w zs) := by
  obtain ⟨i0, hi, hz0, hz1, hz2⟩ := info_parts Try.info3
  go_enter Try.func71, Try.ntmps71
  go_wp2_with (at_builtin; refine wpList_append_own _ rfl _ _ 22 rfl w.heap.size 3 i0 (.int .i64 0) 1 8 Try.underlying22 hi hz0 hz1 hz2 rfl (by decide) _ 0 [] rfl (World.ownsRow_nil _ _ _ _) ⟨b, 0, none⟩ zs.length cap (zs.map (Value.int .i64)) rfl (by simp) (lies_new h) (ints_oneCell _ _) ?c3 ?c4 (Nat.le_refl _) ?_)
  case c3 => unfold maxLen; omega
  case c4 => omega
  intro v' w1 hown hgrow _
  have hown' : w1.ownsRow w.heap.size 3 1 v' zs.length (zs.map (Value.int .i64)) := by simpa using hown
  obtain ⟨a', cap', hv, -, hat', hc', hn', hb'⟩ := owns_at (n := zs.length) (zs := zs) hown'
  rw [hv]
  go_wp2
  go_ret
  refine ⟨a', cap', rfl, ?_, (Below.refl _ _).grown hgrow (Nat.le_refl _) (fun k h => by cases h)⟩
  unfold CapR
  rw [← hv]
  exact hown'
set_option maxHeartbeats 400000 in
theorem ports_none (w : World) : Calls Try.prog 71 #[.slice none 0 0] w fun e w' => e = .returned (.slice none 0 0) ∧ w' = w := by
  obtain ⟨i0, hi, hz0, hz1, hz2⟩ := info_parts Try.info3
  go_enter Try.func71, Try.ntmps71
  go_wp2_with (at_builtin; refine wpList_append_own_none rfl _ _ 22 rfl w.heap.size 3 i0 1 Try.underlying22 hi _ 0 [] rfl (World.ownsRow_nil _ _ _ _) rfl ?_)
  go_ret
  exact ⟨rfl, rfl⟩
theorem rep_cons {n : Nat} {x : Int} : List.replicate (n + 1) x = x :: List.replicate n x := rfl
set_option maxHeartbeats 1000000 in
theorem alike_any (n : Nat) (x : Int) (w : World) (hn : n ≤ 16) :
    Calls Try.prog 72 #[.int .i64 (n : Int), .int .i64 x] w (RowEnd w (List.replicate n x)) := by
  obtain ⟨i0, hi, hz0, hz1, hz2⟩ := info_parts Try.info3
  go_enter Try.func72, Try.ntmps72
  go_wp2_with (at_make; refine wpList_make_full _ rfl _ _ 22 rfl w.heap.size 3 i0 (.int .i64 0) 1 Try.underlying22 hi hz0 hz1 _ _ _ _ n rfl rfl rfl rfl (by rw [hz2]; omega) (by unfold maxLen; omega) (Nat.le_refl _) ?_; intro w0 hown0 hgrow0; have hbel0 := (Below.refl w.heap.size w).grown hgrow0 (Nat.le_refl _) (fun k h => by cases h))
  have hcap0 : CapR w.heap.size w0 (some ⟨w.heap.size, 0, none⟩) n (List.replicate 0 x ++ List.replicate n 0) := by
    unfold CapR
    have e : (madeCells (Value.cells (.int .i64 0)) (n * 1)).toList = (List.replicate 0 x ++ List.replicate n 0).map (Value.int .i64) := by
      show (madeCells #[.int .i64 0] (n * 1)).toList = _
      apply List.ext_getElem?
      intro k
      rw [Nat.mul_one]
      by_cases hk : k < n <;> simp [madeCells, hk, Nat.mod_one]
    rw [e] at hown0
    simpa using hown0
  have HC0 := hidden6 hcap0
  have HB0 := hidden6 hbel0
  clear hown0 hgrow0 hcap0 hbel0
  go_loopg [11] n (fun gk v wr => ∃ k : Nat, k ≤ n ∧ gk = n - k ∧ v = .int .i64 (k : Int) ∧ CapR w.heap.size wr (some ⟨w.heap.size, 0, none⟩) n (List.replicate k x ++ List.replicate (n - k) 0) ∧ Below w.heap.size w wr)
  case atStart => exact ⟨0, Nat.zero_le _, rfl, rfl, HC0.out, HB0.out⟩
  case round =>
    clear HC0 HB0
    obtain ⟨k, hk, rfl, rfl, hC, hB⟩ := hrel
    by_cases hlt : k < n
    · have hki : (k : Int) < (n : Int) := by omega
      have es : List.replicate (n - k) (0 : Int) = 0 :: List.replicate (n - (k + 1)) 0 := by
        rw [show n - k = (n - (k + 1)) + 1 by omega, List.replicate_succ]
      rw [es] at hC
      have hc := hC.hd (k := k) (by simp)
      have hf := hC.fz k
      have hC2 : Hid (CapR w.heap.size (wr.setCell ⟨w.heap.size, k, none⟩ (.int .i64 x)) (some ⟨w.heap.size, 0, none⟩) n (List.replicate (k + 1) x ++ List.replicate (n - (k + 1)) 0)) := by
        have h1 := hC.set (k := k) x (by simp)
        rw [show List.replicate (k + 1) x ++ List.replicate (n - (k + 1)) 0 = List.replicate k x ++ x :: List.replicate (n - (k + 1)) 0 by rw [List.replicate_succ', List.append_assoc]; rfl]
        exact h1
      have HB := hidden6 (hB.setCell (p := ⟨w.heap.size, k, none⟩) (Nat.le_refl _) (.int .i64 x))
      clear hC hB es
      go_wp2
      go_roundg (n - (k + 1))
      case measure => omega
      case rel => exact ⟨k + 1, by omega, rfl, by go_num, hC2.out, HB.out⟩
    · have ek : k = n := by omega
      subst ek
      have hki : ¬ (k : Int) < (k : Int) := by omega
      rw [Nat.sub_self, List.replicate_zero, List.append_nil] at hC
      have HC := hidden6 hC
      clear hC
      go_wp2
      go_ret
      refine ⟨_, _, ?_, HC.out, hB⟩
      rw [List.length_replicate]
      rfl
set_option maxRecDepth 100000 in
set_option maxHeartbeats 1000000 in
theorem right_1 (a : Option Addr) (zs : List Int) (len cap : Nat) (w : World) (hl : zs.length = len) :
    Calls Try.prog 40 #[.int .u8 1, .slice a len cap] w fun e w' => e = .returned (.bool (okS 1 zs)) ∧ Below w.heap.size w w' := by
  have B : Hid (Below w.heap.size w w) := Below.refl _ _
  subst hl
  unfold okS
  go_enter Try.func40, Try.ntmps40
  go_wp2_with (go_at_call 69; (with_reducible refine (within_any _ _ _).mono ?_); rintro e w' ⟨rfl, rfl⟩)
  go_ret
  exact ⟨rfl, B.out⟩
set_option maxRecDepth 100000 in
set_option maxHeartbeats 1000000 in
theorem right_2 (a : Option Addr) (zs : List Int) (len cap : Nat) (w : World) (hl : zs.length = len) (h : At w a zs) :
    Calls Try.prog 40 #[.int .u8 2, .slice a len cap] w fun e w' => e = .returned (.bool (okS 2 zs)) ∧ Below w.heap.size w w' := by
  have B : Hid (Below w.heap.size w w) := Below.refl _ _
  have e : okS 2 zs = (decide (len = 1) && wB (nth zs 0) 64) := by rw [← hl]; rfl
  rw [e]
  clear e
  by_cases h1 : len = 1
  · have l1 : ((len : Int) == 1) = true := by simp; omega
    rw [decide_eq_true h1]
    rcases h with h0 | ⟨b, off, rfl, hc⟩
    · rw [h0] at hl; simp at hl; omega
    have c0 := hc 0 (by omega)
    rw [Nat.add_zero] at c0
    have l2 : (0 : Int) < (len : Int) := by omega
    clear hc
    generalize nth zs 0 = p0 at *
    go_enter Try.func40, Try.ntmps40
    go_wp2_with (go_at_call 69; (with_reducible refine (within_any _ _ _).mono ?_); rintro e w' ⟨rfl, rfl⟩)
    go_ret
    exact ⟨by simp, B.out⟩
  · have l1 : ((len : Int) == 1) = false := by simp; omega
    rw [decide_eq_false h1]
    go_enter Try.func40, Try.ntmps40
    go_wp2
    go_ret
    exact ⟨rfl, B.out⟩
set_option maxRecDepth 100000 in
set_option maxHeartbeats 1000000 in
theorem right_3 (a : Option Addr) (zs : List Int) (len cap : Nat) (w : World) (hl : zs.length = len) (h : At w a zs) :
    Calls Try.prog 40 #[.int .u8 3, .slice a len cap] w fun e w' => e = .returned (.bool (okS 3 zs)) ∧ Below w.heap.size w w' := by
  have B : Hid (Below w.heap.size w w) := Below.refl _ _
  have e : okS 3 zs = (decide (len = 1) && wB (nth zs 0) 64) := by rw [← hl]; rfl
  rw [e]
  clear e
  by_cases h1 : len = 1
  · have l1 : ((len : Int) == 1) = true := by simp; omega
    rw [decide_eq_true h1]
    rcases h with h0 | ⟨b, off, rfl, hc⟩
    · rw [h0] at hl; simp at hl; omega
    have c0 := hc 0 (by omega)
    rw [Nat.add_zero] at c0
    have l2 : (0 : Int) < (len : Int) := by omega
    clear hc
    generalize nth zs 0 = p0 at *
    go_enter Try.func40, Try.ntmps40
    go_wp2_with (go_at_call 69; (with_reducible refine (within_any _ _ _).mono ?_); rintro e w' ⟨rfl, rfl⟩)
    go_ret
    exact ⟨by simp, B.out⟩
  · have l1 : ((len : Int) == 1) = false := by simp; omega
    rw [decide_eq_false h1]
    go_enter Try.func40, Try.ntmps40
    go_wp2
    go_ret
    exact ⟨rfl, B.out⟩
set_option maxRecDepth 100000 in
set_option maxHeartbeats 1000000 in
theorem right_4 (a : Option Addr) (zs : List Int) (len cap : Nat) (w : World) (hl : zs.length = len) (h : At w a zs) :
    Calls Try.prog 40 #[.int .u8 4, .slice a len cap] w fun e w' => e = .returned (.bool (okS 4 zs)) ∧ Below w.heap.size w w' := by
  have B : Hid (Below w.heap.size w w) := Below.refl _ _
  have e : okS 4 zs = (decide (len = 2) && wovenB (nth zs 0) (nth zs 1)) := by rw [← hl]; rfl
  rw [e]
  clear e
  by_cases h1 : len = 2
  · have l2i : ((len : Int) == 2) = true := by simp; omega
    have l2 : (1 : Int) < (len : Int) := by omega
    have m0 : 0 < len := by omega
    rw [decide_eq_true h1]
    rcases h with h0 | ⟨b, off, rfl, hc⟩
    · rw [h0] at hl; simp at hl; omega
    have c0 := hc 0 (by omega)
    have c1 := hc 1 (by omega)
    rw [Nat.add_zero] at c0
    clear hc
    generalize nth zs 0 = p0 at *
    generalize nth zs 1 = p1 at *
    go_enter Try.func40, Try.ntmps40
    go_wp2
    refine wp_region_gen [] (fun d i u z => match i with
        | 0 => z = .slice (some ⟨b, off, none⟩) len cap
        | 1 => z = .int .i64 (len : Int)
        | 2 => z = .bool true
        | 3 => z = .bool true
        | 4 => z = .slice (some ⟨b, off, none⟩) len cap
        | 5 => z = .pointer (some ⟨b, off, none⟩)
        | 6 => z = .int .i64 p0
        | 7 => z = .slice (some ⟨b, off, none⟩) len cap
        | 8 => z = .pointer (some ⟨b, off + 1, none⟩)
        | 9 => z = .int .i64 p1
        | 10 => z = .bool (wovenB p0 p1)
        | 11 => z = .bool (wovenB p0 p1)
        | 12 => z = .bool (wovenB p0 p1)
        | _ => True) (fun _ u => u.cell? ⟨b, off, none⟩ = some (.int .i64 p0) ∧ u.cell? ⟨b, off + 1, none⟩ = some (.int .i64 p1) ∧ Below w.heap.size w u) (by kernel_rfl) (by kernel_rfl) (by kernel_rfl) ?_ ?_ ?_ ?_ ?_ ?_ (by kernel_rfl)
    · intro d i w v w' h hb
      match i, h with
      | 0, h => exact h
      | 1, h => exact h
      | 2, h => exact h
      | 3, h => exact h
      | 4, h => exact h
      | 5, h => exact h
      | 6, h => exact h
      | 7, h => exact h
      | 8, h => exact h
      | 9, h => exact h
      | 10, h => exact h
      | 11, h => exact h
      | 12, h => exact h
      | _ + 13, _ => trivial
    · intro d u u' h hb
      exact ⟨cell_keep6 hb h.1, cell_keep6 hb h.2.1, h.2.2.trans (hb.mono h.2.2.size)⟩
    · exact ⟨c0, c1, Below.refl _ _⟩
    · intro d i o ρ w' hm ho hf hg hC hcs hfs hfr hdep
      match i, hm, ho, hf, hg, hfr, hdep with
      | 0, _, ho, hf, hg, hfr, hdep =>
        simp only [List.getElem?_toArray, List.getElem?_cons_zero, Option.some.injEq] at ho
        subst ho
        refine ⟨fun _ => ?_, fun hw => absurd (show true = false from hw) (by decide)⟩
        have ts : ρ (.tmp 1) = .slice (some ⟨b, off, none⟩) len cap := hfr 1 (by kernel_rfl)
        simp [go_sem, ts]
        exact ⟨Below.refl _ _, rfl⟩
      | 1, _, ho, hf, hg, hfr, hdep =>
        simp only [List.getElem?_toArray, List.getElem?_cons_zero, List.getElem?_cons_succ, Option.some.injEq] at ho
        subst ho
        refine ⟨fun _ => ?_, fun hw => absurd (show true = false from hw) (by decide)⟩
        have d0 : ρ (.tmp 39) = .slice (some ⟨b, off, none⟩) len cap := hdep 0 39 (by kernel_rfl) (by kernel_rfl)
        simp [go_sem, d0]
        exact ⟨Below.refl _ _, rfl⟩
      | 2, _, ho, hf, hg, hfr, hdep =>
        simp only [List.getElem?_toArray, List.getElem?_cons_zero, List.getElem?_cons_succ, Option.some.injEq] at ho
        subst ho
        refine ⟨fun _ => ?_, fun hw => absurd (show true = false from hw) (by decide)⟩
        have d0 : ρ (.tmp 40) = .int .i64 (len : Int) := hdep 1 40 (by kernel_rfl) (by kernel_rfl)
        simp [go_sem, d0, hcs, l2i]
        exact ⟨Below.refl _ _, rfl⟩
      | 3, _, ho, hf, hg, hfr, hdep =>
        simp only [List.getElem?_toArray, List.getElem?_cons_zero, List.getElem?_cons_succ, Option.some.injEq] at ho
        subst ho
        refine ⟨fun _ => ?_, fun hw => absurd (show true = false from hw) (by decide)⟩
        have d0 : ρ (.tmp 41) = .bool true := hdep 2 41 (by kernel_rfl) (by kernel_rfl)
        simp [go_sem, d0]
        exact ⟨Below.refl _ _, rfl⟩
      | 4, _, ho, hf, hg, hfr, hdep =>
        simp only [List.getElem?_toArray, List.getElem?_cons_zero, List.getElem?_cons_succ, Option.some.injEq] at ho
        subst ho
        have gd : ρ (.tmp 42) = .bool true := hdep 3 42 (by kernel_rfl) (by kernel_rfl)
        refine ⟨fun _ => ?_, fun hw => absurd (show (match ρ (.tmp 42) with | .bool c => c == true | _ => false) = false from hw) (by rw [gd]; decide)⟩
        clear gd
        have ts : ρ (.tmp 1) = .slice (some ⟨b, off, none⟩) len cap := hfr 1 (by kernel_rfl)
        simp [go_sem, ts]
        exact ⟨Below.refl _ _, rfl⟩
      | 5, _, ho, hf, hg, hfr, hdep =>
        simp only [List.getElem?_toArray, List.getElem?_cons_zero, List.getElem?_cons_succ, Option.some.injEq] at ho
        subst ho
        have gd : ρ (.tmp 42) = .bool true := hdep 3 42 (by kernel_rfl) (by kernel_rfl)
        refine ⟨fun _ => ?_, fun hw => absurd (show (match ρ (.tmp 42) with | .bool c => c == true | _ => false) = false from hw) (by rw [gd]; decide)⟩
        clear gd
        have d0 : ρ (.tmp 43) = .slice (some ⟨b, off, none⟩) len cap := hdep 4 43 (by kernel_rfl) (by kernel_rfl)
        simp [go_sem, d0, hcs, m0]
        exact ⟨Below.refl _ _, rfl⟩
      | 6, _, ho, hf, hg, hfr, hdep =>
        simp only [List.getElem?_toArray, List.getElem?_cons_zero, List.getElem?_cons_succ, Option.some.injEq] at ho
        subst ho
        have gd : ρ (.tmp 42) = .bool true := hdep 3 42 (by kernel_rfl) (by kernel_rfl)
        refine ⟨fun _ => ?_, fun hw => absurd (show (match ρ (.tmp 42) with | .bool c => c == true | _ => false) = false from hw) (by rw [gd]; decide)⟩
        clear gd
        have c0 := hC.1
        have d0 : ρ (.tmp 44) = .pointer (some ⟨b, off, none⟩) := hdep 5 44 (by kernel_rfl) (by kernel_rfl)
        simp [go_sem, d0, c0]
        exact ⟨Below.refl _ _, rfl⟩
      | 7, _, ho, hf, hg, hfr, hdep =>
        simp only [List.getElem?_toArray, List.getElem?_cons_zero, List.getElem?_cons_succ, Option.some.injEq] at ho
        subst ho
        have gd : ρ (.tmp 42) = .bool true := hdep 3 42 (by kernel_rfl) (by kernel_rfl)
        refine ⟨fun _ => ?_, fun hw => absurd (show (match ρ (.tmp 42) with | .bool c => c == true | _ => false) = false from hw) (by rw [gd]; decide)⟩
        clear gd
        have ts : ρ (.tmp 1) = .slice (some ⟨b, off, none⟩) len cap := hfr 1 (by kernel_rfl)
        simp [go_sem, ts]
        exact ⟨Below.refl _ _, rfl⟩
      | 8, _, ho, hf, hg, hfr, hdep =>
        simp only [List.getElem?_toArray, List.getElem?_cons_zero, List.getElem?_cons_succ, Option.some.injEq] at ho
        subst ho
        have gd : ρ (.tmp 42) = .bool true := hdep 3 42 (by kernel_rfl) (by kernel_rfl)
        refine ⟨fun _ => ?_, fun hw => absurd (show (match ρ (.tmp 42) with | .bool c => c == true | _ => false) = false from hw) (by rw [gd]; decide)⟩
        clear gd
        have d0 : ρ (.tmp 46) = .slice (some ⟨b, off, none⟩) len cap := hdep 7 46 (by kernel_rfl) (by kernel_rfl)
        simp [go_sem, d0, hcs, l2]
        exact ⟨Below.refl _ _, rfl⟩
      | 9, _, ho, hf, hg, hfr, hdep =>
        simp only [List.getElem?_toArray, List.getElem?_cons_zero, List.getElem?_cons_succ, Option.some.injEq] at ho
        subst ho
        have gd : ρ (.tmp 42) = .bool true := hdep 3 42 (by kernel_rfl) (by kernel_rfl)
        refine ⟨fun _ => ?_, fun hw => absurd (show (match ρ (.tmp 42) with | .bool c => c == true | _ => false) = false from hw) (by rw [gd]; decide)⟩
        clear gd
        have c1 := hC.2
        have d0 : ρ (.tmp 47) = .pointer (some ⟨b, off + 1, none⟩) := hdep 8 47 (by kernel_rfl) (by kernel_rfl)
        simp [go_sem, d0, c1]
        exact ⟨Below.refl _ _, rfl⟩
      | 10, _, ho, hf, hg, hfr, hdep =>
        simp only [List.getElem?_toArray, List.getElem?_cons_zero, List.getElem?_cons_succ, Option.some.injEq] at ho
        subst ho
        have gd : ρ (.tmp 42) = .bool true := hdep 3 42 (by kernel_rfl) (by kernel_rfl)
        refine ⟨fun _ => ?_, fun hw => absurd (show (match ρ (.tmp 42) with | .bool c => c == true | _ => false) = false from hw) (by rw [gd]; decide)⟩
        clear gd
        have d0 : ρ (.tmp 45) = .int .i64 p0 := hdep 6 45 (by kernel_rfl) (by kernel_rfl)
        have d1 : ρ (.tmp 48) = .int .i64 p1 := hdep 9 48 (by kernel_rfl) (by kernel_rfl)
        simp [go_sem, d0, d1, hfs]
        exact ⟨rfl, (woven_any p0 p1 w').mono fun e u h => ⟨_, h.1, by rw [h.2]; exact Below.refl _ _, rfl⟩⟩
      | 11, _, ho, hf, hg, hfr, hdep =>
        simp only [List.getElem?_toArray, List.getElem?_cons_zero, List.getElem?_cons_succ, Option.some.injEq] at ho
        subst ho
        refine ⟨fun _ => ?_, fun hw => absurd (show true = false from hw) (by decide)⟩
        have d0 : ρ (.tmp 42) = .bool true := hdep 3 42 (by kernel_rfl) (by kernel_rfl)
        have d1 : ρ (.tmp 49) = .bool (wovenB p0 p1) := hdep 10 49 (by kernel_rfl) (by kernel_rfl)
        simp [go_sem, d0, d1]
        exact ⟨Below.refl _ _, rfl⟩
      | 12, _, ho, hf, hg, hfr, hdep =>
        simp only [List.getElem?_toArray, List.getElem?_cons_zero, List.getElem?_cons_succ, Option.some.injEq] at ho
        subst ho
        refine ⟨fun _ => ?_, fun hw => absurd (show true = false from hw) (by decide)⟩
        have d0 : ρ (.tmp 50) = .bool (wovenB p0 p1) := hdep 11 50 (by kernel_rfl) (by kernel_rfl)
        simp [go_sem, d0]
        exact ⟨Below.refl _ _, rfl⟩
      | n + 13, _, ho, _, _, _, _ => simp at ho
    · intro d i o ρ w' hm ho h0 hf hg hC hcs hfs hfr hdep
      exact absurd hm (by simp)
    · intro V w9 hC9 hS
      have e12 : V 12 = .bool (wovenB p0 p1) := hS 12 (by decide) (by intro h; cases h)
      simp only [puts, e12]
      simp only [Act.put, List.setIfInBounds_toArray, List.set_cons_zero, List.set_cons_succ]
      clear hS e12
      go_wp2
      go_ret
      exact ⟨by simp, hC9.2.2⟩
  · have l2i : ((len : Int) == 2) = false := by simp; omega
    rw [decide_eq_false h1]
    go_enter Try.func40, Try.ntmps40
    go_wp2
    refine wp_region_gen [] (fun d i u z => match i with
        | 0 => z = .slice a len cap
        | 1 => z = .int .i64 (len : Int)
        | 2 => z = .bool false
        | 3 => z = .bool false
        | 4 => z = undef
        | 5 => z = undef
        | 6 => z = undef
        | 7 => z = undef
        | 8 => z = undef
        | 9 => z = undef
        | 10 => z = undef
        | 11 => z = .bool false
        | 12 => z = .bool false
        | _ => True) (fun _ u => Below w.heap.size w u) (by kernel_rfl) (by kernel_rfl) (by kernel_rfl) ?_ ?_ ?_ ?_ ?_ ?_ (by kernel_rfl)
    · intro d i w v w' h hb
      match i, h with
      | 0, h => exact h
      | 1, h => exact h
      | 2, h => exact h
      | 3, h => exact h
      | 4, h => exact h
      | 5, h => exact h
      | 6, h => exact h
      | 7, h => exact h
      | 8, h => exact h
      | 9, h => exact h
      | 10, h => exact h
      | 11, h => exact h
      | 12, h => exact h
      | _ + 13, _ => trivial
    · intro d u u' h hb
      exact h.trans (hb.mono h.size)
    · exact Below.refl _ _
    · intro d i o ρ w' hm ho hf hg hC hcs hfs hfr hdep
      match i, hm, ho, hf, hg, hfr, hdep with
      | 0, _, ho, hf, hg, hfr, hdep =>
        simp only [List.getElem?_toArray, List.getElem?_cons_zero, Option.some.injEq] at ho
        subst ho
        refine ⟨fun _ => ?_, fun hw => absurd (show true = false from hw) (by decide)⟩
        have ts : ρ (.tmp 1) = .slice a len cap := hfr 1 (by kernel_rfl)
        simp [go_sem, ts]
        exact ⟨Below.refl _ _, rfl⟩
      | 1, _, ho, hf, hg, hfr, hdep =>
        simp only [List.getElem?_toArray, List.getElem?_cons_zero, List.getElem?_cons_succ, Option.some.injEq] at ho
        subst ho
        refine ⟨fun _ => ?_, fun hw => absurd (show true = false from hw) (by decide)⟩
        have d0 : ρ (.tmp 39) = .slice a len cap := hdep 0 39 (by kernel_rfl) (by kernel_rfl)
        simp [go_sem, d0]
        exact ⟨Below.refl _ _, rfl⟩
      | 2, _, ho, hf, hg, hfr, hdep =>
        simp only [List.getElem?_toArray, List.getElem?_cons_zero, List.getElem?_cons_succ, Option.some.injEq] at ho
        subst ho
        refine ⟨fun _ => ?_, fun hw => absurd (show true = false from hw) (by decide)⟩
        have d0 : ρ (.tmp 40) = .int .i64 (len : Int) := hdep 1 40 (by kernel_rfl) (by kernel_rfl)
        simp [go_sem, d0, hcs, l2i]
        exact ⟨Below.refl _ _, rfl⟩
      | 3, _, ho, hf, hg, hfr, hdep =>
        simp only [List.getElem?_toArray, List.getElem?_cons_zero, List.getElem?_cons_succ, Option.some.injEq] at ho
        subst ho
        refine ⟨fun _ => ?_, fun hw => absurd (show true = false from hw) (by decide)⟩
        have d0 : ρ (.tmp 41) = .bool false := hdep 2 41 (by kernel_rfl) (by kernel_rfl)
        simp [go_sem, d0]
        exact ⟨Below.refl _ _, rfl⟩
      | 4, _, ho, hf, hg, hfr, hdep =>
        simp only [List.getElem?_toArray, List.getElem?_cons_zero, List.getElem?_cons_succ, Option.some.injEq] at ho
        subst ho
        have gd : ρ (.tmp 42) = .bool false := hdep 3 42 (by kernel_rfl) (by kernel_rfl)
        exact ⟨fun hw => absurd (show (match ρ (.tmp 42) with | .bool c => c == true | _ => false) = true from hw) (by rw [gd]; decide), fun _ => rfl⟩
      | 5, _, ho, hf, hg, hfr, hdep =>
        simp only [List.getElem?_toArray, List.getElem?_cons_zero, List.getElem?_cons_succ, Option.some.injEq] at ho
        subst ho
        have gd : ρ (.tmp 42) = .bool false := hdep 3 42 (by kernel_rfl) (by kernel_rfl)
        exact ⟨fun hw => absurd (show (match ρ (.tmp 42) with | .bool c => c == true | _ => false) = true from hw) (by rw [gd]; decide), fun _ => rfl⟩
      | 6, _, ho, hf, hg, hfr, hdep =>
        simp only [List.getElem?_toArray, List.getElem?_cons_zero, List.getElem?_cons_succ, Option.some.injEq] at ho
        subst ho
        have gd : ρ (.tmp 42) = .bool false := hdep 3 42 (by kernel_rfl) (by kernel_rfl)
        exact ⟨fun hw => absurd (show (match ρ (.tmp 42) with | .bool c => c == true | _ => false) = true from hw) (by rw [gd]; decide), fun _ => rfl⟩
      | 7, _, ho, hf, hg, hfr, hdep =>
        simp only [List.getElem?_toArray, List.getElem?_cons_zero, List.getElem?_cons_succ, Option.some.injEq] at ho
        subst ho
        have gd : ρ (.tmp 42) = .bool false := hdep 3 42 (by kernel_rfl) (by kernel_rfl)
        exact ⟨fun hw => absurd (show (match ρ (.tmp 42) with | .bool c => c == true | _ => false) = true from hw) (by rw [gd]; decide), fun _ => rfl⟩
      | 8, _, ho, hf, hg, hfr, hdep =>
        simp only [List.getElem?_toArray, List.getElem?_cons_zero, List.getElem?_cons_succ, Option.some.injEq] at ho
        subst ho
        have gd : ρ (.tmp 42) = .bool false := hdep 3 42 (by kernel_rfl) (by kernel_rfl)
        exact ⟨fun hw => absurd (show (match ρ (.tmp 42) with | .bool c => c == true | _ => false) = true from hw) (by rw [gd]; decide), fun _ => rfl⟩
      | 9, _, ho, hf, hg, hfr, hdep =>
        simp only [List.getElem?_toArray, List.getElem?_cons_zero, List.getElem?_cons_succ, Option.some.injEq] at ho
        subst ho
        have gd : ρ (.tmp 42) = .bool false := hdep 3 42 (by kernel_rfl) (by kernel_rfl)
        exact ⟨fun hw => absurd (show (match ρ (.tmp 42) with | .bool c => c == true | _ => false) = true from hw) (by rw [gd]; decide), fun _ => rfl⟩
      | 10, _, ho, hf, hg, hfr, hdep =>
        simp only [List.getElem?_toArray, List.getElem?_cons_zero, List.getElem?_cons_succ, Option.some.injEq] at ho
        subst ho
        have gd : ρ (.tmp 42) = .bool false := hdep 3 42 (by kernel_rfl) (by kernel_rfl)
        exact ⟨fun hw => absurd (show (match ρ (.tmp 42) with | .bool c => c == true | _ => false) = true from hw) (by rw [gd]; decide), fun _ => rfl⟩
      | 11, _, ho, hf, hg, hfr, hdep =>
        simp only [List.getElem?_toArray, List.getElem?_cons_zero, List.getElem?_cons_succ, Option.some.injEq] at ho
        subst ho
        refine ⟨fun _ => ?_, fun hw => absurd (show true = false from hw) (by decide)⟩
        have d0 : ρ (.tmp 42) = .bool false := hdep 3 42 (by kernel_rfl) (by kernel_rfl)
        simp [go_sem, d0, hcs]
        exact ⟨Below.refl _ _, rfl⟩
      | 12, _, ho, hf, hg, hfr, hdep =>
        simp only [List.getElem?_toArray, List.getElem?_cons_zero, List.getElem?_cons_succ, Option.some.injEq] at ho
        subst ho
        refine ⟨fun _ => ?_, fun hw => absurd (show true = false from hw) (by decide)⟩
        have d0 : ρ (.tmp 50) = .bool false := hdep 11 50 (by kernel_rfl) (by kernel_rfl)
        simp [go_sem, d0]
        exact ⟨Below.refl _ _, rfl⟩
      | n + 13, _, ho, _, _, _, _ => simp at ho
    · intro d i o ρ w' hm ho h0 hf hg hC hcs hfs hfr hdep
      exact absurd hm (by simp)
    · intro V w9 hC9 hS
      have e12 : V 12 = .bool false := hS 12 (by decide) (by intro h; cases h)
      simp only [puts, e12]
      simp only [Act.put, List.setIfInBounds_toArray, List.set_cons_zero, List.set_cons_succ]
      clear hS e12
      go_wp2
      go_ret
      exact ⟨rfl, hC9⟩
set_option maxRecDepth 100000 in
set_option maxHeartbeats 1000000 in
theorem right_5 (a : Option Addr) (zs : List Int) (len cap : Nat) (w : World) (hl : zs.length = len) (h : At w a zs) :
    Calls Try.prog 40 #[.int .u8 5, .slice a len cap] w fun e w' => e = .returned (.bool (okS 5 zs)) ∧ Below w.heap.size w w' := by
  have B : Hid (Below w.heap.size w w) := Below.refl _ _
  have e : okS 5 zs = (decide (len = 2) && wovenB (nth zs 0) (nth zs 1)) := by rw [← hl]; rfl
  rw [e]
  clear e
  by_cases h1 : len = 2
  · have l2i : ((len : Int) == 2) = true := by simp; omega
    have l2 : (1 : Int) < (len : Int) := by omega
    have m0 : 0 < len := by omega
    rw [decide_eq_true h1]
    rcases h with h0 | ⟨b, off, rfl, hc⟩
    · rw [h0] at hl; simp at hl; omega
    have c0 := hc 0 (by omega)
    have c1 := hc 1 (by omega)
    rw [Nat.add_zero] at c0
    clear hc
    generalize nth zs 0 = p0 at *
    generalize nth zs 1 = p1 at *
    go_enter Try.func40, Try.ntmps40
    go_wp2
    refine wp_region_gen [] (fun d i u z => match i with
        | 0 => z = .slice (some ⟨b, off, none⟩) len cap
        | 1 => z = .int .i64 (len : Int)
        | 2 => z = .bool true
        | 3 => z = .bool true
        | 4 => z = .slice (some ⟨b, off, none⟩) len cap
        | 5 => z = .pointer (some ⟨b, off, none⟩)
        | 6 => z = .int .i64 p0
        | 7 => z = .slice (some ⟨b, off, none⟩) len cap
        | 8 => z = .pointer (some ⟨b, off + 1, none⟩)
        | 9 => z = .int .i64 p1
        | 10 => z = .bool (wovenB p0 p1)
        | 11 => z = .bool (wovenB p0 p1)
        | 12 => z = .bool (wovenB p0 p1)
        | _ => True) (fun _ u => u.cell? ⟨b, off, none⟩ = some (.int .i64 p0) ∧ u.cell? ⟨b, off + 1, none⟩ = some (.int .i64 p1) ∧ Below w.heap.size w u) (by kernel_rfl) (by kernel_rfl) (by kernel_rfl) ?_ ?_ ?_ ?_ ?_ ?_ (by kernel_rfl)
    · intro d i w v w' h hb
      match i, h with
      | 0, h => exact h
      | 1, h => exact h
      | 2, h => exact h
      | 3, h => exact h
      | 4, h => exact h
      | 5, h => exact h
      | 6, h => exact h
      | 7, h => exact h
      | 8, h => exact h
      | 9, h => exact h
      | 10, h => exact h
      | 11, h => exact h
      | 12, h => exact h
      | _ + 13, _ => trivial
    · intro d u u' h hb
      exact ⟨cell_keep6 hb h.1, cell_keep6 hb h.2.1, h.2.2.trans (hb.mono h.2.2.size)⟩
    · exact ⟨c0, c1, Below.refl _ _⟩
    · intro d i o ρ w' hm ho hf hg hC hcs hfs hfr hdep
      match i, hm, ho, hf, hg, hfr, hdep with
      | 0, _, ho, hf, hg, hfr, hdep =>
        simp only [List.getElem?_toArray, List.getElem?_cons_zero, Option.some.injEq] at ho
        subst ho
        refine ⟨fun _ => ?_, fun hw => absurd (show true = false from hw) (by decide)⟩
        have ts : ρ (.tmp 1) = .slice (some ⟨b, off, none⟩) len cap := hfr 1 (by kernel_rfl)
        simp [go_sem, ts]
        exact ⟨Below.refl _ _, rfl⟩
      | 1, _, ho, hf, hg, hfr, hdep =>
        simp only [List.getElem?_toArray, List.getElem?_cons_zero, List.getElem?_cons_succ, Option.some.injEq] at ho
        subst ho
        refine ⟨fun _ => ?_, fun hw => absurd (show true = false from hw) (by decide)⟩
        have d0 : ρ (.tmp 39) = .slice (some ⟨b, off, none⟩) len cap := hdep 0 39 (by kernel_rfl) (by kernel_rfl)
        simp [go_sem, d0]
        exact ⟨Below.refl _ _, rfl⟩
      | 2, _, ho, hf, hg, hfr, hdep =>
        simp only [List.getElem?_toArray, List.getElem?_cons_zero, List.getElem?_cons_succ, Option.some.injEq] at ho
        subst ho
        refine ⟨fun _ => ?_, fun hw => absurd (show true = false from hw) (by decide)⟩
        have d0 : ρ (.tmp 40) = .int .i64 (len : Int) := hdep 1 40 (by kernel_rfl) (by kernel_rfl)
        simp [go_sem, d0, hcs, l2i]
        exact ⟨Below.refl _ _, rfl⟩
      | 3, _, ho, hf, hg, hfr, hdep =>
        simp only [List.getElem?_toArray, List.getElem?_cons_zero, List.getElem?_cons_succ, Option.some.injEq] at ho
        subst ho
        refine ⟨fun _ => ?_, fun hw => absurd (show true = false from hw) (by decide)⟩
        have d0 : ρ (.tmp 41) = .bool true := hdep 2 41 (by kernel_rfl) (by kernel_rfl)
        simp [go_sem, d0]
        exact ⟨Below.refl _ _, rfl⟩
      | 4, _, ho, hf, hg, hfr, hdep =>
        simp only [List.getElem?_toArray, List.getElem?_cons_zero, List.getElem?_cons_succ, Option.some.injEq] at ho
        subst ho
        have gd : ρ (.tmp 42) = .bool true := hdep 3 42 (by kernel_rfl) (by kernel_rfl)
        refine ⟨fun _ => ?_, fun hw => absurd (show (match ρ (.tmp 42) with | .bool c => c == true | _ => false) = false from hw) (by rw [gd]; decide)⟩
        clear gd
        have ts : ρ (.tmp 1) = .slice (some ⟨b, off, none⟩) len cap := hfr 1 (by kernel_rfl)
        simp [go_sem, ts]
        exact ⟨Below.refl _ _, rfl⟩
      | 5, _, ho, hf, hg, hfr, hdep =>
        simp only [List.getElem?_toArray, List.getElem?_cons_zero, List.getElem?_cons_succ, Option.some.injEq] at ho
        subst ho
        have gd : ρ (.tmp 42) = .bool true := hdep 3 42 (by kernel_rfl) (by kernel_rfl)
        refine ⟨fun _ => ?_, fun hw => absurd (show (match ρ (.tmp 42) with | .bool c => c == true | _ => false) = false from hw) (by rw [gd]; decide)⟩
        clear gd
        have d0 : ρ (.tmp 43) = .slice (some ⟨b, off, none⟩) len cap := hdep 4 43 (by kernel_rfl) (by kernel_rfl)
        simp [go_sem, d0, hcs, m0]
        exact ⟨Below.refl _ _, rfl⟩
      | 6, _, ho, hf, hg, hfr, hdep =>
        simp only [List.getElem?_toArray, List.getElem?_cons_zero, List.getElem?_cons_succ, Option.some.injEq] at ho
        subst ho
        have gd : ρ (.tmp 42) = .bool true := hdep 3 42 (by kernel_rfl) (by kernel_rfl)
        refine ⟨fun _ => ?_, fun hw => absurd (show (match ρ (.tmp 42) with | .bool c => c == true | _ => false) = false from hw) (by rw [gd]; decide)⟩
        clear gd
        have c0 := hC.1
        have d0 : ρ (.tmp 44) = .pointer (some ⟨b, off, none⟩) := hdep 5 44 (by kernel_rfl) (by kernel_rfl)
        simp [go_sem, d0, c0]
        exact ⟨Below.refl _ _, rfl⟩
      | 7, _, ho, hf, hg, hfr, hdep =>
        simp only [List.getElem?_toArray, List.getElem?_cons_zero, List.getElem?_cons_succ, Option.some.injEq] at ho
        subst ho
        have gd : ρ (.tmp 42) = .bool true := hdep 3 42 (by kernel_rfl) (by kernel_rfl)
        refine ⟨fun _ => ?_, fun hw => absurd (show (match ρ (.tmp 42) with | .bool c => c == true | _ => false) = false from hw) (by rw [gd]; decide)⟩
        clear gd
        have ts : ρ (.tmp 1) = .slice (some ⟨b, off, none⟩) len cap := hfr 1 (by kernel_rfl)
        simp [go_sem, ts]
        exact ⟨Below.refl _ _, rfl⟩
      | 8, _, ho, hf, hg, hfr, hdep =>
        simp only [List.getElem?_toArray, List.getElem?_cons_zero, List.getElem?_cons_succ, Option.some.injEq] at ho
        subst ho
        have gd : ρ (.tmp 42) = .bool true := hdep 3 42 (by kernel_rfl) (by kernel_rfl)
        refine ⟨fun _ => ?_, fun hw => absurd (show (match ρ (.tmp 42) with | .bool c => c == true | _ => false) = false from hw) (by rw [gd]; decide)⟩
        clear gd
        have d0 : ρ (.tmp 46) = .slice (some ⟨b, off, none⟩) len cap := hdep 7 46 (by kernel_rfl) (by kernel_rfl)
        simp [go_sem, d0, hcs, l2]
        exact ⟨Below.refl _ _, rfl⟩
      | 9, _, ho, hf, hg, hfr, hdep =>
        simp only [List.getElem?_toArray, List.getElem?_cons_zero, List.getElem?_cons_succ, Option.some.injEq] at ho
        subst ho
        have gd : ρ (.tmp 42) = .bool true := hdep 3 42 (by kernel_rfl) (by kernel_rfl)
        refine ⟨fun _ => ?_, fun hw => absurd (show (match ρ (.tmp 42) with | .bool c => c == true | _ => false) = false from hw) (by rw [gd]; decide)⟩
        clear gd
        have c1 := hC.2
        have d0 : ρ (.tmp 47) = .pointer (some ⟨b, off + 1, none⟩) := hdep 8 47 (by kernel_rfl) (by kernel_rfl)
        simp [go_sem, d0, c1]
        exact ⟨Below.refl _ _, rfl⟩
      | 10, _, ho, hf, hg, hfr, hdep =>
        simp only [List.getElem?_toArray, List.getElem?_cons_zero, List.getElem?_cons_succ, Option.some.injEq] at ho
        subst ho
        have gd : ρ (.tmp 42) = .bool true := hdep 3 42 (by kernel_rfl) (by kernel_rfl)
        refine ⟨fun _ => ?_, fun hw => absurd (show (match ρ (.tmp 42) with | .bool c => c == true | _ => false) = false from hw) (by rw [gd]; decide)⟩
        clear gd
        have d0 : ρ (.tmp 45) = .int .i64 p0 := hdep 6 45 (by kernel_rfl) (by kernel_rfl)
        have d1 : ρ (.tmp 48) = .int .i64 p1 := hdep 9 48 (by kernel_rfl) (by kernel_rfl)
        simp [go_sem, d0, d1, hfs]
        exact ⟨rfl, (woven_any p0 p1 w').mono fun e u h => ⟨_, h.1, by rw [h.2]; exact Below.refl _ _, rfl⟩⟩
      | 11, _, ho, hf, hg, hfr, hdep =>
        simp only [List.getElem?_toArray, List.getElem?_cons_zero, List.getElem?_cons_succ, Option.some.injEq] at ho
        subst ho
        refine ⟨fun _ => ?_, fun hw => absurd (show true = false from hw) (by decide)⟩
        have d0 : ρ (.tmp 42) = .bool true := hdep 3 42 (by kernel_rfl) (by kernel_rfl)
        have d1 : ρ (.tmp 49) = .bool (wovenB p0 p1) := hdep 10 49 (by kernel_rfl) (by kernel_rfl)
        simp [go_sem, d0, d1]
        exact ⟨Below.refl _ _, rfl⟩
      | 12, _, ho, hf, hg, hfr, hdep =>
        simp only [List.getElem?_toArray, List.getElem?_cons_zero, List.getElem?_cons_succ, Option.some.injEq] at ho
        subst ho
        refine ⟨fun _ => ?_, fun hw => absurd (show true = false from hw) (by decide)⟩
        have d0 : ρ (.tmp 50) = .bool (wovenB p0 p1) := hdep 11 50 (by kernel_rfl) (by kernel_rfl)
        simp [go_sem, d0]
        exact ⟨Below.refl _ _, rfl⟩
      | n + 13, _, ho, _, _, _, _ => simp at ho
    · intro d i o ρ w' hm ho h0 hf hg hC hcs hfs hfr hdep
      exact absurd hm (by simp)
    · intro V w9 hC9 hS
      have e12 : V 12 = .bool (wovenB p0 p1) := hS 12 (by decide) (by intro h; cases h)
      simp only [puts, e12]
      simp only [Act.put, List.setIfInBounds_toArray, List.set_cons_zero, List.set_cons_succ]
      clear hS e12
      go_wp2
      go_ret
      exact ⟨by simp, hC9.2.2⟩
  · have l2i : ((len : Int) == 2) = false := by simp; omega
    rw [decide_eq_false h1]
    go_enter Try.func40, Try.ntmps40
    go_wp2
    refine wp_region_gen [] (fun d i u z => match i with
        | 0 => z = .slice a len cap
        | 1 => z = .int .i64 (len : Int)
        | 2 => z = .bool false
        | 3 => z = .bool false
        | 4 => z = undef
        | 5 => z = undef
        | 6 => z = undef
        | 7 => z = undef
        | 8 => z = undef
        | 9 => z = undef
        | 10 => z = undef
        | 11 => z = .bool false
        | 12 => z = .bool false
        | _ => True) (fun _ u => Below w.heap.size w u) (by kernel_rfl) (by kernel_rfl) (by kernel_rfl) ?_ ?_ ?_ ?_ ?_ ?_ (by kernel_rfl)
    · intro d i w v w' h hb
      match i, h with
      | 0, h => exact h
      | 1, h => exact h
      | 2, h => exact h
      | 3, h => exact h
      | 4, h => exact h
      | 5, h => exact h
      | 6, h => exact h
      | 7, h => exact h
      | 8, h => exact h
      | 9, h => exact h
      | 10, h => exact h
      | 11, h => exact h
      | 12, h => exact h
      | _ + 13, _ => trivial
    · intro d u u' h hb
      exact h.trans (hb.mono h.size)
    · exact Below.refl _ _
    · intro d i o ρ w' hm ho hf hg hC hcs hfs hfr hdep
      match i, hm, ho, hf, hg, hfr, hdep with
      | 0, _, ho, hf, hg, hfr, hdep =>
        simp only [List.getElem?_toArray, List.getElem?_cons_zero, Option.some.injEq] at ho
        subst ho
        refine ⟨fun _ => ?_, fun hw => absurd (show true = false from hw) (by decide)⟩
        have ts : ρ (.tmp 1) = .slice a len cap := hfr 1 (by kernel_rfl)
        simp [go_sem, ts]
        exact ⟨Below.refl _ _, rfl⟩
      | 1, _, ho, hf, hg, hfr, hdep =>
        simp only [List.getElem?_toArray, List.getElem?_cons_zero, List.getElem?_cons_succ, Option.some.injEq] at ho
        subst ho
        refine ⟨fun _ => ?_, fun hw => absurd (show true = false from hw) (by decide)⟩
        have d0 : ρ (.tmp 39) = .slice a len cap := hdep 0 39 (by kernel_rfl) (by kernel_rfl)
        simp [go_sem, d0]
        exact ⟨Below.refl _ _, rfl⟩
      | 2, _, ho, hf, hg, hfr, hdep =>
        simp only [List.getElem?_toArray, List.getElem?_cons_zero, List.getElem?_cons_succ, Option.some.injEq] at ho
        subst ho
        refine ⟨fun _ => ?_, fun hw => absurd (show true = false from hw) (by decide)⟩
        have d0 : ρ (.tmp 40) = .int .i64 (len : Int) := hdep 1 40 (by kernel_rfl) (by kernel_rfl)
        simp [go_sem, d0, hcs, l2i]
        exact ⟨Below.refl _ _, rfl⟩
      | 3, _, ho, hf, hg, hfr, hdep =>
        simp only [List.getElem?_toArray, List.getElem?_cons_zero, List.getElem?_cons_succ, Option.some.injEq] at ho
        subst ho
        refine ⟨fun _ => ?_, fun hw => absurd (show true = false from hw) (by decide)⟩
        have d0 : ρ (.tmp 41) = .bool false := hdep 2 41 (by kernel_rfl) (by kernel_rfl)
        simp [go_sem, d0]
        exact ⟨Below.refl _ _, rfl⟩
      | 4, _, ho, hf, hg, hfr, hdep =>
        simp only [List.getElem?_toArray, List.getElem?_cons_zero, List.getElem?_cons_succ, Option.some.injEq] at ho
        subst ho
        have gd : ρ (.tmp 42) = .bool false := hdep 3 42 (by kernel_rfl) (by kernel_rfl)
        exact ⟨fun hw => absurd (show (match ρ (.tmp 42) with | .bool c => c == true | _ => false) = true from hw) (by rw [gd]; decide), fun _ => rfl⟩
      | 5, _, ho, hf, hg, hfr, hdep =>
        simp only [List.getElem?_toArray, List.getElem?_cons_zero, List.getElem?_cons_succ, Option.some.injEq] at ho
        subst ho
        have gd : ρ (.tmp 42) = .bool false := hdep 3 42 (by kernel_rfl) (by kernel_rfl)
        exact ⟨fun hw => absurd (show (match ρ (.tmp 42) with | .bool c => c == true | _ => false) = true from hw) (by rw [gd]; decide), fun _ => rfl⟩
      | 6, _, ho, hf, hg, hfr, hdep =>
        simp only [List.getElem?_toArray, List.getElem?_cons_zero, List.getElem?_cons_succ, Option.some.injEq] at ho
        subst ho
        have gd : ρ (.tmp 42) = .bool false := hdep 3 42 (by kernel_rfl) (by kernel_rfl)
        exact ⟨fun hw => absurd (show (match ρ (.tmp 42) with | .bool c => c == true | _ => false) = true from hw) (by rw [gd]; decide), fun _ => rfl⟩
      | 7, _, ho, hf, hg, hfr, hdep =>
        simp only [List.getElem?_toArray, List.getElem?_cons_zero, List.getElem?_cons_succ, Option.some.injEq] at ho
        subst ho
        have gd : ρ (.tmp 42) = .bool false := hdep 3 42 (by kernel_rfl) (by kernel_rfl)
        exact ⟨fun hw => absurd (show (match ρ (.tmp 42) with | .bool c => c == true | _ => false) = true from hw) (by rw [gd]; decide), fun _ => rfl⟩
      | 8, _, ho, hf, hg, hfr, hdep =>
        simp only [List.getElem?_toArray, List.getElem?_cons_zero, List.getElem?_cons_succ, Option.some.injEq] at ho
        subst ho
        have gd : ρ (.tmp 42) = .bool false := hdep 3 42 (by kernel_rfl) (by kernel_rfl)
        exact ⟨fun hw => absurd (show (match ρ (.tmp 42) with | .bool c => c == true | _ => false) = true from hw) (by rw [gd]; decide), fun _ => rfl⟩
      | 9, _, ho, hf, hg, hfr, hdep =>
        simp only [List.getElem?_toArray, List.getElem?_cons_zero, List.getElem?_cons_succ, Option.some.injEq] at ho
        subst ho
        have gd : ρ (.tmp 42) = .bool false := hdep 3 42 (by kernel_rfl) (by kernel_rfl)
        exact ⟨fun hw => absurd (show (match ρ (.tmp 42) with | .bool c => c == true | _ => false) = true from hw) (by rw [gd]; decide), fun _ => rfl⟩
      | 10, _, ho, hf, hg, hfr, hdep =>
        simp only [List.getElem?_toArray, List.getElem?_cons_zero, List.getElem?_cons_succ, Option.some.injEq] at ho
        subst ho
        have gd : ρ (.tmp 42) = .bool false := hdep 3 42 (by kernel_rfl) (by kernel_rfl)
        exact ⟨fun hw => absurd (show (match ρ (.tmp 42) with | .bool c => c == true | _ => false) = true from hw) (by rw [gd]; decide), fun _ => rfl⟩
      | 11, _, ho, hf, hg, hfr, hdep =>
        simp only [List.getElem?_toArray, List.getElem?_cons_zero, List.getElem?_cons_succ, Option.some.injEq] at ho
        subst ho
        refine ⟨fun _ => ?_, fun hw => absurd (show true = false from hw) (by decide)⟩
        have d0 : ρ (.tmp 42) = .bool false := hdep 3 42 (by kernel_rfl) (by kernel_rfl)
        simp [go_sem, d0, hcs]
        exact ⟨Below.refl _ _, rfl⟩
      | 12, _, ho, hf, hg, hfr, hdep =>
        simp only [List.getElem?_toArray, List.getElem?_cons_zero, List.getElem?_cons_succ, Option.some.injEq] at ho
        subst ho
        refine ⟨fun _ => ?_, fun hw => absurd (show true = false from hw) (by decide)⟩
        have d0 : ρ (.tmp 50) = .bool false := hdep 11 50 (by kernel_rfl) (by kernel_rfl)
        simp [go_sem, d0]
        exact ⟨Below.refl _ _, rfl⟩
      | n + 13, _, ho, _, _, _, _ => simp at ho
    · intro d i o ρ w' hm ho h0 hf hg hC hcs hfs hfr hdep
      exact absurd hm (by simp)
    · intro V w9 hC9 hS
      have e12 : V 12 = .bool false := hS 12 (by decide) (by intro h; cases h)
      simp only [puts, e12]
      simp only [Act.put, List.setIfInBounds_toArray, List.set_cons_zero, List.set_cons_succ]
      clear hS e12
      go_wp2
      go_ret
      exact ⟨rfl, hC9⟩
set_option maxRecDepth 100000 in
set_option maxHeartbeats 1000000 in
theorem right_6 (a : Option Addr) (zs : List Int) (len cap : Nat) (w : World) (hl : zs.length = len) (h : At w a zs) :
    Calls Try.prog 40 #[.int .u8 6, .slice a len cap] w fun e w' => e = .returned (.bool (okS 6 zs)) ∧ Below w.heap.size w w' := by
  have B : Hid (Below w.heap.size w w) := Below.refl _ _
  have e : okS 6 zs = (decide (len = 1) && wB (nth zs 0) 16) := by rw [← hl]; rfl
  rw [e]
  clear e
  by_cases h1 : len = 1
  · have l1 : ((len : Int) == 1) = true := by simp; omega
    rw [decide_eq_true h1]
    rcases h with h0 | ⟨b, off, rfl, hc⟩
    · rw [h0] at hl; simp at hl; omega
    have c0 := hc 0 (by omega)
    rw [Nat.add_zero] at c0
    have l2 : (0 : Int) < (len : Int) := by omega
    clear hc
    generalize nth zs 0 = p0 at *
    go_enter Try.func40, Try.ntmps40
    go_wp2_with (go_at_call 69; (with_reducible refine (within_any _ _ _).mono ?_); rintro e w' ⟨rfl, rfl⟩)
    go_ret
    exact ⟨by simp, B.out⟩
  · have l1 : ((len : Int) == 1) = false := by simp; omega
    rw [decide_eq_false h1]
    go_enter Try.func40, Try.ntmps40
    go_wp2
    go_ret
    exact ⟨rfl, B.out⟩
set_option maxRecDepth 100000 in
set_option maxHeartbeats 1000000 in
theorem right_7 (a : Option Addr) (zs : List Int) (len cap : Nat) (w : World) (hl : zs.length = len) :
    Calls Try.prog 40 #[.int .u8 7, .slice a len cap] w fun e w' => e = .returned (.bool (okS 7 zs)) ∧ Below w.heap.size w w' := by
  have B : Hid (Below w.heap.size w w) := Below.refl _ _
  have e : okS 7 zs = decide (len = 0) := by rw [← hl]; rfl
  rw [e]
  clear e
  by_cases h1 : len = 0
  · have l1 : ((len : Int) == 0) = true := by simp; omega
    rw [decide_eq_true h1]
    go_enter Try.func40, Try.ntmps40
    go_wp2
    go_ret
    exact ⟨by simp, B.out⟩
  · have l1 : ((len : Int) == 0) = false := by simp; omega
    rw [decide_eq_false h1]
    go_enter Try.func40, Try.ntmps40
    go_wp2
    go_ret
    exact ⟨by simp, B.out⟩
set_option maxRecDepth 100000 in
set_option maxHeartbeats 1000000 in
theorem right_8 (a : Option Addr) (zs : List Int) (len cap : Nat) (w : World) (hl : zs.length = len) :
    Calls Try.prog 40 #[.int .u8 8, .slice a len cap] w fun e w' => e = .returned (.bool (okS 8 zs)) ∧ Below w.heap.size w w' := by
  have B : Hid (Below w.heap.size w w) := Below.refl _ _
  have e : okS 8 zs = decide (len = 0) := by rw [← hl]; rfl
  rw [e]
  clear e
  by_cases h1 : len = 0
  · have l1 : ((len : Int) == 0) = true := by simp; omega
    rw [decide_eq_true h1]
    go_enter Try.func40, Try.ntmps40
    go_wp2
    go_ret
    exact ⟨by simp, B.out⟩
  · have l1 : ((len : Int) == 0) = false := by simp; omega
    rw [decide_eq_false h1]
    go_enter Try.func40, Try.ntmps40
    go_wp2
    go_ret
    exact ⟨by simp, B.out⟩
set_option maxRecDepth 100000 in
set_option maxHeartbeats 1000000 in
theorem right_9 (a : Option Addr) (zs : List Int) (len cap : Nat) (w : World) (hl : zs.length = len) (h : At w a zs) :
    Calls Try.prog 40 #[.int .u8 9, .slice a len cap] w fun e w' => e = .returned (.bool (okS 9 zs)) ∧ Below w.heap.size w w' := by
  have B : Hid (Below w.heap.size w w) := Below.refl _ _
  have e : okS 9 zs = (decide (len = 1) && wB (nth zs 0) 16) := by rw [← hl]; rfl
  rw [e]
  clear e
  by_cases h1 : len = 1
  · have l1 : ((len : Int) == 1) = true := by simp; omega
    rw [decide_eq_true h1]
    rcases h with h0 | ⟨b, off, rfl, hc⟩
    · rw [h0] at hl; simp at hl; omega
    have c0 := hc 0 (by omega)
    rw [Nat.add_zero] at c0
    have l2 : (0 : Int) < (len : Int) := by omega
    clear hc
    generalize nth zs 0 = p0 at *
    go_enter Try.func40, Try.ntmps40
    go_wp2_with (go_at_call 69; (with_reducible refine (within_any _ _ _).mono ?_); rintro e w' ⟨rfl, rfl⟩)
    go_ret
    exact ⟨by simp, B.out⟩
  · have l1 : ((len : Int) == 1) = false := by simp; omega
    rw [decide_eq_false h1]
    go_enter Try.func40, Try.ntmps40
    go_wp2
    go_ret
    exact ⟨rfl, B.out⟩
set_option maxRecDepth 100000 in
set_option maxHeartbeats 1000000 in
theorem right_10 (a : Option Addr) (zs : List Int) (len cap : Nat) (w : World) (hl : zs.length = len) :
    Calls Try.prog 40 #[.int .u8 10, .slice a len cap] w fun e w' => e = .returned (.bool (okS 10 zs)) ∧ Below w.heap.size w w' := by
  have B : Hid (Below w.heap.size w w) := Below.refl _ _
  have e : okS 10 zs = decide (len = 2) := by rw [← hl]; rfl
  rw [e]
  clear e
  by_cases h1 : len = 2
  · have l1 : ((len : Int) == 2) = true := by simp; omega
    rw [decide_eq_true h1]
    go_enter Try.func40, Try.ntmps40
    go_wp2
    go_ret
    exact ⟨by simp, B.out⟩
  · have l1 : ((len : Int) == 2) = false := by simp; omega
    rw [decide_eq_false h1]
    go_enter Try.func40, Try.ntmps40
    go_wp2
    go_ret
    exact ⟨by simp, B.out⟩
set_option maxRecDepth 100000 in
set_option maxHeartbeats 1000000 in
theorem right_11 (a : Option Addr) (zs : List Int) (len cap : Nat) (w : World) (hl : zs.length = len) (h : At w a zs) :
    Calls Try.prog 40 #[.int .u8 11, .slice a len cap] w fun e w' => e = .returned (.bool (okS 11 zs)) ∧ Below w.heap.size w w' := by
  have B : Hid (Below w.heap.size w w) := Below.refl _ _
  have e : okS 11 zs = (decide (len = 1) && wB (nth zs 0) 64) := by rw [← hl]; rfl
  rw [e]
  clear e
  by_cases h1 : len = 1
  · have l1 : ((len : Int) == 1) = true := by simp; omega
    rw [decide_eq_true h1]
    rcases h with h0 | ⟨b, off, rfl, hc⟩
    · rw [h0] at hl; simp at hl; omega
    have c0 := hc 0 (by omega)
    rw [Nat.add_zero] at c0
    have l2 : (0 : Int) < (len : Int) := by omega
    clear hc
    generalize nth zs 0 = p0 at *
    go_enter Try.func40, Try.ntmps40
    go_wp2_with (go_at_call 69; (with_reducible refine (within_any _ _ _).mono ?_); rintro e w' ⟨rfl, rfl⟩)
    go_ret
    exact ⟨by simp, B.out⟩
  · have l1 : ((len : Int) == 1) = false := by simp; omega
    rw [decide_eq_false h1]
    go_enter Try.func40, Try.ntmps40
    go_wp2
    go_ret
    exact ⟨rfl, B.out⟩
end Go.Proofs.Ythgblljokonejaa

/- Texts of one chain, laid one behind the other. -/
import Derived.Test.YtdjplmlfcolklaaPartCodeChecks8
namespace Go.Proofs.Ytdjplmlfcolklaa
open Go.ChangeShapes Go.WideShapes Go.ChangeAt Go.RowKit
theorem of_end {w W w1 w2 : World} {B : Nat} {P Q : List Int} {f : Int} {a b : Option Addr} {c1 c2 : Nat} (hW : Below w.heap.size w W) (hB : B = W.heap.size) (h1 : CapR B w1 a c1 P) (hb1 : Below B W w1) (h2 : CapR w1.heap.size w2 b c2 Q) (hb2 : Below w1.heap.size w1 w2) :
    OfEnd w (P, Q, f) (.returned (.tuple #[.slice a P.length c1, .slice b Q.length c2, .int .i64 f])) w2 := by
  obtain ⟨m1, m2, hx, hb⟩ := two_end hB h1 hb1 h2 hb2
  exact ⟨a, c1, b, c2, rfl, m1.mono hW.size, m2.mono hW.size, hx, hW.trans (hb.mono hW.size)⟩
set_option maxRecDepth 100000 in
set_option maxHeartbeats 2000000 in
theorem rof_1 (a : Option Addr) (zs : List Int) (len cap : Nat) (w : World) (HG : Hid (Calls Try.prog 41 #[.int .u8 1, .slice a len cap] w fun e w' => e = .returned (.bool true) ∧ Below w.heap.size w w')) :
    Calls Try.prog 22 #[.int .u8 1, .slice a len cap] w (OfEnd w (insS 1 zs, outsS 1 zs, 0)) := by
  show Calls _ _ _ _ (OfEnd w ([1], [1], 0))
  go_enter Try.func22, Try.ntmps22
  go_wp2_with (first
    | (go_at_call 42; (with_reducible refine (rports_1 1 w1).mono ?_); rintro e w2 ⟨a2, n2, rfl, m2, b2⟩)
    | (go_at_call 42; (with_reducible refine (rports_1 1 w0).mono ?_); rintro e w1 ⟨a1, n1, rfl, m1, b1⟩)
    | (go_at_call 41; ((with_reducible refine HG.out.mono ?_); rintro e w0 ⟨rfl, b0⟩)))
  go_ret3
  exact of_end b0 rfl m1 b1 m2 b2
set_option maxRecDepth 100000 in
set_option maxHeartbeats 2000000 in
theorem rof_8 (a : Option Addr) (zs : List Int) (len cap : Nat) (w : World) (HG : Hid (Calls Try.prog 41 #[.int .u8 8, .slice a len cap] w fun e w' => e = .returned (.bool true) ∧ Below w.heap.size w w')) :
    Calls Try.prog 22 #[.int .u8 8, .slice a len cap] w (OfEnd w (insS 8 zs, outsS 8 zs, 0)) := by
  show Calls _ _ _ _ (OfEnd w ([1], [1], 0))
  go_enter Try.func22, Try.ntmps22
  go_wp2_with (first
    | (go_at_call 42; (with_reducible refine (rports_1 1 w1).mono ?_); rintro e w2 ⟨a2, n2, rfl, m2, b2⟩)
    | (go_at_call 42; (with_reducible refine (rports_1 1 w0).mono ?_); rintro e w1 ⟨a1, n1, rfl, m1, b1⟩)
    | (go_at_call 41; ((with_reducible refine HG.out.mono ?_); rintro e w0 ⟨rfl, b0⟩)))
  go_ret3
  exact of_end b0 rfl m1 b1 m2 b2
set_option maxRecDepth 100000 in
set_option maxHeartbeats 2000000 in
theorem rof_7 (a : Option Addr) (zs : List Int) (len cap : Nat) (w : World) (HG : Hid (Calls Try.prog 41 #[.int .u8 7, .slice a len cap] w fun e w' => e = .returned (.bool true) ∧ Below w.heap.size w w')) :
    Calls Try.prog 22 #[.int .u8 7, .slice a len cap] w (OfEnd w (insS 7 zs, outsS 7 zs, 0)) := by
  show Calls _ _ _ _ (OfEnd w ([1, 1], [1], 0))
  go_enter Try.func22, Try.ntmps22
  go_wp2_with (first
    | (go_at_call 42; (with_reducible refine (rports_1 1 w1).mono ?_); rintro e w2 ⟨a2, n2, rfl, m2, b2⟩)
    | (go_at_call 42; (with_reducible refine (rports_2 1 w0).mono ?_); rintro e w1 ⟨a1, n1, rfl, m1, b1⟩)
    | (go_at_call 41; ((with_reducible refine HG.out.mono ?_); rintro e w0 ⟨rfl, b0⟩)))
  go_ret3
  exact of_end b0 rfl m1 b1 m2 b2
set_option maxRecDepth 100000 in
set_option maxHeartbeats 2000000 in
theorem rof_10 (a : Option Addr) (zs : List Int) (len cap : Nat) (w : World) (HG : Hid (Calls Try.prog 41 #[.int .u8 10, .slice a len cap] w fun e w' => e = .returned (.bool true) ∧ Below w.heap.size w w')) :
    Calls Try.prog 22 #[.int .u8 10, .slice a len cap] w (OfEnd w (insS 10 zs, outsS 10 zs, 0)) := by
  show Calls _ _ _ _ (OfEnd w ([], [1], 0))
  go_enter Try.func22, Try.ntmps22
  go_wp2_with (first
    | (go_at_call 42; (with_reducible refine (rports_1 1 w0).mono ?_); rintro e w1 ⟨a1, n1, rfl, m1, b1⟩)
    | (go_at_call 41; ((with_reducible refine HG.out.mono ?_); rintro e w0 ⟨rfl, b0⟩)))
  go_ret3
  exact ⟨none, 0, a1, n1, rfl, World.ownsRow_nil _ _ _ _, m1.mono b0.size, (fun x y hx => by cases hx), b0.trans (b1.mono b0.size)⟩
set_option maxRecDepth 100000 in
set_option maxHeartbeats 2000000 in
theorem rof_3 (a : Option Addr) (zs : List Int) (len cap : Nat) (w : World) (hl : zs.length = len) (h1 : len = 1) (h : At w a zs) (HG : Hid (Calls Try.prog 41 #[.int .u8 3, .slice a len cap] w fun e w' => e = .returned (.bool true) ∧ Below w.heap.size w w')) :
    Calls Try.prog 22 #[.int .u8 3, .slice a len cap] w (OfEnd w (insS 3 zs, outsS 3 zs, 0)) := by
  show Calls _ _ _ _ (OfEnd w ([nth zs 0], [1], 0))
  rcases h with h0 | ⟨b, off, rfl, hc⟩
  · rw [h0] at hl; simp at hl; omega
  have c0 := hc 0 (by omega)
  rw [Nat.add_zero] at c0
  have m0 : 0 < len := by omega
  have l0 : (0 : Int) < (len : Int) := by omega
  clear hc
  generalize nth zs 0 = p0 at *
  clear h1 hl
  go_enter Try.func22, Try.ntmps22
  go_wp2_with (first
    | (go_at_call 42; (with_reducible refine (rports_1 1 w1).mono ?_); rintro e w2 ⟨a2, n2, rfl, m2, b2⟩)
    | (go_at_call 42; (with_reducible refine (rports_1 p0 w0).mono ?_); rintro e w1 ⟨a1, n1, rfl, m1, b1⟩)
    | (go_at_call 41; ((with_reducible refine HG.out.mono ?_); rintro e w0 ⟨rfl, b0⟩; have d0 := cell_keep6 b0 c0)))
  go_ret3
  exact of_end b0 rfl m1 b1 m2 b2
set_option maxRecDepth 100000 in
set_option maxHeartbeats 2000000 in
theorem rof_11 (a : Option Addr) (zs : List Int) (len cap : Nat) (w : World) (hl : zs.length = len) (h1 : len = 1) (h : At w a zs) (HG : Hid (Calls Try.prog 41 #[.int .u8 11, .slice a len cap] w fun e w' => e = .returned (.bool true) ∧ Below w.heap.size w w')) :
    Calls Try.prog 22 #[.int .u8 11, .slice a len cap] w (OfEnd w (insS 11 zs, outsS 11 zs, 0)) := by
  show Calls _ _ _ _ (OfEnd w ([nth zs 0], [], 0))
  rcases h with h0 | ⟨b, off, rfl, hc⟩
  · rw [h0] at hl; simp at hl; omega
  have c0 := hc 0 (by omega)
  rw [Nat.add_zero] at c0
  have m0 : 0 < len := by omega
  have l0 : (0 : Int) < (len : Int) := by omega
  clear hc
  generalize nth zs 0 = p0 at *
  clear h1 hl
  go_enter Try.func22, Try.ntmps22
  go_wp2_with (first
    | (go_at_call 42; (with_reducible refine (rports_1 p0 w0).mono ?_); rintro e w1 ⟨a1, n1, rfl, m1, b1⟩)
    | (go_at_call 41; ((with_reducible refine HG.out.mono ?_); rintro e w0 ⟨rfl, b0⟩; have d0 := cell_keep6 b0 c0)))
  go_ret3
  exact ⟨a1, n1, none, 0, rfl, m1.mono b0.size, World.ownsRow_nil _ _ _ _, (fun x y _ hy => by cases hy), b0.trans (b1.mono b0.size)⟩
set_option maxRecDepth 100000 in
set_option maxHeartbeats 2000000 in
theorem rof_6 (a : Option Addr) (zs : List Int) (len cap : Nat) (w : World) (hl : zs.length = len) (h1 : len = 1) (h : At w a zs) (hw : 1 ≤ nth zs 0 ∧ nth zs 0 ≤ 16) (HG : Hid (Calls Try.prog 41 #[.int .u8 6, .slice a len cap] w fun e w' => e = .returned (.bool true) ∧ Below w.heap.size w w')) :
    Calls Try.prog 22 #[.int .u8 6, .slice a len cap] w (OfEnd w (insS 6 zs, outsS 6 zs, 0)) := by
  show Calls _ _ _ _ (OfEnd w ((rep (nth zs 0) 1), [1], 0))
  rcases h with h0 | ⟨b, off, rfl, hc⟩
  · rw [h0] at hl; simp at hl; omega
  have c0 := hc 0 (by omega)
  rw [Nat.add_zero] at c0
  have m0 : 0 < len := by omega
  have l0 : (0 : Int) < (len : Int) := by omega
  clear hc
  generalize nth zs 0 = p0 at *
  clear h1 hl
  go_enter Try.func22, Try.ntmps22
  go_wp2_with (first
    | (go_at_call 42; (with_reducible refine (rports_1 1 w1).mono ?_); rintro e w2 ⟨a2, n2, rfl, m2, b2⟩)
    | (go_at_call 42; (with_reducible refine (rports_rep p0 1 w0 hw).mono ?_); rintro e w1 ⟨a1, n1, rfl, m1, b1⟩)
    | (go_at_call 41; ((with_reducible refine HG.out.mono ?_); rintro e w0 ⟨rfl, b0⟩; have d0 := cell_keep6 b0 c0)))
  go_ret3
  exact of_end b0 rfl m1 b1 m2 b2
set_option maxRecDepth 100000 in
set_option maxHeartbeats 2000000 in
theorem rof_2 (a : Option Addr) (zs : List Int) (len cap : Nat) (w : World) (hl : zs.length = len) (h1 : len = 1) (h : At w a zs) (HG : Hid (Calls Try.prog 41 #[.int .u8 2, .slice a len cap] w fun e w' => e = .returned (.bool true) ∧ Below w.heap.size w w')) :
    Calls Try.prog 22 #[.int .u8 2, .slice a len cap] w (OfEnd w (insS 2 zs, outsS 2 zs, 0)) := by
  show Calls _ _ _ _ (OfEnd w ([1], [nth zs 0], 0))
  rcases h with h0 | ⟨b, off, rfl, hc⟩
  · rw [h0] at hl; simp at hl; omega
  have c0 := hc 0 (by omega)
  rw [Nat.add_zero] at c0
  have m0 : 0 < len := by omega
  have l0 : (0 : Int) < (len : Int) := by omega
  clear hc
  generalize nth zs 0 = p0 at *
  clear h1 hl
  go_enter Try.func22, Try.ntmps22
  go_wp2_with (go_at_call 41; ((with_reducible refine HG.out.mono ?_); rintro e w0 ⟨rfl, b0⟩; have d0 := cell_keep6 b0 c0))
  refine wp_region_said 4 (fun i u v => match i with
      | 0 => Mk w0.heap.size u [1] v
      | 1 => v = .slice (some ⟨b, off, none⟩) len cap
      | 2 => v = .pointer (some ⟨b, off, none⟩)
      | 3 => v = .int .i64 p0
      | _ => True) (by kernel_rfl) (by kernel_rfl) (by kernel_rfl) (by kernel_rfl) ?_ ?_ ?_
  · intro i w v w' h hb
    match i, h with
    | 0, h => exact Mk.later h hb
    | 1, h => exact h
    | 2, h => exact h
    | 3, h => exact h
    | _ + 4, _ => trivial
  · intro i o ρ w' hi ho hb hc hf hfr hdep
    have k0 := cell_keep6 hb d0
    match i, hi with
    | 0, _ =>
      simp only [gTA, gCZ, gSI] at ho
      subst ho
      simp [go_sem, hf, hc]
      exact ⟨rfl, said_of (rports_1 1 w') hb.size⟩
    | 1, _ =>
      simp only [gTA, gCZ, gCS, gSI] at ho
      subst ho
      have ts : ρ (.tmp 1) = .slice (some ⟨b, off, none⟩) len cap := hfr 1 (by kernel_rfl)
      simp [go_sem, ts]
      exact ⟨Below.refl _ _, rfl⟩
    | 2, _ =>
      simp only [gTA, gCZ, gCS, gSI] at ho
      subst ho
      have ts : ρ (.tmp 21) = .slice (some ⟨b, off, none⟩) len cap := hdep 1 21 (by kernel_rfl) (by kernel_rfl)
      simp [go_sem, ts, hc, m0]
      exact ⟨Below.refl _ _, rfl⟩
    | 3, _ =>
      simp only [gTA, gCZ, gCS, gSI] at ho
      subst ho
      have ts : ρ (.tmp 22) = .pointer (some ⟨b, off, none⟩) := hdep 2 22 (by kernel_rfl) (by kernel_rfl)
      simp [go_sem, ts, k0]
      exact ⟨Below.refl _ _, rfl⟩
  · intro V w9 q9 hS
    obtain ⟨a0, n0, e0, M0⟩ : Mk w0.heap.size w9 [1] (V 0) := hS 0 (by decide)
    have e1 : V 1 = .slice (some ⟨b, off, none⟩) len cap := hS 1 (by decide)
    have e2 : V 2 = .pointer (some ⟨b, off, none⟩) := hS 2 (by decide)
    have e3 : V 3 = .int .i64 p0 := hS 3 (by decide)
    simp only [List.drop_succ_cons, List.drop_zero, List.take_succ_cons, List.take_zero, puts, e0, e1, e2, e3]
    clear hS e0 e1 e2 e3 V
    go_wp2_with (go_at_call 42; (with_reducible refine (rports_1 p0 w9).mono ?_); rintro e w2 ⟨a2, n2, rfl, m2, b2⟩)
    go_ret3
    exact of_end b0 rfl M0 q9 m2 b2
set_option maxRecDepth 100000 in
set_option maxHeartbeats 2000000 in
theorem rof_9 (a : Option Addr) (zs : List Int) (len cap : Nat) (w : World) (hl : zs.length = len) (h1 : len = 1) (h : At w a zs) (hw : 1 ≤ nth zs 0 ∧ nth zs 0 ≤ 16) (HG : Hid (Calls Try.prog 41 #[.int .u8 9, .slice a len cap] w fun e w' => e = .returned (.bool true) ∧ Below w.heap.size w w')) :
    Calls Try.prog 22 #[.int .u8 9, .slice a len cap] w (OfEnd w (insS 9 zs, outsS 9 zs, 0)) := by
  show Calls _ _ _ _ (OfEnd w ([1], (rep (nth zs 0) 1), 0))
  rcases h with h0 | ⟨b, off, rfl, hc⟩
  · rw [h0] at hl; simp at hl; omega
  have c0 := hc 0 (by omega)
  rw [Nat.add_zero] at c0
  have m0 : 0 < len := by omega
  have l0 : (0 : Int) < (len : Int) := by omega
  clear hc
  generalize nth zs 0 = p0 at *
  clear h1 hl
  go_enter Try.func22, Try.ntmps22
  go_wp2_with (go_at_call 41; ((with_reducible refine HG.out.mono ?_); rintro e w0 ⟨rfl, b0⟩; have d0 := cell_keep6 b0 c0))
  refine wp_region_said 4 (fun i u v => match i with
      | 0 => Mk w0.heap.size u [1] v
      | 1 => v = .slice (some ⟨b, off, none⟩) len cap
      | 2 => v = .pointer (some ⟨b, off, none⟩)
      | 3 => v = .int .i64 p0
      | _ => True) (by kernel_rfl) (by kernel_rfl) (by kernel_rfl) (by kernel_rfl) ?_ ?_ ?_
  · intro i w v w' h hb
    match i, h with
    | 0, h => exact Mk.later h hb
    | 1, h => exact h
    | 2, h => exact h
    | 3, h => exact h
    | _ + 4, _ => trivial
  · intro i o ρ w' hi ho hb hc hf hfr hdep
    have k0 := cell_keep6 hb d0
    match i, hi with
    | 0, _ =>
      simp only [gTA, gCZ, gSI] at ho
      subst ho
      simp [go_sem, hf, hc]
      exact ⟨rfl, said_of (rports_1 1 w') hb.size⟩
    | 1, _ =>
      simp only [gTA, gCZ, gCS, gSI] at ho
      subst ho
      have ts : ρ (.tmp 1) = .slice (some ⟨b, off, none⟩) len cap := hfr 1 (by kernel_rfl)
      simp [go_sem, ts]
      exact ⟨Below.refl _ _, rfl⟩
    | 2, _ =>
      simp only [gTA, gCZ, gCS, gSI] at ho
      subst ho
      have ts : ρ (.tmp 80) = .slice (some ⟨b, off, none⟩) len cap := hdep 1 80 (by kernel_rfl) (by kernel_rfl)
      simp [go_sem, ts, hc, m0]
      exact ⟨Below.refl _ _, rfl⟩
    | 3, _ =>
      simp only [gTA, gCZ, gCS, gSI] at ho
      subst ho
      have ts : ρ (.tmp 81) = .pointer (some ⟨b, off, none⟩) := hdep 2 81 (by kernel_rfl) (by kernel_rfl)
      simp [go_sem, ts, k0]
      exact ⟨Below.refl _ _, rfl⟩
  · intro V w9 q9 hS
    obtain ⟨a0, n0, e0, M0⟩ : Mk w0.heap.size w9 [1] (V 0) := hS 0 (by decide)
    have e1 : V 1 = .slice (some ⟨b, off, none⟩) len cap := hS 1 (by decide)
    have e2 : V 2 = .pointer (some ⟨b, off, none⟩) := hS 2 (by decide)
    have e3 : V 3 = .int .i64 p0 := hS 3 (by decide)
    simp only [List.drop_succ_cons, List.drop_zero, List.take_succ_cons, List.take_zero, puts, e0, e1, e2, e3]
    clear hS e0 e1 e2 e3 V
    go_wp2_with (go_at_call 42; (with_reducible refine (rports_rep p0 1 w9 hw).mono ?_); rintro e w2 ⟨a2, n2, rfl, m2, b2⟩)
    go_ret3
    exact of_end b0 rfl M0 q9 m2 b2
set_option maxRecDepth 100000 in
set_option maxHeartbeats 2000000 in
theorem rof_4 (a : Option Addr) (zs : List Int) (len cap : Nat) (w : World) (hl : zs.length = len) (h1 : len = 2) (h : At w a zs) (hw : (1 ≤ nth zs 0 ∧ nth zs 0 ≤ 16) ∧ (1 ≤ nth zs 1 ∧ nth zs 1 ≤ 64)) (HG : Hid (Calls Try.prog 41 #[.int .u8 4, .slice a len cap] w fun e w' => e = .returned (.bool true) ∧ Below w.heap.size w w')) :
    Calls Try.prog 22 #[.int .u8 4, .slice a len cap] w (OfEnd w (insS 4 zs, outsS 4 zs, 0)) := by
  show Calls _ _ _ _ (OfEnd w ((rep (nth zs 0) (nth zs 1)), [nth zs 0 * nth zs 1], 0))
  rcases h with h0 | ⟨b, off, rfl, hc⟩
  · rw [h0] at hl; simp at hl; omega
  have c0 := hc 0 (by omega)
  rw [Nat.add_zero] at c0
  have m0 : 0 < len := by omega
  have l0 : (0 : Int) < (len : Int) := by omega
  have c1 := hc 1 (by omega)
  have l2 : (1 : Int) < (len : Int) := by omega
  clear hc
  generalize nth zs 0 = p0 at *
  generalize nth zs 1 = p1 at *
  have hmb := mul_bound hw.1 hw.2
  have hmul : IntKind.i64.wrap (p0 * p1) = p0 * p1 := wrap_id (by omega) (by omega)
  clear h1 hl
  go_enter Try.func22, Try.ntmps22
  go_wp2_with (go_at_call 41; ((with_reducible refine HG.out.mono ?_); rintro e w0 ⟨rfl, b0⟩; have d0 := cell_keep6 b0 c0; have d1 := cell_keep6 b0 c1))
  refine wp_region_said 14 (fun i u v => match i with
      | 0 => v = .slice (some ⟨b, off, none⟩) len cap
      | 1 => v = .pointer (some ⟨b, off, none⟩)
      | 2 => v = .int .i64 p0
      | 3 => v = .slice (some ⟨b, off, none⟩) len cap
      | 4 => v = .pointer (some ⟨b, off + 1, none⟩)
      | 5 => v = .int .i64 p1
      | 6 => Mk w0.heap.size u (rep p0 p1) v
      | 7 => v = .slice (some ⟨b, off, none⟩) len cap
      | 8 => v = .pointer (some ⟨b, off, none⟩)
      | 9 => v = .int .i64 p0
      | 10 => v = .slice (some ⟨b, off, none⟩) len cap
      | 11 => v = .pointer (some ⟨b, off + 1, none⟩)
      | 12 => v = .int .i64 p1
      | 13 => v = .int .i64 (p0 * p1)
      | _ => True) (by kernel_rfl) (by kernel_rfl) (by kernel_rfl) (by kernel_rfl) ?_ ?_ ?_
  · intro i w v w' h hb
    match i, h with
    | 0, h => exact h
    | 1, h => exact h
    | 2, h => exact h
    | 3, h => exact h
    | 4, h => exact h
    | 5, h => exact h
    | 6, h => exact Mk.later h hb
    | 7, h => exact h
    | 8, h => exact h
    | 9, h => exact h
    | 10, h => exact h
    | 11, h => exact h
    | 12, h => exact h
    | 13, h => exact h
    | _ + 14, _ => trivial
  · intro i o ρ w' hi ho hb hc hf hfr hdep
    have k0 := cell_keep6 hb d0
    have k1 := cell_keep6 hb d1
    match i, hi with
    | 0, _ =>
      simp only [gTA, gCZ, gSI] at ho
      subst ho
      have ts : ρ (.tmp 1) = .slice (some ⟨b, off, none⟩) len cap := hfr 1 (by kernel_rfl)
      simp [go_sem, ts]
      exact ⟨Below.refl _ _, rfl⟩
    | 1, _ =>
      simp only [gTA, gCZ, gCS, gSI] at ho
      subst ho
      have ts : ρ (.tmp 34) = .slice (some ⟨b, off, none⟩) len cap := hdep 0 34 (by kernel_rfl) (by kernel_rfl)
      simp [go_sem, ts, hc, m0]
      exact ⟨Below.refl _ _, rfl⟩
    | 2, _ =>
      simp only [gTA, gCZ, gCS, gSI] at ho
      subst ho
      have ts : ρ (.tmp 35) = .pointer (some ⟨b, off, none⟩) := hdep 1 35 (by kernel_rfl) (by kernel_rfl)
      simp [go_sem, ts, k0]
      exact ⟨Below.refl _ _, rfl⟩
    | 3, _ =>
      simp only [gTA, gCZ, gCS, gSI] at ho
      subst ho
      have ts : ρ (.tmp 1) = .slice (some ⟨b, off, none⟩) len cap := hfr 1 (by kernel_rfl)
      simp [go_sem, ts]
      exact ⟨Below.refl _ _, rfl⟩
    | 4, _ =>
      simp only [gTA, gCZ, gCS, gSI] at ho
      subst ho
      have ts : ρ (.tmp 37) = .slice (some ⟨b, off, none⟩) len cap := hdep 3 37 (by kernel_rfl) (by kernel_rfl)
      simp [go_sem, ts, hc, l2]
      exact ⟨Below.refl _ _, rfl⟩
    | 5, _ =>
      simp only [gTA, gCZ, gCS, gSI] at ho
      subst ho
      have ts : ρ (.tmp 38) = .pointer (some ⟨b, off + 1, none⟩) := hdep 4 38 (by kernel_rfl) (by kernel_rfl)
      simp [go_sem, ts, k1]
      exact ⟨Below.refl _ _, rfl⟩
    | 6, _ =>
      simp only [gTA, gCZ, gCS, gSI] at ho
      subst ho
      have t1 : ρ (.tmp 36) = .int .i64 p0 := hdep 2 36 (by kernel_rfl) (by kernel_rfl)
      have t2 : ρ (.tmp 39) = .int .i64 p1 := hdep 5 39 (by kernel_rfl) (by kernel_rfl)
      simp [go_sem, hf, t1, t2]
      exact ⟨rfl, said_of (rports_rep p0 p1 w' hw.1) hb.size⟩
    | 7, _ =>
      simp only [gTA, gCZ, gCS, gSI] at ho
      subst ho
      have ts : ρ (.tmp 1) = .slice (some ⟨b, off, none⟩) len cap := hfr 1 (by kernel_rfl)
      simp [go_sem, ts]
      exact ⟨Below.refl _ _, rfl⟩
    | 8, _ =>
      simp only [gTA, gCZ, gCS, gSI] at ho
      subst ho
      have ts : ρ (.tmp 41) = .slice (some ⟨b, off, none⟩) len cap := hdep 7 41 (by kernel_rfl) (by kernel_rfl)
      simp [go_sem, ts, hc, m0]
      exact ⟨Below.refl _ _, rfl⟩
    | 9, _ =>
      simp only [gTA, gCZ, gCS, gSI] at ho
      subst ho
      have ts : ρ (.tmp 42) = .pointer (some ⟨b, off, none⟩) := hdep 8 42 (by kernel_rfl) (by kernel_rfl)
      simp [go_sem, ts, k0]
      exact ⟨Below.refl _ _, rfl⟩
    | 10, _ =>
      simp only [gTA, gCZ, gCS, gSI] at ho
      subst ho
      have ts : ρ (.tmp 1) = .slice (some ⟨b, off, none⟩) len cap := hfr 1 (by kernel_rfl)
      simp [go_sem, ts]
      exact ⟨Below.refl _ _, rfl⟩
    | 11, _ =>
      simp only [gTA, gCZ, gCS, gSI] at ho
      subst ho
      have ts : ρ (.tmp 44) = .slice (some ⟨b, off, none⟩) len cap := hdep 10 44 (by kernel_rfl) (by kernel_rfl)
      simp [go_sem, ts, hc, l2]
      exact ⟨Below.refl _ _, rfl⟩
    | 12, _ =>
      simp only [gTA, gCZ, gCS, gSI] at ho
      subst ho
      have ts : ρ (.tmp 45) = .pointer (some ⟨b, off + 1, none⟩) := hdep 11 45 (by kernel_rfl) (by kernel_rfl)
      simp [go_sem, ts, k1]
      exact ⟨Below.refl _ _, rfl⟩
    | 13, _ =>
      simp only [gTA, gCZ, gCS, gSI] at ho
      subst ho
      have t1 : ρ (.tmp 43) = .int .i64 p0 := hdep 9 43 (by kernel_rfl) (by kernel_rfl)
      have t2 : ρ (.tmp 46) = .int .i64 p1 := hdep 12 46 (by kernel_rfl) (by kernel_rfl)
      simp [go_sem, t1, t2]
      exact ⟨Below.refl _ _, by rw [hmul]⟩
  · intro V w9 q9 hS
    have e0 : V 0 = .slice (some ⟨b, off, none⟩) len cap := hS 0 (by decide)
    have e1 : V 1 = .pointer (some ⟨b, off, none⟩) := hS 1 (by decide)
    have e2 : V 2 = .int .i64 p0 := hS 2 (by decide)
    have e3 : V 3 = .slice (some ⟨b, off, none⟩) len cap := hS 3 (by decide)
    have e4 : V 4 = .pointer (some ⟨b, off + 1, none⟩) := hS 4 (by decide)
    have e5 : V 5 = .int .i64 p1 := hS 5 (by decide)
    obtain ⟨a6, n6, e6, M6⟩ : Mk w0.heap.size w9 (rep p0 p1) (V 6) := hS 6 (by decide)
    have e7 : V 7 = .slice (some ⟨b, off, none⟩) len cap := hS 7 (by decide)
    have e8 : V 8 = .pointer (some ⟨b, off, none⟩) := hS 8 (by decide)
    have e9 : V 9 = .int .i64 p0 := hS 9 (by decide)
    have e10 : V 10 = .slice (some ⟨b, off, none⟩) len cap := hS 10 (by decide)
    have e11 : V 11 = .pointer (some ⟨b, off + 1, none⟩) := hS 11 (by decide)
    have e12 : V 12 = .int .i64 p1 := hS 12 (by decide)
    have e13 : V 13 = .int .i64 (p0 * p1) := hS 13 (by decide)
    simp only [List.drop_succ_cons, List.drop_zero, List.take_succ_cons, List.take_zero, puts, e0, e1, e2, e3, e4, e5, e6, e7, e8, e9, e10, e11, e12, e13]
    clear hS e0 e1 e2 e3 e4 e5 e6 e7 e8 e9 e10 e11 e12 e13 V
    go_wp2_with (go_at_call 42; (with_reducible refine (rports_1 (p0 * p1) w9).mono ?_); rintro e w2 ⟨a2, n2, rfl, m2, b2⟩)
    go_ret3
    exact of_end b0 rfl M6 q9 m2 b2
set_option maxRecDepth 100000 in
set_option maxHeartbeats 2000000 in
theorem rof_5 (a : Option Addr) (zs : List Int) (len cap : Nat) (w : World) (hl : zs.length = len) (h1 : len = 2) (h : At w a zs) (hw : (1 ≤ nth zs 0 ∧ nth zs 0 ≤ 16) ∧ (1 ≤ nth zs 1 ∧ nth zs 1 ≤ 64)) (HG : Hid (Calls Try.prog 41 #[.int .u8 5, .slice a len cap] w fun e w' => e = .returned (.bool true) ∧ Below w.heap.size w w')) :
    Calls Try.prog 22 #[.int .u8 5, .slice a len cap] w (OfEnd w (insS 5 zs, outsS 5 zs, 0)) := by
  show Calls _ _ _ _ (OfEnd w ([nth zs 0 * nth zs 1], (rep (nth zs 0) (nth zs 1)), 0))
  rcases h with h0 | ⟨b, off, rfl, hc⟩
  · rw [h0] at hl; simp at hl; omega
  have c0 := hc 0 (by omega)
  rw [Nat.add_zero] at c0
  have m0 : 0 < len := by omega
  have l0 : (0 : Int) < (len : Int) := by omega
  have c1 := hc 1 (by omega)
  have l2 : (1 : Int) < (len : Int) := by omega
  clear hc
  generalize nth zs 0 = p0 at *
  generalize nth zs 1 = p1 at *
  have hmb := mul_bound hw.1 hw.2
  have hmul : IntKind.i64.wrap (p0 * p1) = p0 * p1 := wrap_id (by omega) (by omega)
  clear h1 hl
  go_enter Try.func22, Try.ntmps22
  go_wp2_with (go_at_call 41; ((with_reducible refine HG.out.mono ?_); rintro e w0 ⟨rfl, b0⟩; have d0 := cell_keep6 b0 c0; have d1 := cell_keep6 b0 c1))
  refine wp_region_said 14 (fun i u v => match i with
      | 0 => v = .slice (some ⟨b, off, none⟩) len cap
      | 1 => v = .pointer (some ⟨b, off, none⟩)
      | 2 => v = .int .i64 p0
      | 3 => v = .slice (some ⟨b, off, none⟩) len cap
      | 4 => v = .pointer (some ⟨b, off + 1, none⟩)
      | 5 => v = .int .i64 p1
      | 6 => v = .int .i64 (p0 * p1)
      | 7 => Mk w0.heap.size u [p0 * p1] v
      | 8 => v = .slice (some ⟨b, off, none⟩) len cap
      | 9 => v = .pointer (some ⟨b, off, none⟩)
      | 10 => v = .int .i64 p0
      | 11 => v = .slice (some ⟨b, off, none⟩) len cap
      | 12 => v = .pointer (some ⟨b, off + 1, none⟩)
      | 13 => v = .int .i64 p1
      | _ => True) (by kernel_rfl) (by kernel_rfl) (by kernel_rfl) (by kernel_rfl) ?_ ?_ ?_
  · intro i w v w' h hb
    match i, h with
    | 0, h => exact h
    | 1, h => exact h
    | 2, h => exact h
    | 3, h => exact h
    | 4, h => exact h
    | 5, h => exact h
    | 6, h => exact h
    | 7, h => exact Mk.later h hb
    | 8, h => exact h
    | 9, h => exact h
    | 10, h => exact h
    | 11, h => exact h
    | 12, h => exact h
    | 13, h => exact h
    | _ + 14, _ => trivial
  · intro i o ρ w' hi ho hb hc hf hfr hdep
    have k0 := cell_keep6 hb d0
    have k1 := cell_keep6 hb d1
    match i, hi with
    | 0, _ =>
      simp only [gTA, gCZ, gSI] at ho
      subst ho
      have ts : ρ (.tmp 1) = .slice (some ⟨b, off, none⟩) len cap := hfr 1 (by kernel_rfl)
      simp [go_sem, ts]
      exact ⟨Below.refl _ _, rfl⟩
    | 1, _ =>
      simp only [gTA, gCZ, gCS, gSI] at ho
      subst ho
      have ts : ρ (.tmp 51) = .slice (some ⟨b, off, none⟩) len cap := hdep 0 51 (by kernel_rfl) (by kernel_rfl)
      simp [go_sem, ts, hc, m0]
      exact ⟨Below.refl _ _, rfl⟩
    | 2, _ =>
      simp only [gTA, gCZ, gCS, gSI] at ho
      subst ho
      have ts : ρ (.tmp 52) = .pointer (some ⟨b, off, none⟩) := hdep 1 52 (by kernel_rfl) (by kernel_rfl)
      simp [go_sem, ts, k0]
      exact ⟨Below.refl _ _, rfl⟩
    | 3, _ =>
      simp only [gTA, gCZ, gCS, gSI] at ho
      subst ho
      have ts : ρ (.tmp 1) = .slice (some ⟨b, off, none⟩) len cap := hfr 1 (by kernel_rfl)
      simp [go_sem, ts]
      exact ⟨Below.refl _ _, rfl⟩
    | 4, _ =>
      simp only [gTA, gCZ, gCS, gSI] at ho
      subst ho
      have ts : ρ (.tmp 54) = .slice (some ⟨b, off, none⟩) len cap := hdep 3 54 (by kernel_rfl) (by kernel_rfl)
      simp [go_sem, ts, hc, l2]
      exact ⟨Below.refl _ _, rfl⟩
    | 5, _ =>
      simp only [gTA, gCZ, gCS, gSI] at ho
      subst ho
      have ts : ρ (.tmp 55) = .pointer (some ⟨b, off + 1, none⟩) := hdep 4 55 (by kernel_rfl) (by kernel_rfl)
      simp [go_sem, ts, k1]
      exact ⟨Below.refl _ _, rfl⟩
    | 6, _ =>
      simp only [gTA, gCZ, gCS, gSI] at ho
      subst ho
      have t1 : ρ (.tmp 53) = .int .i64 p0 := hdep 2 53 (by kernel_rfl) (by kernel_rfl)
      have t2 : ρ (.tmp 56) = .int .i64 p1 := hdep 5 56 (by kernel_rfl) (by kernel_rfl)
      simp [go_sem, t1, t2]
      exact ⟨Below.refl _ _, by rw [hmul]⟩
    | 7, _ =>
      simp only [gTA, gCZ, gCS, gSI] at ho
      subst ho
      have t1 : ρ (.tmp 57) = .int .i64 (p0 * p1) := hdep 6 57 (by kernel_rfl) (by kernel_rfl)
      simp [go_sem, hf, t1, hc]
      exact ⟨rfl, said_of (rports_1 (p0 * p1) w') hb.size⟩
    | 8, _ =>
      simp only [gTA, gCZ, gCS, gSI] at ho
      subst ho
      have ts : ρ (.tmp 1) = .slice (some ⟨b, off, none⟩) len cap := hfr 1 (by kernel_rfl)
      simp [go_sem, ts]
      exact ⟨Below.refl _ _, rfl⟩
    | 9, _ =>
      simp only [gTA, gCZ, gCS, gSI] at ho
      subst ho
      have ts : ρ (.tmp 59) = .slice (some ⟨b, off, none⟩) len cap := hdep 8 59 (by kernel_rfl) (by kernel_rfl)
      simp [go_sem, ts, hc, m0]
      exact ⟨Below.refl _ _, rfl⟩
    | 10, _ =>
      simp only [gTA, gCZ, gCS, gSI] at ho
      subst ho
      have ts : ρ (.tmp 60) = .pointer (some ⟨b, off, none⟩) := hdep 9 60 (by kernel_rfl) (by kernel_rfl)
      simp [go_sem, ts, k0]
      exact ⟨Below.refl _ _, rfl⟩
    | 11, _ =>
      simp only [gTA, gCZ, gCS, gSI] at ho
      subst ho
      have ts : ρ (.tmp 1) = .slice (some ⟨b, off, none⟩) len cap := hfr 1 (by kernel_rfl)
      simp [go_sem, ts]
      exact ⟨Below.refl _ _, rfl⟩
    | 12, _ =>
      simp only [gTA, gCZ, gCS, gSI] at ho
      subst ho
      have ts : ρ (.tmp 62) = .slice (some ⟨b, off, none⟩) len cap := hdep 11 62 (by kernel_rfl) (by kernel_rfl)
      simp [go_sem, ts, hc, l2]
      exact ⟨Below.refl _ _, rfl⟩
    | 13, _ =>
      simp only [gTA, gCZ, gCS, gSI] at ho
      subst ho
      have ts : ρ (.tmp 63) = .pointer (some ⟨b, off + 1, none⟩) := hdep 12 63 (by kernel_rfl) (by kernel_rfl)
      simp [go_sem, ts, k1]
      exact ⟨Below.refl _ _, rfl⟩
  · intro V w9 q9 hS
    have e0 : V 0 = .slice (some ⟨b, off, none⟩) len cap := hS 0 (by decide)
    have e1 : V 1 = .pointer (some ⟨b, off, none⟩) := hS 1 (by decide)
    have e2 : V 2 = .int .i64 p0 := hS 2 (by decide)
    have e3 : V 3 = .slice (some ⟨b, off, none⟩) len cap := hS 3 (by decide)
    have e4 : V 4 = .pointer (some ⟨b, off + 1, none⟩) := hS 4 (by decide)
    have e5 : V 5 = .int .i64 p1 := hS 5 (by decide)
    have e6 : V 6 = .int .i64 (p0 * p1) := hS 6 (by decide)
    obtain ⟨a7, n7, e7, M7⟩ : Mk w0.heap.size w9 [p0 * p1] (V 7) := hS 7 (by decide)
    have e8 : V 8 = .slice (some ⟨b, off, none⟩) len cap := hS 8 (by decide)
    have e9 : V 9 = .pointer (some ⟨b, off, none⟩) := hS 9 (by decide)
    have e10 : V 10 = .int .i64 p0 := hS 10 (by decide)
    have e11 : V 11 = .slice (some ⟨b, off, none⟩) len cap := hS 11 (by decide)
    have e12 : V 12 = .pointer (some ⟨b, off + 1, none⟩) := hS 12 (by decide)
    have e13 : V 13 = .int .i64 p1 := hS 13 (by decide)
    simp only [List.drop_succ_cons, List.drop_zero, List.take_succ_cons, List.take_zero, puts, e0, e1, e2, e3, e4, e5, e6, e7, e8, e9, e10, e11, e12, e13]
    clear hS e0 e1 e2 e3 e4 e5 e6 e7 e8 e9 e10 e11 e12 e13 V
    go_wp2_with (go_at_call 42; (with_reducible refine (rports_rep p0 p1 w9 hw.1).mono ?_); rintro e w2 ⟨a2, n2, rfl, m2, b2⟩)
    go_ret3
    exact of_end b0 rfl M7 q9 m2 b2
theorem rof_ok (t : Nat) (ht : 1 ≤ t ∧ t ≤ 11) (a : Option Addr) (zs : List Int) (len cap : Nat) (w : World) (hl : zs.length = len) (h : At w a zs) (hk : okS t zs = true) :
    Calls Try.prog 22 #[.int .u8 (t : Int), .slice a len cap] w (OfEnd w (insS t zs, outsS t zs, 0)) := by
  have HG := good_any t ht a zs len cap w hl h
  rw [hk] at HG
  revert HG
  revert hk
  revert t
  exact eleven (fun _ g => rof_1 a zs len cap w g) (fun k g => rof_2 a zs len cap w hl (ok_one hl k).1 h g) (fun k g => rof_3 a zs len cap w hl (ok_one hl k).1 h g) (fun k g => rof_4 a zs len cap w hl (ok_two hl k).1 h (ok_two hl k).2 g) (fun k g => rof_5 a zs len cap w hl (ok_two hl k).1 h (ok_two hl k).2 g)
    (fun k g => rof_6 a zs len cap w hl (ok_one hl k).1 h (ok_one hl k).2 g) (fun _ g => rof_7 a zs len cap w g) (fun _ g => rof_8 a zs len cap w g) (fun k g => rof_9 a zs len cap w hl (ok_one hl k).1 h (ok_one hl k).2 g) (fun _ g => rof_10 a zs len cap w g) (fun k g => rof_11 a zs len cap w hl (ok_one hl k).1 h g)
set_option maxRecDepth 100000 in
set_option maxHeartbeats 1000000 in
theorem rof_any (t : Nat) (a : Option Addr) (zs : List Int) (len cap : Nat) (w : World) (ht : t ≤ 255) (hl : zs.length = len) (h : At w a zs) :
    Calls Try.prog 22 #[.int .u8 (t : Int), .slice a len cap] w (OfEnd w (ofS t zs)) := by
  unfold ofS
  by_cases h1 : 1 ≤ t ∧ t ≤ 11
  · rw [if_pos h1]
    by_cases h2 : okS t zs = true
    · rw [if_pos h2]
      exact rof_ok t h1 a zs len cap w hl h h2
    · rw [if_neg h2]
      have e2 : okS t zs = false := by simpa using h2
      have HR := hidden6 (good_any t h1 a zs len cap w hl h)
      rw [e2] at HR
      have g1 : ¬ ((t : Int) < 1) := by omega
      have g2 : ¬ ((t : Int) > 11) := by omega
      clear h e2 h2
      go_enter Try.func22, Try.ntmps22
      go_wp2_with (go_at_call 41; (with_reducible refine HR.out.mono ?_); rintro e w2 ⟨rfl, b2⟩)
      go_ret3
      exact of_nil b2
  · rw [if_neg h1]
    by_cases g1 : (t : Int) < 1
    · clear h h1
      go_enter Try.func22, Try.ntmps22
      go_wp2
      go_ret3
      exact of_nil (Below.refl _ _)
    · have g2 : (t : Int) > 11 := by omega
      clear h h1
      go_enter Try.func22, Try.ntmps22
      go_wp2
      go_ret3
      exact of_nil (Below.refl _ _)
end Go.Proofs.Ytdjplmlfcolklaa

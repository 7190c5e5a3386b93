/- The firings of down, drop, up. (Written by tmpl/mkAct.py.) -/
import Derived.Test.YthgblljokonejaaAct2
namespace Go.Proofs.Ythgblljokonejaa
open Go.ChangeShapes Go.WideShapes Go.ChangeAt Go.RowKit

set_option maxRecDepth 100000 in
set_option maxHeartbeats 2000000 in
theorem fire_3 (F : Nat → Prop) (w : World) (K : Nat) (zs ks : List Int) (n : Nat) (a : Option Addr) (len cap : Nat) (I : List (List Int)) (hk : KinE F w K 3 zs ks n) (hA : ArgL w a len I) (ht : takesS 3 zs I = true) :
    Calls Try.prog 142 #[.pointer (some ⟨K, 0, none⟩), .slice a len cap] w (GaveK F w K 3 zs ks n I) := by
  have HK := hidden6 hk
  have S : Hid (∀ (x : Int) V, Calls Try.prog 136 #[.int .i64 x] V (SingleEnd V x)) := fun x V => single_any x V
  obtain ⟨a1, a2, a3, a4, c1, c2, c3, c4, h⟩ := hk
  have hp := (ins_pos 3 (by decide) zs h.ok).2 0 (by show 0 < 1; decide)
  obtain ⟨b, off, xb, xo, m, c, rfl, l0, m0, hm, y0, y1⟩ := first_tok hA ht (by show 0 < 1; decide) hp.1
  have l0i : (0 : Int) < (len : Int) := by omega
  have m0i : (0 : Int) < (m : Int) := by omega
  have hx := hA.fits 0 0
  have GV : Hid (giveS 3 zs ks I = some ([[nth (nthL I 0) 0]], ks)) := hidden6 rfl
  clear hA ht h hp hm
  generalize nth (nthL I 0) 0 = x at *
  go_enter Try.func142, Try.ntmps142
  go_wp2_with (go_at_call 136; (with_reducible refine (S.out x w).mono ?_); rintro e w1 ⟨g, A, C, rfl, hO, b1⟩)
  go_ret2
  exact gave_plain GV.out HK.out hO b1
set_option maxRecDepth 100000 in
set_option maxHeartbeats 2000000 in
theorem fire_11 (F : Nat → Prop) (w : World) (K : Nat) (zs ks : List Int) (n : Nat) (a : Option Addr) (len cap : Nat) (I : List (List Int)) (hk : KinE F w K 11 zs ks n) (hA : ArgL w a len I) (ht : takesS 11 zs I = true) :
    Calls Try.prog 153 #[.pointer (some ⟨K, 0, none⟩), .slice a len cap] w (GaveK F w K 11 zs ks n I) := by
  have HK := hidden6 hk
  have S : Hid (∀ (x : Int) V, Calls Try.prog 136 #[.int .i64 x] V (SingleEnd V x)) := fun x V => single_any x V
  obtain ⟨a1, a2, a3, a4, c1, c2, c3, c4, h⟩ := hk
  have u1 := hA.size
  have u2 := takes_len ht
  have GV : Hid (giveS 11 zs ks I = some ([], ks)) := hidden6 rfl
  clear hA ht h u1 u2
  go_enter Try.func153, Try.ntmps153
  go_wp2
  go_ret2
  exact gave_plain (c := 0) GV.out HK.out (outT_nil _ _) (Below.refl _ _)
theorem table_one (V : World) (B g c : Nat) (zs : List Int) (hB : B ≤ V.heap.size) (h1 : CapR B V (some ⟨g, 0, none⟩) c zs) : OutT B (V.alloc (.cells #[.slice (some ⟨g, 0, none⟩) zs.length c] 22)) (fun _ => some ⟨g, 0, none⟩) (fun _ => c) (some ⟨V.heap.size, 0, none⟩) [zs] := by
  have hb := (Below.refl V.heap.size V).alloc (Nat.le_refl _) (.cells #[.slice (some ⟨g, 0, none⟩) zs.length c] 22)
  refine ⟨fun j hj => ?_, fun j k y z hj hk hn => ?_, .inr ⟨_, rfl, hB, by simp, fun j hj => ?_, fun j y _ hy => ?_⟩⟩
  · match j, hj with
    | 0, _ => exact h1.later hb
  · simp at hj hk; omega
  · match j, hj with
    | 0, _ => exact (blkA_new 22 V #[.slice (some ⟨g, 0, none⟩) zs.length c]).cell rfl
  · cases hy
    have := (h1.lt _ rfl).2
    simp only at this ⊢
    omega
theorem made_zero {w0 : World} {B g n : Nat} (h : w0.ownsRow B 3 1 (.slice (some ⟨g, 0, none⟩) n n) n (madeCells (Value.cells (.int .i64 0)) (n * 1)).toList) : CapR B w0 (some ⟨g, 0, none⟩) n (List.replicate n 0) := by
  unfold CapR
  have e : (madeCells (Value.cells (.int .i64 0)) (n * 1)).toList = (List.replicate n 0).map (Value.int .i64) := by
    show (madeCells #[.int .i64 0] (n * 1)).toList = _
    apply List.ext_getElem?
    intro k
    rw [Nat.mul_one]
    by_cases hk : k < n <;> simp [madeCells, hk, Nat.mod_one]
  rw [e] at h
  simpa using h
set_option maxRecDepth 100000 in
set_option maxHeartbeats 2000000 in
theorem fire_2 (F : Nat → Prop) (w : World) (K : Nat) (zs ks : List Int) (n : Nat) (a : Option Addr) (len cap : Nat) (I : List (List Int)) (hk : KinE F w K 2 zs ks n) (hA : ArgL w a len I) (ht : takesS 2 zs I = true) :
    Calls Try.prog 140 #[.pointer (some ⟨K, 0, none⟩), .slice a len cap] w (GaveK F w K 2 zs ks n I) := by
  have HK := hidden6 hk
  have S : Hid (∀ (x : Int) V, Calls Try.prog 136 #[.int .i64 x] V (SingleEnd V x)) := fun x V => single_any x V
  obtain ⟨a1, a2, a3, a4, c1, c2, c3, c4, h⟩ := hk
  have hp := (ins_pos 2 (by decide) zs h.ok).2 0 (by show 0 < 1; decide)
  obtain ⟨b, off, xb, xo, m, c, rfl, l0, m0, hm, y0, y1⟩ := first_tok hA ht (by show 0 < 1; decide) hp.1
  have l0i : (0 : Int) < (len : Int) := by omega
  have m0i : (0 : Int) < (m : Int) := by omega
  have hx := hA.fits 0 0
  have z1 : w.cell? ⟨K, 1, none⟩ = some (.slice a2 1 c2) := h.blk.cell (k := 1) rfl
  have z2 := h.outs.at
  have hok := (ok_one rfl h.ok).2
  obtain ⟨N, hN⟩ : ∃ N : Nat, nth zs 0 = (N : Int) := ⟨(nth zs 0).toNat, by omega⟩
  have GV : Hid (giveS 2 zs ks I = some ([upS N (nth (nthL I 0) 0)], ks)) := by
    show some ([upS (nth zs 0).toNat (nth (nthL I 0) 0)], ks) = _
    rw [hN]; rfl
  rcases z2 with h0 | ⟨ob, oo, rfl, oc⟩
  · exact absurd h0 (by show [nth zs 0] ≠ []; simp)
  have z3 : w.cell? ⟨ob, oo, none⟩ = some (.int .i64 (N : Int)) := by rw [← hN]; exact oc 0 (by show 0 < 1; decide)
  have hN1 : 1 ≤ N ∧ N ≤ 64 := by omega
  obtain ⟨i0, hi, hz0, hz1, hz2⟩ := info_parts Try.info3
  clear hA ht h hp hm oc hok hN
  generalize nth (nthL I 0) 0 = x at *
  go_enter Try.func140, Try.ntmps140
  go_wp2_with (at_make; refine wpList_make_full _ rfl _ _ 22 rfl w.heap.size 3 i0 (.int .i64 0) 1 Try.underlying22 hi hz0 hz1 _ _ _ _ N rfl rfl rfl rfl (by rw [hz2]; omega) (by unfold maxLen; omega) (Nat.le_refl _) ?_; intro w0 hown0 hgrow0; have B0 := hidden6 ((Below.refl w.heap.size w).grown hgrow0 (Nat.le_refl _) (fun k h => by cases h)); have C0 := hidden6 (made_zero hown0); have y0 := cell_keep6 B0.out y0; have y1 := cell_keep6 B0.out y1; have q0 : w0.cell? ⟨w.heap.size, 0, none⟩ = some (.int .i64 0) := (by have e : List.replicate N (0 : Int) = [] ++ 0 :: List.replicate (N - 1) 0 := (by rw [List.nil_append, ← List.replicate_succ, show N - 1 + 1 = N by omega]); have h1 := C0.out; rw [e] at h1; exact h1.hd (k := 0) rfl); have q1 := C0.out.fz 0; have Q := hidden6 (C0.out); clear hown0 hgrow0)
  go_ret2
  have e : List.replicate N (0 : Int) = [] ++ 0 :: List.replicate (N - 1) 0 := by rw [List.nil_append, ← List.replicate_succ, show N - 1 + 1 = N by omega]
  have e2 : upS N x = [] ++ x :: List.replicate (N - 1) 0 := by
    unfold upS; rw [e]; rfl
  have h1 := C0.out
  rw [e] at h1
  have h2 := h1.set (k := 0) x rfl
  rw [← e2] at h2
  have h3 := table_one _ _ _ _ _ (by have := B0.out.size; simp; omega) h2
  simp only [World.size_setCell, up_len] at h3
  exact gave_plain GV.out HK.out h3 ((B0.out.setCell (p := ⟨w.heap.size, 0, none⟩) (Nat.le_refl _) _).alloc (by have := B0.out.size; simp; omega) _)
end Go.Proofs.Ythgblljokonejaa

/- The firings of sum and tick. (Written by tmpl/mkAct.py.) -/
import Derived.Test.YthgblljokonejaaAct2
namespace Go.Proofs.Ythgblljokonejaa
open Go.ChangeShapes Go.WideShapes Go.ChangeAt Go.RowKit

theorem kin_set8 {F : Nat → Prop} {w w' : World} {K : Nat} {zs ks : List Int} {n : Nat} {y : Int} (hk : KinE F w K 8 zs ks n) (hy : fitB y = true) (hB : ∀ a1 c1 a2 c2, BlkA (kT 8) K w #[.slice a1 1 c1, .slice a2 1 c2, .int .i64 n, .int .i64 (nth ks 0)] → BlkA (kT 8) K w' #[.slice a1 1 c1, .slice a2 1 c2, .int .i64 n, .int .i64 y]) (hw : But K w w') : KinE F w' K 8 zs [y] n := by
  obtain ⟨a1, a2, a3, a4, c1, c2, c3, c4, h⟩ := hk
  have keep : ∀ a, (∀ x : Addr, a = some x → F x.block) → (∀ x, a = some x → x.block ≠ K) → ∀ x, a = some x → w'.heap[x.block]? = w.heap[x.block]? := fun a h1 h2 x hx => hw.block _ (h.low _ (h1 x hx)) (h2 x hx)
  refine ⟨a1, a2, a3, a4, c1, c2, c3, c4, hB a1 c1 a2 c2 h.blk, h.ins.keep (keep a1 h.f1 h.rows.1), h.outs.keep (keep a2 h.f2 h.rows.2.1), (fun e => by cases e), (fun e => by cases e), h.own, h.f1, h.f2, (fun e => by cases e), (fun e => by cases e), ⟨h.rows.1, h.rows.2.1, (fun e => by cases e), (fun e => by cases e)⟩, (fun e => by cases e), h.tag, h.ok, ⟨fun k => ?_, (fun e => by cases e), fun _ => rfl, fun _ e => absurd rfl e⟩, h.inr, fun k hF => Nat.lt_of_lt_of_le (h.low k hF) hw.size⟩
  have := fitB_true.1 hy
  cases k with
  | zero => exact this
  | succ k => rw [nth_none (by simp)]; decide
theorem kin_set10 {F : Nat → Prop} {w w' : World} {K : Nat} {zs ks : List Int} {n : Nat} {y : Int} (hk : KinE F w K 10 zs ks n) (hy : fitB y = true) (hB : ∀ a1 c1 a2 c2, BlkA (kT 10) K w #[.slice a1 0 c1, .slice a2 1 c2, .int .i64 n, .int .i64 (nth ks 0), .int .i64 (nth zs 1)] → BlkA (kT 10) K w' #[.slice a1 0 c1, .slice a2 1 c2, .int .i64 n, .int .i64 y, .int .i64 (nth zs 1)]) (hw : But K w w') : KinE F w' K 10 zs [y] n := by
  obtain ⟨a1, a2, a3, a4, c1, c2, c3, c4, h⟩ := hk
  have keep : ∀ a, (∀ x : Addr, a = some x → F x.block) → (∀ x, a = some x → x.block ≠ K) → ∀ x, a = some x → w'.heap[x.block]? = w.heap[x.block]? := fun a h1 h2 x hx => hw.block _ (h.low _ (h1 x hx)) (h2 x hx)
  refine ⟨a1, a2, a3, a4, c1, c2, c3, c4, hB a1 c1 a2 c2 h.blk, h.ins.keep (keep a1 h.f1 h.rows.1), h.outs.keep (keep a2 h.f2 h.rows.2.1), (fun e => by cases e), (fun e => by cases e), h.own, h.f1, h.f2, (fun e => by cases e), (fun e => by cases e), ⟨h.rows.1, h.rows.2.1, (fun e => by cases e), (fun e => by cases e)⟩, (fun e => by cases e), h.tag, h.ok, ⟨fun k => ?_, (fun e => by cases e), fun _ => rfl, fun _ _ e => absurd rfl e⟩, h.inr, fun k hF => Nat.lt_of_lt_of_le (h.low k hF) hw.size⟩
  have := fitB_true.1 hy
  cases k with
  | zero => exact this
  | succ k => rw [nth_none (by simp)]; decide
set_option maxRecDepth 100000 in
set_option maxHeartbeats 2000000 in
theorem fire_8 (F : Nat → Prop) (w : World) (K : Nat) (zs ks : List Int) (n : Nat) (a : Option Addr) (len cap : Nat) (I : List (List Int)) (hk : KinE F w K 8 zs ks n) (hA : ArgL w a len I) (ht : takesS 8 zs I = true) :
    Calls Try.prog 148 #[.pointer (some ⟨K, 0, none⟩), .slice a len cap] w (GaveK F w K 8 zs ks n I) := by
  have HK := hidden6 hk
  have S : Hid (∀ (x : Int) V, Calls Try.prog 136 #[.int .i64 x] V (SingleEnd V x)) := fun x V => single_any x V
  obtain ⟨a1, a2, a3, a4, c1, c2, c3, c4, h⟩ := hk
  have hp := (ins_pos 8 (by decide) zs h.ok).2 0 (by show 0 < 1; decide)
  obtain ⟨b, off, xb, xo, m, c, rfl, l0, m0, hm, y0, y1⟩ := first_tok hA ht (by show 0 < 1; decide) hp.1
  have l0i : (0 : Int) < (len : Int) := by omega
  have m0i : (0 : Int) < (m : Int) := by omega
  have hx := hA.fits 0 0
  have s0 : w.cell? ⟨K, 3, none⟩ = some (.int .i64 (nth ks 0)) := h.blk.cell (k := 3) rfl
  have sf := h.blk.frozen 3
  have lw : (⟨K, 3, none⟩ : Addr).block < w.heap.size := h.blk.lt
  have hks := h.keep.1 0
  have KS : Hid (∀ y w', fitB y = true → (∀ a1 c1 a2 c2, BlkA (kT 8) K w #[.slice a1 1 c1, .slice a2 1 c2, .int .i64 n, .int .i64 (nth ks 0)] → BlkA (kT 8) K w' #[.slice a1 1 c1, .slice a2 1 c2, .int .i64 n, .int .i64 y]) → But K w w' → KinE F w' K 8 zs [y] n) := fun y w' h1 h2 h3 => kin_set8 HK.out h1 h2 h3
  have G0 : giveS 8 zs ks I = if fitB (nth ks 0 + nth (nthL I 0) 0) = true then some ([[nth ks 0 + nth (nthL I 0) 0]], [nth ks 0 + nth (nthL I 0) 0]) else none := rfl
  clear hA ht h hp hm
  generalize nth (nthL I 0) 0 = x at *
  generalize nth ks 0 = k0 at *
  have AD := hidden6 (fun V => add_any k0 x V hks hx)
  by_cases hf : fitB (k0 + x) = true
  · rw [if_pos hf] at G0
    have GV := hidden6 G0
    have hv := fitV_yes (fitB_true.1 hf)
    rw [hv, hf] at AD
    have HFT := hidden6 hf
    clear hks hv G0 hf
    generalize k0 + x = y at *
    go_enter Try.func148, Try.ntmps148
    go_wp2
    go_quiet (first | (go_at_call 138; (with_reducible refine (AD.out _).mono ?_); rintro e w' ⟨rfl, rfl⟩; exact ⟨rfl, _, rfl⟩))
    go_wp2_with (go_at_call 136; (with_reducible refine (S.out y _).mono ?_); rintro e w1 ⟨g, A, C, rfl, hO, b1⟩)
    go_ret2
    have hq := bdrew (Below.refl w.heap.size w) nq
    have bW : But K w ((w.drewN nq).setCell ⟨K, 3, none⟩ (.int .i64 y)) := (But.of_below hq).trans (But.set _ K 3 _)
    have kW := KS.out y _ HFT.out (fun a1 c1 a2 c2 hb => (hb.below hq).set 3 (.int .i64 y)) bW
    unfold GaveK
    rw [GV.out]
    refine ⟨_, _, A, C, F, rfl, ?_, kW.below b1, fun k h => .inl h, fun k h => h, bW.trans (But.of_below b1)⟩
    simp only [World.size_setCell, drew_size] at hO
    exact hO
  · rw [if_neg hf] at G0
    have GV := hidden6 G0
    have hf2 : fitB (k0 + x) = false := by simpa using hf
    rw [hf2] at AD
    clear hks G0 hf hf2
    generalize k0 + x = y at *
    go_enter Try.func148, Try.ntmps148
    go_wp2
    go_quiet (first | (go_at_call 138; (with_reducible refine (AD.out _).mono ?_); rintro e w' ⟨rfl, rfl⟩; exact ⟨rfl, _, rfl⟩))
    go_wp2
    go_ret2
    exact gave_none GV.out HK.out (bdrew (Below.refl _ _) nq)
set_option maxRecDepth 100000 in
set_option maxHeartbeats 2000000 in
theorem fire_10 (F : Nat → Prop) (w : World) (K : Nat) (zs ks : List Int) (n : Nat) (a : Option Addr) (len cap : Nat) (I : List (List Int)) (hk : KinE F w K 10 zs ks n) (hA : ArgL w a len I) (ht : takesS 10 zs I = true) :
    Calls Try.prog 151 #[.pointer (some ⟨K, 0, none⟩), .slice a len cap] w (GaveK F w K 10 zs ks n I) := by
  have HK := hidden6 hk
  have S : Hid (∀ (x : Int) V, Calls Try.prog 136 #[.int .i64 x] V (SingleEnd V x)) := fun x V => single_any x V
  obtain ⟨a1, a2, a3, a4, c1, c2, c3, c4, h⟩ := hk
  have u1 := hA.size
  have u2 := takes_len ht
  clear u1 u2
  have s0 : w.cell? ⟨K, 3, none⟩ = some (.int .i64 (nth ks 0)) := h.blk.cell (k := 3) rfl
  have s1 : w.cell? ⟨K, 4, none⟩ = some (.int .i64 (nth zs 1)) := h.blk.cell (k := 4) rfl
  have sf := h.blk.frozen 3
  have lw : (⟨K, 3, none⟩ : Addr).block < w.heap.size := h.blk.lt
  have hks := h.keep.1 0
  have hp1 := h.inr 1
  have KS : Hid (∀ y w', fitB y = true → (∀ a1 c1 a2 c2, BlkA (kT 10) K w #[.slice a1 0 c1, .slice a2 1 c2, .int .i64 n, .int .i64 (nth ks 0), .int .i64 (nth zs 1)] → BlkA (kT 10) K w' #[.slice a1 0 c1, .slice a2 1 c2, .int .i64 n, .int .i64 y, .int .i64 (nth zs 1)]) → But K w w' → KinE F w' K 10 zs [y] n) := fun y w' h1 h2 h3 => kin_set10 HK.out h1 h2 h3
  have G0 : giveS 10 zs ks I = if fitB (nth ks 0 + nth zs 1) = true then some ([[nth ks 0]], [nth ks 0 + nth zs 1]) else none := rfl
  clear hA ht h
  generalize nth zs 1 = p at *
  generalize nth ks 0 = k0 at *
  have AD := hidden6 (fun V => add_any k0 p V hks hp1)
  by_cases hf : fitB (k0 + p) = true
  · rw [if_pos hf] at G0
    have GV := hidden6 G0
    have hv := fitV_yes (fitB_true.1 hf)
    rw [hv, hf] at AD
    have HFT := hidden6 hf
    clear hks hv G0 hf
    generalize k0 + p = y at *
    go_enter Try.func151, Try.ntmps151
    go_wp2
    go_quiet (first | (go_at_call 138; (with_reducible refine (AD.out _).mono ?_); rintro e w' ⟨rfl, rfl⟩; exact ⟨rfl, _, rfl⟩))
    go_wp2_with (go_at_call 136; (with_reducible refine (S.out k0 _).mono ?_); rintro e w1 ⟨g, A, C, rfl, hO, b1⟩; have b2 := (bdrew (Below.refl w.heap.size w) nq).trans (drew_below b1); have s0 := cell_keep6 b2 s0; have sf := (b2.frozen lw).trans sf)
    go_ret2
    have bW := (But.of_below (K := K) b2).trans (But.set w1 K 3 (.int .i64 y))
    have kW := KS.out y _ HFT.out (fun a1 c1 a2 c2 hb => (hb.below b2).set 3 (.int .i64 y)) bW
    unfold GaveK
    rw [GV.out]
    simp only [drew_size] at hO
    exact ⟨_, _, A, C, F, rfl, hO.keep (fun k h1 h2 => Below.heap_setCell _ _ _ _ (by simp only; omega)) (by simp), kW, fun k h => .inl h, fun k h => h, bW⟩
  · rw [if_neg hf] at G0
    have GV := hidden6 G0
    have hf2 : fitB (k0 + p) = false := by simpa using hf
    rw [hf2] at AD
    clear hks G0 hf hf2
    generalize k0 + p = y at *
    go_enter Try.func151, Try.ntmps151
    go_wp2
    go_quiet (first | (go_at_call 138; (with_reducible refine (AD.out _).mono ?_); rintro e w' ⟨rfl, rfl⟩; exact ⟨rfl, _, rfl⟩))
    go_wp2
    go_ret2
    exact gave_none GV.out HK.out (bdrew (Below.refl _ _) nq)
end Go.Proofs.Ythgblljokonejaa

/- The firing of filter. (Written by tmpl/mkAct.py.) -/
import Derived.Test.YthgblljokonejaaAct2
import Derived.Test.YthgblljokonejaaH2
namespace Go.Proofs.Ythgblljokonejaa
open Go.ChangeShapes Go.WideShapes Go.ChangeAt Go.RowKit

theorem own_some {w : World} {base n cap : Nat} {a : Option Addr} {xs : List Value} (h : w.ownsRow base 3 1 (.slice a n cap) n xs) (hn : 0 < n) : ∃ g, a = some ⟨g, 0, none⟩ := by
  rcases h.2 with ⟨-, h2⟩ | ⟨g, c, cur, hv, -⟩
  · omega
  · cases hv; exact ⟨g, rfl⟩
theorem World_own_lt {w : World} {base g n cap : Nat} {xs : List Value} (h : w.ownsRow base 3 1 (.slice (some ⟨g, 0, none⟩) n cap) n xs) : base ≤ g ∧ g < w.heap.size := by
  rcases h.2 with ⟨hv, -⟩ | ⟨g', c, cur, hv, hg, hh, -⟩
  · cases hv
  · cases hv; exact ⟨hg, (Array.getElem?_eq_some_iff.1 hh).1⟩
theorem take_own {w : World} {base g cap : Nat} {x : Int} {ks : List Int} (h : w.ownsRow base 3 1 (.slice (some ⟨g, 0, none⟩) (1 + ks.length) cap) (1 + ks.length) ((x :: ks).map (Value.int .i64))) : CapR 0 w (some ⟨g, 0, none⟩) cap ((x :: ks).take ks.length) := by
  have e : (x :: ks).map (Value.int .i64) = ((x :: ks).take ks.length).map (Value.int .i64) ++ ((x :: ks).drop ks.length).map (Value.int .i64) := by rw [← List.map_append, List.take_append_drop]
  rw [e] at h
  have h2 := owns_prefix h
  rw [List.length_map] at h2
  exact CapR.mono (base := base) h2 (Nat.zero_le _)
theorem kin_set1 {F : Nat → Prop} {w w' : World} {K tg cap9 : Nat} {zs ks : List Int} {n : Nat} {x : Int} (hk : KinE F w K 1 zs ks n) (hx : -9223372036854775808 ≤ x ∧ x ≤ 9223372036854775807) (hw : But K w w') (hlow : w.heap.size ≤ tg) (htg : tg < w'.heap.size)
    (hB : ∀ a1 c1 a2 c2 a3 c3 a4 c4, BlkA (kT 1) K w #[.slice a1 1 c1, .slice a2 1 c2, .int .i64 n, .slice a3 zs.length c3, .slice a4 ks.length c4] → BlkA (kT 1) K w' #[.slice a1 1 c1, .slice a2 1 c2, .int .i64 n, .slice a3 zs.length c3, .slice (some ⟨tg, 0, none⟩) ks.length cap9])
    (ho : CapR 0 w' (some ⟨tg, 0, none⟩) cap9 ((x :: ks).take ks.length)) : KinE (fun k => F k ∨ k = tg) w' K 1 zs ((x :: ks).take ks.length) n := by
  obtain ⟨a1, a2, a3, a4, c1, c2, c3, c4, h⟩ := hk
  have keep : ∀ a, (∀ x : Addr, a = some x → F x.block) → (∀ x, a = some x → x.block ≠ K) → ∀ x, a = some x → w'.heap[x.block]? = w.heap[x.block]? := fun a h1 h2 x hx => hw.block _ (h.low _ (h1 x hx)) (h2 x hx)
  have hl : ((x :: ks).take ks.length).length = ks.length := by rw [List.length_take]; simp
  have hb := hB a1 c1 a2 c2 a3 c3 a4 c4 h.blk
  refine ⟨a1, a2, a3, some ⟨tg, 0, none⟩, c1, c2, c3, cap9, ?_, h.ins.keep (keep a1 h.f1 h.rows.1), h.outs.keep (keep a2 h.f2 h.rows.2.1), (fun e => (h.taps e).keep (keep a3 (h.f3 e) (h.rows.2.2.1 e))), (fun _ => ho), .inl h.own, (fun x hx => .inl (h.f1 x hx)), (fun x hx => .inl (h.f2 x hx)), (fun e x hx => .inl (h.f3 e x hx)), (fun _ x hx => by cases hx; exact .inr rfl), ⟨h.rows.1, h.rows.2.1, h.rows.2.2.1, (fun _ x hx => by cases hx; have := h.low K h.own; simp only; omega)⟩, (fun _ => ⟨tg, rfl⟩), h.tag, h.ok, ⟨fun k => ?_, fun _ => by rw [hl]; exact h.keep.2.1 rfl, (fun e => by omega), fun e => absurd rfl e⟩, h.inr, ?_⟩
  · rw [hl]; exact hb
  · by_cases hk : k < ks.length
    · have e : nth ((x :: ks).take ks.length) k = nth (x :: ks) k := nth_take hk
      rw [e]
      cases k with
      | zero => exact hx
      | succ k => exact h.keep.1 k
    · rw [nth_none (by omega)]; decide
  · intro k hF
    rcases hF with hF | rfl
    · exact Nat.lt_of_lt_of_le (h.low k hF) hw.size
    · exact htg
set_option maxRecDepth 100000 in
set_option maxHeartbeats 2000000 in
theorem fire_1 (F : Nat → Prop) (w : World) (K : Nat) (zs ks : List Int) (n : Nat) (a : Option Addr) (len cap : Nat) (I : List (List Int)) (hk : KinE F w K 1 zs ks n) (hA : ArgL w a len I) (ht : takesS 1 zs I = true) :
    Calls Try.prog 130 #[.pointer (some ⟨K, 0, none⟩), .slice a len cap] w (GaveK F w K 1 zs ks n I) := by
  have HK := hidden6 hk
  have S : Hid (∀ (x : Int) V, Calls Try.prog 136 #[.int .i64 x] V (SingleEnd V x)) := fun x V => single_any x V
  obtain ⟨a1, a2, a3, a4, c1, c2, c3, c4, h⟩ := hk
  have hp := (ins_pos 1 (by decide) zs h.ok).2 0 (by show 0 < 1; decide)
  obtain ⟨b, off, xb, xo, m, c, rfl, l0, m0, hm, y0, y1⟩ := first_tok hA ht (by show 0 < 1; decide) hp.1
  have l0i : (0 : Int) < (len : Int) := by omega
  have m0i : (0 : Int) < (m : Int) := by omega
  have hx := hA.fits 0 0
  obtain ⟨kg, rfl⟩ := h.some4 rfl
  have z3 : w.cell? ⟨K, 3, none⟩ = some (.slice a3 zs.length c3) := h.blk.cell (k := 3) rfl
  have z4 : w.cell? ⟨K, 4, none⟩ = some (.slice (some ⟨kg, 0, none⟩) ks.length c4) := h.blk.cell (k := 4) rfl
  have zf := h.blk.frozen 4
  have lw : (⟨K, 4, none⟩ : Addr).block < w.heap.size := h.blk.lt
  have hzl : zs.length ≤ 16 := by have := wB_bound (show wB (zs.length : Int) 16 = true from h.ok); omega
  have hkl : ks.length + 1 = zs.length := h.keep.2.1 rfl
  have TA := hidden6 (h.taps rfl).at
  have KA := hidden6 (h.kept rfl).at
  have ZR := hidden6 h.inr
  obtain ⟨i0, hi, hz0, hz1, hz2⟩ := info_parts Try.info3
  have XR : Hid (InR (nth (nthL I 0) 0 :: ks)) := fun k => by
    cases k with
    | zero => exact hx
    | succ k => exact h.keep.1 k
  have LE : Hid (zs.length = (nth (nthL I 0) 0 :: ks).length) := by show _ = _; simp; omega
  have G0 : giveS 1 zs ks I = (dotO 0 zs (nth (nthL I 0) 0 :: ks)).map fun y => ([[y]], (nth (nthL I 0) 0 :: ks).take ks.length) := rfl
  have HX := hidden6 hx
  clear hA ht h hp hm hx
  generalize nth (nthL I 0) 0 = x at *
  cases hd : dotO 0 zs (x :: ks) with
  | none =>
    rw [hd] at G0
    have GV := hidden6 G0
    clear G0
    go_enter Try.func130, Try.ntmps130
    go_wp2
    refine wp_region_said 10 (fun i u v => match i with
        | 0 => v = .slice (some ⟨b, off, none⟩) len cap
        | 1 => v = .pointer (some ⟨b, off, none⟩)
        | 2 => v = .slice (some ⟨xb, xo, none⟩) m c
        | 3 => v = .pointer (some ⟨xb, xo, none⟩)
        | 4 => v = .int .i64 x
        | 5 => Mk w.heap.size u [x] v
        | 6 => v = .pointer (some ⟨K, 0, none⟩)
        | 7 => v = .pointer (some ⟨K, 0, none⟩)
        | 8 => v = .pointer (some ⟨K, 4, none⟩)
        | 9 => v = .slice (some ⟨kg, 0, none⟩) ks.length c4
        | _ => True) (by kernel_rfl) (by kernel_rfl) (by kernel_rfl) (by kernel_rfl) ?_ ?_ ?_
    · intro i w v w' h hb
      match i, h with
      | 0, h => exact h
      | 1, h => exact h
      | 2, h => exact h
      | 3, h => exact h
      | 4, h => exact h
      | 5, h => exact Mk.later h hb
      | 6, h => exact h
      | 7, h => exact h
      | 8, h => exact h
      | 9, h => exact h
      | _ + 10, _ => trivial
    · intro i o ρ w' hi ho hb hc hf hfr hdep
      have k0 := cell_keep6 hb y0
      have k1 := cell_keep6 hb y1
      have k4 := cell_keep6 hb z4
      match i, hi with
      | 0, _ =>
        simp only [List.getElem?_toArray, List.getElem?_cons_zero, Option.some.injEq] at ho
        subst ho
        have ts : ρ (.tmp 1) = .slice (some ⟨b, off, none⟩) len cap := hfr 1 (by kernel_rfl)
        simp [go_sem, ts]
        exact ⟨Below.refl _ _, rfl⟩
      | 1, _ =>
        simp only [List.getElem?_toArray, List.getElem?_cons_zero, List.getElem?_cons_succ, Option.some.injEq] at ho
        subst ho
        have ts : ρ (.tmp 9) = .slice (some ⟨b, off, none⟩) len cap := hdep 0 9 (by kernel_rfl) (by kernel_rfl)
        simp [go_sem, ts, hc, l0]
        exact ⟨Below.refl _ _, rfl⟩
      | 2, _ =>
        simp only [List.getElem?_toArray, List.getElem?_cons_zero, List.getElem?_cons_succ, Option.some.injEq] at ho
        subst ho
        have ts : ρ (.tmp 10) = .pointer (some ⟨b, off, none⟩) := hdep 1 10 (by kernel_rfl) (by kernel_rfl)
        simp [go_sem, ts, k0]
        exact ⟨Below.refl _ _, rfl⟩
      | 3, _ =>
        simp only [List.getElem?_toArray, List.getElem?_cons_zero, List.getElem?_cons_succ, Option.some.injEq] at ho
        subst ho
        have ts : ρ (.tmp 11) = .slice (some ⟨xb, xo, none⟩) m c := hdep 2 11 (by kernel_rfl) (by kernel_rfl)
        simp [go_sem, ts, hc, m0]
        exact ⟨Below.refl _ _, rfl⟩
      | 4, _ =>
        simp only [List.getElem?_toArray, List.getElem?_cons_zero, List.getElem?_cons_succ, Option.some.injEq] at ho
        subst ho
        have ts : ρ (.tmp 12) = .pointer (some ⟨xb, xo, none⟩) := hdep 3 12 (by kernel_rfl) (by kernel_rfl)
        simp [go_sem, ts, k1]
        exact ⟨Below.refl _ _, rfl⟩
      | 5, _ =>
        simp only [List.getElem?_toArray, List.getElem?_cons_zero, List.getElem?_cons_succ, Option.some.injEq] at ho
        subst ho
        have ts : ρ (.tmp 13) = .int .i64 x := hdep 4 13 (by kernel_rfl) (by kernel_rfl)
        simp [go_sem, ts]
        exact ⟨(Below.refl _ _).alloc (Nat.le_refl _) _, _, _, rfl, (capR_one w' x).mono hb.size⟩
      | 6, _ =>
        simp only [List.getElem?_toArray, List.getElem?_cons_zero, List.getElem?_cons_succ, Option.some.injEq] at ho
        subst ho
        have ts : ρ (.tmp 0) = .pointer (some ⟨K, 0, none⟩) := hfr 0 (by kernel_rfl)
        simp [go_sem, ts]
        exact ⟨Below.refl _ _, rfl⟩
      | 7, _ =>
        simp only [List.getElem?_toArray, List.getElem?_cons_zero, List.getElem?_cons_succ, Option.some.injEq] at ho
        subst ho
        have ts : ρ (.tmp 15) = .pointer (some ⟨K, 0, none⟩) := hdep 6 15 (by kernel_rfl) (by kernel_rfl)
        simp [go_sem, ts]
        exact ⟨Below.refl _ _, rfl⟩
      | 8, _ =>
        simp only [List.getElem?_toArray, List.getElem?_cons_zero, List.getElem?_cons_succ, Option.some.injEq] at ho
        subst ho
        have ts : ρ (.tmp 16) = .pointer (some ⟨K, 0, none⟩) := hdep 7 16 (by kernel_rfl) (by kernel_rfl)
        simp [go_sem, ts]
        exact ⟨Below.refl _ _, rfl⟩
      | 9, _ =>
        simp only [List.getElem?_toArray, List.getElem?_cons_zero, List.getElem?_cons_succ, Option.some.injEq] at ho
        subst ho
        have ts : ρ (.tmp 17) = .pointer (some ⟨K, 4, none⟩) := hdep 8 17 (by kernel_rfl) (by kernel_rfl)
        simp [go_sem, ts, k4]
        exact ⟨Below.refl _ _, rfl⟩
    · intro V w9 q9 hS
      have e0 : V 0 = .slice (some ⟨b, off, none⟩) len cap := hS 0 (by decide)
      have e1 : V 1 = .pointer (some ⟨b, off, none⟩) := hS 1 (by decide)
      have e2 : V 2 = .slice (some ⟨xb, xo, none⟩) m c := hS 2 (by decide)
      have e3 : V 3 = .pointer (some ⟨xb, xo, none⟩) := hS 3 (by decide)
      have e4 : V 4 = .int .i64 x := hS 4 (by decide)
      obtain ⟨a5, n5, e5, M5⟩ : Mk w.heap.size w9 [x] (V 5) := hS 5 (by decide)
      have e6 : V 6 = .pointer (some ⟨K, 0, none⟩) := hS 6 (by decide)
      have e7 : V 7 = .pointer (some ⟨K, 0, none⟩) := hS 7 (by decide)
      have e8 : V 8 = .pointer (some ⟨K, 4, none⟩) := hS 8 (by decide)
      have e9 : V 9 = .slice (some ⟨kg, 0, none⟩) ks.length c4 := hS 9 (by decide)
      simp only [List.drop_succ_cons, List.drop_zero, List.take_succ_cons, List.take_zero, puts, e0, e1, e2, e3, e4, e5, e6, e7, e8, e9]
      clear hS e0 e1 e2 e3 e4 e5 e6 e7 e8 e9 V
      simp only [Act.put, List.setIfInBounds_toArray, List.set_cons_zero, List.set_cons_succ]
      obtain ⟨g5, rfl, hg5, -⟩ := M5.there (by simp)
      have M6 : w9.ownsRow w.heap.size 3 1 (.slice (some ⟨g5, 0, none⟩) 1 n5) 1 [.int .i64 x] := M5
      go_wp2_with (first | (go_at_call 135; (with_reducible refine DT.out.mono ?_); rintro e w2 ⟨rfl, rfl⟩) | (at_builtin; refine wpList_append_own _ rfl _ _ 22 rfl w.heap.size 3 i0 (.int .i64 0) 1 8 Try.underlying22 hi hz0 hz1 hz2 rfl (by decide) (.slice (some ⟨g5, 0, none⟩) 1 n5) 1 [.int .i64 x] rfl M6 ⟨kg, 0, none⟩ ks.length c4 (ks.map (Value.int .i64)) rfl (by simp) (lies_new (KA.out.below q9)) (ints_oneCell _ _) (by unfold maxLen; omega) (by omega) q9.size ?_; intro v9 w1 hown hgrow hnil; clear hnil; have hown1 : w1.ownsRow w.heap.size 3 1 v9 (1 + ks.length) ((x :: ks).map (Value.int .i64)) := (by simpa using hown); obtain ⟨a9, cap9, rfl, hlen9, hat9, hc9, hn9, hb9⟩ := owns_at hown1; obtain ⟨tg, rfl⟩ : ∃ tg, a9 = some ⟨tg, 0, none⟩ := own_some hown1 (by omega); have B1 : Hid (Below w.heap.size w w1) := q9.grown hgrow q9.size (fun k h => by cases h; exact hg5); have OW := hidden6 hown1; have DT := hidden6 (dot_any a3 (some ⟨tg, 0, none⟩) zs (x :: ks) zs.length c3 (1 + ks.length) cap9 w1 rfl (by simp; omega) (by omega) (by omega) ZR.out XR.out (TA.out.below B1.out) hat9); unfold dotV dotB at DT; rw [if_pos LE.out, decide_eq_true LE.out, hd] at DT; have z3 := cell_keep6 B1.out z3; have z4 := cell_keep6 B1.out z4; have zf := (B1.out.frozen (p := ⟨K, 4, none⟩) lw).trans zf; have h9 : ks.length ≤ cap9 := (by omega); have h9i : (ks.length : Int) ≤ (cap9 : Int) := (by omega); clear hown hgrow hown1 hat9 hn9 hb9 M5 M6))
      go_ret2
      exact gave_none GV.out HK.out B1.out
  | some y =>
    rw [hd] at G0
    have GV := hidden6 G0
    clear G0
    go_enter Try.func130, Try.ntmps130
    go_wp2
    refine wp_region_said 10 (fun i u v => match i with
        | 0 => v = .slice (some ⟨b, off, none⟩) len cap
        | 1 => v = .pointer (some ⟨b, off, none⟩)
        | 2 => v = .slice (some ⟨xb, xo, none⟩) m c
        | 3 => v = .pointer (some ⟨xb, xo, none⟩)
        | 4 => v = .int .i64 x
        | 5 => Mk w.heap.size u [x] v
        | 6 => v = .pointer (some ⟨K, 0, none⟩)
        | 7 => v = .pointer (some ⟨K, 0, none⟩)
        | 8 => v = .pointer (some ⟨K, 4, none⟩)
        | 9 => v = .slice (some ⟨kg, 0, none⟩) ks.length c4
        | _ => True) (by kernel_rfl) (by kernel_rfl) (by kernel_rfl) (by kernel_rfl) ?_ ?_ ?_
    · intro i w v w' h hb
      match i, h with
      | 0, h => exact h
      | 1, h => exact h
      | 2, h => exact h
      | 3, h => exact h
      | 4, h => exact h
      | 5, h => exact Mk.later h hb
      | 6, h => exact h
      | 7, h => exact h
      | 8, h => exact h
      | 9, h => exact h
      | _ + 10, _ => trivial
    · intro i o ρ w' hi ho hb hc hf hfr hdep
      have k0 := cell_keep6 hb y0
      have k1 := cell_keep6 hb y1
      have k4 := cell_keep6 hb z4
      match i, hi with
      | 0, _ =>
        simp only [List.getElem?_toArray, List.getElem?_cons_zero, Option.some.injEq] at ho
        subst ho
        have ts : ρ (.tmp 1) = .slice (some ⟨b, off, none⟩) len cap := hfr 1 (by kernel_rfl)
        simp [go_sem, ts]
        exact ⟨Below.refl _ _, rfl⟩
      | 1, _ =>
        simp only [List.getElem?_toArray, List.getElem?_cons_zero, List.getElem?_cons_succ, Option.some.injEq] at ho
        subst ho
        have ts : ρ (.tmp 9) = .slice (some ⟨b, off, none⟩) len cap := hdep 0 9 (by kernel_rfl) (by kernel_rfl)
        simp [go_sem, ts, hc, l0]
        exact ⟨Below.refl _ _, rfl⟩
      | 2, _ =>
        simp only [List.getElem?_toArray, List.getElem?_cons_zero, List.getElem?_cons_succ, Option.some.injEq] at ho
        subst ho
        have ts : ρ (.tmp 10) = .pointer (some ⟨b, off, none⟩) := hdep 1 10 (by kernel_rfl) (by kernel_rfl)
        simp [go_sem, ts, k0]
        exact ⟨Below.refl _ _, rfl⟩
      | 3, _ =>
        simp only [List.getElem?_toArray, List.getElem?_cons_zero, List.getElem?_cons_succ, Option.some.injEq] at ho
        subst ho
        have ts : ρ (.tmp 11) = .slice (some ⟨xb, xo, none⟩) m c := hdep 2 11 (by kernel_rfl) (by kernel_rfl)
        simp [go_sem, ts, hc, m0]
        exact ⟨Below.refl _ _, rfl⟩
      | 4, _ =>
        simp only [List.getElem?_toArray, List.getElem?_cons_zero, List.getElem?_cons_succ, Option.some.injEq] at ho
        subst ho
        have ts : ρ (.tmp 12) = .pointer (some ⟨xb, xo, none⟩) := hdep 3 12 (by kernel_rfl) (by kernel_rfl)
        simp [go_sem, ts, k1]
        exact ⟨Below.refl _ _, rfl⟩
      | 5, _ =>
        simp only [List.getElem?_toArray, List.getElem?_cons_zero, List.getElem?_cons_succ, Option.some.injEq] at ho
        subst ho
        have ts : ρ (.tmp 13) = .int .i64 x := hdep 4 13 (by kernel_rfl) (by kernel_rfl)
        simp [go_sem, ts]
        exact ⟨(Below.refl _ _).alloc (Nat.le_refl _) _, _, _, rfl, (capR_one w' x).mono hb.size⟩
      | 6, _ =>
        simp only [List.getElem?_toArray, List.getElem?_cons_zero, List.getElem?_cons_succ, Option.some.injEq] at ho
        subst ho
        have ts : ρ (.tmp 0) = .pointer (some ⟨K, 0, none⟩) := hfr 0 (by kernel_rfl)
        simp [go_sem, ts]
        exact ⟨Below.refl _ _, rfl⟩
      | 7, _ =>
        simp only [List.getElem?_toArray, List.getElem?_cons_zero, List.getElem?_cons_succ, Option.some.injEq] at ho
        subst ho
        have ts : ρ (.tmp 15) = .pointer (some ⟨K, 0, none⟩) := hdep 6 15 (by kernel_rfl) (by kernel_rfl)
        simp [go_sem, ts]
        exact ⟨Below.refl _ _, rfl⟩
      | 8, _ =>
        simp only [List.getElem?_toArray, List.getElem?_cons_zero, List.getElem?_cons_succ, Option.some.injEq] at ho
        subst ho
        have ts : ρ (.tmp 16) = .pointer (some ⟨K, 0, none⟩) := hdep 7 16 (by kernel_rfl) (by kernel_rfl)
        simp [go_sem, ts]
        exact ⟨Below.refl _ _, rfl⟩
      | 9, _ =>
        simp only [List.getElem?_toArray, List.getElem?_cons_zero, List.getElem?_cons_succ, Option.some.injEq] at ho
        subst ho
        have ts : ρ (.tmp 17) = .pointer (some ⟨K, 4, none⟩) := hdep 8 17 (by kernel_rfl) (by kernel_rfl)
        simp [go_sem, ts, k4]
        exact ⟨Below.refl _ _, rfl⟩
    · intro V w9 q9 hS
      have e0 : V 0 = .slice (some ⟨b, off, none⟩) len cap := hS 0 (by decide)
      have e1 : V 1 = .pointer (some ⟨b, off, none⟩) := hS 1 (by decide)
      have e2 : V 2 = .slice (some ⟨xb, xo, none⟩) m c := hS 2 (by decide)
      have e3 : V 3 = .pointer (some ⟨xb, xo, none⟩) := hS 3 (by decide)
      have e4 : V 4 = .int .i64 x := hS 4 (by decide)
      obtain ⟨a5, n5, e5, M5⟩ : Mk w.heap.size w9 [x] (V 5) := hS 5 (by decide)
      have e6 : V 6 = .pointer (some ⟨K, 0, none⟩) := hS 6 (by decide)
      have e7 : V 7 = .pointer (some ⟨K, 0, none⟩) := hS 7 (by decide)
      have e8 : V 8 = .pointer (some ⟨K, 4, none⟩) := hS 8 (by decide)
      have e9 : V 9 = .slice (some ⟨kg, 0, none⟩) ks.length c4 := hS 9 (by decide)
      simp only [List.drop_succ_cons, List.drop_zero, List.take_succ_cons, List.take_zero, puts, e0, e1, e2, e3, e4, e5, e6, e7, e8, e9]
      clear hS e0 e1 e2 e3 e4 e5 e6 e7 e8 e9 V
      simp only [Act.put, List.setIfInBounds_toArray, List.set_cons_zero, List.set_cons_succ]
      obtain ⟨g5, rfl, hg5, -⟩ := M5.there (by simp)
      have M6 : w9.ownsRow w.heap.size 3 1 (.slice (some ⟨g5, 0, none⟩) 1 n5) 1 [.int .i64 x] := M5
      go_wp2_with (first | (go_at_call 135; (with_reducible refine DT.out.mono ?_); rintro e w2 ⟨rfl, rfl⟩) | (go_at_call 136; (with_reducible refine (S.out y _).mono ?_); rintro e w3 ⟨g, A, C, rfl, hO, b3⟩) | (at_builtin; refine wpList_append_own _ rfl _ _ 22 rfl w.heap.size 3 i0 (.int .i64 0) 1 8 Try.underlying22 hi hz0 hz1 hz2 rfl (by decide) (.slice (some ⟨g5, 0, none⟩) 1 n5) 1 [.int .i64 x] rfl M6 ⟨kg, 0, none⟩ ks.length c4 (ks.map (Value.int .i64)) rfl (by simp) (lies_new (KA.out.below q9)) (ints_oneCell _ _) (by unfold maxLen; omega) (by omega) q9.size ?_; intro v9 w1 hown hgrow hnil; clear hnil; have hown1 : w1.ownsRow w.heap.size 3 1 v9 (1 + ks.length) ((x :: ks).map (Value.int .i64)) := (by simpa using hown); obtain ⟨a9, cap9, rfl, hlen9, hat9, hc9, hn9, hb9⟩ := owns_at hown1; obtain ⟨tg, rfl⟩ : ∃ tg, a9 = some ⟨tg, 0, none⟩ := own_some hown1 (by omega); have B1 : Hid (Below w.heap.size w w1) := q9.grown hgrow q9.size (fun k h => by cases h; exact hg5); have OW := hidden6 hown1; have DT := hidden6 (dot_any a3 (some ⟨tg, 0, none⟩) zs (x :: ks) zs.length c3 (1 + ks.length) cap9 w1 rfl (by simp; omega) (by omega) (by omega) ZR.out XR.out (TA.out.below B1.out) hat9); unfold dotV dotB at DT; rw [if_pos LE.out, decide_eq_true LE.out, hd] at DT; have z3 := cell_keep6 B1.out z3; have z4 := cell_keep6 B1.out z4; have zf := (B1.out.frozen (p := ⟨K, 4, none⟩) lw).trans zf; have h9 : ks.length ≤ cap9 := (by omega); have h9i : (ks.length : Int) ≤ (cap9 : Int) := (by omega); clear hown hgrow hown1 hat9 hn9 hb9 M5 M6))
      go_ret2
      have bW : But K w (w1.setCell ⟨K, 4, none⟩ (.slice (some ⟨tg, 0, none⟩) ks.length cap9)) := (But.of_below B1.out).trans (But.set _ K 4 _)
      have hgl := World_own_lt OW.out
      have hcap : CapR 0 (w1.setCell ⟨K, 4, none⟩ (.slice (some ⟨tg, 0, none⟩) ks.length cap9)) (some ⟨tg, 0, none⟩) cap9 ((x :: ks).take ks.length) := (take_own OW.out).setOther (fun z hz => by cases hz; simp only at lw ⊢; omega) _
      have kW := kin_set1 (x := x) HK.out HX.out bW hgl.1 (by simp; exact hgl.2) (fun a1 c1 a2 c2 a3 c3 a4 c4 hb => (hb.below B1.out).set 4 _) hcap
      unfold GaveK
      rw [GV.out]
      refine ⟨_, _, A, C, _, rfl, ?_, kW.below b3, fun k h => ?_, fun k h => .inl h, bW.trans (But.of_below b3)⟩
      · simp only [World.size_setCell] at hO
        exact hO.mono B1.out.size
      · rcases h with h | rfl
        · exact .inl h
        · refine .inr ⟨hgl.1, fun j z hj hz => ?_⟩
          have h1 := ((hO.rows j hj).lt z hz).1
          simp only [World.size_setCell] at h1
          omega
end Go.Proofs.Ythgblljokonejaa

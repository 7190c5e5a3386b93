/- The firing of weave. (Written by tmpl/mkAct4.py.) -/
import Derived.Test.YthgblljokonejaaActF7
namespace Go.Proofs.Ythgblljokonejaa
open Go.ChangeShapes Go.WideShapes Go.ChangeAt Go.RowKit

set_option maxRecDepth 100000 in
set_option maxHeartbeats 2000000 in
theorem fire_4 (F : Nat → Prop) (w : World) (K : Nat) (zs ks : List Int) (n : Nat) (a : Option Addr) (len cap : Nat) (I : List (List Int)) (hk : KinE F w K 4 zs ks n) (hA : ArgL w a len I) (ht : takesS 4 zs I = true) :
    Calls Try.prog 143 #[.pointer (some ⟨K, 0, none⟩), .slice a len cap] w (GaveK F w K 4 zs ks n I) := by
  have HK := hidden6 hk
  have S : Hid (∀ (x : Int) V, Calls Try.prog 136 #[.int .i64 x] V (SingleEnd V x)) := fun x V => single_any x V
  obtain ⟨a1, a2, a3, a4, c1, c2, c3, c4, h⟩ := hk
  obtain ⟨i0, hi, hz0, hz1, hz2⟩ := info_parts Try.info3
  have hok := (ok_two rfl h.ok).2
  obtain ⟨N, hN⟩ : ∃ N : Nat, nth zs 0 = (N : Int) := ⟨(nth zs 0).toNat, by omega⟩
  obtain ⟨M, hM⟩ : ∃ M : Nat, nth zs 1 = (M : Int) := ⟨(nth zs 1).toNat, by omega⟩
  rw [hN, hM] at hok
  have hl : I.length = len := hA.size
  have hlen : len = N := by
    have h1 := takes_len ht
    have h2 : (insS 4 zs).length = N := by show (List.replicate (nth zs 0).toNat (nth zs 1)).length = N; rw [hN]; simp
    omega
  subst hlen
  have MM : Hid (∀ k, k < len → (nthL I k).length = M) := fun k hk => by
    have h1 := takes_nth ht (k := k) (by omega)
    have h2 : nth (insS 4 zs) k = (M : Int) := by show nth (List.replicate (nth zs 0).toNat (nth zs 1)) k = _; rw [nth_rep (by rw [hN]; simp; omega), hM]
    omega
  obtain ⟨Q, hQ⟩ : ∃ Q, len * M = Q := ⟨_, rfl⟩
  have hQI : (Q : Int) = nth zs 0 * nth zs 1 := by rw [hN, hM, ← hQ, Int.natCast_mul]
  have hQb : 1 ≤ Q ∧ Q ≤ 1024 := by
    have h1 := mul_bound hok.1 hok.2
    rw [← Int.natCast_mul, hQ] at h1
    omega
  have z1 : w.cell? ⟨K, 1, none⟩ = some (.slice a2 1 c2) := h.blk.cell (k := 1) rfl
  rcases h.outs.at with h0 | ⟨ob, oo, rfl, oc⟩
  · exact absurd h0 (by show [nth zs 0 * nth zs 1] ≠ []; simp)
  have z3 : w.cell? ⟨ob, oo, none⟩ = some (.int .i64 (Q : Int)) := by rw [hQI]; exact oc 0 (by show 0 < 1; decide)
  obtain ⟨L, hL⟩ : ∃ L, weaveS len M I = L := ⟨_, rfl⟩
  have GV : Hid (giveS 4 zs ks I = some ([L], ks)) := by
    show some ([weaveS (nth zs 0).toNat (nth zs 1).toNat I], ks) = _
    rw [hN, hM, ← hL]; rfl
  have hLl : L.length = Q := by rw [← hL, weave_len, hQ]
  have HLN : Hid (∀ k, k < Q → nth L k = nth (nthL I (k % len)) (k / len)) := fun k hk => by
    rw [← hL]; unfold weaveS; rw [nth_map (by omega)]
  have HI := hidden6 hA
  have DV : Hid (∀ k, k < Q → k % len < len ∧ k / len < M) := fun k hk => ⟨Nat.mod_lt _ (by omega), by rw [Nat.div_lt_iff_lt_mul (by omega), Nat.mul_comm, hQ]; exact hk⟩
  have hl1 : 1 ≤ len := by omega
  clear hA ht h oc hok hQI hL hM
  go_enter Try.func143, Try.ntmps143
  go_wp2_with (at_make; refine wpList_make_full _ rfl _ _ 22 rfl w.heap.size 3 i0 (.int .i64 0) 1 Try.underlying22 hi hz0 hz1 _ _ _ _ Q rfl rfl rfl rfl (by rw [hz2]; omega) (by unfold maxLen; omega) (Nat.le_refl _) ?_; intro w0 hown0 hgrow0; have B0 := hidden6 ((Below.refl w.heap.size w).grown hgrow0 (Nat.le_refl _) (fun k h => by cases h)); have C0 := hidden6 (made_zero hown0); clear hown0 hgrow0)
  go_loopg [18] Q (fun gk v wr => ∃ k : Nat, k ≤ Q ∧ gk = Q - k ∧ v = .int .i64 (k : Int) ∧ CapR w.heap.size wr (some ⟨w.heap.size, 0, none⟩) Q (L.take k ++ List.replicate (Q - k) 0) ∧ Below w.heap.size w wr)
  case atStart => exact ⟨0, Nat.zero_le _, rfl, rfl, by simpa using C0.out, B0.out⟩
  case round =>
    clear C0 B0
    obtain ⟨k, hk, rfl, rfl, hC, hB⟩ := hrel
    by_cases hlt : k < Q
    · have hki : (k : Int) < (Q : Int) := by omega
      have es : List.replicate (Q - k) (0 : Int) = 0 :: List.replicate (Q - (k + 1)) 0 := by
        rw [show Q - k = (Q - (k + 1)) + 1 by omega, List.replicate_succ]
      rw [es] at hC
      have hlk : (L.take k).length = k := by rw [List.length_take]; omega
      have dv := DV.out k hlt
      obtain ⟨b, off, xb, xo, c, rfl, y0, y1⟩ := tok_cell (HI.out.below hB).lies (i := k % len) (j := k / len) (by omega) (by rw [MM.out _ dv.1]; exact dv.2)
      rw [MM.out _ dv.1] at y0
      rw [← HLN.out k hlt] at y1
      obtain ⟨m, hm⟩ : ∃ m, M = m := ⟨_, rfl⟩
      rw [hm] at y0 dv
      have hrem : (k : Int).tmod (len : Int) = ((k % len : Nat) : Int) := rfl
      have hquo : (k : Int).tdiv (len : Int) = ((k / len : Nat) : Int) := rfl
      obtain ⟨r, hr⟩ : ∃ r, k % len = r := ⟨_, rfl⟩
      obtain ⟨uq, hu⟩ : ∃ uq, k / len = uq := ⟨_, rfl⟩
      have hku : uq ≤ k := by rw [← hu]; exact Nat.div_le_self _ _
      rw [hr] at hrem y0 dv
      rw [hu] at hquo y1 dv
      have hm1 : (r : Int) < (len : Int) := by omega
      have hm2 : (uq : Int) < (m : Int) := by omega
      have hwq : IntKind.i64.wrap (uq : Int) = (uq : Int) := by rw [IntKind.wrap_i64]; omega
      have hz : ¬ len = 0 := by omega
      have HC1 := hidden6 hC
      have HB := hidden6 hB
      have HLK := hidden6 hlk
      have HTN := hidden6 (take_nth (L := L) (k := k) (by omega))
      clear hC hB es hlk dv hr hu
      generalize nth L k = y at *
      go_wp2
      refine wp_region_said 15 (fun i u v => match i with
          | 0 => v = .slice (some ⟨w.heap.size, 0, none⟩) Q Q
          | 1 => v = .int .i64 (k : Int)
          | 2 => v = .slice (some ⟨b, off, none⟩) len cap
          | 3 => v = .int .i64 (k : Int)
          | 4 => v = .slice (some ⟨b, off, none⟩) len cap
          | 5 => v = .int .i64 (len : Int)
          | 6 => v = .int .i64 (r : Int)
          | 7 => v = .pointer (some ⟨b, off + r, none⟩)
          | 8 => v = .slice (some ⟨xb, xo, none⟩) m c
          | 9 => v = .int .i64 (k : Int)
          | 10 => v = .slice (some ⟨b, off, none⟩) len cap
          | 11 => v = .int .i64 (len : Int)
          | 12 => v = .int .i64 (uq : Int)
          | 13 => v = .pointer (some ⟨xb, xo + uq, none⟩)
          | 14 => v = .int .i64 y
          | _ => True) (by kernel_rfl) (by kernel_rfl) (by kernel_rfl) (by kernel_rfl) ?_ ?_ ?_
      · intro i w v w' h hb
        match i, h with
        | 0, h => exact h
        | 1, h => exact h
        | 2, h => exact h
        | 3, h => exact h
        | 4, h => exact h
        | 5, h => exact h
        | 6, h => exact h
        | 7, h => exact h
        | 8, h => exact h
        | 9, h => exact h
        | 10, h => exact h
        | 11, h => exact h
        | 12, h => exact h
        | 13, h => exact h
        | 14, h => exact h
        | _ + 15, _ => trivial
      · intro i o ρ w' hi ho hb hc hf hfr hdep
        have k0 := cell_keep6 hb y0
        have k1 := cell_keep6 hb y1
        match i, hi with
        | 0, _ =>
          simp only [List.getElem?_toArray, List.getElem?_cons_zero, Option.some.injEq] at ho
          subst ho
          have ts : ρ (.tmp 6) = .slice (some ⟨w.heap.size, 0, none⟩) Q Q := hfr 6 (by kernel_rfl)
          simp [go_sem, ts]
          exact ⟨Below.refl _ _, rfl⟩
        | 1, _ =>
          simp only [List.getElem?_toArray, List.getElem?_cons_zero, List.getElem?_cons_succ, Option.some.injEq] at ho
          subst ho
          have ts : ρ (.tmp 7) = .int .i64 (k : Int) := hfr 7 (by kernel_rfl)
          simp [go_sem, ts]
          exact ⟨Below.refl _ _, rfl⟩
        | 2, _ =>
          simp only [List.getElem?_toArray, List.getElem?_cons_zero, List.getElem?_cons_succ, Option.some.injEq] at ho
          subst ho
          have ts : ρ (.tmp 1) = .slice (some ⟨b, off, none⟩) len cap := hfr 1 (by kernel_rfl)
          simp [go_sem, ts]
          exact ⟨Below.refl _ _, rfl⟩
        | 3, _ =>
          simp only [List.getElem?_toArray, List.getElem?_cons_zero, List.getElem?_cons_succ, Option.some.injEq] at ho
          subst ho
          have ts : ρ (.tmp 7) = .int .i64 (k : Int) := hfr 7 (by kernel_rfl)
          simp [go_sem, ts]
          exact ⟨Below.refl _ _, rfl⟩
        | 4, _ =>
          simp only [List.getElem?_toArray, List.getElem?_cons_zero, List.getElem?_cons_succ, Option.some.injEq] at ho
          subst ho
          have ts : ρ (.tmp 1) = .slice (some ⟨b, off, none⟩) len cap := hfr 1 (by kernel_rfl)
          simp [go_sem, ts]
          exact ⟨Below.refl _ _, rfl⟩
        | 5, _ =>
          simp only [List.getElem?_toArray, List.getElem?_cons_zero, List.getElem?_cons_succ, Option.some.injEq] at ho
          subst ho
          have t0 : ρ (.tmp 25) = .slice (some ⟨b, off, none⟩) len cap := hdep 4 25 (by kernel_rfl) (by kernel_rfl)
          simp [go_sem, t0]
          exact ⟨Below.refl _ _, rfl⟩
        | 6, _ =>
          simp only [List.getElem?_toArray, List.getElem?_cons_zero, List.getElem?_cons_succ, Option.some.injEq] at ho
          subst ho
          have t0 : ρ (.tmp 24) = .int .i64 (k : Int) := hdep 3 24 (by kernel_rfl) (by kernel_rfl)
          have t1 : ρ (.tmp 26) = .int .i64 (len : Int) := hdep 5 26 (by kernel_rfl) (by kernel_rfl)
          simp [go_sem, t0, t1, hz, hrem]
          exact ⟨Below.refl _ _, rfl⟩
        | 7, _ =>
          simp only [List.getElem?_toArray, List.getElem?_cons_zero, List.getElem?_cons_succ, Option.some.injEq] at ho
          subst ho
          have t0 : ρ (.tmp 23) = .slice (some ⟨b, off, none⟩) len cap := hdep 2 23 (by kernel_rfl) (by kernel_rfl)
          have t1 : ρ (.tmp 27) = .int .i64 (r : Int) := hdep 6 27 (by kernel_rfl) (by kernel_rfl)
          simp [go_sem, t0, t1, hm1]
          exact ⟨Below.refl _ _, rfl⟩
        | 8, _ =>
          simp only [List.getElem?_toArray, List.getElem?_cons_zero, List.getElem?_cons_succ, Option.some.injEq] at ho
          subst ho
          have ts : ρ (.tmp 28) = .pointer (some ⟨b, off + r, none⟩) := hdep 7 28 (by kernel_rfl) (by kernel_rfl)
          simp [go_sem, ts, k0]
          exact ⟨Below.refl _ _, rfl⟩
        | 9, _ =>
          simp only [List.getElem?_toArray, List.getElem?_cons_zero, List.getElem?_cons_succ, Option.some.injEq] at ho
          subst ho
          have ts : ρ (.tmp 7) = .int .i64 (k : Int) := hfr 7 (by kernel_rfl)
          simp [go_sem, ts]
          exact ⟨Below.refl _ _, rfl⟩
        | 10, _ =>
          simp only [List.getElem?_toArray, List.getElem?_cons_zero, List.getElem?_cons_succ, Option.some.injEq] at ho
          subst ho
          have ts : ρ (.tmp 1) = .slice (some ⟨b, off, none⟩) len cap := hfr 1 (by kernel_rfl)
          simp [go_sem, ts]
          exact ⟨Below.refl _ _, rfl⟩
        | 11, _ =>
          simp only [List.getElem?_toArray, List.getElem?_cons_zero, List.getElem?_cons_succ, Option.some.injEq] at ho
          subst ho
          have t0 : ρ (.tmp 31) = .slice (some ⟨b, off, none⟩) len cap := hdep 10 31 (by kernel_rfl) (by kernel_rfl)
          simp [go_sem, t0]
          exact ⟨Below.refl _ _, rfl⟩
        | 12, _ =>
          simp only [List.getElem?_toArray, List.getElem?_cons_zero, List.getElem?_cons_succ, Option.some.injEq] at ho
          subst ho
          have t0 : ρ (.tmp 30) = .int .i64 (k : Int) := hdep 9 30 (by kernel_rfl) (by kernel_rfl)
          have t1 : ρ (.tmp 32) = .int .i64 (len : Int) := hdep 11 32 (by kernel_rfl) (by kernel_rfl)
          simp [go_sem, t0, t1, hz, hquo, hwq]
          exact ⟨Below.refl _ _, rfl⟩
        | 13, _ =>
          simp only [List.getElem?_toArray, List.getElem?_cons_zero, List.getElem?_cons_succ, Option.some.injEq] at ho
          subst ho
          have t0 : ρ (.tmp 29) = .slice (some ⟨xb, xo, none⟩) m c := hdep 8 29 (by kernel_rfl) (by kernel_rfl)
          have t1 : ρ (.tmp 33) = .int .i64 (uq : Int) := hdep 12 33 (by kernel_rfl) (by kernel_rfl)
          simp [go_sem, t0, t1, hm2]
          exact ⟨Below.refl _ _, rfl⟩
        | 14, _ =>
          simp only [List.getElem?_toArray, List.getElem?_cons_zero, List.getElem?_cons_succ, Option.some.injEq] at ho
          subst ho
          have ts : ρ (.tmp 34) = .pointer (some ⟨xb, xo + uq, none⟩) := hdep 13 34 (by kernel_rfl) (by kernel_rfl)
          simp [go_sem, ts, k1]
          exact ⟨Below.refl _ _, rfl⟩
      · intro V w9 q9 hS
        have e0 : V 0 = .slice (some ⟨w.heap.size, 0, none⟩) Q Q := hS 0 (by decide)
        have e1 : V 1 = .int .i64 (k : Int) := hS 1 (by decide)
        have e2 : V 2 = .slice (some ⟨b, off, none⟩) len cap := hS 2 (by decide)
        have e3 : V 3 = .int .i64 (k : Int) := hS 3 (by decide)
        have e4 : V 4 = .slice (some ⟨b, off, none⟩) len cap := hS 4 (by decide)
        have e5 : V 5 = .int .i64 (len : Int) := hS 5 (by decide)
        have e6 : V 6 = .int .i64 (r : Int) := hS 6 (by decide)
        have e7 : V 7 = .pointer (some ⟨b, off + r, none⟩) := hS 7 (by decide)
        have e8 : V 8 = .slice (some ⟨xb, xo, none⟩) m c := hS 8 (by decide)
        have e9 : V 9 = .int .i64 (k : Int) := hS 9 (by decide)
        have e10 : V 10 = .slice (some ⟨b, off, none⟩) len cap := hS 10 (by decide)
        have e11 : V 11 = .int .i64 (len : Int) := hS 11 (by decide)
        have e12 : V 12 = .int .i64 (uq : Int) := hS 12 (by decide)
        have e13 : V 13 = .pointer (some ⟨xb, xo + uq, none⟩) := hS 13 (by decide)
        have e14 : V 14 = .int .i64 y := hS 14 (by decide)
        simp only [List.drop_succ_cons, List.drop_zero, List.take_succ_cons, List.take_zero, puts, e0, e1, e2, e3, e4, e5, e6, e7, e8, e9, e10, e11, e12, e13, e14]
        clear hS e0 e1 e2 e3 e4 e5 e6 e7 e8 e9 e10 e11 e12 e13 e14 V
        have hC9 := HC1.out.later q9
        have hc := hC9.hd (k := k) HLK.out
        have hf := hC9.fz k
        have hC2 : Hid (CapR w.heap.size (w9.setCell ⟨w.heap.size, k, none⟩ (.int .i64 y)) (some ⟨w.heap.size, 0, none⟩) Q (L.take (k + 1) ++ List.replicate (Q - (k + 1)) 0)) := by
          have h1 := hC9.set (k := k) y HLK.out
          rw [HTN.out, List.append_assoc]
          exact h1
        have HB2 := hidden6 ((HB.out.trans (q9.mono HB.out.size)).setCell (p := ⟨w.heap.size, k, none⟩) (Nat.le_refl _) (.int .i64 y))
        clear hC9
        go_wp2
        go_roundg (Q - (k + 1))
        case measure => omega
        case rel => exact ⟨k + 1, by omega, rfl, by go_num, hC2.out, HB2.out⟩
    · have ek : k = Q := by omega
      subst ek
      have hki : ¬ (k : Int) < (k : Int) := by omega
      rw [Nat.sub_self, List.replicate_zero, List.append_nil, List.take_of_length_le (by omega)] at hC
      have HC := hidden6 hC
      have HB := hidden6 hB
      clear hC hB
      go_wp2
      go_ret2
      have h3 := table_one _ _ _ _ _ HB.out.size HC.out
      rw [hLl] at h3
      exact gave_plain GV.out HK.out h3 (HB.out.alloc HB.out.size _)
end Go.Proofs.Ythgblljokonejaa

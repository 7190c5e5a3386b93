/- The firing of add. (Written by tmpl/mkAct.py.) -/
import Derived.Test.YthgblljokonejaaActF2
namespace Go.Proofs.Ythgblljokonejaa
open Go.ChangeShapes Go.WideShapes Go.ChangeAt Go.RowKit

theorem take_nth {L : List Int} {k : Nat} (h : k < L.length) : L.take (k + 1) = L.take k ++ [nth L k] := by
  rw [List.take_add_one, List.getElem?_eq_getElem h, nthZ_get h]; rfl
set_option maxRecDepth 100000 in
set_option maxHeartbeats 2000000 in
theorem fire_6 (F : Nat → Prop) (w : World) (K : Nat) (zs ks : List Int) (n : Nat) (a : Option Addr) (len cap : Nat) (I : List (List Int)) (hk : KinE F w K 6 zs ks n) (hA : ArgL w a len I) (ht : takesS 6 zs I = true) :
    Calls Try.prog 145 #[.pointer (some ⟨K, 0, none⟩), .slice a len cap] w (GaveK F w K 6 zs ks n I) := by
  have HK := hidden6 hk
  have S : Hid (∀ (x : Int) V, Calls Try.prog 136 #[.int .i64 x] V (SingleEnd V x)) := fun x V => single_any x V
  obtain ⟨a1, a2, a3, a4, c1, c2, c3, c4, h⟩ := hk
  obtain ⟨i0, hi, hz0, hz1, hz2⟩ := info_parts Try.info3
  have hl : I.length = len := hA.size
  have h16 := (ins_pos 6 (by decide) zs h.ok).1
  have hl2 := takes_len ht
  have h17 : len ≤ 16 := by omega
  have hone : ∀ k, k < len → (nthL I k).length = 1 := fun k hk => by
    have h1 := takes_nth ht (k := k) (by omega)
    have h3 : (insS 6 zs).length = (nth zs 0).toNat := by show (List.replicate _ _).length = _; simp
    have h2 : nth (insS 6 zs) k = 1 := by show nth (List.replicate _ 1) k = 1; exact nth_rep (by omega)
    omega
  have ONE := hidden6 hone
  have HI := hidden6 hA
  obtain ⟨L, hL⟩ : ∃ L, I.map (nth · 0) = L := ⟨_, rfl⟩
  have hLl : L.length = len := by rw [← hL]; simpa using hl
  have HLN : Hid (∀ k, k < len → nth L k = nth (nthL I k) 0) := fun k hk => by
    rw [← hL, nthZ_get (by simp; omega), nthL_get (by omega)]; simp
  have HR : Hid (InR L) := fun k => by
    by_cases hk : k < len
    · rw [HLN.out k hk]; exact hA.fits k 0
    · rw [nth_none (by omega)]; decide
  have G0 : giveS 6 zs ks I = (sumO 0 L).map fun y => ([[y]], ks) := by rw [← hL]; rfl
  clear hA ht h hone h16 hl2 hL
  have HG := hidden6 G0
  clear G0
  go_enter Try.func145, Try.ntmps145
  go_wp2_with (at_make; refine wpList_make_full _ rfl _ _ 22 rfl w.heap.size 3 i0 (.int .i64 0) 1 Try.underlying22 hi hz0 hz1 _ _ _ _ len rfl rfl rfl rfl (by rw [hz2]; omega) (by unfold maxLen; omega) (Nat.le_refl _) ?_; intro w0 hown0 hgrow0; have B0 := hidden6 ((Below.refl w.heap.size w).grown hgrow0 (Nat.le_refl _) (fun k h => by cases h)); have C0 := hidden6 (made_zero hown0); clear hown0 hgrow0)
  go_loopg [16] len (fun gk v wr => ∃ k : Nat, k ≤ len ∧ gk = len - k ∧ v = .int .i64 (k : Int) ∧ CapR w.heap.size wr (some ⟨w.heap.size, 0, none⟩) len (L.take k ++ List.replicate (len - k) 0) ∧ Below w.heap.size w wr)
  case atStart => exact ⟨0, Nat.zero_le _, rfl, rfl, by simpa using C0.out, B0.out⟩
  case round =>
    clear C0 B0
    obtain ⟨k, hk, rfl, rfl, hC, hB⟩ := hrel
    by_cases hlt : k < len
    · have hki : (k : Int) < (len : Int) := by omega
      have es : List.replicate (len - k) (0 : Int) = 0 :: List.replicate (len - (k + 1)) 0 := by
        rw [show len - k = (len - (k + 1)) + 1 by omega, List.replicate_succ]
      rw [es] at hC
      have hlk : (L.take k).length = k := by rw [List.length_take]; omega
      have hc := hC.hd (k := k) hlk
      have hf := hC.fz k
      obtain ⟨b, off, xb, xo, c, rfl, g1, g2⟩ := tok_cell (HI.out.below hB).lies (i := k) (j := 0) (by omega) (by rw [ONE.out k hlt]; decide)
      rw [ONE.out k hlt] at g1
      rw [← HLN.out k hlt, Nat.add_zero] at g2
      have hC2 : Hid (CapR w.heap.size (wr.setCell ⟨w.heap.size, k, none⟩ (.int .i64 (nth L k))) (some ⟨w.heap.size, 0, none⟩) len (L.take (k + 1) ++ List.replicate (len - (k + 1)) 0)) := by
        have h1 := hC.set (k := k) (nth L k) hlk
        rw [take_nth (by omega), List.append_assoc]
        exact h1
      have HB := hidden6 (hB.setCell (p := ⟨w.heap.size, k, none⟩) (Nat.le_refl _) (.int .i64 (nth L k)))
      clear hC hB es hlk
      generalize nth L k = y at *
      go_wp2
      go_roundg (len - (k + 1))
      case measure => omega
      case rel => exact ⟨k + 1, by omega, rfl, by go_num, hC2.out, HB.out⟩
    · have ek : k = len := by omega
      subst ek
      have hki : ¬ (k : Int) < (k : Int) := by omega
      rw [Nat.sub_self, List.replicate_zero, List.append_nil, List.take_of_length_le (by omega)] at hC
      have SM := hidden6 (sum_any _ L k k wr hLl (by omega) HR.out hC.at)
      have HB := hidden6 hB
      clear hC hB
      unfold sumV sumB at SM
      cases hs : sumO 0 L with
      | none =>
        rw [hs] at SM
        have GV : Hid (giveS 6 zs ks I = none) := by rw [HG.out, hs]; rfl
        clear hs HG
        go_wp2_with (first | (go_at_call 146; (with_reducible refine SM.out.mono ?_); rintro e w2 ⟨rfl, rfl⟩) | (go_at_call 136; (with_reducible refine (S.out _ _).mono ?_); rintro e w1 ⟨g, A, C, rfl, hO, b1⟩))
        go_ret2
        exact gave_none GV.out HK.out (HB.out.trans (b1.mono HB.out.size))
      | some y =>
        rw [hs] at SM
        have GV : Hid (giveS 6 zs ks I = some ([[y]], ks)) := by rw [HG.out, hs]; rfl
        clear hs HG
        go_wp2_with (first | (go_at_call 146; (with_reducible refine SM.out.mono ?_); rintro e w2 ⟨rfl, rfl⟩) | (go_at_call 136; (with_reducible refine (S.out _ _).mono ?_); rintro e w1 ⟨g, A, C, rfl, hO, b1⟩))
        go_ret2
        exact gave_plain GV.out HK.out (hO.mono HB.out.size) (HB.out.trans (b1.mono HB.out.size))
end Go.Proofs.Ythgblljokonejaa

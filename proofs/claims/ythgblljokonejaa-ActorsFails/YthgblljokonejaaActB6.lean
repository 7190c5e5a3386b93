/- The methods of Body at add. (Written by tmpl/mkAct3.py.) -/
import Derived.Test.YthgblljokonejaaActB
import Derived.Test.YthgblljokonejaaActF7
namespace Go.Proofs.Ythgblljokonejaa
open Go.ChangeShapes Go.WideShapes Go.ChangeAt Go.RowKit

set_option maxRecDepth 100000 in
set_option maxHeartbeats 2000000 in
theorem bfire_6 (F : Nat → Prop) (w : World) (B K : Nat) (zs ks : List Int) (n : Nat) (a : Option Addr) (len cap : Nat) (I : List (List Int)) (hb : Bod F w B K 6 zs ks n) (hA : ArgL w a len I) (hn : n < 4611686018427387904) :
    Calls Try.prog 17 #[.pointer (some ⟨B, 0, none⟩), .slice a len cap] w (FireEnd F w B K 6 zs ks n I) := by
  obtain ⟨⟨a1, c1, k0, kA⟩, k2, k3, k4⟩ := hb.kin.cells
  have y0 : w.cell? ⟨B, 0, none⟩ = some (.iface 121 (.pointer (some ⟨K, 0, none⟩))) := hb.blk.cell (k := 0) rfl
  have NO := hidden6 (none_no B _ _ w y0)
  have TK := hidden6 (takes_any K w a1 c1 (insS 6 zs) a len cap I k0 kA k4 hA.size hA.lies)
  have HB := hidden6 hb
  by_cases ht : takesS 6 zs I = true
  · have HT := hidden6 ht
    have FI := hidden6 (fire_6 F w K zs ks n a len cap I hb.kin hA ht)
    unfold GaveK at FI
    have ht2 : decide (I.map (fun l => (l.length : Int)) = insS 6 zs) = true := ht
    rw [ht2] at TK
    clear kA ht ht2 k0 hA hb k2 k3 k4
    cases hg : giveS 6 zs ks I with
    | none =>
      rw [hg] at FI
      simp only at FI
      have GV := hidden6 hg
      clear hg
      go_enter Try.func17, Try.ntmps17
      go_wp2_with (first | (go_at_call 145; (with_reducible refine FI.out.mono ?_); rintro e w1 ⟨⟨v, rfl⟩, hK, b1⟩) | (go_at_call 133; (with_reducible refine TK.out.mono ?_); rintro e v1 ⟨rfl, rfl⟩) | (go_at_call 31; (with_reducible refine NO.out.mono ?_); rintro e v1 ⟨rfl, rfl⟩))
      go_ret2
      exact end_fail HT.out GV.out (HB.out.same hK b1) b1
    | some p =>
      rw [hg] at FI
      obtain ⟨O, ks'⟩ := p
      simp only at FI
      have GV := hidden6 hg
      clear hg
      go_enter Try.func17, Try.ntmps17
      go_wp2_with (first | (go_at_call 129; (with_reducible refine (count_any K n w1 hK.cells.2.1 hK.cells.2.2.1 hn).mono ?_); rintro e w2 ⟨rfl, rfl⟩) | (go_at_call 145; (with_reducible refine FI.out.mono ?_); rintro e w1 ⟨x, c, A, C, F', rfl, hO, hK, hF, hFF, b1⟩; have y0 := (World.cell?_of_block (a := ⟨B, 0, none⟩) (b1.block B HB.out.blk.lt HB.out.ne)).trans y0) | (go_at_call 133; (with_reducible refine TK.out.mono ?_); rintro e v1 ⟨rfl, rfl⟩) | (go_at_call 31; (with_reducible refine NO.out.mono ?_); rintro e v1 ⟨rfl, rfl⟩))
      go_ret2
      refine end_ok (C := C) HT.out GV.out ?_ ?_ hF (b1.trans (But.set _ _ _ _))
      · have hKl := HB.out.kin.mem
        have := hKl.2 K hKl.1
        exact hO.keep (fun k h1 h2 => Below.heap_setCell _ _ _ _ (by simp only; omega)) (by simp)
      · exact HB.out.count hK (fun k h => hFF k h) b1 _ (by first | rfl | simp)
  · have HT := hidden6 ht
    have ht2 : decide (I.map (fun l => (l.length : Int)) = insS 6 zs) = false := by
      unfold takesS at ht
      simpa using ht
    rw [ht2] at TK
    clear kA ht ht2 k0 hA hb k2 k3 k4
    go_enter Try.func17, Try.ntmps17
    go_wp2_with (first | (go_at_call 133; (with_reducible refine TK.out.mono ?_); rintro e v1 ⟨rfl, rfl⟩) | (go_at_call 31; (with_reducible refine NO.out.mono ?_); rintro e v1 ⟨rfl, rfl⟩))
    go_ret2
    exact end_arg HT.out HB.out
set_option maxRecDepth 100000 in
theorem bfired_6 (F : Nat → Prop) (w : World) (B K : Nat) (zs ks : List Int) (n : Nat) (hb : Bod F w B K 6 zs ks n) : Calls Try.prog 16 #[.pointer (some ⟨B, 0, none⟩)] w fun e w' => e = .returned (.int .i64 (n : Int)) ∧ w' = w := by
  have y0 : w.cell? ⟨B, 0, none⟩ = some (.iface 121 (.pointer (some ⟨K, 0, none⟩))) := hb.blk.cell (k := 0) rfl
  have NO := hidden6 (none_no B _ _ w y0)
  have TI := hidden6 (timesK_any K n w hb.kin.cells.2.1)
  clear hb
  go_enter Try.func16, Try.ntmps16
  go_wp2_with (first | (go_at_call 134; (with_reducible refine TI.out.mono ?_); rintro e v1 ⟨rfl, rfl⟩) | (go_at_call 31; (with_reducible refine NO.out.mono ?_); rintro e v1 ⟨rfl, rfl⟩))
  go_ret
  exact ⟨rfl, rfl⟩
set_option maxRecDepth 100000 in
theorem bstate_6 (F : Nat → Prop) (w : World) (B K : Nat) (zs ks : List Int) (n : Nat) (hb : Bod F w B K 6 zs ks n) : Calls Try.prog 15 #[.pointer (some ⟨B, 0, none⟩)] w (RowEnd w ks) := by
  have y0 : w.cell? ⟨B, 0, none⟩ = some (.iface 121 (.pointer (some ⟨K, 0, none⟩))) := hb.blk.cell (k := 0) rfl
  have NO := hidden6 (none_no B _ _ w y0)
  obtain ⟨a1, a2, a3, a4, c1, c2, c3, c4, h⟩ := hb.kin
  have e0 : ks = [] := h.keep.2.2.2 (by decide) (by decide) (by decide)
  have KE := hidden6 (keeps_none (.pointer (some ⟨K, 0, none⟩)) w)
  subst e0
  clear hb h
  go_enter Try.func15, Try.ntmps15
  go_wp2_with (first | (go_at_call 141; (with_reducible refine KE.out.mono ?_); rintro e w1 ⟨rfl, rfl⟩) | (go_at_call 31; (with_reducible refine NO.out.mono ?_); rintro e v1 ⟨rfl, rfl⟩))
  go_ret
  exact ⟨none, 0, rfl, CapR.nil _ _, Below.refl _ _⟩
end Go.Proofs.Ythgblljokonejaa

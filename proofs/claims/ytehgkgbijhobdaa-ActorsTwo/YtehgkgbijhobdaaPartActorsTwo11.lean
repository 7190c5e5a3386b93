/- Texts of one chain, laid one behind the other. -/
import Derived.Test.YtehgkgbijhobdaaPartActorsTwo10
import Derived.Test.YtehgkgbijhobdaaPartActorsTwo8
namespace Go.Proofs.Ytehgkgbijhobdaa
open Go.ChangeShapes Go.WideShapes Go.ChangeAt Go.RowKit
set_option maxRecDepth 100000 in
set_option maxHeartbeats 2000000 in
theorem bfire_10 (F : Nat → Prop) (w : World) (B K : Nat) (zs ks : List Int) (n : Nat) (a : Option Addr) (len cap : Nat) (I : List (List Int)) (hb : Bod F w B K 10 zs ks n) (hA : ArgL w a len I) (hn : n < 4611686018427387904) :
    Calls Try.prog 18 #[.pointer (some ⟨B, 0, none⟩), .slice a len cap] w (FireEnd F w B K 10 zs ks n I) := by
  obtain ⟨⟨a1, c1, k0, kA⟩, k2, k3, k4⟩ := hb.kin.cells
  have y0 : w.cell? ⟨B, 0, none⟩ = some (.iface 89 (.pointer (some ⟨K, 0, none⟩))) := hb.blk.cell (k := 0) rfl
  have NO := hidden6 (none_no B _ _ w y0)
  have TK := hidden6 (takes_any K w a1 c1 (insS 10 zs) a len cap I k0 kA k4 hA.size hA.lies)
  have HB := hidden6 hb
  by_cases ht : takesS 10 zs I = true
  · have HT := hidden6 ht
    have FI := hidden6 (fire_10 F w K zs ks n a len cap I hb.kin hA ht)
    unfold GaveK at FI
    have ht2 : decide (I.map (fun l => (l.length : Int)) = insS 10 zs) = true := ht
    rw [ht2] at TK
    clear kA ht ht2 k0 hA hb k2 k3 k4
    cases hg : giveS 10 zs ks I with
    | none =>
      rw [hg] at FI
      simp only at FI
      have GV := hidden6 hg
      clear hg
      go_enter Try.func18, Try.ntmps18
      go_wp2_with (first | (go_at_call 83; (with_reducible refine FI.out.mono ?_); rintro e w1 ⟨⟨v, rfl⟩, hK, b1⟩) | (go_at_call 65; (with_reducible refine TK.out.mono ?_); rintro e v1 ⟨rfl, rfl⟩) | (go_at_call 29; (with_reducible refine NO.out.mono ?_); rintro e v1 ⟨rfl, rfl⟩))
      go_ret2
      exact end_fail HT.out GV.out (HB.out.same hK b1) b1
    | some p =>
      rw [hg] at FI
      obtain ⟨O, ks'⟩ := p
      simp only at FI
      have GV := hidden6 hg
      clear hg
      go_enter Try.func18, Try.ntmps18
      go_wp2_with (first | (go_at_call 61; (with_reducible refine (count_any K n w1 hK.cells.2.1 hK.cells.2.2.1 hn).mono ?_); rintro e w2 ⟨rfl, rfl⟩) | (go_at_call 83; (with_reducible refine FI.out.mono ?_); rintro e w1 ⟨x, c, A, C, F', rfl, hO, hK, hF, hFF, b1⟩; have y0 := (World.cell?_of_block (a := ⟨B, 0, none⟩) (b1.block B HB.out.blk.lt HB.out.ne)).trans y0) | (go_at_call 65; (with_reducible refine TK.out.mono ?_); rintro e v1 ⟨rfl, rfl⟩) | (go_at_call 29; (with_reducible refine NO.out.mono ?_); rintro e v1 ⟨rfl, rfl⟩))
      go_ret2
      refine end_ok (C := C) HT.out GV.out ?_ ?_ hF (b1.trans (But.set _ _ _ _))
      · have hKl := HB.out.kin.mem
        have := hKl.2 K hKl.1
        exact hO.keep (fun k h1 h2 => Below.heap_setCell _ _ _ _ (by simp only; omega)) (by simp)
      · exact HB.out.count hK (fun k h => hFF k h) b1 _ (by first | rfl | simp)
  · have HT := hidden6 ht
    have ht2 : decide (I.map (fun l => (l.length : Int)) = insS 10 zs) = false := by
      unfold takesS at ht
      simpa using ht
    rw [ht2] at TK
    clear kA ht ht2 k0 hA hb k2 k3 k4
    go_enter Try.func18, Try.ntmps18
    go_wp2_with (first | (go_at_call 65; (with_reducible refine TK.out.mono ?_); rintro e v1 ⟨rfl, rfl⟩) | (go_at_call 29; (with_reducible refine NO.out.mono ?_); rintro e v1 ⟨rfl, rfl⟩))
    go_ret2
    exact end_arg HT.out HB.out
set_option maxRecDepth 100000 in
theorem bfired_10 (F : Nat → Prop) (w : World) (B K : Nat) (zs ks : List Int) (n : Nat) (hb : Bod F w B K 10 zs ks n) : Calls Try.prog 19 #[.pointer (some ⟨B, 0, none⟩)] w fun e w' => e = .returned (.int .i64 (n : Int)) ∧ w' = w := by
  have y0 : w.cell? ⟨B, 0, none⟩ = some (.iface 89 (.pointer (some ⟨K, 0, none⟩))) := hb.blk.cell (k := 0) rfl
  have NO := hidden6 (none_no B _ _ w y0)
  have TI := hidden6 (timesK_any K n w hb.kin.cells.2.1)
  clear hb
  go_enter Try.func19, Try.ntmps19
  go_wp2_with (first | (go_at_call 66; (with_reducible refine TI.out.mono ?_); rintro e v1 ⟨rfl, rfl⟩) | (go_at_call 29; (with_reducible refine NO.out.mono ?_); rintro e v1 ⟨rfl, rfl⟩))
  go_ret
  exact ⟨rfl, rfl⟩
set_option maxRecDepth 100000 in
theorem bstate_10 (F : Nat → Prop) (w : World) (B K : Nat) (zs ks : List Int) (n : Nat) (hb : Bod F w B K 10 zs ks n) : Calls Try.prog 20 #[.pointer (some ⟨B, 0, none⟩)] w (RowEnd w ks) := by
  have y0 : w.cell? ⟨B, 0, none⟩ = some (.iface 89 (.pointer (some ⟨K, 0, none⟩))) := hb.blk.cell (k := 0) rfl
  have NO := hidden6 (none_no B _ _ w y0)
  obtain ⟨a1, a2, a3, a4, c1, c2, c3, c4, h⟩ := hb.kin
  have e0 : ks = [nth ks 0] := by
    have h1 := h.keep.2.2.1 (by decide)
    match ks, h1 with
    | [x], _ => rfl
  have KE := hidden6 (keeps_tick K (nth ks 0) w (h.blk.cell (k := 3) rfl))
  have E0 := hidden6 e0
  rw [← e0] at KE
  unfold RowEnd at KE ⊢
  clear e0 E0
  clear hb h
  go_enter Try.func20, Try.ntmps20
  go_wp2_with (first | (go_at_call 84; (with_reducible refine KE.out.mono ?_); rintro e w1 ⟨x, c, rfl, hx, b1⟩) | (go_at_call 29; (with_reducible refine NO.out.mono ?_); rintro e v1 ⟨rfl, rfl⟩))
  go_ret
  exact ⟨x, c, rfl, hx, b1⟩
set_option maxRecDepth 100000 in
set_option maxHeartbeats 2000000 in
theorem bfire_11 (F : Nat → Prop) (w : World) (B K : Nat) (zs ks : List Int) (n : Nat) (a : Option Addr) (len cap : Nat) (I : List (List Int)) (hb : Bod F w B K 11 zs ks n) (hA : ArgL w a len I) (hn : n < 4611686018427387904) :
    Calls Try.prog 18 #[.pointer (some ⟨B, 0, none⟩), .slice a len cap] w (FireEnd F w B K 11 zs ks n I) := by
  obtain ⟨⟨a1, c1, k0, kA⟩, k2, k3, k4⟩ := hb.kin.cells
  have y0 : w.cell? ⟨B, 0, none⟩ = some (.iface 92 (.pointer (some ⟨K, 0, none⟩))) := hb.blk.cell (k := 0) rfl
  have NO := hidden6 (none_no B _ _ w y0)
  have TK := hidden6 (takes_any K w a1 c1 (insS 11 zs) a len cap I k0 kA k4 hA.size hA.lies)
  have HB := hidden6 hb
  by_cases ht : takesS 11 zs I = true
  · have HT := hidden6 ht
    have FI := hidden6 (fire_11 F w K zs ks n a len cap I hb.kin hA ht)
    unfold GaveK at FI
    have ht2 : decide (I.map (fun l => (l.length : Int)) = insS 11 zs) = true := ht
    rw [ht2] at TK
    clear kA ht ht2 k0 hA hb k2 k3 k4
    cases hg : giveS 11 zs ks I with
    | none =>
      rw [hg] at FI
      simp only at FI
      have GV := hidden6 hg
      clear hg
      go_enter Try.func18, Try.ntmps18
      go_wp2_with (first | (go_at_call 85; (with_reducible refine FI.out.mono ?_); rintro e w1 ⟨⟨v, rfl⟩, hK, b1⟩) | (go_at_call 65; (with_reducible refine TK.out.mono ?_); rintro e v1 ⟨rfl, rfl⟩) | (go_at_call 29; (with_reducible refine NO.out.mono ?_); rintro e v1 ⟨rfl, rfl⟩))
      go_ret2
      exact end_fail HT.out GV.out (HB.out.same hK b1) b1
    | some p =>
      rw [hg] at FI
      obtain ⟨O, ks'⟩ := p
      simp only at FI
      have GV := hidden6 hg
      clear hg
      go_enter Try.func18, Try.ntmps18
      go_wp2_with (first | (go_at_call 61; (with_reducible refine (count_any K n w1 hK.cells.2.1 hK.cells.2.2.1 hn).mono ?_); rintro e w2 ⟨rfl, rfl⟩) | (go_at_call 85; (with_reducible refine FI.out.mono ?_); rintro e w1 ⟨x, c, A, C, F', rfl, hO, hK, hF, hFF, b1⟩; have y0 := (World.cell?_of_block (a := ⟨B, 0, none⟩) (b1.block B HB.out.blk.lt HB.out.ne)).trans y0) | (go_at_call 65; (with_reducible refine TK.out.mono ?_); rintro e v1 ⟨rfl, rfl⟩) | (go_at_call 29; (with_reducible refine NO.out.mono ?_); rintro e v1 ⟨rfl, rfl⟩))
      go_ret2
      refine end_ok (C := C) HT.out GV.out ?_ ?_ hF (b1.trans (But.set _ _ _ _))
      · have hKl := HB.out.kin.mem
        have := hKl.2 K hKl.1
        exact hO.keep (fun k h1 h2 => Below.heap_setCell _ _ _ _ (by simp only; omega)) (by simp)
      · exact HB.out.count hK (fun k h => hFF k h) b1 _ (by first | rfl | simp)
  · have HT := hidden6 ht
    have ht2 : decide (I.map (fun l => (l.length : Int)) = insS 11 zs) = false := by
      unfold takesS at ht
      simpa using ht
    rw [ht2] at TK
    clear kA ht ht2 k0 hA hb k2 k3 k4
    go_enter Try.func18, Try.ntmps18
    go_wp2_with (first | (go_at_call 65; (with_reducible refine TK.out.mono ?_); rintro e v1 ⟨rfl, rfl⟩) | (go_at_call 29; (with_reducible refine NO.out.mono ?_); rintro e v1 ⟨rfl, rfl⟩))
    go_ret2
    exact end_arg HT.out HB.out
set_option maxRecDepth 100000 in
theorem bfired_11 (F : Nat → Prop) (w : World) (B K : Nat) (zs ks : List Int) (n : Nat) (hb : Bod F w B K 11 zs ks n) : Calls Try.prog 19 #[.pointer (some ⟨B, 0, none⟩)] w fun e w' => e = .returned (.int .i64 (n : Int)) ∧ w' = w := by
  have y0 : w.cell? ⟨B, 0, none⟩ = some (.iface 92 (.pointer (some ⟨K, 0, none⟩))) := hb.blk.cell (k := 0) rfl
  have NO := hidden6 (none_no B _ _ w y0)
  have TI := hidden6 (timesK_any K n w hb.kin.cells.2.1)
  clear hb
  go_enter Try.func19, Try.ntmps19
  go_wp2_with (first | (go_at_call 66; (with_reducible refine TI.out.mono ?_); rintro e v1 ⟨rfl, rfl⟩) | (go_at_call 29; (with_reducible refine NO.out.mono ?_); rintro e v1 ⟨rfl, rfl⟩))
  go_ret
  exact ⟨rfl, rfl⟩
set_option maxRecDepth 100000 in
theorem bstate_11 (F : Nat → Prop) (w : World) (B K : Nat) (zs ks : List Int) (n : Nat) (hb : Bod F w B K 11 zs ks n) : Calls Try.prog 20 #[.pointer (some ⟨B, 0, none⟩)] w (RowEnd w ks) := by
  have y0 : w.cell? ⟨B, 0, none⟩ = some (.iface 92 (.pointer (some ⟨K, 0, none⟩))) := hb.blk.cell (k := 0) rfl
  have NO := hidden6 (none_no B _ _ w y0)
  obtain ⟨a1, a2, a3, a4, c1, c2, c3, c4, h⟩ := hb.kin
  have e0 : ks = [] := h.keep.2.2.2 (by decide) (by decide) (by decide)
  have KE := hidden6 (keeps_none (.pointer (some ⟨K, 0, none⟩)) w)
  subst e0
  clear hb h
  go_enter Try.func20, Try.ntmps20
  go_wp2_with (first | (go_at_call 73; (with_reducible refine KE.out.mono ?_); rintro e w1 ⟨rfl, rfl⟩) | (go_at_call 29; (with_reducible refine NO.out.mono ?_); rintro e v1 ⟨rfl, rfl⟩))
  go_ret
  exact ⟨none, 0, rfl, CapR.nil _ _, Below.refl _ _⟩
theorem bfire_any (t : Nat) (ht : 1 ≤ t ∧ t ≤ 11) (F : Nat → Prop) (w : World) (B K : Nat) (zs ks : List Int) (n : Nat) (a : Option Addr) (len cap : Nat) (I : List (List Int)) (hb : Bod F w B K t zs ks n) (hA : ArgL w a len I) (hn : n < 4611686018427387904) :
    Calls Try.prog 18 #[.pointer (some ⟨B, 0, none⟩), .slice a len cap] w (FireEnd F w B K t zs ks n I) := by
  revert hb
  revert t
  exact eleven (fun h => bfire_1 F w B K zs ks n a len cap I h hA hn) (fun h => bfire_2 F w B K zs ks n a len cap I h hA hn) (fun h => bfire_3 F w B K zs ks n a len cap I h hA hn) (fun h => bfire_4 F w B K zs ks n a len cap I h hA hn) (fun h => bfire_5 F w B K zs ks n a len cap I h hA hn) (fun h => bfire_6 F w B K zs ks n a len cap I h hA hn) (fun h => bfire_7 F w B K zs ks n a len cap I h hA hn) (fun h => bfire_8 F w B K zs ks n a len cap I h hA hn) (fun h => bfire_9 F w B K zs ks n a len cap I h hA hn) (fun h => bfire_10 F w B K zs ks n a len cap I h hA hn) (fun h => bfire_11 F w B K zs ks n a len cap I h hA hn)
theorem bfired_any (t : Nat) (ht : 1 ≤ t ∧ t ≤ 11) (F : Nat → Prop) (w : World) (B K : Nat) (zs ks : List Int) (n : Nat) (hb : Bod F w B K t zs ks n) : Calls Try.prog 19 #[.pointer (some ⟨B, 0, none⟩)] w fun e w' => e = .returned (.int .i64 (n : Int)) ∧ w' = w := by
  revert hb
  revert t
  exact eleven (fun h => bfired_1 F w B K zs ks n h) (fun h => bfired_2 F w B K zs ks n h) (fun h => bfired_3 F w B K zs ks n h) (fun h => bfired_4 F w B K zs ks n h) (fun h => bfired_5 F w B K zs ks n h) (fun h => bfired_6 F w B K zs ks n h) (fun h => bfired_7 F w B K zs ks n h) (fun h => bfired_8 F w B K zs ks n h) (fun h => bfired_9 F w B K zs ks n h) (fun h => bfired_10 F w B K zs ks n h) (fun h => bfired_11 F w B K zs ks n h)
theorem bstate_any (t : Nat) (ht : 1 ≤ t ∧ t ≤ 11) (F : Nat → Prop) (w : World) (B K : Nat) (zs ks : List Int) (n : Nat) (hb : Bod F w B K t zs ks n) : Calls Try.prog 20 #[.pointer (some ⟨B, 0, none⟩)] w (RowEnd w ks) := by
  revert hb
  revert t
  exact eleven (fun h => bstate_1 F w B K zs ks n h) (fun h => bstate_2 F w B K zs ks n h) (fun h => bstate_3 F w B K zs ks n h) (fun h => bstate_4 F w B K zs ks n h) (fun h => bstate_5 F w B K zs ks n h) (fun h => bstate_6 F w B K zs ks n h) (fun h => bstate_7 F w B K zs ks n h) (fun h => bstate_8 F w B K zs ks n h) (fun h => bstate_9 F w B K zs ks n h) (fun h => bstate_10 F w B K zs ks n h) (fun h => bstate_11 F w B K zs ks n h)
theorem CapR.none {base : Nat} {w : World} {a : Option Addr} {cap : Nat} {zs : List Int} (h : CapR base w a cap zs) (e : a = Option.none) : zs.length = 0 ∧ cap = 0 := by
  rcases h.2 with ⟨hv, h0⟩ | ⟨g, c, cur, hv, -⟩
  · subst e; injection hv with _ h1 h2; exact ⟨h0, h2⟩
  · subst e; cases hv
set_option maxRecDepth 100000 in
set_option maxHeartbeats 1000000 in
theorem rates_row (K : Nat) (w : World) (a1 a2 : Option Addr) (l1 c1 l2 c2 : Nat) (P Q : List Int) (y0 : w.cell? ⟨K, 0, none⟩ = some (.slice a1 l1 c1)) (y1 : w.cell? ⟨K, 1, none⟩ = some (.slice a2 l2 c2)) (e1 : P.length = l1) (e2 : Q.length = l2) (h1 : At w a1 P) (h2 : At w a2 Q) (n1 : a1 = none → l1 = 0 ∧ c1 = 0) (n2 : a2 = none → l2 = 0 ∧ c2 = 0) (b1 : l1 ≤ 1024) (b2 : l2 ≤ 1024) :
    Calls Try.prog 64 #[.pointer (some ⟨K, 0, none⟩)] w (TwoEnd w P Q) := by
  have CL1 : Hid (∀ V, At V a1 P → Calls Try.prog 26 #[.slice a1 l1 c1] V (RowEnd V P)) := fun V h => clone_any a1 P l1 c1 V e1 (by omega) n1 h
  have CL2 : Hid (∀ V, At V a2 Q → Calls Try.prog 26 #[.slice a2 l2 c2] V (RowEnd V Q)) := fun V h => clone_any a2 Q l2 c2 V e2 (by omega) n2 h
  have H1 := hidden6 h1
  have H2 := hidden6 h2
  clear h1 h2 n1 n2 e1 e2
  go_enter Try.func64, Try.ntmps64
  go_wp2
  refine wp_region_said 9 (fun i u v => match i with
      | 0 => v = .pointer (some ⟨K, 0, none⟩)
      | 1 => v = .pointer (some ⟨K, 0, none⟩)
      | 2 => v = .pointer (some ⟨K, 0, none⟩)
      | 3 => v = .slice a1 l1 c1
      | 4 => Mk w.heap.size u P v
      | 5 => v = .pointer (some ⟨K, 0, none⟩)
      | 6 => v = .pointer (some ⟨K, 0, none⟩)
      | 7 => v = .pointer (some ⟨K, 1, none⟩)
      | 8 => v = .slice a2 l2 c2
      | _ => True) (by kernel_rfl) (by kernel_rfl) (by kernel_rfl) (by kernel_rfl) ?_ ?_ ?_
  · intro i w v w' h hb
    match i, h with
    | 0, h => exact h
    | 1, h => exact h
    | 2, h => exact h
    | 3, h => exact h
    | 4, h => exact Mk.later h hb
    | 5, h => exact h
    | 6, h => exact h
    | 7, h => exact h
    | 8, h => exact h
    | _ + 9, _ => trivial
  · intro i o ρ w' hi ho hb hc hf hfr hdep
    have k0 := cell_keep6 hb y0
    have k1 := cell_keep6 hb y1
    match i, hi with
    | 0, _ =>
      simp only [gTA, gCZ, gSI] at ho
      subst ho
      have ts : ρ (.tmp 0) = .pointer (some ⟨K, 0, none⟩) := hfr 0 (by kernel_rfl)
      simp [go_sem, ts]
      exact ⟨Below.refl _ _, rfl⟩
    | 1, _ =>
      simp only [gTA, gCZ, gCS, gSI] at ho
      subst ho
      have ts : ρ (.tmp 4) = .pointer (some ⟨K, 0, none⟩) := hdep 0 4 (by kernel_rfl) (by kernel_rfl)
      simp [go_sem, ts]
      exact ⟨Below.refl _ _, rfl⟩
    | 2, _ =>
      simp only [gTA, gCZ, gCS, gSI] at ho
      subst ho
      have ts : ρ (.tmp 5) = .pointer (some ⟨K, 0, none⟩) := hdep 1 5 (by kernel_rfl) (by kernel_rfl)
      simp [go_sem, ts]
      exact ⟨Below.refl _ _, rfl⟩
    | 3, _ =>
      simp only [gTA, gCZ, gCS, gSI] at ho
      subst ho
      have ts : ρ (.tmp 6) = .pointer (some ⟨K, 0, none⟩) := hdep 2 6 (by kernel_rfl) (by kernel_rfl)
      simp [go_sem, ts, k0]
      exact ⟨Below.refl _ _, rfl⟩
    | 4, _ =>
      simp only [gTA, gCZ, gCS, gSI] at ho
      subst ho
      have ts : ρ (.tmp 7) = .slice a1 l1 c1 := hdep 3 7 (by kernel_rfl) (by kernel_rfl)
      simp [go_sem, ts, hf]
      exact ⟨rfl, said_of (CL1.out w' (H1.out.below hb)) hb.size⟩
    | 5, _ =>
      simp only [gTA, gCZ, gCS, gSI] at ho
      subst ho
      have ts : ρ (.tmp 0) = .pointer (some ⟨K, 0, none⟩) := hfr 0 (by kernel_rfl)
      simp [go_sem, ts]
      exact ⟨Below.refl _ _, rfl⟩
    | 6, _ =>
      simp only [gTA, gCZ, gCS, gSI] at ho
      subst ho
      have ts : ρ (.tmp 9) = .pointer (some ⟨K, 0, none⟩) := hdep 5 9 (by kernel_rfl) (by kernel_rfl)
      simp [go_sem, ts]
      exact ⟨Below.refl _ _, rfl⟩
    | 7, _ =>
      simp only [gTA, gCZ, gCS, gSI] at ho
      subst ho
      have ts : ρ (.tmp 10) = .pointer (some ⟨K, 0, none⟩) := hdep 6 10 (by kernel_rfl) (by kernel_rfl)
      simp [go_sem, ts]
      exact ⟨Below.refl _ _, rfl⟩
    | 8, _ =>
      simp only [gTA, gCZ, gCS, gSI] at ho
      subst ho
      have ts : ρ (.tmp 11) = .pointer (some ⟨K, 1, none⟩) := hdep 7 11 (by kernel_rfl) (by kernel_rfl)
      simp [go_sem, ts, k1]
      exact ⟨Below.refl _ _, rfl⟩
  · intro V w9 q9 hS
    have e0 : V 0 = .pointer (some ⟨K, 0, none⟩) := hS 0 (by decide)
    have e1 : V 1 = .pointer (some ⟨K, 0, none⟩) := hS 1 (by decide)
    have e2 : V 2 = .pointer (some ⟨K, 0, none⟩) := hS 2 (by decide)
    have e3 : V 3 = .slice a1 l1 c1 := hS 3 (by decide)
    obtain ⟨a5, n5, e4, M5⟩ : Mk w.heap.size w9 P (V 4) := hS 4 (by decide)
    have e5 : V 5 = .pointer (some ⟨K, 0, none⟩) := hS 5 (by decide)
    have e6 : V 6 = .pointer (some ⟨K, 0, none⟩) := hS 6 (by decide)
    have e7 : V 7 = .pointer (some ⟨K, 1, none⟩) := hS 7 (by decide)
    have e8 : V 8 = .slice a2 l2 c2 := hS 8 (by decide)
    simp only [List.drop_succ_cons, List.drop_zero, List.take_succ_cons, List.take_zero, puts, e0, e1, e2, e3, e4, e5, e6, e7, e8]
    clear hS e0 e1 e2 e3 e4 e5 e6 e7 e8 V
    go_wp2_with (go_at_call 26; (with_reducible refine (CL2.out w9 (H2.out.below q9)).mono ?_); rintro e w2 ⟨x, n, rfl, m2, b3⟩)
    go_ret2
    exact ⟨a5, n5, x, n, rfl, two_end rfl M5 q9 m2 b3⟩
theorem outs_len (t : Nat) (ht : 1 ≤ t ∧ t ≤ 11) (zs : List Int) (hk : okS t zs = true) : (outsS t zs).length ≤ 1024 := by
  revert hk
  revert t
  refine eleven ?_ ?_ ?_ ?_ ?_ ?_ ?_ ?_ ?_ ?_ ?_
  · exact fun _ => by show (1 : Nat) ≤ 1024; decide
  · exact fun _ => by show (1 : Nat) ≤ 1024; decide
  · exact fun _ => by show (1 : Nat) ≤ 1024; decide
  · exact fun _ => by show (1 : Nat) ≤ 1024; decide
  · intro hk; have := (ok_two rfl hk).2; show (List.replicate _ _).length ≤ 1024; simp; omega
  · exact fun _ => by show (1 : Nat) ≤ 1024; decide
  · exact fun _ => by show (1 : Nat) ≤ 1024; decide
  · exact fun _ => by show (1 : Nat) ≤ 1024; decide
  · intro hk; have := (ok_one rfl hk).2; show (List.replicate _ _).length ≤ 1024; simp; omega
  · exact fun _ => by show (1 : Nat) ≤ 1024; decide
  · exact fun _ => by show (0 : Nat) ≤ 1024; decide
set_option maxRecDepth 100000 in
theorem bshape_1 (F : Nat → Prop) (w : World) (B K : Nat) (zs ks : List Int) (n : Nat) (hb : Bod F w B K 1 zs ks n) : Calls Try.prog 22 #[.pointer (some ⟨B, 0, none⟩)] w (TwoEnd w (insS 1 zs) (outsS 1 zs)) := by
  have y0 : w.cell? ⟨B, 0, none⟩ = some (.iface 68 (.pointer (some ⟨K, 0, none⟩))) := hb.blk.cell (k := 0) rfl
  have NO := hidden6 (none_no B _ _ w y0)
  obtain ⟨a1, a2, a3, a4, c1, c2, c3, c4, h⟩ := hb.kin
  have RR := hidden6 (rates_row K w a1 a2 _ c1 _ c2 (insS 1 zs) (outsS 1 zs) (h.blk.cell (k := 0) rfl) (h.blk.cell (k := 1) rfl) rfl rfl h.ins.at h.outs.at h.ins.none h.outs.none (by have := (ins_pos 1 (by decide) zs h.ok).1; omega) (outs_len 1 (by decide) zs h.ok))
  unfold TwoEnd at RR ⊢
  clear hb h
  generalize insS 1 zs = P at *
  generalize outsS 1 zs = Q at *
  go_enter Try.func22, Try.ntmps22
  go_wp2_with (first | (go_at_call 64; (with_reducible refine RR.out.mono ?_); rintro e w1 ⟨x, c, y, d, rfl, m1, m2, mx, b1⟩) | (go_at_call 29; (with_reducible refine NO.out.mono ?_); rintro e v1 ⟨rfl, rfl⟩))
  go_ret2
  exact ⟨x, c, y, d, rfl, m1, m2, mx, b1⟩
set_option maxRecDepth 100000 in
theorem bshape_2 (F : Nat → Prop) (w : World) (B K : Nat) (zs ks : List Int) (n : Nat) (hb : Bod F w B K 2 zs ks n) : Calls Try.prog 22 #[.pointer (some ⟨B, 0, none⟩)] w (TwoEnd w (insS 2 zs) (outsS 2 zs)) := by
  have y0 : w.cell? ⟨B, 0, none⟩ = some (.iface 71 (.pointer (some ⟨K, 0, none⟩))) := hb.blk.cell (k := 0) rfl
  have NO := hidden6 (none_no B _ _ w y0)
  obtain ⟨a1, a2, a3, a4, c1, c2, c3, c4, h⟩ := hb.kin
  have RR := hidden6 (rates_row K w a1 a2 _ c1 _ c2 (insS 2 zs) (outsS 2 zs) (h.blk.cell (k := 0) rfl) (h.blk.cell (k := 1) rfl) rfl rfl h.ins.at h.outs.at h.ins.none h.outs.none (by have := (ins_pos 2 (by decide) zs h.ok).1; omega) (outs_len 2 (by decide) zs h.ok))
  unfold TwoEnd at RR ⊢
  clear hb h
  generalize insS 2 zs = P at *
  generalize outsS 2 zs = Q at *
  go_enter Try.func22, Try.ntmps22
  go_wp2_with (first | (go_at_call 64; (with_reducible refine RR.out.mono ?_); rintro e w1 ⟨x, c, y, d, rfl, m1, m2, mx, b1⟩) | (go_at_call 29; (with_reducible refine NO.out.mono ?_); rintro e v1 ⟨rfl, rfl⟩))
  go_ret2
  exact ⟨x, c, y, d, rfl, m1, m2, mx, b1⟩
set_option maxRecDepth 100000 in
theorem bshape_3 (F : Nat → Prop) (w : World) (B K : Nat) (zs ks : List Int) (n : Nat) (hb : Bod F w B K 3 zs ks n) : Calls Try.prog 22 #[.pointer (some ⟨B, 0, none⟩)] w (TwoEnd w (insS 3 zs) (outsS 3 zs)) := by
  have y0 : w.cell? ⟨B, 0, none⟩ = some (.iface 74 (.pointer (some ⟨K, 0, none⟩))) := hb.blk.cell (k := 0) rfl
  have NO := hidden6 (none_no B _ _ w y0)
  obtain ⟨a1, a2, a3, a4, c1, c2, c3, c4, h⟩ := hb.kin
  have RR := hidden6 (rates_row K w a1 a2 _ c1 _ c2 (insS 3 zs) (outsS 3 zs) (h.blk.cell (k := 0) rfl) (h.blk.cell (k := 1) rfl) rfl rfl h.ins.at h.outs.at h.ins.none h.outs.none (by have := (ins_pos 3 (by decide) zs h.ok).1; omega) (outs_len 3 (by decide) zs h.ok))
  unfold TwoEnd at RR ⊢
  clear hb h
  generalize insS 3 zs = P at *
  generalize outsS 3 zs = Q at *
  go_enter Try.func22, Try.ntmps22
  go_wp2_with (first | (go_at_call 64; (with_reducible refine RR.out.mono ?_); rintro e w1 ⟨x, c, y, d, rfl, m1, m2, mx, b1⟩) | (go_at_call 29; (with_reducible refine NO.out.mono ?_); rintro e v1 ⟨rfl, rfl⟩))
  go_ret2
  exact ⟨x, c, y, d, rfl, m1, m2, mx, b1⟩
set_option maxRecDepth 100000 in
theorem bshape_4 (F : Nat → Prop) (w : World) (B K : Nat) (zs ks : List Int) (n : Nat) (hb : Bod F w B K 4 zs ks n) : Calls Try.prog 22 #[.pointer (some ⟨B, 0, none⟩)] w (TwoEnd w (insS 4 zs) (outsS 4 zs)) := by
  have y0 : w.cell? ⟨B, 0, none⟩ = some (.iface 76 (.pointer (some ⟨K, 0, none⟩))) := hb.blk.cell (k := 0) rfl
  have NO := hidden6 (none_no B _ _ w y0)
  obtain ⟨a1, a2, a3, a4, c1, c2, c3, c4, h⟩ := hb.kin
  have RR := hidden6 (rates_row K w a1 a2 _ c1 _ c2 (insS 4 zs) (outsS 4 zs) (h.blk.cell (k := 0) rfl) (h.blk.cell (k := 1) rfl) rfl rfl h.ins.at h.outs.at h.ins.none h.outs.none (by have := (ins_pos 4 (by decide) zs h.ok).1; omega) (outs_len 4 (by decide) zs h.ok))
  unfold TwoEnd at RR ⊢
  clear hb h
  generalize insS 4 zs = P at *
  generalize outsS 4 zs = Q at *
  go_enter Try.func22, Try.ntmps22
  go_wp2_with (first | (go_at_call 64; (with_reducible refine RR.out.mono ?_); rintro e w1 ⟨x, c, y, d, rfl, m1, m2, mx, b1⟩) | (go_at_call 29; (with_reducible refine NO.out.mono ?_); rintro e v1 ⟨rfl, rfl⟩))
  go_ret2
  exact ⟨x, c, y, d, rfl, m1, m2, mx, b1⟩
set_option maxRecDepth 100000 in
theorem bshape_5 (F : Nat → Prop) (w : World) (B K : Nat) (zs ks : List Int) (n : Nat) (hb : Bod F w B K 5 zs ks n) : Calls Try.prog 22 #[.pointer (some ⟨B, 0, none⟩)] w (TwoEnd w (insS 5 zs) (outsS 5 zs)) := by
  have y0 : w.cell? ⟨B, 0, none⟩ = some (.iface 78 (.pointer (some ⟨K, 0, none⟩))) := hb.blk.cell (k := 0) rfl
  have NO := hidden6 (none_no B _ _ w y0)
  obtain ⟨a1, a2, a3, a4, c1, c2, c3, c4, h⟩ := hb.kin
  have RR := hidden6 (rates_row K w a1 a2 _ c1 _ c2 (insS 5 zs) (outsS 5 zs) (h.blk.cell (k := 0) rfl) (h.blk.cell (k := 1) rfl) rfl rfl h.ins.at h.outs.at h.ins.none h.outs.none (by have := (ins_pos 5 (by decide) zs h.ok).1; omega) (outs_len 5 (by decide) zs h.ok))
  unfold TwoEnd at RR ⊢
  clear hb h
  generalize insS 5 zs = P at *
  generalize outsS 5 zs = Q at *
  go_enter Try.func22, Try.ntmps22
  go_wp2_with (first | (go_at_call 64; (with_reducible refine RR.out.mono ?_); rintro e w1 ⟨x, c, y, d, rfl, m1, m2, mx, b1⟩) | (go_at_call 29; (with_reducible refine NO.out.mono ?_); rintro e v1 ⟨rfl, rfl⟩))
  go_ret2
  exact ⟨x, c, y, d, rfl, m1, m2, mx, b1⟩
set_option maxRecDepth 100000 in
theorem bshape_6 (F : Nat → Prop) (w : World) (B K : Nat) (zs ks : List Int) (n : Nat) (hb : Bod F w B K 6 zs ks n) : Calls Try.prog 22 #[.pointer (some ⟨B, 0, none⟩)] w (TwoEnd w (insS 6 zs) (outsS 6 zs)) := by
  have y0 : w.cell? ⟨B, 0, none⟩ = some (.iface 80 (.pointer (some ⟨K, 0, none⟩))) := hb.blk.cell (k := 0) rfl
  have NO := hidden6 (none_no B _ _ w y0)
  obtain ⟨a1, a2, a3, a4, c1, c2, c3, c4, h⟩ := hb.kin
  have RR := hidden6 (rates_row K w a1 a2 _ c1 _ c2 (insS 6 zs) (outsS 6 zs) (h.blk.cell (k := 0) rfl) (h.blk.cell (k := 1) rfl) rfl rfl h.ins.at h.outs.at h.ins.none h.outs.none (by have := (ins_pos 6 (by decide) zs h.ok).1; omega) (outs_len 6 (by decide) zs h.ok))
  unfold TwoEnd at RR ⊢
  clear hb h
  generalize insS 6 zs = P at *
  generalize outsS 6 zs = Q at *
  go_enter Try.func22, Try.ntmps22
  go_wp2_with (first | (go_at_call 64; (with_reducible refine RR.out.mono ?_); rintro e w1 ⟨x, c, y, d, rfl, m1, m2, mx, b1⟩) | (go_at_call 29; (with_reducible refine NO.out.mono ?_); rintro e v1 ⟨rfl, rfl⟩))
  go_ret2
  exact ⟨x, c, y, d, rfl, m1, m2, mx, b1⟩
set_option maxRecDepth 100000 in
theorem bshape_7 (F : Nat → Prop) (w : World) (B K : Nat) (zs ks : List Int) (n : Nat) (hb : Bod F w B K 7 zs ks n) : Calls Try.prog 22 #[.pointer (some ⟨B, 0, none⟩)] w (TwoEnd w (insS 7 zs) (outsS 7 zs)) := by
  have y0 : w.cell? ⟨B, 0, none⟩ = some (.iface 82 (.pointer (some ⟨K, 0, none⟩))) := hb.blk.cell (k := 0) rfl
  have NO := hidden6 (none_no B _ _ w y0)
  obtain ⟨a1, a2, a3, a4, c1, c2, c3, c4, h⟩ := hb.kin
  have RR := hidden6 (rates_row K w a1 a2 _ c1 _ c2 (insS 7 zs) (outsS 7 zs) (h.blk.cell (k := 0) rfl) (h.blk.cell (k := 1) rfl) rfl rfl h.ins.at h.outs.at h.ins.none h.outs.none (by have := (ins_pos 7 (by decide) zs h.ok).1; omega) (outs_len 7 (by decide) zs h.ok))
  unfold TwoEnd at RR ⊢
  clear hb h
  generalize insS 7 zs = P at *
  generalize outsS 7 zs = Q at *
  go_enter Try.func22, Try.ntmps22
  go_wp2_with (first | (go_at_call 64; (with_reducible refine RR.out.mono ?_); rintro e w1 ⟨x, c, y, d, rfl, m1, m2, mx, b1⟩) | (go_at_call 29; (with_reducible refine NO.out.mono ?_); rintro e v1 ⟨rfl, rfl⟩))
  go_ret2
  exact ⟨x, c, y, d, rfl, m1, m2, mx, b1⟩
set_option maxRecDepth 100000 in
theorem bshape_8 (F : Nat → Prop) (w : World) (B K : Nat) (zs ks : List Int) (n : Nat) (hb : Bod F w B K 8 zs ks n) : Calls Try.prog 22 #[.pointer (some ⟨B, 0, none⟩)] w (TwoEnd w (insS 8 zs) (outsS 8 zs)) := by
  have y0 : w.cell? ⟨B, 0, none⟩ = some (.iface 84 (.pointer (some ⟨K, 0, none⟩))) := hb.blk.cell (k := 0) rfl
  have NO := hidden6 (none_no B _ _ w y0)
  obtain ⟨a1, a2, a3, a4, c1, c2, c3, c4, h⟩ := hb.kin
  have RR := hidden6 (rates_row K w a1 a2 _ c1 _ c2 (insS 8 zs) (outsS 8 zs) (h.blk.cell (k := 0) rfl) (h.blk.cell (k := 1) rfl) rfl rfl h.ins.at h.outs.at h.ins.none h.outs.none (by have := (ins_pos 8 (by decide) zs h.ok).1; omega) (outs_len 8 (by decide) zs h.ok))
  unfold TwoEnd at RR ⊢
  clear hb h
  generalize insS 8 zs = P at *
  generalize outsS 8 zs = Q at *
  go_enter Try.func22, Try.ntmps22
  go_wp2_with (first | (go_at_call 64; (with_reducible refine RR.out.mono ?_); rintro e w1 ⟨x, c, y, d, rfl, m1, m2, mx, b1⟩) | (go_at_call 29; (with_reducible refine NO.out.mono ?_); rintro e v1 ⟨rfl, rfl⟩))
  go_ret2
  exact ⟨x, c, y, d, rfl, m1, m2, mx, b1⟩
set_option maxRecDepth 100000 in
theorem bshape_9 (F : Nat → Prop) (w : World) (B K : Nat) (zs ks : List Int) (n : Nat) (hb : Bod F w B K 9 zs ks n) : Calls Try.prog 22 #[.pointer (some ⟨B, 0, none⟩)] w (TwoEnd w (insS 9 zs) (outsS 9 zs)) := by
  have y0 : w.cell? ⟨B, 0, none⟩ = some (.iface 87 (.pointer (some ⟨K, 0, none⟩))) := hb.blk.cell (k := 0) rfl
  have NO := hidden6 (none_no B _ _ w y0)
  obtain ⟨a1, a2, a3, a4, c1, c2, c3, c4, h⟩ := hb.kin
  have RR := hidden6 (rates_row K w a1 a2 _ c1 _ c2 (insS 9 zs) (outsS 9 zs) (h.blk.cell (k := 0) rfl) (h.blk.cell (k := 1) rfl) rfl rfl h.ins.at h.outs.at h.ins.none h.outs.none (by have := (ins_pos 9 (by decide) zs h.ok).1; omega) (outs_len 9 (by decide) zs h.ok))
  unfold TwoEnd at RR ⊢
  clear hb h
  generalize insS 9 zs = P at *
  generalize outsS 9 zs = Q at *
  go_enter Try.func22, Try.ntmps22
  go_wp2_with (first | (go_at_call 64; (with_reducible refine RR.out.mono ?_); rintro e w1 ⟨x, c, y, d, rfl, m1, m2, mx, b1⟩) | (go_at_call 29; (with_reducible refine NO.out.mono ?_); rintro e v1 ⟨rfl, rfl⟩))
  go_ret2
  exact ⟨x, c, y, d, rfl, m1, m2, mx, b1⟩
set_option maxRecDepth 100000 in
theorem bshape_10 (F : Nat → Prop) (w : World) (B K : Nat) (zs ks : List Int) (n : Nat) (hb : Bod F w B K 10 zs ks n) : Calls Try.prog 22 #[.pointer (some ⟨B, 0, none⟩)] w (TwoEnd w (insS 10 zs) (outsS 10 zs)) := by
  have y0 : w.cell? ⟨B, 0, none⟩ = some (.iface 89 (.pointer (some ⟨K, 0, none⟩))) := hb.blk.cell (k := 0) rfl
  have NO := hidden6 (none_no B _ _ w y0)
  obtain ⟨a1, a2, a3, a4, c1, c2, c3, c4, h⟩ := hb.kin
  have RR := hidden6 (rates_row K w a1 a2 _ c1 _ c2 (insS 10 zs) (outsS 10 zs) (h.blk.cell (k := 0) rfl) (h.blk.cell (k := 1) rfl) rfl rfl h.ins.at h.outs.at h.ins.none h.outs.none (by have := (ins_pos 10 (by decide) zs h.ok).1; omega) (outs_len 10 (by decide) zs h.ok))
  unfold TwoEnd at RR ⊢
  clear hb h
  generalize insS 10 zs = P at *
  generalize outsS 10 zs = Q at *
  go_enter Try.func22, Try.ntmps22
  go_wp2_with (first | (go_at_call 64; (with_reducible refine RR.out.mono ?_); rintro e w1 ⟨x, c, y, d, rfl, m1, m2, mx, b1⟩) | (go_at_call 29; (with_reducible refine NO.out.mono ?_); rintro e v1 ⟨rfl, rfl⟩))
  go_ret2
  exact ⟨x, c, y, d, rfl, m1, m2, mx, b1⟩
set_option maxRecDepth 100000 in
theorem bshape_11 (F : Nat → Prop) (w : World) (B K : Nat) (zs ks : List Int) (n : Nat) (hb : Bod F w B K 11 zs ks n) : Calls Try.prog 22 #[.pointer (some ⟨B, 0, none⟩)] w (TwoEnd w (insS 11 zs) (outsS 11 zs)) := by
  have y0 : w.cell? ⟨B, 0, none⟩ = some (.iface 92 (.pointer (some ⟨K, 0, none⟩))) := hb.blk.cell (k := 0) rfl
  have NO := hidden6 (none_no B _ _ w y0)
  obtain ⟨a1, a2, a3, a4, c1, c2, c3, c4, h⟩ := hb.kin
  have RR := hidden6 (rates_row K w a1 a2 _ c1 _ c2 (insS 11 zs) (outsS 11 zs) (h.blk.cell (k := 0) rfl) (h.blk.cell (k := 1) rfl) rfl rfl h.ins.at h.outs.at h.ins.none h.outs.none (by have := (ins_pos 11 (by decide) zs h.ok).1; omega) (outs_len 11 (by decide) zs h.ok))
  unfold TwoEnd at RR ⊢
  clear hb h
  generalize insS 11 zs = P at *
  generalize outsS 11 zs = Q at *
  go_enter Try.func22, Try.ntmps22
  go_wp2_with (first | (go_at_call 64; (with_reducible refine RR.out.mono ?_); rintro e w1 ⟨x, c, y, d, rfl, m1, m2, mx, b1⟩) | (go_at_call 29; (with_reducible refine NO.out.mono ?_); rintro e v1 ⟨rfl, rfl⟩))
  go_ret2
  exact ⟨x, c, y, d, rfl, m1, m2, mx, b1⟩
theorem bshape_any (t : Nat) (ht : 1 ≤ t ∧ t ≤ 11) (F : Nat → Prop) (w : World) (B K : Nat) (zs ks : List Int) (n : Nat) (hb : Bod F w B K t zs ks n) : Calls Try.prog 22 #[.pointer (some ⟨B, 0, none⟩)] w (TwoEnd w (insS t zs) (outsS t zs)) := by
  revert hb
  revert t
  exact eleven (fun h => bshape_1 F w B K zs ks n h) (fun h => bshape_2 F w B K zs ks n h) (fun h => bshape_3 F w B K zs ks n h) (fun h => bshape_4 F w B K zs ks n h) (fun h => bshape_5 F w B K zs ks n h) (fun h => bshape_6 F w B K zs ks n h) (fun h => bshape_7 F w B K zs ks n h) (fun h => bshape_8 F w B K zs ks n h) (fun h => bshape_9 F w B K zs ks n h) (fun h => bshape_10 F w B K zs ks n h) (fun h => bshape_11 F w B K zs ks n h)
end Go.Proofs.Ytehgkgbijhobdaa

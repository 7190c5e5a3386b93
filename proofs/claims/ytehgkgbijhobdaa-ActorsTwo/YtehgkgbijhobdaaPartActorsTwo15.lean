/- Texts of one chain, laid one behind the other. -/
import Derived.Test.YtehgkgbijhobdaaPartActorsTwo14
import Derived.Deep.CutBlock
namespace Go.Proofs.Ytehgkgbijhobdaa
open Go.ChangeShapes Go.WideShapes Go.ChangeAt Go.RowKit
theorem six_but (w : World) (b : Nat) (x0 x1 x2 x3 x4 x5 : Value) : But b w ((((((w.setCell ⟨b, 0, none⟩ x0).setCell ⟨b, 1, none⟩ x1).setCell ⟨b, 2, none⟩ x2).setCell ⟨b, 3, none⟩ x3).setCell ⟨b, 4, none⟩ x4).setCell ⟨b, 5, none⟩ x5) :=
  (((((But.set _ _ _ _).trans (But.set _ _ _ _)).trans (But.set _ _ _ _)).trans (But.set _ _ _ _)).trans (But.set _ _ _ _)).trans (But.set _ _ _ _)
theorem keep_six {B : Nat} {w : World} {b : Nat} {a : Option Addr} {c : Nat} {zs : List Int} (h : CapR B w a c zs) (hb : b < B) (x0 x1 x2 x3 x4 x5 : Value) : At ((((((w.setCell ⟨b, 0, none⟩ x0).setCell ⟨b, 1, none⟩ x1).setCell ⟨b, 2, none⟩ x2).setCell ⟨b, 3, none⟩ x3).setCell ⟨b, 4, none⟩ x4).setCell ⟨b, 5, none⟩ x5) a zs := h.at.block fun x hx => (six_but _ _ _ _ _ _ _ _).block _ (h.lt x hx).2 (by have := (h.lt x hx).1; omega)
theorem capR_lit {w : World} {n : Nat} (hn : w.heap.size = n) (x : Int) : CapR n (w.alloc (.cells #[.int .i64 x] 3)) (some ⟨n, 0, none⟩) 1 [x] := by subst hn; exact capR_one w x
theorem made_lit {w : World} {n : Nat} (hn : w.heap.size = n) (N : Nat) (h : N ≤ 1024) : CapR n (w.alloc (.cells (madeCells #[.int .i64 0] N) 3)) (some ⟨n, 0, none⟩) N (List.replicate N 0) := by subst hn; exact made_alloc w N h
set_option maxRecDepth 100000 in
set_option maxHeartbeats 1000000 in
theorem rnew7_o (t : Nat) (ht : 1 ≤ t ∧ t ≤ 11) (a : Option Addr) (zs : List Int) (len cap : Nat) (w : World) (hA : Arg w a len cap zs) (ok : okS t zs = true) (n1 : t ≠ 1) (n8 : t ≠ 8) (n10 : t ≠ 10) : Calls Try.prog 7 #[.int .u8 (t : Int), .slice a len cap] w (RNewEnd w t zs) := by
  have ba := (Below.refl w.heap.size w).alloc (Nat.le_refl _) (.cells #[.int .u8 0, .slice none 0 0, .slice none 0 0, .slice none 0 0, .slice none 0 0, .int .i64 0] 31)
  have h0 : ofS t zs = (insS t zs, outsS t zs, 0) := by unfold ofS; rw [if_pos ht, if_pos ok]
  have OF : Hid (Calls Try.prog 15 #[.int .u8 (t : Int), .slice a len cap] (w.alloc (.cells #[.int .u8 0, .slice none 0 0, .slice none 0 0, .slice none 0 0, .slice none 0 0, .int .i64 0] 31)) (OfEnd (w.alloc (.cells #[.int .u8 0, .slice none 0 0, .slice none 0 0, .slice none 0 0, .slice none 0 0, .int .i64 0] 31)) (insS t zs, outsS t zs, 0))) := by
    have h := rof_any t a zs len cap _ (by omega) hA.size (hA.lies.below ba)
    rw [h0] at h
    exact h
  unfold OfEnd at OF
  have H0 := hidden6 h0
  have BA := hidden6 ba
  have V4 := hidden6 (blkA_new 31 w #[.int .u8 0, .slice none 0 0, .slice none 0 0, .slice none 0 0, .slice none 0 0, .int .i64 0])
  have IN : Hid (∀ V, Below w.heap.size w V → Calls Try.prog 16 #[.slice a len cap] V (CopiedC V len zs)) := fun V h => ints_own a zs len cap V (hA.below h)
  have HL := hidden6 hA.size
  have HA := hidden6 hA
  have e1 : ((t : Int) == 1) = false := by simpa using (show ¬ (t : Int) = 1 by omega)
  have e8 : ((t : Int) == 8) = false := by simpa using (show ¬ (t : Int) = 8 by omega)
  have e10 : ((t : Int) == 10) = false := by simpa using (show ¬ (t : Int) = 10 by omega)
  have g1 : ¬ (t : Int) = 1 := by omega
  have g8 : ¬ (t : Int) = 8 := by omega
  have g10 : ¬ (t : Int) = 10 := by omega
  have HK : Hid (keepS t zs = []) := by
    show keepS t zs = []
    revert n1 n8 n10
    exact eleven (p := fun t => t ≠ 1 → t ≠ 8 → t ≠ 10 → keepS t zs = []) (fun h => absurd rfl h) (fun _ _ _ => rfl) (fun _ _ _ => rfl) (fun _ _ _ => rfl) (fun _ _ _ => rfl) (fun _ _ _ => rfl) (fun _ _ _ => rfl) (fun _ h => absurd rfl h) (fun _ _ _ => rfl) (fun _ _ h => absurd rfl h) (fun _ _ _ => rfl) t ht
  clear n1 n8 n10 ht
  clear hA ba h0 ok
  go_enter Try.func7, Try.ntmps7
  go_upto_region 5 with (first
    | (go_at_call 16; (with_reducible refine (IN.out w1 BB1.out).mono ?_); rintro e w2 ⟨p, cp, rfl, mp, b2⟩; have Z4 := hidden6 ((V4.out.below b1).below b2); have BB2 := hidden6 (BB1.out.trans (b2.mono BB1.out.size)); have L4 := Z4.out.lt; have MP := hidden6 (mp.mono (show w.heap.size + 1 ≤ w1.heap.size by have := b1.size; simp at this; omega)); have MI := hidden6 (m1.later b2); have MO := hidden6 (m2.later b2); clear m1 m2 mx b1 b2 mp)
    | (go_at_call 15; (with_reducible refine OF.out.mono ?_); rintro e w1 ⟨x1, d1, x2, d2, rfl, m1, m2, mx, b1⟩; have BB1 := hidden6 (BA.out.trans (b1.mono BA.out.size)); simp only [World.size_alloc] at m1 m2))
  generalize hw3 : w2.alloc (.cells #[.int .u8 (t : Int), .slice p len cp, .slice x1 (insS t zs).length d1, .slice x2 (outsS t zs).length d2, .slice none 0 0, .int .i64 0] 31) = w3
  have b3 : Below w2.heap.size w2 w3 := by rw [← hw3]; exact (Below.refl _ _).alloc (Nat.le_refl _) _
  have N9 : BlkA 31 w2.heap.size w3 #[.int .u8 (t : Int), .slice p len cp, .slice x1 (insS t zs).length d1, .slice x2 (outsS t zs).length d2, .slice none 0 0, .int .i64 0] := by rw [← hw3]; exact blkA_new _ _ _
  have Y4 := Z4.out.below b3
  have z0 := Y4.cell (k := 0) rfl
  have z1 := Y4.cell (k := 1) rfl
  have z2 := Y4.cell (k := 2) rfl
  have z3 := Y4.cell (k := 3) rfl
  have z4 := Y4.cell (k := 4) rfl
  have z5 := Y4.cell (k := 5) rfl
  have f0 := Y4.frozen 0
  have f1 := Y4.frozen 1
  have f2 := Y4.frozen 2
  have f3 := Y4.frozen 3
  have f4 := Y4.frozen 4
  have f5 := Y4.frozen 5
  have y0 := N9.cell (k := 0) rfl
  have y1 := N9.cell (k := 1) rfl
  have y2 := N9.cell (k := 2) rfl
  have y3 := N9.cell (k := 3) rfl
  have y4 := N9.cell (k := 4) rfl
  have y5 := N9.cell (k := 5) rfl
  have L43 : w.heap.size < w3.heap.size := by have := b3.size; omega
  have B3 := hidden6 b3
  clear hw3 b3 N9 Y4 Z4
  go_wp2
  refine bodyPost_ret (v := .tuple #[.agg #[.int .u8 (t : Int), .slice p len cp, .slice x1 (insS t zs).length d1, .slice x2 (outsS t zs).length d2, .slice none 0 0, .int .i64 0], .int .i64 0]) (by simp [results, Try.results7, go_sem, z0, z1, z2, z3, z4, z5]) rfl ?_
  refine rnew_end (w2 := w2) (b4 := w.heap.size) (k := none) (ck := 0) H0.out HL.out BB2.out (Nat.le_refl _) MP.out MI.out MO.out ?_ ?_ (fun x hx => by cases hx) (fun e => absurd (show (t : Int) = 1 by omega) g1) (by rw [HK.out]; rfl)
  · rw [HK.out]; exact .inl rfl
  · exact (But.of_below B3.out).trans (six_but w3 w.heap.size _ _ _ _ _ _)
set_option maxRecDepth 100000 in
set_option maxHeartbeats 1000000 in
theorem rnew7_8 (a : Option Addr) (zs : List Int) (len cap : Nat) (w : World) (hA : Arg w a len cap zs) (ok : okS 8 zs = true) : Calls Try.prog 7 #[.int .u8 8, .slice a len cap] w (RNewEnd w 8 zs) := by
  have ba := (Below.refl w.heap.size w).alloc (Nat.le_refl _) (.cells #[.int .u8 0, .slice none 0 0, .slice none 0 0, .slice none 0 0, .slice none 0 0, .int .i64 0] 31)
  have h0 : ofS 8 zs = (insS 8 zs, outsS 8 zs, 0) := by unfold ofS; rw [if_pos (by decide), if_pos ok]
  have OF : Hid (Calls Try.prog 15 #[.int .u8 8, .slice a len cap] (w.alloc (.cells #[.int .u8 0, .slice none 0 0, .slice none 0 0, .slice none 0 0, .slice none 0 0, .int .i64 0] 31)) (OfEnd (w.alloc (.cells #[.int .u8 0, .slice none 0 0, .slice none 0 0, .slice none 0 0, .slice none 0 0, .int .i64 0] 31)) (insS 8 zs, outsS 8 zs, 0))) := by
    have h := rof_any 8 a zs len cap _ (by decide) hA.size (hA.lies.below ba)
    rw [h0] at h
    exact h
  unfold OfEnd at OF
  have H0 := hidden6 h0
  have BA := hidden6 ba
  have V4 := hidden6 (blkA_new 31 w #[.int .u8 0, .slice none 0 0, .slice none 0 0, .slice none 0 0, .slice none 0 0, .int .i64 0])
  have IN : Hid (∀ V, Below w.heap.size w V → Calls Try.prog 16 #[.slice a len cap] V (CopiedC V len zs)) := fun V h => ints_own a zs len cap V (hA.below h)
  have HL := hidden6 hA.size
  have HA := hidden6 hA
  clear hA ba h0 ok
  go_enter Try.func7, Try.ntmps7
  go_upto_region 5 with (first
    | (go_at_call 16; (with_reducible refine (IN.out w1 BB1.out).mono ?_); rintro e w2 ⟨p, cp, rfl, mp, b2⟩; have Z4 := hidden6 ((V4.out.below b1).below b2); have BB2 := hidden6 (BB1.out.trans (b2.mono BB1.out.size)); have L4 := Z4.out.lt; have MP := hidden6 (mp.mono (show w.heap.size + 1 ≤ w1.heap.size by have := b1.size; simp at this; omega)); have MI := hidden6 (m1.later b2); have MO := hidden6 (m2.later b2); clear m1 m2 mx b1 b2 mp)
    | (go_at_call 15; (with_reducible refine OF.out.mono ?_); rintro e w1 ⟨x1, d1, x2, d2, rfl, m1, m2, mx, b1⟩; have BB1 := hidden6 (BA.out.trans (b1.mono BA.out.size)); simp only [World.size_alloc] at m1 m2))
  generalize hw3 : w2.alloc (.cells #[.int .u8 8, .slice p len cp, .slice x1 (insS 8 zs).length d1, .slice x2 (outsS 8 zs).length d2, .slice none 0 0, .int .i64 0] 31) = w3
  have b3 : Below w2.heap.size w2 w3 := by rw [← hw3]; exact (Below.refl _ _).alloc (Nat.le_refl _) _
  have N9 : BlkA 31 w2.heap.size w3 #[.int .u8 8, .slice p len cp, .slice x1 (insS 8 zs).length d1, .slice x2 (outsS 8 zs).length d2, .slice none 0 0, .int .i64 0] := by rw [← hw3]; exact blkA_new _ _ _
  have L9 := N9.lt
  have L43 : w.heap.size < w3.heap.size := by omega
  have B3 := hidden6 b3
  have y4x := N9.cell (k := 4) rfl
  have g4 := N9.frozen 4
  have H9 := hidden6 N9
  clear hw3 b3 N9
  go_upto_block 0 with fail
  go_cut [] (fun wx => BlkA 31 w2.heap.size wx #[.int .u8 8, .slice p len cp, .slice x1 (insS 8 zs).length d1, .slice x2 (outsS 8 zs).length d2, .slice (some ⟨w3.heap.size, 0, none⟩) 1 1, .int .i64 0] ∧ Below w2.heap.size w2 wx ∧ CapR w3.heap.size wx (some ⟨w3.heap.size, 0, none⟩) 1 [0])
  case first =>
    go_wp2
    go_meet
    case rel => exact ⟨(H9.out.set 4 (.slice (some ⟨w3.heap.size, 0, none⟩) 1 1)).below ((Below.refl _ _).alloc (Nat.le_refl _) (.cells #[.int .i64 0] 3)), (B3.out.setCell (p := ⟨w2.heap.size, 4, none⟩) (Nat.le_refl _) (.slice (some ⟨w3.heap.size, 0, none⟩) 1 1)).alloc (by rw [World.size_setCell]; exact B3.out.size) (.cells #[.int .i64 0] 3), capR_lit (World.size_setCell _ _ _) 0⟩
  obtain ⟨N9, b4, CK⟩ := hcut
  have b4 := hidden6 b4
  have CK := hidden6 CK
  have Y4 := Z4.out.below b4.out
  have z0 := Y4.cell (k := 0) rfl
  have z1 := Y4.cell (k := 1) rfl
  have z2 := Y4.cell (k := 2) rfl
  have z3 := Y4.cell (k := 3) rfl
  have z4 := Y4.cell (k := 4) rfl
  have z5 := Y4.cell (k := 5) rfl
  have f0 := Y4.frozen 0
  have f1 := Y4.frozen 1
  have f2 := Y4.frozen 2
  have f3 := Y4.frozen 3
  have f4 := Y4.frozen 4
  have f5 := Y4.frozen 5
  have y0 := N9.cell (k := 0) rfl
  have y1 := N9.cell (k := 1) rfl
  have y2 := N9.cell (k := 2) rfl
  have y3 := N9.cell (k := 3) rfl
  have y4 := N9.cell (k := 4) rfl
  have y5 := N9.cell (k := 5) rfl
  clear N9 Y4 Z4 H9 g4 y4x
  go_wp2
  refine bodyPost_ret (v := .tuple #[.agg #[.int .u8 8, .slice p len cp, .slice x1 (insS 8 zs).length d1, .slice x2 (outsS 8 zs).length d2, .slice (some ⟨w3.heap.size, 0, none⟩) 1 1, .int .i64 0], .int .i64 0]) (by simp [results, Try.results7, go_sem, z0, z1, z2, z3, z4, z5]) rfl ?_
  refine rnew_end (w2 := w2) (b4 := w.heap.size) (k := some ⟨w3.heap.size, 0, none⟩) (ck := 1) H0.out HL.out BB2.out (Nat.le_refl _) MP.out MI.out MO.out ?_ ?_ (fun x hx => by cases hx; exact ⟨Nat.le_of_lt L43, by simp only [World.size_setCell]; exact (CK.out.lt _ rfl).2⟩) (fun e => absurd e (by decide)) (by rfl)
  · exact keep_six CK.out L43 _ _ _ _ _ _
  · exact (But.of_below b4.out).trans (six_but wc w.heap.size _ _ _ _ _ _)
set_option maxRecDepth 100000 in
set_option maxHeartbeats 1000000 in
theorem rnew7_10 (a : Option Addr) (zs : List Int) (len cap : Nat) (w : World) (hA : Arg w a len cap zs) (ok : okS 10 zs = true) : Calls Try.prog 7 #[.int .u8 10, .slice a len cap] w (RNewEnd w 10 zs) := by
  have ba := (Below.refl w.heap.size w).alloc (Nat.le_refl _) (.cells #[.int .u8 0, .slice none 0 0, .slice none 0 0, .slice none 0 0, .slice none 0 0, .int .i64 0] 31)
  have h0 : ofS 10 zs = (insS 10 zs, outsS 10 zs, 0) := by unfold ofS; rw [if_pos (by decide), if_pos ok]
  have OF : Hid (Calls Try.prog 15 #[.int .u8 10, .slice a len cap] (w.alloc (.cells #[.int .u8 0, .slice none 0 0, .slice none 0 0, .slice none 0 0, .slice none 0 0, .int .i64 0] 31)) (OfEnd (w.alloc (.cells #[.int .u8 0, .slice none 0 0, .slice none 0 0, .slice none 0 0, .slice none 0 0, .int .i64 0] 31)) (insS 10 zs, outsS 10 zs, 0))) := by
    have h := rof_any 10 a zs len cap _ (by decide) hA.size (hA.lies.below ba)
    rw [h0] at h
    exact h
  unfold OfEnd at OF
  have H0 := hidden6 h0
  have BA := hidden6 ba
  have V4 := hidden6 (blkA_new 31 w #[.int .u8 0, .slice none 0 0, .slice none 0 0, .slice none 0 0, .slice none 0 0, .int .i64 0])
  have IN : Hid (∀ V, Below w.heap.size w V → Calls Try.prog 16 #[.slice a len cap] V (CopiedC V len zs)) := fun V h => ints_own a zs len cap V (hA.below h)
  have HL := hidden6 hA.size
  have HA := hidden6 hA
  have hz2 : zs.length = 2 := of_decide_eq_true (show decide (zs.length = 2) = true from ok)
  have hlN : 0 < len := by have := hA.size; omega
  have hlI : (0 : Int) < (len : Int) := by omega
  have HZ := hidden6 hz2
  clear hz2
  clear hA ba h0 ok
  go_enter Try.func7, Try.ntmps7
  go_upto_region 5 with (first
    | (go_at_call 16; (with_reducible refine (IN.out w1 BB1.out).mono ?_); rintro e w2 ⟨p, cp, rfl, mp, b2⟩; have Z4 := hidden6 ((V4.out.below b1).below b2); have BB2 := hidden6 (BB1.out.trans (b2.mono BB1.out.size)); have L4 := Z4.out.lt; have MP := hidden6 (mp.mono (show w.heap.size + 1 ≤ w1.heap.size by have := b1.size; simp at this; omega)); have MI := hidden6 (m1.later b2); have MO := hidden6 (m2.later b2); clear m1 m2 mx b1 b2 mp)
    | (go_at_call 15; (with_reducible refine OF.out.mono ?_); rintro e w1 ⟨x1, d1, x2, d2, rfl, m1, m2, mx, b1⟩; have BB1 := hidden6 (BA.out.trans (b1.mono BA.out.size)); simp only [World.size_alloc] at m1 m2))
  generalize hw3 : w2.alloc (.cells #[.int .u8 10, .slice p len cp, .slice x1 (insS 10 zs).length d1, .slice x2 (outsS 10 zs).length d2, .slice none 0 0, .int .i64 0] 31) = w3
  have b3 : Below w2.heap.size w2 w3 := by rw [← hw3]; exact (Below.refl _ _).alloc (Nat.le_refl _) _
  have N9 : BlkA 31 w2.heap.size w3 #[.int .u8 10, .slice p len cp, .slice x1 (insS 10 zs).length d1, .slice x2 (outsS 10 zs).length d2, .slice none 0 0, .int .i64 0] := by rw [← hw3]; exact blkA_new _ _ _
  have L9 := N9.lt
  have L43 : w.heap.size < w3.heap.size := by omega
  have B3 := hidden6 b3
  have y4x := N9.cell (k := 4) rfl
  have g4 := N9.frozen 4
  have H9 := hidden6 N9
  clear hw3 b3 N9
  rcases HA.out.lies.below (BB2.out.trans (B3.out.mono BB2.out.size)) with h9 | ⟨ab, ao, rfl, hc9⟩
  · exact absurd HZ.out (by rw [h9]; decide)
  have c9 : w3.cell? ⟨ab, ao, none⟩ = some (.int .i64 (nth zs 0)) := hc9 0 (by have := HZ.out; omega)
  clear hc9
  go_upto_block 0 with fail
  go_cut [] (fun wx => BlkA 31 w2.heap.size wx #[.int .u8 10, .slice p len cp, .slice x1 (insS 10 zs).length d1, .slice x2 (outsS 10 zs).length d2, .slice (some ⟨w3.heap.size, 0, none⟩) 1 1, .int .i64 0] ∧ Below w2.heap.size w2 wx ∧ CapR w3.heap.size wx (some ⟨w3.heap.size, 0, none⟩) 1 [nth zs 0])
  case first =>
    go_wp2
    go_meet
    case rel => exact ⟨(H9.out.set 4 (.slice (some ⟨w3.heap.size, 0, none⟩) 1 1)).below ((Below.refl _ _).alloc (Nat.le_refl _) (.cells #[.int .i64 (nth zs 0)] 3)), (B3.out.setCell (p := ⟨w2.heap.size, 4, none⟩) (Nat.le_refl _) (.slice (some ⟨w3.heap.size, 0, none⟩) 1 1)).alloc (by rw [World.size_setCell]; exact B3.out.size) (.cells #[.int .i64 (nth zs 0)] 3), capR_lit (World.size_setCell _ _ _) (nth zs 0)⟩
  obtain ⟨N9, b4, CK⟩ := hcut
  have b4 := hidden6 b4
  have CK := hidden6 CK
  have Y4 := Z4.out.below b4.out
  have z0 := Y4.cell (k := 0) rfl
  have z1 := Y4.cell (k := 1) rfl
  have z2 := Y4.cell (k := 2) rfl
  have z3 := Y4.cell (k := 3) rfl
  have z4 := Y4.cell (k := 4) rfl
  have z5 := Y4.cell (k := 5) rfl
  have f0 := Y4.frozen 0
  have f1 := Y4.frozen 1
  have f2 := Y4.frozen 2
  have f3 := Y4.frozen 3
  have f4 := Y4.frozen 4
  have f5 := Y4.frozen 5
  have y0 := N9.cell (k := 0) rfl
  have y1 := N9.cell (k := 1) rfl
  have y2 := N9.cell (k := 2) rfl
  have y3 := N9.cell (k := 3) rfl
  have y4 := N9.cell (k := 4) rfl
  have y5 := N9.cell (k := 5) rfl
  clear N9 Y4 Z4 H9 g4 y4x
  go_wp2
  refine bodyPost_ret (v := .tuple #[.agg #[.int .u8 10, .slice p len cp, .slice x1 (insS 10 zs).length d1, .slice x2 (outsS 10 zs).length d2, .slice (some ⟨w3.heap.size, 0, none⟩) 1 1, .int .i64 0], .int .i64 0]) (by simp [results, Try.results7, go_sem, z0, z1, z2, z3, z4, z5]) rfl ?_
  refine rnew_end (w2 := w2) (b4 := w.heap.size) (k := some ⟨w3.heap.size, 0, none⟩) (ck := 1) H0.out HL.out BB2.out (Nat.le_refl _) MP.out MI.out MO.out ?_ ?_ (fun x hx => by cases hx; exact ⟨Nat.le_of_lt L43, by simp only [World.size_setCell]; exact (CK.out.lt _ rfl).2⟩) (fun e => absurd e (by decide)) (by rfl)
  · exact keep_six CK.out L43 _ _ _ _ _ _
  · exact (But.of_below b4.out).trans (six_but wc w.heap.size _ _ _ _ _ _)
set_option maxRecDepth 100000 in
set_option maxHeartbeats 1000000 in
theorem rnew7_1 (a : Option Addr) (zs : List Int) (len cap : Nat) (w : World) (hA : Arg w a len cap zs) (ok : okS 1 zs = true) : Calls Try.prog 7 #[.int .u8 1, .slice a len cap] w (RNewEnd w 1 zs) := by
  have ba := (Below.refl w.heap.size w).alloc (Nat.le_refl _) (.cells #[.int .u8 0, .slice none 0 0, .slice none 0 0, .slice none 0 0, .slice none 0 0, .int .i64 0] 31)
  have h0 : ofS 1 zs = (insS 1 zs, outsS 1 zs, 0) := by unfold ofS; rw [if_pos (by decide), if_pos ok]
  have OF : Hid (Calls Try.prog 15 #[.int .u8 1, .slice a len cap] (w.alloc (.cells #[.int .u8 0, .slice none 0 0, .slice none 0 0, .slice none 0 0, .slice none 0 0, .int .i64 0] 31)) (OfEnd (w.alloc (.cells #[.int .u8 0, .slice none 0 0, .slice none 0 0, .slice none 0 0, .slice none 0 0, .int .i64 0] 31)) (insS 1 zs, outsS 1 zs, 0))) := by
    have h := rof_any 1 a zs len cap _ (by decide) hA.size (hA.lies.below ba)
    rw [h0] at h
    exact h
  unfold OfEnd at OF
  have H0 := hidden6 h0
  have BA := hidden6 ba
  have V4 := hidden6 (blkA_new 31 w #[.int .u8 0, .slice none 0 0, .slice none 0 0, .slice none 0 0, .slice none 0 0, .int .i64 0])
  have IN : Hid (∀ V, Below w.heap.size w V → Calls Try.prog 16 #[.slice a len cap] V (CopiedC V len zs)) := fun V h => ints_own a zs len cap V (hA.below h)
  have HL := hidden6 hA.size
  have HA := hidden6 hA
  have hzl := wB_bound (show wB (zs.length : Int) 16 = true from ok)
  have hls := hA.size
  obtain ⟨N, hN⟩ : ∃ N, len = N + 1 := ⟨len - 1, by omega⟩
  have hmk := run_make_row' (P := Try.prog) 22 3 (.int .i64 0) 8 Try.underlying22 Try.info3 rfl .i64 .i64 N (by omega) (by omega)
  have hN16 : N ≤ 16 := by omega
  have HW : IntKind.i64.wrap (N : Int) = (N : Int) := by rw [IntKind.wrap_i64]; omega
  have HZ : Hid (zs.length = N + 1) := (by omega : zs.length = N + 1)
  subst hN
  clear hzl hls
  clear hA ba h0 ok
  go_enter Try.func7, Try.ntmps7
  go_upto_region 5 with (first
    | (go_at_call 16; (with_reducible refine (IN.out w1 BB1.out).mono ?_); rintro e w2 ⟨p, cp, rfl, mp, b2⟩; have Z4 := hidden6 ((V4.out.below b1).below b2); have BB2 := hidden6 (BB1.out.trans (b2.mono BB1.out.size)); have L4 := Z4.out.lt; have MP := hidden6 (mp.mono (show w.heap.size + 1 ≤ w1.heap.size by have := b1.size; simp at this; omega)); have MI := hidden6 (m1.later b2); have MO := hidden6 (m2.later b2); clear m1 m2 mx b1 b2 mp)
    | (go_at_call 15; (with_reducible refine OF.out.mono ?_); rintro e w1 ⟨x1, d1, x2, d2, rfl, m1, m2, mx, b1⟩; have BB1 := hidden6 (BA.out.trans (b1.mono BA.out.size)); simp only [World.size_alloc] at m1 m2))
  generalize hw3 : w2.alloc (.cells #[.int .u8 1, .slice p (N + 1) cp, .slice x1 (insS 1 zs).length d1, .slice x2 (outsS 1 zs).length d2, .slice none 0 0, .int .i64 0] 31) = w3
  have b3 : Below w2.heap.size w2 w3 := by rw [← hw3]; exact (Below.refl _ _).alloc (Nat.le_refl _) _
  have N9 : BlkA 31 w2.heap.size w3 #[.int .u8 1, .slice p (N + 1) cp, .slice x1 (insS 1 zs).length d1, .slice x2 (outsS 1 zs).length d2, .slice none 0 0, .int .i64 0] := by rw [← hw3]; exact blkA_new _ _ _
  have L9 := N9.lt
  have L43 : w.heap.size < w3.heap.size := by omega
  have B3 := hidden6 b3
  have y4x := N9.cell (k := 4) rfl
  have g4 := N9.frozen 4
  have H9 := hidden6 N9
  clear hw3 b3 N9
  go_upto_block 0 with fail
  go_cut [] (fun wx => BlkA 31 w2.heap.size wx #[.int .u8 1, .slice p (N + 1) cp, .slice x1 (insS 1 zs).length d1, .slice x2 (outsS 1 zs).length d2, .slice (some ⟨w3.heap.size, 0, none⟩) N N, .int .i64 0] ∧ Below w2.heap.size w2 wx ∧ CapR w3.heap.size wx (some ⟨w3.heap.size, 0, none⟩) N (List.replicate N 0))
  case first =>
    go_wp2
    go_meet
    case rel => exact ⟨(H9.out.set 4 (.slice (some ⟨w3.heap.size, 0, none⟩) N N)).below ((Below.refl _ _).alloc (Nat.le_refl _) (.cells (madeCells #[.int .i64 0] N) 3)), (B3.out.setCell (p := ⟨w2.heap.size, 4, none⟩) (Nat.le_refl _) (.slice (some ⟨w3.heap.size, 0, none⟩) N N)).alloc (by rw [World.size_setCell]; exact B3.out.size) (.cells (madeCells #[.int .i64 0] N) 3), made_lit (World.size_setCell _ _ _) N (by omega)⟩
  obtain ⟨N9, b4, CK⟩ := hcut
  have b4 := hidden6 b4
  have CK := hidden6 CK
  have Y4 := Z4.out.below b4.out
  have z0 := Y4.cell (k := 0) rfl
  have z1 := Y4.cell (k := 1) rfl
  have z2 := Y4.cell (k := 2) rfl
  have z3 := Y4.cell (k := 3) rfl
  have z4 := Y4.cell (k := 4) rfl
  have z5 := Y4.cell (k := 5) rfl
  have f0 := Y4.frozen 0
  have f1 := Y4.frozen 1
  have f2 := Y4.frozen 2
  have f3 := Y4.frozen 3
  have f4 := Y4.frozen 4
  have f5 := Y4.frozen 5
  have y0 := N9.cell (k := 0) rfl
  have y1 := N9.cell (k := 1) rfl
  have y2 := N9.cell (k := 2) rfl
  have y3 := N9.cell (k := 3) rfl
  have y4 := N9.cell (k := 4) rfl
  have y5 := N9.cell (k := 5) rfl
  clear N9 Y4 Z4 H9 g4 y4x
  go_wp2
  refine bodyPost_ret (v := .tuple #[.agg #[.int .u8 1, .slice p (N + 1) cp, .slice x1 (insS 1 zs).length d1, .slice x2 (outsS 1 zs).length d2, .slice (some ⟨w3.heap.size, 0, none⟩) N N, .int .i64 0], .int .i64 0]) (by simp [results, Try.results7, go_sem, z0, z1, z2, z3, z4, z5]) rfl ?_
  refine rnew_end (w2 := w2) (b4 := w.heap.size) (k := some ⟨w3.heap.size, 0, none⟩) (ck := N) H0.out HL.out BB2.out (Nat.le_refl _) MP.out MI.out MO.out ?_ ?_ (fun x hx => by cases hx; exact ⟨Nat.le_of_lt L43, by simp only [World.size_setCell]; exact (CK.out.lt _ rfl).2⟩) (fun _ => ⟨_, _, rfl⟩) (by rw [show (keepS 1 zs).length = N from by show (List.replicate (zs.length - 1) (0 : Int)).length = N; rw [HZ.out]; simp]; rfl)
  · show At _ _ (List.replicate (zs.length - 1) 0); rw [HZ.out]; exact keep_six CK.out L43 _ _ _ _ _ _
  · exact (But.of_below b4.out).trans (six_but wc w.heap.size _ _ _ _ _ _)
end Go.Proofs.Ytehgkgbijhobdaa

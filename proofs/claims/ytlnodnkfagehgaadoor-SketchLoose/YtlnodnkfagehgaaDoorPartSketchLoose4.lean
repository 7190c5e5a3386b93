/- Texts of one chain, laid one behind the other. -/
import Derived.Test.YtlnodnkfagehgaaDoorPartSketchLoose1
import Derived.Test.YtlnodnkfagehgaaDoorPartSketchLoose3
import Derived.Test.YtlnodnkfagehgaaDoorPartSketchLoose2
/- The walk through the statement SketchLoose. (Written by tmpl/mkLoose.py.) -/
namespace Go.Proofs.YtlnodnkfagehgaaDoor
open Go.ChangeShapes Go.WideShapes Go.ChangeAt Go.RowKit

structure RB (V : World) (vb : Value) (l : List UInt8) (wr : World) : Prop where
  bytes : OwnB V.heap.size wr vb l
  bel : Below V.heap.size V wr
theorem RB.below {V vb l wr w'} (h : RB V vb l wr) (hb : Below wr.heap.size wr w') : RB V vb l w' := ⟨row_below h.bytes hb, h.bel.trans (hb.mono h.bel.size)⟩
theorem RB.shape {V vb l wr} (h : RB V vb l wr) : ∃ a cap, vb = .slice a l.length cap := by
  rcases h.bytes.2 with ⟨h1, h2⟩ | ⟨g, cap, cur, rfl, -⟩
  · exact ⟨none, 0, by rw [h1, h2]⟩
  · exact ⟨_, cap, rfl⟩
theorem RB.strA {V vb l wr v' w'} {m : List UInt8} (h : RB V vb l wr) (ho : w'.ownsRow V.heap.size 5 1 v' (l.length + (str m).size) (Lib.strCells (str l) ++ Lib.strCells (str m))) (hg : wr.grownBy w' vb.ownBlock) : RB V v' (l ++ m) w' := by
  refine ⟨?_, below_grownO h.bel hg (fun k e => (row_low h.bytes k e).1) h.bel.size⟩
  unfold OwnB
  rw [cells_append, List.length_append, ← str_size m]
  exact ho
theorem RB.chrA {V vb l wr v' w' o} (h : RB V vb l wr) (ho : w'.ownsRow V.heap.size 5 1 v' (l.length + 1) (Lib.strCells (str l) ++ [.int .u8 32])) (hg : (wr.alloc o).grownBy w' vb.ownBlock) : RB V v' (l ++ [32]) w' := by
  have h2 := h.below ((Below.refl wr.heap.size wr).alloc (Nat.le_refl _) o)
  refine ⟨?_, below_grownO h2.bel hg (fun k e => (row_low h2.bytes k e).1) h2.bel.size⟩
  unfold OwnB
  rw [cells_append, List.length_append]
  exact ho
theorem chr_new (wr : World) (x : Value) (t : TypeId) : ∀ j u, [x][j]? = some u → (wr.alloc (.cells #[x] t)).cell? ((⟨wr.heap.size, 0, none⟩ : Addr).add j) = some u := by
  intro j u hu
  match j, hu with
  | 0, hu => simp at hu; subst hu; simp [Addr.add]
theorem chr_one : ∀ u ∈ [Value.int .u8 32], u.oneCell' = true := by
  intro u hu; simp at hu; subst hu; rfl
theorem drew_below (w : World) (n : Nat) : Below w.heap.size w (w.drewN n) := bdrew (Below.refl _ _) n
theorem bT_len {ts : List Tok} (h : ∀ k, (spelt (nthT ts k)).length ≤ 20) : ∀ k, (bT ts k).length ≤ 21 * k
  | 0 => Nat.zero_le _
  | k + 1 => by
    rw [bT_succ, List.length_append, List.length_append]
    have := bT_len h k; have := h k
    have : (gapL ts.length k).length ≤ 1 := by unfold gapL; split <;> decide
    omega
theorem fine_len {ts : List Tok} (h : Fine ts) (k : Nat) : (spelt (nthT ts k)).length ≤ 20 := by
  rcases h k with ⟨h1, h2⟩ | ⟨h1, h2⟩
  · exact spelt_len h1 h2
  · unfold spelt
    rw [if_neg (by omega), h2]; decide
theorem fine_fits {ts : List Tok} (hl : ∀ t ∈ ts, In64 t.num) (k : Nat) : fits8 (nthT ts k).num = true := fits_of (nth_in5 hl k)
theorem same_place {l : List UInt8} {ts : List Tok} (hL : Laid l 0 ts) {i j : Nat} (hi : i < ts.length) (hj : j < ts.length) : ((nthT ts i).place = (nthT ts j).place) ↔ i = j := by
  refine ⟨fun e => ?_, fun e => by rw [e]⟩
  rcases Nat.lt_trichotomy i j with h | h | h
  · have := laid_rise ts 0 hL i j h hj; omega
  · exact h
  · have := laid_rise ts 0 hL j i h hi; omega
def wrongO (ts : List Tok) (fc : Int) (j i : Nat) : Int := if fc = 50 ∧ j < i then ((bT ts j).length : Int) else -1
theorem all_two (l : List UInt8) (W : World) (hE : Env W) : Calls Tryd.prog 14 #[.string (str l)] W fun e w' => ∃ a n c, e = .returned (.tuple #[.slice a n c, .agg #[.int .i64 (textG l).err, .int .i64 (textG l).place]]) ∧ Below W.heap.size W w' :=
  (all_any l W hE).mono fun _ w' ⟨v, he, hk, hb⟩ => by
    obtain ⟨a, c, rfl⟩ := hk.shape
    exact ⟨a, _, c, he, hb⟩
set_option maxRecDepth 100000 in
set_option maxHeartbeats 4000000 in
theorem loose_err (l : List UInt8) (w : World) (hE : Env w) (hT : Tab w.heap.size w) (h : (textG l).err ≠ 0) : Calls Tryd.prog 6 #[.string (str l)] w fun e w' => e = .returned (.bool true) ∧ Below w.heap.size w w' := by
  have A0 := hidden (all_two l w hE)
  have hf : faultO l = ((textG l).err, (textG l).place) := by unfold faultO; rw [if_pos h]
  have A1 : Hid (∀ W, Env W → Calls Tryd.prog 11 #[.string (str l)] W fun e w' => e = .returned (.tuple #[.agg #[.string ⟨#[]⟩, .slice none 0 0], .agg #[.int .i64 (textG l).err, .int .i64 (textG l).place]]) ∧ Below W.heap.size W w') := fun W hW => by
    have := parse_no (l := l) W hW (by rw [hf]; exact h)
    rw [hf] at this
    exact this
  have AW : Hid (∀ W, Below w.heap.size w W → Calls Tryd.prog 10 #[] W fun e w' => e = .returned (.bool true) ∧ Below W.heap.size W w') := fun W hb => awake5 W (hE.below hb) (hT.on5 hb)
  have HE : Hid (∀ W, Below w.heap.size w W → Env W) := fun W hb => hE.below hb
  generalize (textG l).err = er at *
  generalize (textG l).place = pl at *
  have x1 : (er == 0) = false := by simpa using h
  have x2 : (er != 0) = true := by simpa using h
  have x3 : (er == er) = true := by simp
  have x4 : (pl == pl) = true := by simp
  clear hE hT h hf
  go_enter Tryd.func6, Tryd.ntmps6
  go_wp2_with (first
    | (go_at_call 10; (with_reducible refine (AW.out _ (B2.out _ _)).mono ?_); rintro e w3 ⟨rfl, b3⟩; have B3 := hidden ((B2.out _ _).trans (b3.mono (B2.out _ _).size)); have z0 : w3.cell? ⟨w2.heap.size + 1, 0, none⟩ = some (.int .i64 er) := cell_keep b3 (by simp); have z1 : w3.cell? ⟨w2.heap.size + 1, 1, none⟩ = some (.int .i64 pl) := cell_keep b3 (by simp); have z2 : w3.cell? ⟨w1.heap.size, 0, none⟩ = some (.int .i64 er) := cell_keep b3 (y0 _ _); have z3 : w3.cell? ⟨w1.heap.size, 1, none⟩ = some (.int .i64 pl) := cell_keep b3 (y1 _ _); clear b3)
    | (go_at_call 11; (with_reducible refine (A1.out _ (HE.out _ (B1.out _))).mono ?_); rintro e w2 ⟨rfl, b2⟩; have y0 : ∀ o1 o2, ((w2.alloc o1).alloc o2).cell? ⟨w1.heap.size, 0, none⟩ = some (.int .i64 er) := later2 b2 (by simp); have y1 : ∀ o1 o2, ((w2.alloc o1).alloc o2).cell? ⟨w1.heap.size, 1, none⟩ = some (.int .i64 pl) := later2 b2 (by simp); have B2 : Hid (∀ o1 o2, Below w.heap.size w ((w2.alloc o1).alloc o2)) := fun o1 o2 => by { have q := (B1.out _).trans (b2.mono (B1.out _).size); exact q.trans ((((Below.refl _ _).alloc (Nat.le_refl _) o1).alloc (by simp) o2).mono q.size) }; clear b2)
    | (go_at_call 14; (with_reducible refine A0.out.mono ?_); rintro e w1 ⟨a, n, c, rfl, b1⟩; have B1 : Hid (∀ o, Below w.heap.size w (w1.alloc o)) := fun o => b1.alloc b1.size o; clear b1))
  go_ret
  exact ⟨by first | rfl | simp, B3.out⟩
set_option maxRecDepth 100000 in
set_option maxHeartbeats 8000000 in
/-- The walk up to the loop's end, whatever stands behind it. -/
theorem loose_main (l : List UInt8) (w : World) (hE : Env w) (hT : Tab w.heap.size w) (ts : List Tok) (n : Nat) (ht : textG l = ⟨ts, 0, 0⟩) (hn : ts.length = n) (nm : List UInt8) (fc fp : Int) (j m : Nat) (LL : List (Itm × Value) → Prop)
    (hfc : (fc = 0 ∧ fp = 0) ∨ (fc = 50 ∧ j < n ∧ fp = (nthT ts j).place))
    (hP : ∀ W, Env W → Calls Tryd.prog 11 #[.string (str l)] W fun e w' => ∃ a c L, e = .returned (.tuple #[.agg #[.string (str nm), .slice a m c], .agg #[.int .i64 fc, .int .i64 fp]]) ∧ ItR w' a L ∧ LL L ∧ Below W.heap.size W w')
    (hB : ∀ W, Env W → (bT ts n).length ≤ 1048576 → (fc = 50 → Calls Tryd.prog 11 #[.string (str (bT ts n))] W fun e w' => e = .returned (.tuple #[.agg #[.string ⟨#[]⟩, .slice none 0 0], .agg #[.int .i64 50, .int .i64 ((bT ts j).length : Int)]]) ∧ Below W.heap.size W w') ∧
      (fc = 0 → Calls Tryd.prog 11 #[.string (str (bT ts n))] W fun e w' => ∃ a c M, e = .returned (.tuple #[.agg #[.string (str nm), .slice a m c], .agg #[.int .i64 0, .int .i64 0]]) ∧ ItR w' a M ∧ (∀ L, LL L → ∀ V a1 c1, ItR V a1 L → ItR V a M → Calls Tryd.prog 12 #[.agg #[.string (str nm), .slice a1 m c1], .agg #[.string (str nm), .slice a m c]] V fun e w' => e = .returned (.bool true) ∧ Below V.heap.size V w') ∧ Below W.heap.size W w')) :
    Calls Tryd.prog 6 #[.string (str l)] w fun e w' => e = .returned (.bool true) ∧ Below w.heap.size w w' := by
  have her : (textG l).err = 0 := by rw [ht]
  obtain ⟨hll, hL⟩ := text_laid her
  have hEn := text_ended her
  have hlen := text_len5 l
  have hin := text_in64 l
  rw [ht] at hL hEn hlen hin
  simp only at hL hEn hlen hin
  have hF := laid_fine _ _ hL hEn
  have hne : ts ≠ [] := by intro e; have := hEn.pos; rw [e] at this; simp at this
  have A0 := hidden (all_at l ts n ht hn hne w hE)
  have A1 := hidden hP
  have A2 := hidden hB
  have AW : Hid (∀ W, Below w.heap.size w W → Calls Tryd.prog 10 #[] W fun e w' => e = .returned (.bool true) ∧ Below W.heap.size W w') := fun W hb => awake5 W (hE.below hb) (hT.on5 hb)
  have HE : Hid (∀ W, Below w.heap.size w W → Env W) := fun W hb => hE.below hb
  have HSL := hidden (fine_len hF)
  have HBL := hidden (bT_len HSL.out)
  have HFT := hidden (fine_fits hin)
  have HSA : Hid (∀ i j, i < n → j < n → ((nthT ts i).place = (nthT ts j).place ↔ i = j)) := fun i j h1 h2 => same_place hL (by omega) (by omega)
  have HN := hidden hn
  have hn2 : n ≤ 2000000 := by omega
  obtain ⟨i5, hi5, hy0, hy1, hy2⟩ := info_parts Tryd.info5
  have HJ := hidden hi5
  have HJ0 := hidden hy0
  have HJ1 := hidden hy1
  have HJ2 := hidden hy2
  have HFC := hidden hfc
  clear hE hT ht hn her hll hL hEn hlen hin hF hne hP hB hi5 hy0 hy1 hy2
  have x5 : (fc != 0) = decide (fc = 50) := by
    rcases hfc with ⟨rfl, -⟩ | ⟨rfl, -⟩ <;> rfl
  clear hfc
  unfold ReadAt at A0
  go_enter Tryd.func6, Tryd.ntmps6
  go_wp2_with (first
    | (go_at_call 11; (with_reducible refine (A1.out _ (HE.out _ (B1.out _))).mono ?_); rintro e w2 ⟨a, c, L, rfl, hi, hLL, b2⟩; have K2 := hidden ((K1.out _).below b2); have y0 : ∀ o1 o2, ((w2.alloc o1).alloc o2).cell? ⟨w1.heap.size, 0, none⟩ = some (.int .i64 0) := later2 b2 (by simp); have y1 : ∀ o1 o2, ((w2.alloc o1).alloc o2).cell? ⟨w1.heap.size, 1, none⟩ = some (.int .i64 0) := later2 b2 (by simp); have HI2 := hidden hi; have HLL := hidden hLL; have N2 : Hid (∀ o1 o2, Below w2.heap.size w2 ((w2.alloc o1).alloc o2)) := fun o1 o2 => ((Below.refl _ _).alloc (Nat.le_refl _) o1).alloc (by simp) o2; have B2 : Hid (∀ o1 o2, Below w.heap.size w ((w2.alloc o1).alloc o2)) := fun o1 o2 => by { have q := (B1.out _).trans (b2.mono (B1.out _).size); exact q.trans ((N2.out o1 o2).mono q.size) }; clear b2 hi hLL)
    | (go_at_call 14; (with_reducible refine A0.out.mono ?_); rintro e w1 ⟨g, off, cap, rfl, hat, -, b1⟩; have K1 : Hid (∀ o, AtT (w1.alloc o) (some ⟨g, off, none⟩) ts) := fun o => hat.below ((Below.refl _ _).alloc (Nat.le_refl _) o); have B1 : Hid (∀ o, Below w.heap.size w (w1.alloc o)) := fun o => b1.alloc b1.size o; clear b1 hat))
  clear y0 y1 A0 A1
  have HBV := hidden (B2.out (.cells #[.string (str nm), .slice a m c] 24) (.cells #[.int .i64 fc, .int .i64 fp] 32))
  have HKV := hidden (K2.out.below (N2.out (.cells #[.string (str nm), .slice a m c] 24) (.cells #[.int .i64 fc, .int .i64 fp] 32)))
  have HIV := hidden (HI2.out.below (N2.out (.cells #[.string (str nm), .slice a m c] 24) (.cells #[.int .i64 fc, .int .i64 fp] 32)))
  have v0 : ((w2.alloc (.cells #[.string (str nm), .slice a m c] 24)).alloc (.cells #[.int .i64 fc, .int .i64 fp] 32)).cell? ⟨w2.heap.size + 1, 0, none⟩ = some (.int .i64 fc) := by simp
  have v1 : ((w2.alloc (.cells #[.string (str nm), .slice a m c] 24)).alloc (.cells #[.int .i64 fc, .int .i64 fp] 32)).cell? ⟨w2.heap.size + 1, 1, none⟩ = some (.int .i64 fp) := by simp
  have v2 : ((w2.alloc (.cells #[.string (str nm), .slice a m c] 24)).alloc (.cells #[.int .i64 fc, .int .i64 fp] 32)).cell? ⟨w2.heap.size, 0, none⟩ = some (.string (str nm)) := by simp
  have v3 : ((w2.alloc (.cells #[.string (str nm), .slice a m c] 24)).alloc (.cells #[.int .i64 fc, .int .i64 fp] 32)).cell? ⟨w2.heap.size, 1, none⟩ = some (.slice a m c) := by simp
  have HV0 := hidden v0
  have HV1 := hidden v1
  have HV2 := hidden v2
  have HV3 := hidden v3
  clear B2 K2 HI2 N2 v0 v1 v2 v3
  generalize ((w2.alloc (.cells #[.string (str nm), .slice a m c] 24)).alloc (.cells #[.int .i64 fc, .int .i64 fp] 32)) = V at *
  go_loopg [7, 8, 9] n (fun gk vb vw v wr => ∃ (i : Nat), i ≤ n ∧ gk = n - i ∧ v = .int .i64 (i : Int) ∧ vw = .int .i64 (wrongO ts fc j i) ∧ RB V vb (bT ts i) wr)
  case atStart => exact ⟨0, Nat.zero_le _, rfl, rfl, by unfold wrongO; rw [if_neg (by omega)], ⟨World.ownsRow_nil _ _ _ _, Below.refl _ _⟩⟩
  case round =>
    obtain ⟨i, hin, rfl, rfl, rfl, hr⟩ := hrel
    obtain ⟨va, vc, rfl⟩ := hr.shape
    have HR := hidden hr
    have k0 := cell_keep hr.bel HV0.out
    have k1 := cell_keep hr.bel HV1.out
    clear hr
    by_cases hlt : i < n
    · have hki : (i : Int) < (n : Int) := by omega
      have hnI : (n : Int) ≤ 2000000 := by omega
      obtain ⟨c0, c1, c2, c3⟩ := (HKV.out.below HR.out.bel).at (k := i) (by rw [HN.out]; exact hlt)
      have HSP : Hid (∀ W, Calls Tryd.prog 15 #[.agg #[.int .u8 (nthT ts i).sort, .string (str (nthT ts i).text), .int .i64 (nthT ts i).num, .int .i64 (nthT ts i).place]] W fun e w' => e = .returned (.string (str (spelt (nthT ts i)))) ∧ Below W.heap.size W w') := fun W => spelt_any (nthT ts i) W (HFT.out i)
      have HBS := hidden (bT_succ ts i)
      have sS := str_size (spelt (nthT ts i))
      have HLQ : Hid ((spelt (nthT ts i)).length ≤ 20 ∧ (bT ts i).length ≤ 42000000) := ⟨HSL.out i, by have := HBL.out i; omega⟩
      have HLI : Hid (((bT ts i).length : Int) ≤ 42000000) := by have := HLQ.out.2; show _ ≤ _; omega
      have HPL : Hid (j < n → ((nthT ts i).place = (nthT ts j).place ↔ i = j)) := fun hj => HSA.out i j hlt hj
      rw [HN.out] at HBS
      generalize hX : bT ts i = X at *
      have HX := hidden hX
      clear hX
      rcases HFC.out with ⟨rfl, rfl⟩ | ⟨rfl, hj, rfl⟩
      · have HW : Hid (wrongO ts 0 j (i + 1) = -1) := by show _ = _; unfold wrongO; rw [if_neg (by omega)]
        have hw : wrongO ts 0 j i = -1 := by unfold wrongO; rw [if_neg (by omega)]
        rw [hw]
        clear hw
        generalize spelt (nthT ts i) = S at *
        generalize nthT ts i = t at *
        obtain ⟨so, tx, nu, pl⟩ := t
        simp only at c0 c1 c2 c3 HSP
        by_cases hg : i + 2 < n
        · have hgI : (i : Int) + 2 < (n : Int) := by omega
          have eg : gapL n i = [32] := by unfold gapL; rw [if_pos hg]
          rw [eg] at HBS
          clear hg eg
          go_wp2
          go_quiet (fail)
          go_wp2_with (first
            | (at_builtin; refine wpList_append_own _ rfl _ _ 47 rfl V.heap.size 5 i5 (.int .u8 0) 1 1 Tryd.underlying47 HJ.out HJ0.out HJ1.out HJ2.out rfl (by decide) _ Y.length (Lib.strCells (str Y)) rfl (World.ownsRow.alloc R2.out.bytes _) ⟨w4.heap.size, 0, none⟩ 1 1 [.int .u8 32] rfl rfl (chr_new _ _ _) chr_one (by have := HYL.out; unfold maxLen; omega) (by have := HYL.out; omega) (by have := R2.out.bel.size; simp; omega) ?_; intro v3 w5 hown hgrow _; have R3 := hidden (R2.out.chrA hown hgrow); generalize hZ : Y ++ [32] = Z at *; have HZ := hidden hZ; clear hZ; obtain ⟨va3, vc3, rfl⟩ := R3.out.shape; clear hown hgrow)
            | (at_builtin; refine Lib.wpList_append_own_string _ rfl _ _ 47 9 rfl V.heap.size 5 i5 Tryd.underlying47 Tryd.underlying9 HJ.out HJ0.out HJ1.out HJ2.out _ X.length (Lib.strCells (str X)) rfl R1.out.bytes (str S) rfl (by have := HLQ.out; rw [sS]; unfold maxLen; omega) (by have := HLQ.out; rw [sS]; omega) R1.out.bel.size ?_; intro v2 w4 hown hgrow _; have R2 := hidden (R1.out.strA hown hgrow); generalize hY : X ++ S = Y at *; have HY := hidden hY; have HYL : Hid (Y.length ≤ 42000020) := (by have := HLQ.out; show _ ≤ _; rw [← hY, List.length_append]; omega); clear hY; obtain ⟨va2, vc2, rfl⟩ := R2.out.shape; clear hown hgrow)
            | (go_at_call 15; (with_reducible refine (HSP.out _).mono ?_); rintro e w3 ⟨rfl, hb3⟩; have R1 := hidden ((HR.out.below (drew_below _ _)).below hb3); clear hb3))
          go_roundg (n - (i + 1))
          case measure => omega
          case rel => exact ⟨i + 1, by omega, rfl, by go_num, by rw [HW.out], by have q := R3.out; rw [HBS.out]; first | (rw [HY.out, HZ.out]; exact q) | (rw [HZ.out]; exact q) | exact q⟩
        · have hgI : ¬ ((i : Int) + 2 < (n : Int)) := by omega
          have eg : gapL n i = [] := by unfold gapL; rw [if_neg hg]
          rw [eg] at HBS
          clear hg eg
          go_wp2
          go_quiet (fail)
          go_wp2_with (first
            | (at_builtin; refine Lib.wpList_append_own_string _ rfl _ _ 47 9 rfl V.heap.size 5 i5 Tryd.underlying47 Tryd.underlying9 HJ.out HJ0.out HJ1.out HJ2.out _ X.length (Lib.strCells (str X)) rfl R1.out.bytes (str S) rfl (by have := HLQ.out; rw [sS]; unfold maxLen; omega) (by have := HLQ.out; rw [sS]; omega) R1.out.bel.size ?_; intro v2 w4 hown hgrow _; have R2 := hidden (R1.out.strA hown hgrow); generalize hY : X ++ S = Y at *; have HY := hidden hY; have HYL : Hid (Y.length ≤ 42000020) := (by have := HLQ.out; show _ ≤ _; rw [← hY, List.length_append]; omega); clear hY; obtain ⟨va2, vc2, rfl⟩ := R2.out.shape; clear hown hgrow)
            | (go_at_call 15; (with_reducible refine (HSP.out _).mono ?_); rintro e w3 ⟨rfl, hb3⟩; have R1 := hidden ((HR.out.below (drew_below _ _)).below hb3); clear hb3))
          go_roundg (n - (i + 1))
          case measure => omega
          case rel => exact ⟨i + 1, by omega, rfl, by go_num, by rw [HW.out], by have q := R2.out; rw [HBS.out, List.append_nil]; first | (rw [HY.out]; exact q) | exact q⟩
      · by_cases hij : i = j
        · subst hij
          have HW : Hid (wrongO ts 50 i (i + 1) = (X.length : Int)) := by show _ = _; unfold wrongO; rw [if_pos ⟨rfl, by omega⟩, HX.out]
          have hw : wrongO ts 50 i i = -1 := by unfold wrongO; rw [if_neg (by omega)]
          rw [hw]
          clear hw
          generalize spelt (nthT ts i) = S at *
          generalize nthT ts i = t at *
          obtain ⟨so, tx, nu, pl⟩ := t
          simp only at c0 c1 c2 c3 HSP k1
          have x6 : (pl == pl) = true := by simp
          by_cases hg : i + 2 < n
          · have hgI : (i : Int) + 2 < (n : Int) := by omega
            have eg : gapL n i = [32] := by unfold gapL; rw [if_pos hg]
            rw [eg] at HBS
            clear hg eg
            go_wp2
            go_quiet (fail)
            go_wp2_with (first
              | (at_builtin; refine wpList_append_own _ rfl _ _ 47 rfl V.heap.size 5 i5 (.int .u8 0) 1 1 Tryd.underlying47 HJ.out HJ0.out HJ1.out HJ2.out rfl (by decide) _ Y.length (Lib.strCells (str Y)) rfl (World.ownsRow.alloc R2.out.bytes _) ⟨w4.heap.size, 0, none⟩ 1 1 [.int .u8 32] rfl rfl (chr_new _ _ _) chr_one (by have := HYL.out; unfold maxLen; omega) (by have := HYL.out; omega) (by have := R2.out.bel.size; simp; omega) ?_; intro v3 w5 hown hgrow _; have R3 := hidden (R2.out.chrA hown hgrow); generalize hZ : Y ++ [32] = Z at *; have HZ := hidden hZ; clear hZ; obtain ⟨va3, vc3, rfl⟩ := R3.out.shape; clear hown hgrow)
              | (at_builtin; refine Lib.wpList_append_own_string _ rfl _ _ 47 9 rfl V.heap.size 5 i5 Tryd.underlying47 Tryd.underlying9 HJ.out HJ0.out HJ1.out HJ2.out _ X.length (Lib.strCells (str X)) rfl R1.out.bytes (str S) rfl (by have := HLQ.out; rw [sS]; unfold maxLen; omega) (by have := HLQ.out; rw [sS]; omega) R1.out.bel.size ?_; intro v2 w4 hown hgrow _; have R2 := hidden (R1.out.strA hown hgrow); generalize hY : X ++ S = Y at *; have HY := hidden hY; have HYL : Hid (Y.length ≤ 42000020) := (by have := HLQ.out; show _ ≤ _; rw [← hY, List.length_append]; omega); clear hY; obtain ⟨va2, vc2, rfl⟩ := R2.out.shape; clear hown hgrow)
              | (go_at_call 15; (with_reducible refine (HSP.out _).mono ?_); rintro e w3 ⟨rfl, hb3⟩; have R1 := hidden ((HR.out.below (drew_below _ _)).below hb3); clear hb3))
            go_roundg (n - (i + 1))
            case measure => omega
            case rel => exact ⟨i + 1, by omega, rfl, by go_num, by rw [HW.out], by have q := R3.out; rw [HBS.out]; first | (rw [HY.out, HZ.out]; exact q) | (rw [HZ.out]; exact q) | exact q⟩
          · have hgI : ¬ ((i : Int) + 2 < (n : Int)) := by omega
            have eg : gapL n i = [] := by unfold gapL; rw [if_neg hg]
            rw [eg] at HBS
            clear hg eg
            go_wp2
            go_quiet (fail)
            go_wp2_with (first
              | (at_builtin; refine Lib.wpList_append_own_string _ rfl _ _ 47 9 rfl V.heap.size 5 i5 Tryd.underlying47 Tryd.underlying9 HJ.out HJ0.out HJ1.out HJ2.out _ X.length (Lib.strCells (str X)) rfl R1.out.bytes (str S) rfl (by have := HLQ.out; rw [sS]; unfold maxLen; omega) (by have := HLQ.out; rw [sS]; omega) R1.out.bel.size ?_; intro v2 w4 hown hgrow _; have R2 := hidden (R1.out.strA hown hgrow); generalize hY : X ++ S = Y at *; have HY := hidden hY; have HYL : Hid (Y.length ≤ 42000020) := (by have := HLQ.out; show _ ≤ _; rw [← hY, List.length_append]; omega); clear hY; obtain ⟨va2, vc2, rfl⟩ := R2.out.shape; clear hown hgrow)
              | (go_at_call 15; (with_reducible refine (HSP.out _).mono ?_); rintro e w3 ⟨rfl, hb3⟩; have R1 := hidden ((HR.out.below (drew_below _ _)).below hb3); clear hb3))
            go_roundg (n - (i + 1))
            case measure => omega
            case rel => exact ⟨i + 1, by omega, rfl, by go_num, by rw [HW.out], by have q := R2.out; rw [HBS.out, List.append_nil]; first | (rw [HY.out]; exact q) | exact q⟩
        · have hne : (nthT ts i).place ≠ (nthT ts j).place := fun e => hij ((HPL.out hj).1 e)
          have HW : Hid (wrongO ts 50 j (i + 1) = wrongO ts 50 j i) := by
            show _ = _
            unfold wrongO
            by_cases hq : j < i
            · rw [if_pos ⟨rfl, by omega⟩, if_pos ⟨rfl, hq⟩]
            · rw [if_neg (by omega), if_neg (by omega)]
          generalize wrongO ts 50 j i = wv at *
          generalize (nthT ts j).place = fp at *
          generalize spelt (nthT ts i) = S at *
          generalize nthT ts i = t at *
          obtain ⟨so, tx, nu, pl⟩ := t
          simp only at c0 c1 c2 c3 HSP hne
          have x6 : (pl == fp) = false := by simpa using hne
          by_cases hg : i + 2 < n
          · have hgI : (i : Int) + 2 < (n : Int) := by omega
            have eg : gapL n i = [32] := by unfold gapL; rw [if_pos hg]
            rw [eg] at HBS
            clear hg eg
            go_wp2
            go_quiet (fail)
            go_wp2_with (first
              | (at_builtin; refine wpList_append_own _ rfl _ _ 47 rfl V.heap.size 5 i5 (.int .u8 0) 1 1 Tryd.underlying47 HJ.out HJ0.out HJ1.out HJ2.out rfl (by decide) _ Y.length (Lib.strCells (str Y)) rfl (World.ownsRow.alloc R2.out.bytes _) ⟨w4.heap.size, 0, none⟩ 1 1 [.int .u8 32] rfl rfl (chr_new _ _ _) chr_one (by have := HYL.out; unfold maxLen; omega) (by have := HYL.out; omega) (by have := R2.out.bel.size; simp; omega) ?_; intro v3 w5 hown hgrow _; have R3 := hidden (R2.out.chrA hown hgrow); generalize hZ : Y ++ [32] = Z at *; have HZ := hidden hZ; clear hZ; obtain ⟨va3, vc3, rfl⟩ := R3.out.shape; clear hown hgrow)
              | (at_builtin; refine Lib.wpList_append_own_string _ rfl _ _ 47 9 rfl V.heap.size 5 i5 Tryd.underlying47 Tryd.underlying9 HJ.out HJ0.out HJ1.out HJ2.out _ X.length (Lib.strCells (str X)) rfl R1.out.bytes (str S) rfl (by have := HLQ.out; rw [sS]; unfold maxLen; omega) (by have := HLQ.out; rw [sS]; omega) R1.out.bel.size ?_; intro v2 w4 hown hgrow _; have R2 := hidden (R1.out.strA hown hgrow); generalize hY : X ++ S = Y at *; have HY := hidden hY; have HYL : Hid (Y.length ≤ 42000020) := (by have := HLQ.out; show _ ≤ _; rw [← hY, List.length_append]; omega); clear hY; obtain ⟨va2, vc2, rfl⟩ := R2.out.shape; clear hown hgrow)
              | (go_at_call 15; (with_reducible refine (HSP.out _).mono ?_); rintro e w3 ⟨rfl, hb3⟩; have R1 := hidden ((HR.out.below (drew_below _ _)).below hb3); clear hb3))
            go_roundg (n - (i + 1))
            case measure => omega
            case rel => exact ⟨i + 1, by omega, rfl, by go_num, by rw [HW.out], by have q := R3.out; rw [HBS.out]; first | (rw [HY.out, HZ.out]; exact q) | (rw [HZ.out]; exact q) | exact q⟩
          · have hgI : ¬ ((i : Int) + 2 < (n : Int)) := by omega
            have eg : gapL n i = [] := by unfold gapL; rw [if_neg hg]
            rw [eg] at HBS
            clear hg eg
            go_wp2
            go_quiet (fail)
            go_wp2_with (first
              | (at_builtin; refine Lib.wpList_append_own_string _ rfl _ _ 47 9 rfl V.heap.size 5 i5 Tryd.underlying47 Tryd.underlying9 HJ.out HJ0.out HJ1.out HJ2.out _ X.length (Lib.strCells (str X)) rfl R1.out.bytes (str S) rfl (by have := HLQ.out; rw [sS]; unfold maxLen; omega) (by have := HLQ.out; rw [sS]; omega) R1.out.bel.size ?_; intro v2 w4 hown hgrow _; have R2 := hidden (R1.out.strA hown hgrow); generalize hY : X ++ S = Y at *; have HY := hidden hY; have HYL : Hid (Y.length ≤ 42000020) := (by have := HLQ.out; show _ ≤ _; rw [← hY, List.length_append]; omega); clear hY; obtain ⟨va2, vc2, rfl⟩ := R2.out.shape; clear hown hgrow)
              | (go_at_call 15; (with_reducible refine (HSP.out _).mono ?_); rintro e w3 ⟨rfl, hb3⟩; have R1 := hidden ((HR.out.below (drew_below _ _)).below hb3); clear hb3))
            go_roundg (n - (i + 1))
            case measure => omega
            case rel => exact ⟨i + 1, by omega, rfl, by go_num, by rw [HW.out], by have q := R2.out; rw [HBS.out, List.append_nil]; first | (rw [HY.out]; exact q) | exact q⟩
    · have ei : i = n := by omega
      subst ei
      have hki : ¬ ((i : Int) < (i : Int)) := by omega
      by_cases hbig : 1048576 < (bT ts i).length
      · have hb1 : ((bT ts i).length : Int) > 1048576 := by omega
        have hbW := HBV.out.trans (HR.out.bel.mono HBV.out.size)
        have HBW := hidden hbW
        clear hbW
        go_wp2
        go_ret
        exact ⟨rfl, HBW.out⟩
      · have hb1 : ¬ (((bT ts i).length : Int) > 1048576) := by omega
        have HBW := hidden (HBV.out.trans (HR.out.bel.mono HBV.out.size))
        have hcv := conv_bytes HR.out.bytes
        have HA := hidden (fun W hW => A2.out W hW (by omega))
        have k2 := cell_keep HR.out.bel HV2.out
        have k3 := cell_keep HR.out.bel HV3.out
        rcases HFC.out with ⟨rfl, rfl⟩ | ⟨rfl, hj, rfl⟩
        · have HA0 : Hid (∀ W, Env W → _) := fun W hW => (HA.out W hW).2 rfl
          have HIW := hidden (HIV.out.below HR.out.bel)
          go_wp2_with (first
            | (go_at_call 12; (with_reducible refine (hal L HLL.out _ _ _ ((I4.out _ _).below B5.out) ((J4.out _ _).below B5.out)).mono ?_); rintro e w6 ⟨rfl, b6⟩)
            | (go_at_call 10; (with_reducible refine (AW.out _ (B4.out _ _)).mono ?_); rintro e w5 ⟨rfl, b5⟩; have B5 := hidden b5; have F5 := hidden ((B4.out _ _).trans (b5.mono (B4.out _ _).size)); have q0 : w5.cell? ⟨w4.heap.size + 1, 0, none⟩ = some (.int .i64 0) := cell_keep b5 (by simp); have q1 : w5.cell? ⟨w4.heap.size + 1, 1, none⟩ = some (.int .i64 0) := cell_keep b5 (by simp); have q2 : w5.cell? ⟨w4.heap.size, 0, none⟩ = some (.string (str nm)) := cell_keep b5 (by simp); have q3 : w5.cell? ⟨w4.heap.size, 1, none⟩ = some (.slice a4 m c4) := cell_keep b5 (by simp); have q4 : w5.cell? ⟨w2.heap.size, 0, none⟩ = some (.string (str nm)) := cell_keep b5 (p2 _ _); have q5 : w5.cell? ⟨w2.heap.size, 1, none⟩ = some (.slice a m c) := cell_keep b5 (p3 _ _); clear b5)
            | (go_at_call 11; (with_reducible refine (HA0.out _ (HE.out _ HBW.out)).mono ?_); rintro e w4 ⟨a4, c4, M, rfl, hi4, hal, b4⟩; have p0 := later2 b4 k0; have p1 := later2 b4 k1; have p2 := later2 b4 k2; have p3 := later2 b4 k3; have N4 : Hid (∀ o1 o2, Below w4.heap.size w4 ((w4.alloc o1).alloc o2)) := fun o1 o2 => ((Below.refl _ _).alloc (Nat.le_refl _) o1).alloc (by simp) o2; have B4 : Hid (∀ o1 o2, Below w.heap.size w ((w4.alloc o1).alloc o2)) := fun o1 o2 => by { have q := HBW.out.trans (b4.mono HBW.out.size); exact q.trans ((N4.out o1 o2).mono q.size) }; have I4 : Hid (∀ o1 o2, ItR ((w4.alloc o1).alloc o2) a L) := fun o1 o2 => (HIW.out.below b4).below (N4.out o1 o2); have J4 : Hid (∀ o1 o2, ItR ((w4.alloc o1).alloc o2) a4 M) := fun o1 o2 => hi4.below (N4.out o1 o2); clear hi4 b4))
          go_ret
          exact ⟨by first | rfl | simp, F5.out.trans (b6.mono F5.out.size)⟩
        · have HA0 : Hid (∀ W, Env W → _) := fun W hW => (HA.out W hW).1 rfl
          have hw : wrongO ts 50 j i = ((bT ts j).length : Int) := by unfold wrongO; rw [if_pos ⟨rfl, hj⟩]
          rw [hw]
          clear hw
          have x7 : (((bT ts j).length : Int) == ((bT ts j).length : Int)) = true := by simp
          generalize ((bT ts j).length : Int) = wv at *
          generalize (nthT ts j).place = fp at *
          go_wp2_with (first
            | (go_at_call 10; (with_reducible refine (AW.out _ (B4.out _ _)).mono ?_); rintro e w5 ⟨rfl, b5⟩; have F5 := hidden ((B4.out _ _).trans (b5.mono (B4.out _ _).size)); have q0 : w5.cell? ⟨w4.heap.size + 1, 0, none⟩ = some (.int .i64 50) := cell_keep b5 (by simp); have q1 : w5.cell? ⟨w4.heap.size + 1, 1, none⟩ = some (.int .i64 wv) := cell_keep b5 (by simp); have q4 : w5.cell? ⟨w2.heap.size + 1, 0, none⟩ = some (.int .i64 50) := cell_keep b5 (p0 _ _); have q5 : w5.cell? ⟨w2.heap.size + 1, 1, none⟩ = some (.int .i64 fp) := cell_keep b5 (p1 _ _); clear b5)
            | (go_at_call 11; (with_reducible refine (HA0.out _ (HE.out _ HBW.out)).mono ?_); rintro e w4 ⟨rfl, b4⟩; have p0 := later2 b4 k0; have p1 := later2 b4 k1; have B4 : Hid (∀ o1 o2, Below w.heap.size w ((w4.alloc o1).alloc o2)) := fun o1 o2 => by { have q := HBW.out.trans (b4.mono HBW.out.size); exact q.trans ((((Below.refl _ _).alloc (Nat.le_refl _) o1).alloc (by simp) o2).mono q.size) }; clear b4))
          go_ret
          exact ⟨by first | rfl | simp, F5.out⟩
end Go.Proofs.YtlnodnkfagehgaaDoor

/- The walk through the statement SketchLoose, its end. -/
namespace Go.Proofs.YtlnodnkfagehgaaDoor
open Go.ChangeShapes Go.WideShapes Go.ChangeAt Go.RowKit

theorem laid_right {l : List UInt8} : ∀ (ts : List Tok) (p : Nat), Laid l p ts → ∀ k, k + 1 < ts.length → rightB (nthT ts k) = true ∧ fits8 (nthT ts k).num = true
  | [], _, h => by cases h
  | t :: r, p, h => by
    obtain ⟨q, -, -, -, -, h5, h6⟩ := h
    intro k hk
    rcases h6 with ⟨-, rfl, -⟩ | ⟨-, b, h7⟩
    · simp at hk
    · match k with
      | 0 => exact ⟨b, h5⟩
      | k + 1 => exact laid_right r _ h7 k (by simp at hk; omega)
theorem itemsF_in {ts : List Tok} (hE : Ended ts) : ∀ (n i : Nat), i < ts.length → (itemsF n ts i).2 < ts.length
  | 0, i, h => h
  | n + 1, i, h => by
    unfold itemsF
    split
    · exact h
    · exact then_in (itemR_in hE h) fun x j hj => then_in (itemsF_in hE n j hj) fun xs k hk => hk
theorem sketch_none_in {ts : List Tok} (hE : Ended ts) {j : Nat} (h : sketchR ts = (none, j)) : j < ts.length := by
  unfold sketchR at h
  rcases then_bad h with h | ⟨_, i1, h1, h⟩
  · have := textR_in hE hE.pos (x := [103, 114, 97, 112, 104]) (by decide); rw [h] at this; exact this
  have b1 : i1 < ts.length := by have := textR_in hE hE.pos (x := [103, 114, 97, 112, 104]) (by decide); rw [h1] at this; exact this
  rcases then_bad h with h | ⟨_, i2, h2, h⟩
  · have := nameR_in hE b1; rw [h] at this; exact this
  have b2 : i2 < ts.length := by have := nameR_in hE b1; rw [h2] at this; exact this
  rcases then_bad h with h | ⟨_, i3, h3, h⟩
  · have := textR_in hE b2 (x := [123]) (by decide); rw [h] at this; exact this
  have b3 : i3 < ts.length := by have := textR_in hE b2 (x := [123]) (by decide); rw [h3] at this; exact this
  rcases then_bad h with h | ⟨_, i4, h4, h⟩
  · have := itemsF_in hE ts.length i3 b3; rw [h] at this; exact this
  have b4 : i4 < ts.length := by have := itemsF_in hE ts.length i3 b3; rw [h4] at this; exact this
  rcases then_bad h with h | ⟨_, i5, h5, h⟩
  · have := textR_in hE b4 (x := [125]) (by decide); rw [h] at this; exact this
  have b5 : i5 < ts.length := by have := textR_in hE b4 (x := [125]) (by decide); rw [h5] at this; exact this
  split at h
  · cases h
  · injection h with _ h7
    omega
theorem bare_none {r : Rd Skt} {j : Nat} (h : bareR bareS r = bareR bareS (none, j)) : r = (none, j) := by
  obtain ⟨_ | s, k⟩ := r
  · injection h with h1 h2
    have h2 : k = j := h2
    rw [h2]
  · injection h with h1 h2
    cases h1
theorem bare_some {r : Rd Skt} {s : Skt} {j : Nat} (h : bareR bareS r = bareR bareS (some s, j)) : ∃ s', r = (some s', j) ∧ bareS s' = bareS s := by
  obtain ⟨_ | s', k⟩ := r
  · injection h with h1 h2
    cases h1
  · injection h with h1 h2
    have h2 : k = j := h2
    rw [h2]
    exact ⟨s', rfl, Option.some.inj h1⟩
theorem sketchLoose_walk (l : List UInt8) (w : World) (hE : Env w) (hT : Tab w.heap.size w) : Calls Tryd.prog 6 #[.string (str l)] w fun e w' => e = .returned (.bool true) ∧ Below w.heap.size w w' := by
  by_cases her : (textG l).err ≠ 0
  · exact loose_err l w hE hT her
  have h0 : (textG l).err = 0 := by omega
  have hz := text_zero h0
  obtain ⟨hll, hL⟩ := text_laid h0
  have hEn := text_ended h0
  have hall : textG l = allL 0 l := by unfold textG; rw [if_neg (by omega)]
  obtain ⟨us, q, hus⟩ : ∃ us q, (textG l).toks = us ++ [⟨0, [], 0, q⟩] := by
    rw [hall]; exact all_last _ 0 l (Nat.le_refl _) (by rw [← hall]; exact h0)
  obtain ⟨ts, hts⟩ : ∃ ts, (textG l).toks = ts := ⟨_, rfl⟩
  have ht : textG l = ⟨ts, 0, 0⟩ := by
    rw [← hts]
    have : ∀ G : Got, G.err = 0 → G.place = 0 → G = ⟨G.toks, 0, 0⟩ := fun G a b => by
      obtain ⟨x, y, z⟩ := G; simp only at a b; subst a; subst b; rfl
    exact this _ h0 hz
  rw [hts] at hL hEn hus
  have hr := laid_right ts 0 hL
  have hend := bT_end hus
  rcases hs : sketchR ts with ⟨_ | s, j⟩
  · have hj := sketch_none_in hEn hs
    have hf : faultO l = (50, (nthT ts j).place) := by
      unfold faultO
      rw [if_neg her, ht]
      simp only [hs]
    refine loose_main l w hE hT ts ts.length ht rfl [] 50 (nthT ts j).place j 0 (fun _ => True) (.inr ⟨rfl, hj, rfl⟩) (fun W hW => ?_) (fun W hW hl => ⟨fun _ => ?_, fun h => by cases h⟩)
    · have := parse_no (l := l) W hW (by rw [hf]; exact (show (50 : Int) ≠ 0 by decide))
      rw [hf] at this
      exact this.mono fun _ _ ⟨h1, h2⟩ => ⟨none, 0, [], h1, ⟨.inl rfl, fun p hp => by cases hp⟩, trivial, h2⟩
    · rw [hend] at hl ⊢
      obtain ⟨r1, r2, r3⟩ := loose_read hus hr hl
      rw [hs] at r2
      have r4 := bare_none r2
      have hf2 : faultO (bT ts (ts.length - 1)) = (50, ((bT ts j).length : Int)) := by
        unfold faultO
        rw [if_neg (by simp [r1]), r4]
        show (50, (nthT _ j).place) = _
        rw [r3 j (by omega)]
      have := parse_no (l := bT ts (ts.length - 1)) W hW (by rw [hf2]; exact (show (50 : Int) ≠ 0 by decide))
      rw [hf2] at this
      exact this
  · have hs2 : sketchR (textG l).toks = (some s, j) := by rw [hts]; exact hs
    have hit := text_items h0 hs2
    have hfit := text_fits hs2
    refine loose_main l w hE hT ts ts.length ht rfl s.name 0 0 j s.items.length (fun L => s.items = L.map Prod.fst ∧ L.length = s.items.length) (.inl ⟨rfl, rfl⟩) (fun W hW => ?_) (fun W hW hl => ⟨(fun h => by cases h), fun _ => ?_⟩)
    · exact (parse_yes W hW h0 hs2).mono fun _ _ ⟨a, c, L, q1, q2, q3, q4, _, q6⟩ => ⟨a, c, L, q1, q4, ⟨q2, q3⟩, q6⟩
    · rw [hend] at hl ⊢
      obtain ⟨r1, r2, -⟩ := loose_read hus hr hl
      rw [hs] at r2
      obtain ⟨s', r4, r5⟩ := bare_some r2
      have en : (bareS s').name = (bareS s).name := by rw [r5]
      have ei : (bareS s').items = (bareS s).items := by rw [r5]
      have en : s'.name = s.name := en
      have ei : s'.items.map bareI = s.items.map bareI := ei
      have el : s'.items.length = s.items.length := by have := congrArg List.length ei; simpa using this
      refine (parse_yes W hW r1 r4).mono fun _ _ ⟨a, c, M, q1, q2, q3, q4, _, q6⟩ => ?_
      rw [en, el] at q1
      refine ⟨a, c, M, q1, q4, fun L ⟨p1, p2⟩ V a1 c1 p3 p4 => ?_, q6⟩
      exact alike_any s.name a1 a s.items.length c1 c L M V p2 (by rw [q3, el]) (by rw [← q2, ei, ← p1]) p3 p4 hit (fun p hp => (hfit p.1 (by rw [p1]; exact List.mem_map_of_mem hp)).len)
end Go.Proofs.YtlnodnkfagehgaaDoor

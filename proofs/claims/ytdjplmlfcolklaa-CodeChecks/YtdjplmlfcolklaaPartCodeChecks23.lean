/- Texts of one chain, laid one behind the other. -/
import Derived.Test.YtdjplmlfcolklaaPartCodeChecks21
import Derived.Test.YtdjplmlfcolklaaPartCodeChecks17
import Derived.Test.YtdjplmlfcolklaaPartCodeChecks19
import Derived.Test.YtdjplmlfcolklaaPartCodeChecks22
import Derived.Recover
import Derived.Test.YtdjplmlfcolklaaPartCodeChecks10
namespace Go.Proofs.Ytdjplmlfcolklaa
open Go.Lib Go.ChangeShapes Go.WideShapes Go.ChangeAt Go.RowKit
def rsG : List RdL := [cntL, cntL, cntL, cntL]
def mG (q : Nat) : Nat := [3, 7, 11, 15].getD q 0
theorem sizPrg : (Try.prog.info? 26).map (·.size) = some 7 := by kernel_rfl
theorem prg_cha (D : List UInt8) (j : Nat) : prgR D j = match chaR D rsG j with | .error x => .error x | .ok p => match listR 32 prtR D p.2 with | .error x => .error x | .ok q => match listR 96 linR D q.2 with | .error x => .error x | .ok r => match listR 131072 opR D r.2 with | .error x => .error x | .ok s => .ok (⟨(p.1.getD 0 []).headD 0, (p.1.getD 1 []).headD 0, (p.1.getD 2 []).headD 0, (p.1.getD 3 []).headD 0, q.1, r.1, s.1⟩, s.2) := by
  unfold prgR thenR rsG
  simp only [chaR, cntL]
  cases cntR D j with
  | error x => rfl
  | ok p =>
    simp only
    cases cntR D p.2 with
    | error x => rfl
    | ok p2 =>
      simp only
      cases cntR D p2.2 with
      | error x => rfl
      | ok p3 =>
        simp only
        cases cntR D p3.2 with
        | error x => rfl
        | ok p4 =>
          simp only
          cases listR 32 prtR D p4.2 with
          | error x => rfl
          | ok q =>
            simp only
            cases listR 96 linR D q.2 with
            | error x => rfl
            | ok r =>
              simp only
              cases listR 131072 opR D r.2 with
              | error x => rfl
              | ok s => rfl
/-- What a reading of a whole program gives. -/
def decR (D : List UInt8) : Except (Int × Nat) (PrgC × Nat) := match decC codeS D with | .error x => .error x | .ok p => .ok (p, D.length)
theorem decR_mag {D : List UInt8} (h : ¬ D.take 4 = magC) : decR D = .error (202, 0) := by unfold decR decC; rw [if_neg h]
theorem decR_err {D : List UInt8} (h : D.take 4 = magC) {x : Int × Nat} (h2 : prgR D 4 = .error x) : decR D = .error x := by unfold decR decC; rw [if_pos h, h2]
theorem decR_more {D : List UInt8} (h : D.take 4 = magC) {p : PrgC} {k : Nat} (h2 : prgR D 4 = .ok (p, k)) (h3 : k < D.length) : decR D = .error (204, k) := by unfold decR decC; rw [if_pos h, h2]; simp only; rw [if_pos h3]
theorem decR_bad {D : List UInt8} (h : D.take 4 = magC) {p : PrgC} {k : Nat} (h2 : prgR D 4 = .ok (p, k)) (h3 : ¬ k < D.length) (h4 : (stepC codeS p).2 ≠ 0) : decR D = .error ((stepC codeS p).2, D.length) := by unfold decR decC; rw [if_pos h, h2]; simp only; rw [if_neg h3, if_neg h4]
theorem decR_ok {D : List UInt8} (h : D.take 4 = magC) {p : PrgC} {k : Nat} (h2 : prgR D 4 = .ok (p, k)) (h3 : ¬ k < D.length) (h4 : (stepC codeS p).2 = 0) : decR D = .ok (p, D.length) := by unfold decR decC; rw [if_pos h, h2]; simp only; rw [if_neg h3, if_pos h4]
/-- A program's rows, of a call's own. -/
structure PrgO (B : Nat) (w : World) (p : PrgC) (aP : Option Addr) (cP : Nat) (aL : Option Addr) (cL : Nat) (aO : Option Addr) (cO : Nat) (LP : List (PrtC × (Option Addr × Nat))) (LL : List (LinC × (Option Addr × Nat))) : Prop where
  pe : LP.map Prod.fst = p.parts
  pa : CapV 45 prtV 2 B w aP cP LP
  pp : ∀ b ∈ LP, prtS B b w
  le : LL.map Prod.fst = p.lines
  la : CapV 49 linV 3 B w aL cL LL
  lp : ∀ b ∈ LL, linS B b w
  oa : CapV 53 opV 3 B w aO cO p.ops
theorem PrgO.lies {B w p aP cP aL cL aO cO LP LL} (h : PrgO B w p aP cP aL cL aO cO LP LL) : PrgL w p aP aL aO LP LL :=
  ⟨h.pe, h.pa.at prtV_len, fun x hx => ((h.pp x hx).at iV_len).ints, h.le, h.la.at linV_len, fun x hx => ((h.lp x hx).at iV_len).ints, h.oa.at opV_len⟩
theorem PrgO.later {B w w' p aP cP aL cL aO cO LP LL} (h : PrgO B w p aP cP aL cL aO cO LP LL) (hb : Below w.heap.size w w') : PrgO B w' p aP cP aL cL aO cO LP LL :=
  ⟨h.pe, h.pa.later hb, fun x hx => CapV.later (h.pp x hx) hb, h.le, h.la.later hb, fun x hx => CapV.later (h.lp x hx) hb, h.oa.later hb⟩
theorem PrgO.but {B w w' p aP cP aL cL aO cO LP LL} {K : Nat} {T : TypeId} {cs : Array Value} (h : PrgO B w p aP cP aL cL aO cO LP LL) (hb : But K w w') (hK : BlkA T K w cs) (h1 : 3 ≠ T) (h2 : 45 ≠ T) (h3 : 49 ≠ T) (h4 : 53 ≠ T) : PrgO B w' p aP cP aL cL aO cO LP LL :=
  ⟨h.pe, h.pa.but hb (h.pa.ne_type hK h2), fun x hx => CapV.but (h.pp x hx) hb (CapV.ne_type (h.pp x hx) hK h1), h.le, h.la.but hb (h.la.ne_type hK h3), fun x hx => CapV.but (h.lp x hx) hb (CapV.ne_type (h.lp x hx) hK h1), h.oa.but hb (h.oa.ne_type hK h4)⟩
theorem fit_of {p : PrgC} (h : PrgOk p) : FitP p := ⟨⟨fun q hq => ⟨(h.parts q hq).1, (h.parts q hq).2.2⟩, fun q hq => (h.lines q hq).2.2.2⟩, fun q hq => by have := (h.lines q hq).1.2; omega⟩
theorem take4 (D : List UInt8) : (strC D).extract 0 4 = strC (D.take 4) := by
  unfold strC
  rw [ByteArray.extract_mk]
  simp
theorem strC_list (l : List UInt8) : (strC l).toList = l := ByteArray.toList_mk l
theorem drewC (w : World) (n : Nat) : Below w.heap.size w (w.drewN n) := ⟨rfl, rfl, rfl, Nat.le_refl _, fun _ _ => rfl⟩
theorem RdA.put {R D k W u u' K} (h : RdA R D k W u) (hb : But K u u') (hK : W.heap.size ≤ K) (hR : R ≠ K) : RdA R D k W u' :=
  ⟨h.box.keep (hb.block R h.box.lt hR), ⟨hb.os.trans h.but.os, hb.tape.trans h.but.tape, hb.output.trans h.but.output, Nat.le_trans h.but.size hb.size, fun b hb1 hb2 => (hb.block b (Nat.lt_of_lt_of_le hb1 h.but.size) (by omega)).trans (h.but.block b hb1 hb2)⟩, h.le⟩
set_option maxRecDepth 100000 in
set_option maxHeartbeats 1000000 in
theorem prefixL_any (D : List UInt8) (W : World) : Calls Try.prog 79 #[.string (strC D), .string (strC magC)] W fun e w' => e = .returned (.bool (decide (D.take 4 = magC))) ∧ w' = W := by
  have e1 := strC_size D
  have e2 : (strC magC).size = 4 := rfl
  have ht := take4 D
  by_cases hl : 4 ≤ D.length
  · have hli : (D.length : Int) ≥ 4 := by omega
    have h4 : (4 : Int) ≤ (D.length : Int) := by omega
    by_cases hm : D.take 4 = magC
    · have hq : ((strC (D.take 4)).toList == (strC magC).toList) = true := by rw [hm]; simp only [beq_self_eq_true]
      rw [decide_eq_true hm]
      clear hm hl
      generalize strC (D.take 4) = X at *
      generalize strC magC = Y at *
      go_enter Try.func79, Try.ntmps79
      go_wp2
      go_ret
      exact ⟨rfl, rfl⟩
    · have hq : ((strC (D.take 4)).toList == (strC magC).toList) = false := by
        rw [strC_list, strC_list]
        simpa using hm
      rw [decide_eq_false hm]
      clear hm hl
      generalize strC (D.take 4) = X at *
      generalize strC magC = Y at *
      go_enter Try.func79, Try.ntmps79
      go_wp2
      go_ret
      exact ⟨rfl, rfl⟩
  · have hli : ¬ (D.length : Int) ≥ 4 := by omega
    have hm : ¬ D.take 4 = magC := fun e => hl (take_four e)
    rw [decide_eq_false hm]
    clear hm hl ht
    generalize strC magC = Y at *
    go_enter Try.func79, Try.ntmps79
    go_wp2
    go_ret
    exact ⟨rfl, rfl⟩
set_option maxRecDepth 100000 in
theorem prefix_any (D : List UInt8) (W : World) : Calls Try.prog 57 #[.string (strC D), .string (strC magC)] W fun e w' => e = .returned (.bool (decide (D.take 4 = magC))) ∧ w' = W := by
  have PL := hiddenC (prefixL_any D W)
  generalize strC magC = Y at *
  generalize decide (D.take 4 = magC) = b at *
  go_enter Try.func57, Try.ntmps57
  go_wp2_with (go_at_call 79; (with_reducible refine PL.out.mono ?_); rintro e w' ⟨rfl, hw'⟩; rw [hw']; clear hw' w')
  go_ret
  exact ⟨rfl, rfl⟩
set_option maxRecDepth 100000 in
set_option maxHeartbeats 8000000 in
theorem rdProgram_any (R : Nat) (D : List UInt8) (w : World) (h : BlkA 83 R w (rdV D 0)) (hD : D.length ≤ 4611686018427387904) :
    Calls Try.prog 40 #[.pointer (some ⟨R, 0, none⟩)] w (RdE R D w (decR D) (fun p w' v => ∃ aP cP aL cL aO cO LP LL, v = prgV p aP cP aL cL aO cO ∧ PrgO w.heap.size w' p aP cP aL cL aO cO LP LL)) := by
  obtain ⟨PE, hPE⟩ : ∃ Q : Ending → World → Prop, RdE R D w (decR D) (fun p w' v => ∃ aP cP aL cL aO cO LP LL, v = prgV p aP cP aL cL aO cO ∧ PrgO w.heap.size w' p aP cP aL cL aO cO LP LL) = Q := ⟨_, rfl⟩
  rw [hPE]
  have HPE := hiddenC hPE
  have HD := hiddenC hD
  have b1 := (Below.refl w.heap.size w).alloc (Nat.le_refl _) (.cells #[.int .i64 0, .int .i64 0, .int .i64 0, .int .i64 0, .slice none 0 0, .slice none 0 0, .slice none 0 0] 26)
  have g1 := blkA_new 26 w #[.int .i64 0, .int .i64 0, .int .i64 0, .int .i64 0, .slice none 0 0, .slice none 0 0, .slice none 0 0]
  have A0 := hiddenC ((RdA.refl h (Nat.zero_le _)).below b1)
  have RL := h.lt
  have hsz : (w.alloc (.cells #[.int .i64 0, .int .i64 0, .int .i64 0, .int .i64 0, .slice none 0 0, .slice none 0 0, .slice none 0 0] 26)).heap.size = w.heap.size + 1 := World.size_alloc ..
  have PX := hiddenC (fun U => prefix_any D U)
  clear hPE h hD b1
  go_enter Try.func40, Try.ntmps40
  go_upto_region 1 with fail
  generalize w.alloc (.cells #[.int .i64 0, .int .i64 0, .int .i64 0, .int .i64 0, .slice none 0 0, .slice none 0 0, .slice none 0 0] 26) = W1 at *
  obtain ⟨ob, hob⟩ : ∃ x, w.heap.size = x := ⟨_, rfl⟩
  have HOR : Hid (ob ≠ R) := by show _ ≠ _; omega
  have HRO : Hid (R ≠ ob) := by show _ ≠ _; omega
  have HZR1 : Hid (∀ g, W1.heap.size ≤ g → g ≠ R) := fun g hg => by omega
  have HZO1 : Hid (∀ g, W1.heap.size ≤ g → ob ≠ g) := fun g hg => by omega
  have HWO : Hid (w.heap.size ≤ ob) := Nat.le_of_eq hob
  have G0 : Hid (BlkA 26 ob W1 #[.int .i64 0, .int .i64 0, .int .i64 0, .int .i64 0, .slice none 0 0, .slice none 0 0, .slice none 0 0]) := by have q := g1; rw [hob] at q; exact q
  rw [hob]
  clear hob RL g1 hsz
  have y0 := A0.out.box.cell (k := 0) rfl
  have y1 := A0.out.box.cell (k := 1) rfl
  simp only [rdV, List.getElem_toArray, List.getElem_cons_zero, List.getElem_cons_succ] at y0 y1
  have f1 := A0.out.box.frozen 1
  by_cases hm : D.take 4 = magC
  · have PX1 : Hid (∀ U, Calls Try.prog 57 #[.string (strC D), .string ⟨#[80, 78, 76, 49]⟩] U fun e w' => e = .returned (.bool true) ∧ w' = U) := fun U => by
      have q := PX.out U
      rw [decide_eq_true hm] at q
      exact q
    have h4 := take_four hm
    have EE := hiddenC (fun x hx => decR_err hm (x := x) hx)
    have EM0 := hiddenC (fun p k h2 h3 => decR_more hm (p := p) (k := k) h2 h3)
    have EB0 := hiddenC (fun p k h2 h3 h4 => decR_bad hm (p := p) (k := k) h2 h3 h4)
    have EO0 := hiddenC (fun p k h2 h3 h4 => decR_ok hm (p := p) (k := k) h2 h3 h4)
    have A3 : Hid (RdA R D 4 w (W1.setCell ⟨R, 1, none⟩ (.int .i64 4))) := ⟨A0.out.box.set 1 (.int .i64 4), A0.out.but.trans (But.set _ _ _ _), h4⟩
    have G3 : Hid (BlkA 26 ob (W1.setCell ⟨R, 1, none⟩ (.int .i64 4)) #[.int .i64 0, .int .i64 0, .int .i64 0, .int .i64 0, .slice none 0 0, .slice none 0 0, .slice none 0 0]) := G0.out.but (But.set _ _ _ _) HOR.out
    have SZ : (W1.setCell ⟨R, 1, none⟩ (.int .i64 4)).heap.size = W1.heap.size := by simp [World.setCell]
    have H4L := hiddenC h4
    clear PX
    go_upto_region 4 with (go_at_call 57; (with_reducible refine (PX1.out _).mono ?_); rintro e w' ⟨rfl, hw'⟩; rw [hw']; clear hw' w')
    generalize W1.setCell ⟨R, 1, none⟩ (.int .i64 4) = W3 at *
    have HZR : Hid (∀ g, W3.heap.size ≤ g → g ≠ R) := fun g hg => HZR1.out g (by omega)
    have HZO : Hid (∀ g, W3.heap.size ≤ g → ob ≠ g) := fun g hg => HZO1.out g (by omega)
    clear y0 y1 f1 SZ h4
    have A1 := hiddenC (RdA.refl A3.out.box A3.out.le)
    have A0 := A3
    have G1 := G3
    have EC := hiddenC (prg_cha D 4)
    have EO1 : Hid (∀ x, chaR D rsG 4 = .error x → decR D = .error x) := fun x hx => EE.out x (by rw [EC.out, hx])
    obtain ⟨x0, hx0⟩ : ∃ x, (valR D rsG 4 0).headD 0 = x := ⟨_, rfl⟩
    obtain ⟨x1, hx1⟩ : ∃ x, (valR D rsG 4 1).headD 0 = x := ⟨_, rfl⟩
    obtain ⟨x2, hx2⟩ : ∃ x, (valR D rsG 4 2).headD 0 = x := ⟨_, rfl⟩
    obtain ⟨x3, hx3⟩ : ∃ x, (valR D rsG 4 3).headD 0 = x := ⟨_, rfl⟩
    have X0 := hiddenC hx0
    have X1 := hiddenC hx1
    have X2 := hiddenC hx2
    have X3 := hiddenC hx3
    clear hx0 hx1 hx2 hx3 hm
    refine wp_region_pan [3, 7, 11, 15, 18] (fun d_ i u z => match i with
        | 0 => z = .pointer (some ⟨R, 0, none⟩)
        | 1 => z = .pointer (some ⟨R, 0, none⟩)
        | 2 => z = .pointer (some ⟨R, 0, none⟩)
        | 3 => z = .int .i64 x0
        | 4 => z = .pointer (some ⟨R, 0, none⟩)
        | 5 => z = .pointer (some ⟨R, 0, none⟩)
        | 6 => z = .pointer (some ⟨R, 0, none⟩)
        | 7 => z = .int .i64 x1
        | 8 => z = .pointer (some ⟨R, 0, none⟩)
        | 9 => z = .pointer (some ⟨R, 0, none⟩)
        | 10 => z = .pointer (some ⟨R, 0, none⟩)
        | 11 => z = .int .i64 x2
        | 12 => z = .pointer (some ⟨R, 0, none⟩)
        | 13 => z = .pointer (some ⟨R, 0, none⟩)
        | 14 => z = .pointer (some ⟨R, 0, none⟩)
        | 15 => z = .int .i64 x3
        | 16 => z = .agg #[.int .i64 x0, .int .i64 x1, .int .i64 x2, .int .i64 x3, .slice none 0 0, .slice none 0 0, .slice none 0 0]
        | 17 => (∃ g, z = .pointer (some ⟨g, 0, none⟩) ∧ W3.heap.size ≤ g ∧ (d_ 18 = false → BlkA 26 g u #[.int .i64 0, .int .i64 0, .int .i64 0, .int .i64 0, .slice none 0 0, .slice none 0 0, .slice none 0 0]) ∧ (d_ 18 = true → BlkA 26 g u #[.int .i64 x0, .int .i64 x1, .int .i64 x2, .int .i64 x3, .slice none 0 0, .slice none 0 0, .slice none 0 0]))
        | 18 => True
        | _ => True) (fun d_ u => ChaC R D 4 W3 rsG mG d_ u ∧ BlkA 26 ob u #[.int .i64 0, .int .i64 0, .int .i64 0, .int .i64 0, .slice none 0 0, .slice none 0 0, .slice none 0 0]) (Z := ChaZ R D 4 W3 rsG) ?_ (by kernel_rfl) (by kernel_rfl) (by kernel_rfl) ?_ ?_ ?_ ?_ ?_ ?_ (by kernel_rfl)
    · rintro c_ a' w' hd_ ⟨x, rfl, hx, hz⟩
      exact ⟨hd_, by rw [← HPE.out, EO1.out x hx]; exact ⟨rfl, A0.out.transZ hz⟩⟩
    · intro d_ i w_ v_ w' h hb_
      match i, h with
      | 0, h => exact h
      | 1, h => exact h
      | 2, h => exact h
      | 3, h => exact h
      | 4, h => exact h
      | 5, h => exact h
      | 6, h => exact h
      | 7, h => exact h
      | 8, h => exact h
      | 9, h => exact h
      | 10, h => exact h
      | 11, h => exact h
      | 12, h => exact h
      | 13, h => exact h
      | 14, h => exact h
      | 15, h => exact h
      | 16, h => exact h
      | 17, h => obtain ⟨g, e1, e2, e3, e4⟩ := h; exact ⟨g, e1, e2, fun e => (e3 e).below hb_, fun e => (e4 e).below hb_⟩
      | 18, h => exact h
      | _ + 19, _ => trivial
    · intro d_ u u' h hb_
      exact ⟨h.1.later hb_, h.2.below hb_⟩
    · exact ⟨ChaC.start A1.out, G1.out⟩
    · intro d_ i o ρ w' hm ho hf hg hC hcs hfs hfr hdep
      match i, hm, ho, hf, hg, hfr, hdep with
      | 0, _, ho, hf, hg, hfr, hdep =>
        simp only [gTA, gCZ, gSI] at ho
        subst ho
        refine ⟨fun _ => ?_, fun hw => absurd (show true = false from hw) (by decide)⟩
        have ts : ρ (.tmp 0) = .pointer (some ⟨R, 0, none⟩) := hfr 0 (by kernel_rfl)
        simp [go_sem, ts]
        exact ⟨Below.refl _ _, rfl⟩
      | 1, _, ho, hf, hg, hfr, hdep =>
        simp only [gTA, gCZ, gCS, gSI] at ho
        subst ho
        refine ⟨fun _ => ?_, fun hw => absurd (show true = false from hw) (by decide)⟩
        have d0 : ρ (.tmp 20) = .pointer (some ⟨R, 0, none⟩) := hdep 0 20 (by kernel_rfl) (by kernel_rfl)
        simp [go_sem, d0]
        exact ⟨Below.refl _ _, rfl⟩
      | 2, _, ho, hf, hg, hfr, hdep =>
        simp only [gTA, gCZ, gCS, gSI] at ho
        subst ho
        refine ⟨fun _ => ?_, fun hw => absurd (show true = false from hw) (by decide)⟩
        have d0 : ρ (.tmp 21) = .pointer (some ⟨R, 0, none⟩) := hdep 1 21 (by kernel_rfl) (by kernel_rfl)
        simp [go_sem, d0]
        exact ⟨Below.refl _ _, rfl⟩
      | 3, hm, _, _, _, _, _ => exact absurd hm (by decide)
      | 4, _, ho, hf, hg, hfr, hdep =>
        simp only [gTA, gCZ, gCS, gSI] at ho
        subst ho
        refine ⟨fun _ => ?_, fun hw => absurd (show true = false from hw) (by decide)⟩
        have ts : ρ (.tmp 0) = .pointer (some ⟨R, 0, none⟩) := hfr 0 (by kernel_rfl)
        simp [go_sem, ts]
        exact ⟨Below.refl _ _, rfl⟩
      | 5, _, ho, hf, hg, hfr, hdep =>
        simp only [gTA, gCZ, gCS, gSI] at ho
        subst ho
        refine ⟨fun _ => ?_, fun hw => absurd (show true = false from hw) (by decide)⟩
        have d0 : ρ (.tmp 24) = .pointer (some ⟨R, 0, none⟩) := hdep 4 24 (by kernel_rfl) (by kernel_rfl)
        simp [go_sem, d0]
        exact ⟨Below.refl _ _, rfl⟩
      | 6, _, ho, hf, hg, hfr, hdep =>
        simp only [gTA, gCZ, gCS, gSI] at ho
        subst ho
        refine ⟨fun _ => ?_, fun hw => absurd (show true = false from hw) (by decide)⟩
        have d0 : ρ (.tmp 25) = .pointer (some ⟨R, 0, none⟩) := hdep 5 25 (by kernel_rfl) (by kernel_rfl)
        simp [go_sem, d0]
        exact ⟨Below.refl _ _, rfl⟩
      | 7, hm, _, _, _, _, _ => exact absurd hm (by decide)
      | 8, _, ho, hf, hg, hfr, hdep =>
        simp only [gTA, gCZ, gCS, gSI] at ho
        subst ho
        refine ⟨fun _ => ?_, fun hw => absurd (show true = false from hw) (by decide)⟩
        have ts : ρ (.tmp 0) = .pointer (some ⟨R, 0, none⟩) := hfr 0 (by kernel_rfl)
        simp [go_sem, ts]
        exact ⟨Below.refl _ _, rfl⟩
      | 9, _, ho, hf, hg, hfr, hdep =>
        simp only [gTA, gCZ, gCS, gSI] at ho
        subst ho
        refine ⟨fun _ => ?_, fun hw => absurd (show true = false from hw) (by decide)⟩
        have d0 : ρ (.tmp 28) = .pointer (some ⟨R, 0, none⟩) := hdep 8 28 (by kernel_rfl) (by kernel_rfl)
        simp [go_sem, d0]
        exact ⟨Below.refl _ _, rfl⟩
      | 10, _, ho, hf, hg, hfr, hdep =>
        simp only [gTA, gCZ, gCS, gSI] at ho
        subst ho
        refine ⟨fun _ => ?_, fun hw => absurd (show true = false from hw) (by decide)⟩
        have d0 : ρ (.tmp 29) = .pointer (some ⟨R, 0, none⟩) := hdep 9 29 (by kernel_rfl) (by kernel_rfl)
        simp [go_sem, d0]
        exact ⟨Below.refl _ _, rfl⟩
      | 11, hm, _, _, _, _, _ => exact absurd hm (by decide)
      | 12, _, ho, hf, hg, hfr, hdep =>
        simp only [gTA, gCZ, gCS, gSI] at ho
        subst ho
        refine ⟨fun _ => ?_, fun hw => absurd (show true = false from hw) (by decide)⟩
        have ts : ρ (.tmp 0) = .pointer (some ⟨R, 0, none⟩) := hfr 0 (by kernel_rfl)
        simp [go_sem, ts]
        exact ⟨Below.refl _ _, rfl⟩
      | 13, _, ho, hf, hg, hfr, hdep =>
        simp only [gTA, gCZ, gCS, gSI] at ho
        subst ho
        refine ⟨fun _ => ?_, fun hw => absurd (show true = false from hw) (by decide)⟩
        have d0 : ρ (.tmp 32) = .pointer (some ⟨R, 0, none⟩) := hdep 12 32 (by kernel_rfl) (by kernel_rfl)
        simp [go_sem, d0]
        exact ⟨Below.refl _ _, rfl⟩
      | 14, _, ho, hf, hg, hfr, hdep =>
        simp only [gTA, gCZ, gCS, gSI] at ho
        subst ho
        refine ⟨fun _ => ?_, fun hw => absurd (show true = false from hw) (by decide)⟩
        have d0 : ρ (.tmp 33) = .pointer (some ⟨R, 0, none⟩) := hdep 13 33 (by kernel_rfl) (by kernel_rfl)
        simp [go_sem, d0]
        exact ⟨Below.refl _ _, rfl⟩
      | 15, hm, _, _, _, _, _ => exact absurd hm (by decide)
      | 16, _, ho, hf, hg, hfr, hdep =>
        simp only [gTA, gCZ, gCS, gSI] at ho
        subst ho
        refine ⟨fun _ => ?_, fun hw => absurd (show true = false from hw) (by decide)⟩
        have d0 : ρ (.tmp 23) = .int .i64 x0 := hdep 3 23 (by kernel_rfl) (by kernel_rfl)
        have d1 : ρ (.tmp 27) = .int .i64 x1 := hdep 7 27 (by kernel_rfl) (by kernel_rfl)
        have d2 : ρ (.tmp 31) = .int .i64 x2 := hdep 11 31 (by kernel_rfl) (by kernel_rfl)
        have d3 : ρ (.tmp 35) = .int .i64 x3 := hdep 15 35 (by kernel_rfl) (by kernel_rfl)
        simp [go_sem, d0, d1, d2, d3]
        exact ⟨Below.refl _ _, rfl⟩
      | 17, _, ho, hf, hg, hfr, hdep =>
        simp only [gTA, gCZ, gCS, gSI] at ho
        subst ho
        refine ⟨fun _ => ?_, fun hw => absurd (show true = false from hw) (by decide)⟩
        have hd_ : d_ 18 = false := hf 18 (by decide) (by kernel_rfl)
        simp [go_sem]
        exact ⟨(Below.refl _ _).alloc (Nat.le_refl _) _, _, rfl, hC.1.size, fun _ => blkA_new _ _ _, fun e => absurd (hd_.symm.trans e) (by decide)⟩
      | 18, hm, _, _, _, _, _ => exact absurd hm (by decide)
      | n + 19, _, ho, _, _, _, _ => simp at ho
    · intro d_ i o ρ w' hm ho h0 hf hg hC hcs hfs hfr hdep
      match i, hm, ho, h0, hf, hg, hfr, hdep with
      | 0, hm, _, _, _, _, _, _ => exact absurd hm (by decide)
      | 1, hm, _, _, _, _, _, _ => exact absurd hm (by decide)
      | 2, hm, _, _, _, _, _, _ => exact absurd hm (by decide)
      | 3, _, ho, h0, hf, hg, hfr, hdep =>
        simp only [gTA, gCZ, gCS, gSI] at ho
        subst ho
        refine ⟨rfl, ?_⟩
        have t0 : ρ (.tmp 22) = .pointer (some ⟨R, 0, none⟩) := hdep 2 22 (by kernel_rfl) (by kernel_rfl)
        refine mark_enter (f := 59) (args := #[.pointer (some ⟨R, 0, none⟩)]) (by simp [go_sem, t0, hfs]) (cha_call (rs := rsG) (M := mG) (q := 0) hC.1 h0 (by decide) (.inl rfl) (by decide) (fun k h1 h2 => cntL_con HD.out k h1 h2) ?_)
        intro v u9 hV hC9 hB9
        refine ⟨⟨hC9, hC.2.but hB9 HOR.out⟩, fun _ => ?_, ?_⟩
        · exact Eq.trans hV (by rw [X0.out])
        · intro j_ t_ hj_ hs
          match j_, hj_, hs with
          | 0, _, hs => exact hs
          | 1, _, hs => exact hs
          | 2, _, hs => exact hs
          | 3, _, hs => exact hs
          | 4, _, hs => exact hs
          | 5, _, hs => exact hs
          | 6, _, hs => exact hs
          | 7, _, hs => exact hs
          | 8, _, hs => exact hs
          | 9, _, hs => exact hs
          | 10, _, hs => exact hs
          | 11, _, hs => exact hs
          | 12, _, hs => exact hs
          | 13, _, hs => exact hs
          | 14, _, hs => exact hs
          | 15, _, hs => exact hs
          | 16, _, hs => exact hs
          | 17, _, hs => obtain ⟨g, e1, e2, e3, e4⟩ := hs; exact ⟨g, e1, e2, fun e => (e3 (by simpa [doneAt] using e)).but hB9 (HZR.out g e2), fun e => (e4 (by simpa [doneAt] using e)).but hB9 (HZR.out g e2)⟩
          | 18, _, hs => exact hs
          | _ + 19, _, _ => trivial
      | 4, hm, _, _, _, _, _, _ => exact absurd hm (by decide)
      | 5, hm, _, _, _, _, _, _ => exact absurd hm (by decide)
      | 6, hm, _, _, _, _, _, _ => exact absurd hm (by decide)
      | 7, _, ho, h0, hf, hg, hfr, hdep =>
        simp only [gTA, gCZ, gCS, gSI] at ho
        subst ho
        refine ⟨rfl, ?_⟩
        have t0 : ρ (.tmp 26) = .pointer (some ⟨R, 0, none⟩) := hdep 6 26 (by kernel_rfl) (by kernel_rfl)
        refine mark_enter (f := 59) (args := #[.pointer (some ⟨R, 0, none⟩)]) (by simp [go_sem, t0, hfs]) (cha_call (rs := rsG) (M := mG) (q := 1) hC.1 h0 (by decide) (.inr (hg 3 (by decide) (by kernel_rfl))) (by decide) (fun k h1 h2 => cntL_con HD.out k h1 h2) ?_)
        intro v u9 hV hC9 hB9
        refine ⟨⟨hC9, hC.2.but hB9 HOR.out⟩, fun _ => ?_, ?_⟩
        · exact Eq.trans hV (by rw [X1.out])
        · intro j_ t_ hj_ hs
          match j_, hj_, hs with
          | 0, _, hs => exact hs
          | 1, _, hs => exact hs
          | 2, _, hs => exact hs
          | 3, _, hs => exact hs
          | 4, _, hs => exact hs
          | 5, _, hs => exact hs
          | 6, _, hs => exact hs
          | 7, _, hs => exact hs
          | 8, _, hs => exact hs
          | 9, _, hs => exact hs
          | 10, _, hs => exact hs
          | 11, _, hs => exact hs
          | 12, _, hs => exact hs
          | 13, _, hs => exact hs
          | 14, _, hs => exact hs
          | 15, _, hs => exact hs
          | 16, _, hs => exact hs
          | 17, _, hs => obtain ⟨g, e1, e2, e3, e4⟩ := hs; exact ⟨g, e1, e2, fun e => (e3 (by simpa [doneAt] using e)).but hB9 (HZR.out g e2), fun e => (e4 (by simpa [doneAt] using e)).but hB9 (HZR.out g e2)⟩
          | 18, _, hs => exact hs
          | _ + 19, _, _ => trivial
      | 8, hm, _, _, _, _, _, _ => exact absurd hm (by decide)
      | 9, hm, _, _, _, _, _, _ => exact absurd hm (by decide)
      | 10, hm, _, _, _, _, _, _ => exact absurd hm (by decide)
      | 11, _, ho, h0, hf, hg, hfr, hdep =>
        simp only [gTA, gCZ, gCS, gSI] at ho
        subst ho
        refine ⟨rfl, ?_⟩
        have t0 : ρ (.tmp 30) = .pointer (some ⟨R, 0, none⟩) := hdep 10 30 (by kernel_rfl) (by kernel_rfl)
        refine mark_enter (f := 59) (args := #[.pointer (some ⟨R, 0, none⟩)]) (by simp [go_sem, t0, hfs]) (cha_call (rs := rsG) (M := mG) (q := 2) hC.1 h0 (by decide) (.inr (hg 7 (by decide) (by kernel_rfl))) (by decide) (fun k h1 h2 => cntL_con HD.out k h1 h2) ?_)
        intro v u9 hV hC9 hB9
        refine ⟨⟨hC9, hC.2.but hB9 HOR.out⟩, fun _ => ?_, ?_⟩
        · exact Eq.trans hV (by rw [X2.out])
        · intro j_ t_ hj_ hs
          match j_, hj_, hs with
          | 0, _, hs => exact hs
          | 1, _, hs => exact hs
          | 2, _, hs => exact hs
          | 3, _, hs => exact hs
          | 4, _, hs => exact hs
          | 5, _, hs => exact hs
          | 6, _, hs => exact hs
          | 7, _, hs => exact hs
          | 8, _, hs => exact hs
          | 9, _, hs => exact hs
          | 10, _, hs => exact hs
          | 11, _, hs => exact hs
          | 12, _, hs => exact hs
          | 13, _, hs => exact hs
          | 14, _, hs => exact hs
          | 15, _, hs => exact hs
          | 16, _, hs => exact hs
          | 17, _, hs => obtain ⟨g, e1, e2, e3, e4⟩ := hs; exact ⟨g, e1, e2, fun e => (e3 (by simpa [doneAt] using e)).but hB9 (HZR.out g e2), fun e => (e4 (by simpa [doneAt] using e)).but hB9 (HZR.out g e2)⟩
          | 18, _, hs => exact hs
          | _ + 19, _, _ => trivial
      | 12, hm, _, _, _, _, _, _ => exact absurd hm (by decide)
      | 13, hm, _, _, _, _, _, _ => exact absurd hm (by decide)
      | 14, hm, _, _, _, _, _, _ => exact absurd hm (by decide)
      | 15, _, ho, h0, hf, hg, hfr, hdep =>
        simp only [gTA, gCZ, gCS, gSI] at ho
        subst ho
        refine ⟨rfl, ?_⟩
        have t0 : ρ (.tmp 34) = .pointer (some ⟨R, 0, none⟩) := hdep 14 34 (by kernel_rfl) (by kernel_rfl)
        refine mark_enter (f := 59) (args := #[.pointer (some ⟨R, 0, none⟩)]) (by simp [go_sem, t0, hfs]) (cha_call (rs := rsG) (M := mG) (q := 3) hC.1 h0 (by decide) (.inr (hg 11 (by decide) (by kernel_rfl))) (by decide) (fun k h1 h2 => cntL_con HD.out k h1 h2) ?_)
        intro v u9 hV hC9 hB9
        refine ⟨⟨hC9, hC.2.but hB9 HOR.out⟩, fun _ => ?_, ?_⟩
        · exact Eq.trans hV (by rw [X3.out])
        · intro j_ t_ hj_ hs
          match j_, hj_, hs with
          | 0, _, hs => exact hs
          | 1, _, hs => exact hs
          | 2, _, hs => exact hs
          | 3, _, hs => exact hs
          | 4, _, hs => exact hs
          | 5, _, hs => exact hs
          | 6, _, hs => exact hs
          | 7, _, hs => exact hs
          | 8, _, hs => exact hs
          | 9, _, hs => exact hs
          | 10, _, hs => exact hs
          | 11, _, hs => exact hs
          | 12, _, hs => exact hs
          | 13, _, hs => exact hs
          | 14, _, hs => exact hs
          | 15, _, hs => exact hs
          | 16, _, hs => exact hs
          | 17, _, hs => obtain ⟨g, e1, e2, e3, e4⟩ := hs; exact ⟨g, e1, e2, fun e => (e3 (by simpa [doneAt] using e)).but hB9 (HZR.out g e2), fun e => (e4 (by simpa [doneAt] using e)).but hB9 (HZR.out g e2)⟩
          | 18, _, hs => exact hs
          | _ + 19, _, _ => trivial
      | 16, hm, _, _, _, _, _, _ => exact absurd hm (by decide)
      | 17, hm, _, _, _, _, _, _ => exact absurd hm (by decide)
      | 18, _, ho, h0, hf, hg, hfr, hdep =>
        simp only [gTA, gCZ, gCS, gSI] at ho
        subst ho
        refine ⟨rfl, ?_⟩
        have t0 : ρ (.tmp 36) = .agg #[.int .i64 x0, .int .i64 x1, .int .i64 x2, .int .i64 x3, .slice none 0 0, .slice none 0 0, .slice none 0 0] := hdep 16 36 (by kernel_rfl) (by kernel_rfl)
        have tA : ∃ g, ρ (.tmp 3) = .pointer (some ⟨g, 0, none⟩) ∧ W3.heap.size ≤ g ∧ (d_ 18 = false → BlkA 26 g w' #[.int .i64 0, .int .i64 0, .int .i64 0, .int .i64 0, .slice none 0 0, .slice none 0 0, .slice none 0 0]) ∧ (d_ 18 = true → BlkA 26 g w' #[.int .i64 x0, .int .i64 x1, .int .i64 x2, .int .i64 x3, .slice none 0 0, .slice none 0 0, .slice none 0 0]) := hdep 17 3 (by kernel_rfl) (by kernel_rfl)
        obtain ⟨g, e1, e2, e3, e4⟩ := tA
        refine mark_storeC 26 (.tmp 3) (.tmp 36) rfl g 26 #[.int .i64 0, .int .i64 0, .int .i64 0, .int .i64 0, .slice none 0 0, .slice none 0 0, .slice none 0 0] #[.int .i64 x0, .int .i64 x1, .int .i64 x2, .int .i64 x3, .slice none 0 0, .slice none 0 0, .slice none 0 0] e1 t0 (e3 h0) sizPrg rfl (by rw [← Array.all_toList]; rfl) ?_
        intro u9 hB9 hB8
        refine ⟨⟨hC.1.put (by decide) hB8 e2 (fun e => HZR.out g e2 e.symm), hC.2.but hB8 (HZO.out g e2)⟩, fun h => absurd rfl h, ?_⟩
        intro j_ t_ hj_ hs
        match j_, hj_, hs with
        | 0, _, hs => exact hs
        | 1, _, hs => exact hs
        | 2, _, hs => exact hs
        | 3, _, hs => exact hs
        | 4, _, hs => exact hs
        | 5, _, hs => exact hs
        | 6, _, hs => exact hs
        | 7, _, hs => exact hs
        | 8, _, hs => exact hs
        | 9, _, hs => exact hs
        | 10, _, hs => exact hs
        | 11, _, hs => exact hs
        | 12, _, hs => exact hs
        | 13, _, hs => exact hs
        | 14, _, hs => exact hs
        | 15, _, hs => exact hs
        | 16, _, hs => exact hs
        | 17, hj_, hs => obtain ⟨g2, f1, f2, f3, f4⟩ := hs; obtain rfl : 3 = t_ := (by simpa using hj_); obtain rfl : g = g2 := (by rw [e1] at f1; simpa using f1); exact ⟨g, e1, e2, fun e => absurd e (by rw [doneC_eq]; decide), fun _ => hB9⟩
        | 18, _, hs => exact hs
        | _ + 19, _, _ => trivial
      | n + 19, _, ho, _, _, _, _, _ => simp at ho
    · intro U8 V8x hC8 hS
      obtain ⟨g, eA, g2, -, g4⟩ : ∃ g, U8 17 = .pointer (some ⟨g, 0, none⟩) ∧ W3.heap.size ≤ g ∧ (allOf [3, 7, 11, 15, 18] 18 = false → BlkA 26 g V8x #[.int .i64 0, .int .i64 0, .int .i64 0, .int .i64 0, .slice none 0 0, .slice none 0 0, .slice none 0 0]) ∧ (allOf [3, 7, 11, 15, 18] 18 = true → BlkA 26 g V8x #[.int .i64 x0, .int .i64 x1, .int .i64 x2, .int .i64 x3, .slice none 0 0, .slice none 0 0, .slice none 0 0]) := hS 17 (by decide) (by intro h; cases h)
      simp only [puts, put_none, eA]
      simp only [Act.put, List.setIfInBounds_toArray, List.set_cons_zero, List.set_cons_succ]
      clear hS eA
      obtain ⟨xs, k4, e1, hA, hv⟩ := hC8.1.all (by decide)
      have A4 := hiddenC (A0.out.trans hA)
      have G4 := hiddenC (g4 (by decide))
      have O4 := hiddenC hC8.2
      have HGR := hiddenC (HZR.out g g2)
      have HRG : Hid (R ≠ g) := fun e => HGR.out e.symm
      have HGO : Hid (g ≠ ob) := fun e => HZO.out g g2 e.symm
      have WG : Hid (w.heap.size ≤ g) := Nat.le_trans A0.out.but.size g2
      have EC4 : Hid (prgR D 4 = match listR 32 prtR D k4 with | .error x => .error x | .ok q => match listR 96 linR D q.2 with | .error x => .error x | .ok r => match listR 131072 opR D r.2 with | .error x => .error x | .ok s => .ok (⟨x0, x1, x2, x3, q.1, r.1, s.1⟩, s.2)) := by
        show _ = _
        rw [EC.out, e1]
        simp only
        rw [hv 0 (by decide), hv 1 (by decide), hv 2 (by decide), hv 3 (by decide), X0.out, X1.out, X2.out, X3.out]
        try rfl
      clear hC8 g2 g4 hA hv e1
      have RP := hiddenC (rdParts_any R D k4 V8x A4.out.box A4.out.le HD.out 32 (by decide) (fun m U hU hmU => rdPart_any R D m U hU hmU HD.out))
      have RPL : Hid (Calls Try.prog 60 #[.pointer (some ⟨R, 0, none⟩), .int .i64 32, .func (.func 61) #[.pointer (some ⟨R, 0, none⟩)] #[]] V8x (RdE R D V8x (listR 32 prtR D k4) (RowS 45 prtV 2 Prod.fst prtS V8x.heap.size))) := RP.out
      clear RPL RP
      have R0 : Hid (Calls Try.prog 60 #[.pointer (some ⟨R, 0, none⟩), .int .i64 32, .func (.func 61) #[.pointer (some ⟨R, 0, none⟩)] #[]] V8x (RdE R D V8x (listR 32 prtR D k4) (RowS 45 prtV 2 Prod.fst prtS V8x.heap.size))) := rdParts_any R D k4 V8x A4.out.box A4.out.le HD.out 32 (by decide) (fun m U hU hmU => rdPart_any R D m U hU hmU HD.out)
      cases hp : listR 32 prtR D k4 with
      | error x =>
        rw [hp] at R0
        have ER := hiddenC (EE.out x (by rw [EC4.out, hp]))
        go_wp2_with (go_at_call 60; (with_reducible refine R0.out.mono ?_); rintro e u2 ⟨rfl, h2⟩; have H2 := hiddenC (A4.out.transZ h2); clear h2)
        refine ⟨rfl, ?_⟩
        rw [← HPE.out, ER.out]
        exact ⟨rfl, H2.out⟩
      | ok pq =>
        obtain ⟨ps, k5⟩ := pq
        rw [hp] at R0
        go_upto_region 6 with (go_at_call 60; (with_reducible refine R0.out.mono ?_); rintro e u0 ⟨v, rfl, ⟨aP, cP, LP, rfl, hm_, ho_, hs_⟩, hA_⟩; have MP := hiddenC hm_; have OP := hiddenC (ho_.mono A4.out.but.size); have SP := hiddenC hs_; have AU := hiddenC (A4.out.trans hA_); have BU := hiddenC hA_.but; have GB := hiddenC (G4.out.but BU.out HGR.out); have g0c := GB.out.cell (k := 4) rfl; have g0f := GB.out.frozen 4; simp only [List.getElem_toArray, List.getElem_cons_zero, List.getElem_cons_succ] at g0c; clear hm_ ho_ hs_ hA_)
        have BW : Hid (But g u0 (u0.setCell ⟨g, 4, none⟩ (.slice aP ps.length cP))) := But.set _ _ _ _
        have A5 : Hid (RdA R D k5 w (u0.setCell ⟨g, 4, none⟩ (.slice aP ps.length cP))) := AU.out.put BW.out WG.out HRG.out
        have G5 : Hid (BlkA 26 g (u0.setCell ⟨g, 4, none⟩ (.slice aP ps.length cP)) #[.int .i64 x0, .int .i64 x1, .int .i64 x2, .int .i64 x3, .slice aP ps.length cP, .slice none 0 0, .slice none 0 0]) := GB.out.set 4 (.slice aP ps.length cP)
        have O5 : Hid (BlkA 26 ob (u0.setCell ⟨g, 4, none⟩ (.slice aP ps.length cP)) #[.int .i64 0, .int .i64 0, .int .i64 0, .int .i64 0, .slice none 0 0, .slice none 0 0, .slice none 0 0]) := (O4.out.but BU.out HOR.out).but BW.out (fun e => HGO.out e.symm)
        have QP : Hid (CapV 45 prtV 2 w.heap.size (u0.setCell ⟨g, 4, none⟩ (.slice aP ps.length cP)) aP cP LP) := OP.out.but BW.out (OP.out.ne_type GB.out (by decide))
        have YP : Hid (∀ b ∈ LP, prtS w.heap.size b (u0.setCell ⟨g, 4, none⟩ (.slice aP ps.length cP))) := fun b hb => CapV.mono (CapV.but (SP.out b hb) BW.out (CapV.ne_type (SP.out b hb) GB.out (by decide))) A4.out.but.size
        clear g0c g0f
        generalize u0.setCell ⟨g, 4, none⟩ (.slice aP ps.length cP) = V5 at *
        have R1 : Hid (Calls Try.prog 62 #[.pointer (some ⟨R, 0, none⟩), .int .i64 96, .func (.func 63) #[.pointer (some ⟨R, 0, none⟩)] #[]] V5 (RdE R D V5 (listR 96 linR D k5) (RowS 49 linV 3 Prod.fst linS V5.heap.size))) := rdLines_any R D k5 V5 A5.out.box A5.out.le HD.out 96 (by decide) (fun m U hU hmU => rdLine_any R D m U hU hmU HD.out)
        cases hl : listR 96 linR D k5 with
        | error x =>
          rw [hl] at R1
          have ER := hiddenC (EE.out x (by rw [EC4.out, hp]; simp only [hl]))
          go_wp2_with (go_at_call 62; (with_reducible refine R1.out.mono ?_); rintro e u2 ⟨rfl, h2⟩; have H2 := hiddenC (A5.out.transZ h2); clear h2)
          refine ⟨rfl, ?_⟩
          rw [← HPE.out, ER.out]
          exact ⟨rfl, H2.out⟩
        | ok pq =>
          obtain ⟨ls, k6⟩ := pq
          rw [hl] at R1
          go_upto_region 7 with (go_at_call 62; (with_reducible refine R1.out.mono ?_); rintro e u1 ⟨v, rfl, ⟨aL, cL, LL, rfl, hm_, ho_, hs_⟩, hA_⟩; have ML := hiddenC hm_; have OL := hiddenC (ho_.mono A5.out.but.size); have SL := hiddenC hs_; have AU := hiddenC (A5.out.trans hA_); have BU := hiddenC hA_.but; have GB := hiddenC (G5.out.but BU.out HGR.out); have g1c := GB.out.cell (k := 5) rfl; have g1f := GB.out.frozen 5; simp only [List.getElem_toArray, List.getElem_cons_zero, List.getElem_cons_succ] at g1c; clear hm_ ho_ hs_ hA_)
          have BW : Hid (But g u1 (u1.setCell ⟨g, 5, none⟩ (.slice aL ls.length cL))) := But.set _ _ _ _
          have A6 : Hid (RdA R D k6 w (u1.setCell ⟨g, 5, none⟩ (.slice aL ls.length cL))) := AU.out.put BW.out WG.out HRG.out
          have G6 : Hid (BlkA 26 g (u1.setCell ⟨g, 5, none⟩ (.slice aL ls.length cL)) #[.int .i64 x0, .int .i64 x1, .int .i64 x2, .int .i64 x3, .slice aP ps.length cP, .slice aL ls.length cL, .slice none 0 0]) := GB.out.set 5 (.slice aL ls.length cL)
          have O6 : Hid (BlkA 26 ob (u1.setCell ⟨g, 5, none⟩ (.slice aL ls.length cL)) #[.int .i64 0, .int .i64 0, .int .i64 0, .int .i64 0, .slice none 0 0, .slice none 0 0, .slice none 0 0]) := (O5.out.but BU.out HOR.out).but BW.out (fun e => HGO.out e.symm)
          have QP : Hid (CapV 45 prtV 2 w.heap.size (u1.setCell ⟨g, 5, none⟩ (.slice aL ls.length cL)) aP cP LP) := by
            have q := QP.out.but BU.out (QP.out.ne_type A5.out.box (by decide))
            exact q.but BW.out (q.ne_type GB.out (by decide))
          have YP : Hid (∀ b ∈ LP, prtS w.heap.size b (u1.setCell ⟨g, 5, none⟩ (.slice aL ls.length cL))) := fun b hb => by
            have q := CapV.but (YP.out b hb) BU.out (CapV.ne_type (YP.out b hb) A5.out.box (by decide))
            exact CapV.but q BW.out (CapV.ne_type q GB.out (by decide))
          have QL : Hid (CapV 49 linV 3 w.heap.size (u1.setCell ⟨g, 5, none⟩ (.slice aL ls.length cL)) aL cL LL) := OL.out.but BW.out (OL.out.ne_type GB.out (by decide))
          have YL : Hid (∀ b ∈ LL, linS w.heap.size b (u1.setCell ⟨g, 5, none⟩ (.slice aL ls.length cL))) := fun b hb => CapV.mono (CapV.but (SL.out b hb) BW.out (CapV.ne_type (SL.out b hb) GB.out (by decide))) A5.out.but.size
          clear g1c g1f
          generalize u1.setCell ⟨g, 5, none⟩ (.slice aL ls.length cL) = V6 at *
          have R2 : Hid (Calls Try.prog 64 #[.pointer (some ⟨R, 0, none⟩), .int .i64 131072, .func (.func 65) #[.pointer (some ⟨R, 0, none⟩)] #[]] V6 (RdE R D V6 (listR 131072 opR D k6) (RowS 53 opV 3 (fun b : OpC => b) noS V6.heap.size))) := rdOps_any R D k6 V6 A6.out.box A6.out.le HD.out 131072 (by decide) (fun m U hU hmU => rdOp_any R D m U hU hmU HD.out)
          cases ho : listR 131072 opR D k6 with
          | error x =>
            rw [ho] at R2
            have ER := hiddenC (EE.out x (by rw [EC4.out, hp]; simp only [hl, ho]))
            go_wp2_with (go_at_call 64; (with_reducible refine R2.out.mono ?_); rintro e u2 ⟨rfl, h2⟩; have H2 := hiddenC (A6.out.transZ h2); clear h2)
            refine ⟨rfl, ?_⟩
            rw [← HPE.out, ER.out]
            exact ⟨rfl, H2.out⟩
          | ok pq =>
            obtain ⟨os, k7⟩ := pq
            rw [ho] at R2
            go_upto_region 8 with (go_at_call 64; (with_reducible refine R2.out.mono ?_); rintro e u2 ⟨v, rfl, ⟨aO, cO, LO, rfl, hm_, ho_, hs_⟩, hA_⟩; have MO := hiddenC hm_; have OO := hiddenC (ho_.mono A6.out.but.size); have SO := hiddenC hs_; have AU := hiddenC (A6.out.trans hA_); have BU := hiddenC hA_.but; have GB := hiddenC (G6.out.but BU.out HGR.out); have g2c := GB.out.cell (k := 6) rfl; have g2f := GB.out.frozen 6; simp only [List.getElem_toArray, List.getElem_cons_zero, List.getElem_cons_succ] at g2c; clear hm_ ho_ hs_ hA_)
            have BW : Hid (But g u2 (u2.setCell ⟨g, 6, none⟩ (.slice aO os.length cO))) := But.set _ _ _ _
            have A7 : Hid (RdA R D k7 w (u2.setCell ⟨g, 6, none⟩ (.slice aO os.length cO))) := AU.out.put BW.out WG.out HRG.out
            have G7 : Hid (BlkA 26 g (u2.setCell ⟨g, 6, none⟩ (.slice aO os.length cO)) #[.int .i64 x0, .int .i64 x1, .int .i64 x2, .int .i64 x3, .slice aP ps.length cP, .slice aL ls.length cL, .slice aO os.length cO]) := GB.out.set 6 (.slice aO os.length cO)
            have O7 : Hid (BlkA 26 ob (u2.setCell ⟨g, 6, none⟩ (.slice aO os.length cO)) #[.int .i64 0, .int .i64 0, .int .i64 0, .int .i64 0, .slice none 0 0, .slice none 0 0, .slice none 0 0]) := (O6.out.but BU.out HOR.out).but BW.out (fun e => HGO.out e.symm)
            have QP : Hid (CapV 45 prtV 2 w.heap.size (u2.setCell ⟨g, 6, none⟩ (.slice aO os.length cO)) aP cP LP) := by
              have q := QP.out.but BU.out (QP.out.ne_type A6.out.box (by decide))
              exact q.but BW.out (q.ne_type GB.out (by decide))
            have YP : Hid (∀ b ∈ LP, prtS w.heap.size b (u2.setCell ⟨g, 6, none⟩ (.slice aO os.length cO))) := fun b hb => by
              have q := CapV.but (YP.out b hb) BU.out (CapV.ne_type (YP.out b hb) A6.out.box (by decide))
              exact CapV.but q BW.out (CapV.ne_type q GB.out (by decide))
            have QL : Hid (CapV 49 linV 3 w.heap.size (u2.setCell ⟨g, 6, none⟩ (.slice aO os.length cO)) aL cL LL) := by
              have q := QL.out.but BU.out (QL.out.ne_type A6.out.box (by decide))
              exact q.but BW.out (q.ne_type GB.out (by decide))
            have YL : Hid (∀ b ∈ LL, linS w.heap.size b (u2.setCell ⟨g, 6, none⟩ (.slice aO os.length cO))) := fun b hb => by
              have q := CapV.but (YL.out b hb) BU.out (CapV.ne_type (YL.out b hb) A6.out.box (by decide))
              exact CapV.but q BW.out (CapV.ne_type q GB.out (by decide))
            have QO : Hid (CapV 53 opV 3 w.heap.size (u2.setCell ⟨g, 6, none⟩ (.slice aO os.length cO)) aO cO LO) := OO.out.but BW.out (OO.out.ne_type GB.out (by decide))
            clear g2c g2f
            generalize u2.setCell ⟨g, 6, none⟩ (.slice aO os.length cO) = V7 at *
            have MO2 : Hid (LO = os) := by
              have q := MO.out
              show LO = os
              simpa using q
            have PO : Hid (PrgO w.heap.size V7 ⟨x0, x1, x2, x3, ps, ls, os⟩ aP cP aL cL aO cO LP LL) := ⟨MP.out, QP.out, YP.out, ML.out, QL.out, YL.out, by have q := QO.out; rw [MO2.out] at q; exact q⟩
            have EQ : Hid (prgR D 4 = .ok (⟨x0, x1, x2, x3, ps, ls, os⟩, k7)) := by
              show _ = _
              rw [EC4.out, hp]
              simp only [hl, ho]
            have hok := coded_prg.back D 4 _ k7 H4L.out EQ.out
            have FP := hiddenC (fit_of hok.2.2.2)
            have EM1 := hiddenC (EM0.out _ _ EQ.out)
            have EB1 := hiddenC (EB0.out _ _ EQ.out)
            have EO1' := hiddenC (EO0.out _ _ EQ.out)
            have mixed : Try.prog.follows .mixedOrders = true := by kernel_rfl
            obtain ⟨kz, hkz⟩ : ∃ x, k7 = x := ⟨_, rfl⟩
            rw [hkz] at A7 EM1 EB1 EO1'
            clear hp hl ho hok R0 R1 R2 EE EM0 EB0 EO0 EC EC4 EO1 QP YP QL YL QO MP ML MO MO2 OP OL OO SP SL SO AU BU GB BW A4 A5 A6 G4 G5 G6 O4 O5 O6 hkz EQ
            have y0 := A7.out.box.cell (k := 0) rfl
            have y1 := A7.out.box.cell (k := 1) rfl
            simp only [rdV, List.getElem_toArray, List.getElem_cons_zero, List.getElem_cons_succ] at y0 y1
            have hRl := A7.out.box.lt
            have e1 := strC_size D
            obtain ⟨NP, hNP⟩ : ∃ n, ps.length = n := ⟨_, rfl⟩
            obtain ⟨NL, hNL⟩ : ∃ n, ls.length = n := ⟨_, rfl⟩
            obtain ⟨NO, hNO⟩ : ∃ n, os.length = n := ⟨_, rfl⟩
            have HNP := hiddenC hNP
            have HNL := hiddenC hNL
            have HNO := hiddenC hNO
            rw [hNP, hNL, hNO] at G7
            rw [hNP, hNL, hNO]
            clear hNP hNL hNO
            by_cases hlt : kz < D.length
            · have hki : (kz : Int) < (D.length : Int) := by omega
              have EM := hiddenC (EM1.out hlt)
              have AKD := hiddenC (fun n => A7.out.drew n)
              clear EM1 EB1 EO1' hlt
              go_quiet (fail)
              have AK := hiddenC (AKD.out nq)
              generalize V7.drewN nq = V8 at *
              clear y0 y1
              go_upto_region 9 with fail
              refine wp_region_pan [8] (fun d_ i u z => match i with
                  | 0 => z = .pointer (some ⟨R, 0, none⟩)
                  | 1 => z = .pointer (some ⟨R, 0, none⟩)
                  | 2 => z = .pointer (some ⟨R, 0, none⟩)
                  | 3 => z = .pointer (some ⟨R, 0, none⟩)
                  | 4 => z = .pointer (some ⟨R, 0, none⟩)
                  | 5 => z = .pointer (some ⟨R, 0, none⟩)
                  | 6 => z = .pointer (some ⟨R, 1, none⟩)
                  | 7 => z = .int .i64 (kz : Int)
                  | 8 => True
                  | _ => True) (fun d_ u => (d_ 8 = false → RdA R D kz w u) ∧ (d_ 8 = true → False)) (Z := fun c_ u => c_ = fltP 204 kz ∧ RdZ R D w 204 kz u) ?_ (by kernel_rfl) (by kernel_rfl) (by kernel_rfl) ?_ ?_ ?_ ?_ ?_ ?_ (by kernel_rfl)
              · rintro c_ a' w' hd_ ⟨rfl, hz⟩
                exact ⟨hd_, by rw [← HPE.out, EM.out]; exact ⟨rfl, hz⟩⟩
              · intro d_ i w_ v_ w' h hb_
                match i, h with
                | 0, h => exact h
                | 1, h => exact h
                | 2, h => exact h
                | 3, h => exact h
                | 4, h => exact h
                | 5, h => exact h
                | 6, h => exact h
                | 7, h => exact h
                | 8, h => exact h
                | _ + 9, _ => trivial
              · intro d_ u u' h hb_
                exact ⟨fun e => (h.1 e).below hb_, h.2⟩
              · exact ⟨fun _ => AK.out, fun e => absurd e (by decide)⟩
              · intro d_ i o ρ w' hm ho hf hg hC hcs hfs hfr hdep
                match i, hm, ho, hf, hg, hfr, hdep with
                | 0, _, ho, hf, hg, hfr, hdep =>
                  simp only [gTA, gCZ, gSI] at ho
                  subst ho
                  refine ⟨fun _ => ?_, fun hw => absurd (show true = false from hw) (by decide)⟩
                  have ts : ρ (.tmp 0) = .pointer (some ⟨R, 0, none⟩) := hfr 0 (by kernel_rfl)
                  simp [go_sem, ts]
                  exact ⟨Below.refl _ _, rfl⟩
                | 1, _, ho, hf, hg, hfr, hdep =>
                  simp only [gTA, gCZ, gCS, gSI] at ho
                  subst ho
                  refine ⟨fun _ => ?_, fun hw => absurd (show true = false from hw) (by decide)⟩
                  have d0 : ρ (.tmp 64) = .pointer (some ⟨R, 0, none⟩) := hdep 0 64 (by kernel_rfl) (by kernel_rfl)
                  simp [go_sem, d0]
                  exact ⟨Below.refl _ _, rfl⟩
                | 2, _, ho, hf, hg, hfr, hdep =>
                  simp only [gTA, gCZ, gCS, gSI] at ho
                  subst ho
                  refine ⟨fun _ => ?_, fun hw => absurd (show true = false from hw) (by decide)⟩
                  have d0 : ρ (.tmp 65) = .pointer (some ⟨R, 0, none⟩) := hdep 1 65 (by kernel_rfl) (by kernel_rfl)
                  simp [go_sem, d0]
                  exact ⟨Below.refl _ _, rfl⟩
                | 3, _, ho, hf, hg, hfr, hdep =>
                  simp only [gTA, gCZ, gCS, gSI] at ho
                  subst ho
                  refine ⟨fun _ => ?_, fun hw => absurd (show true = false from hw) (by decide)⟩
                  have ts : ρ (.tmp 0) = .pointer (some ⟨R, 0, none⟩) := hfr 0 (by kernel_rfl)
                  simp [go_sem, ts]
                  exact ⟨Below.refl _ _, rfl⟩
                | 4, _, ho, hf, hg, hfr, hdep =>
                  simp only [gTA, gCZ, gCS, gSI] at ho
                  subst ho
                  refine ⟨fun _ => ?_, fun hw => absurd (show true = false from hw) (by decide)⟩
                  have d0 : ρ (.tmp 67) = .pointer (some ⟨R, 0, none⟩) := hdep 3 67 (by kernel_rfl) (by kernel_rfl)
                  simp [go_sem, d0]
                  exact ⟨Below.refl _ _, rfl⟩
                | 5, _, ho, hf, hg, hfr, hdep =>
                  simp only [gTA, gCZ, gCS, gSI] at ho
                  subst ho
                  refine ⟨fun _ => ?_, fun hw => absurd (show true = false from hw) (by decide)⟩
                  have d0 : ρ (.tmp 68) = .pointer (some ⟨R, 0, none⟩) := hdep 4 68 (by kernel_rfl) (by kernel_rfl)
                  simp [go_sem, d0]
                  exact ⟨Below.refl _ _, rfl⟩
                | 6, _, ho, hf, hg, hfr, hdep =>
                  simp only [gTA, gCZ, gCS, gSI] at ho
                  subst ho
                  refine ⟨fun _ => ?_, fun hw => absurd (show true = false from hw) (by decide)⟩
                  have d0 : ρ (.tmp 69) = .pointer (some ⟨R, 0, none⟩) := hdep 5 69 (by kernel_rfl) (by kernel_rfl)
                  simp [go_sem, d0]
                  exact ⟨Below.refl _ _, rfl⟩
                | 7, _, ho, hf, hg, hfr, hdep =>
                  simp only [gTA, gCZ, gCS, gSI] at ho
                  subst ho
                  refine ⟨fun _ => ?_, fun hw => absurd (show true = false from hw) (by decide)⟩
                  have hd_ : d_ 8 = false := hf 8 (by decide) (by kernel_rfl)
                  have cc : w'.cell? ⟨R, 1, none⟩ = some (.int .i64 (kz : Int)) := (hC.1 hd_).box.cell (k := 1) rfl
                  have d0 : ρ (.tmp 70) = .pointer (some ⟨R, 1, none⟩) := hdep 6 70 (by kernel_rfl) (by kernel_rfl)
                  simp [go_sem, d0, cc]
                  exact ⟨Below.refl _ _, rfl⟩
                | 8, hm, _, _, _, _, _ => exact absurd hm (by decide)
                | n + 9, _, ho, _, _, _, _ => simp at ho
              · intro d_ i o ρ w' hm ho h0 hf hg hC hcs hfs hfr hdep
                match i, hm, ho, h0, hf, hg, hfr, hdep with
                | 0, hm, _, _, _, _, _, _ => exact absurd hm (by decide)
                | 1, hm, _, _, _, _, _, _ => exact absurd hm (by decide)
                | 2, hm, _, _, _, _, _, _ => exact absurd hm (by decide)
                | 3, hm, _, _, _, _, _, _ => exact absurd hm (by decide)
                | 4, hm, _, _, _, _, _, _ => exact absurd hm (by decide)
                | 5, hm, _, _, _, _, _, _ => exact absurd hm (by decide)
                | 6, hm, _, _, _, _, _, _ => exact absurd hm (by decide)
                | 7, hm, _, _, _, _, _, _ => exact absurd hm (by decide)
                | 8, _, ho, h0, hf, hg, hfr, hdep =>
                  simp only [gTA, gCZ, gCS, gSI] at ho
                  subst ho
                  refine ⟨rfl, ?_⟩
                  have t0 : ρ (.tmp 66) = .pointer (some ⟨R, 0, none⟩) := hdep 2 66 (by kernel_rfl) (by kernel_rfl)
                  have t1 : ρ (.tmp 71) = .int .i64 (kz : Int) := hdep 7 71 (by kernel_rfl) (by kernel_rfl)
                  refine mark_enter (f := 58) (args := #[.pointer (some ⟨R, 0, none⟩), .int .i64 204, .int .i64 (kz : Int)]) (by simp [go_sem, t0, t1, hcs, hfs]) ((rdFail_any R D kz w' (hC.1 h0).box 204 kz).mono fun e w'' hh => .inr ⟨_, hh.1, rfl, (hC.1 h0).transZ hh.2⟩)
                | n + 9, _, ho, _, _, _, _, _ => simp at ho
              · intro U8 V8x hC8 hS
                simp only [puts]
                simp only [Act.put, List.setIfInBounds_toArray, List.set_cons_zero, List.set_cons_succ]
                clear hS 
                exact (hC8.2 (by decide)).elim
            · have hki : ¬ (kz : Int) < (D.length : Int) := by omega
              have NLT := hiddenC hlt
              have AKD := hiddenC (fun n => A7.out.drew n)
              have GKD : Hid (∀ n, BlkA 26 g (V7.drewN n) #[.int .i64 x0, .int .i64 x1, .int .i64 x2, .int .i64 x3, .slice aP NP cP, .slice aL NL cL, .slice aO NO cO]) := fun n => G7.out
              have OKD : Hid (∀ n, BlkA 26 ob (V7.drewN n) #[.int .i64 0, .int .i64 0, .int .i64 0, .int .i64 0, .slice none 0 0, .slice none 0 0, .slice none 0 0]) := fun n => O7.out
              have PKD := hiddenC (fun n => PO.out.later (drewC V7 n))
              have EB2 := hiddenC (EB1.out hlt)
              have EO2 := hiddenC (EO1'.out hlt)
              clear EM1 EB1 EO1' hlt
              go_quiet (fail)
              have AK := hiddenC (AKD.out nq)
              have GK := hiddenC (GKD.out nq)
              have OK := hiddenC (OKD.out nq)
              have PK := hiddenC (PKD.out nq)
              generalize V7.drewN nq = V8 at *
              clear y0 y1 AKD GKD OKD PKD hki e1 mixed
              have z0 := GK.out.cell (k := 0) rfl
              have z1 := GK.out.cell (k := 1) rfl
              have z2 := GK.out.cell (k := 2) rfl
              have z3 := GK.out.cell (k := 3) rfl
              have z4 := GK.out.cell (k := 4) rfl
              have z5 := GK.out.cell (k := 5) rfl
              have z6 := GK.out.cell (k := 6) rfl
              simp only [List.getElem_toArray, List.getElem_cons_zero, List.getElem_cons_succ] at z0 z1 z2 z3 z4 z5 z6
              have CC := hiddenC (checkC_any _ aP cP aL cL aO cO LP LL V8 PK.out.lies FP.out)
              unfold prgV at CC
              simp only at CC
              rw [HNP.out, HNL.out, HNO.out] at CC
              obtain ⟨er, her⟩ : ∃ e, (stepC codeS ⟨x0, x1, x2, x3, ps, ls, os⟩).2 = e := ⟨_, rfl⟩
              rw [her] at CC EB2 EO2
              clear her
              go_upto_region 11 with (go_at_call 8; (with_reducible refine CC.out.mono ?_); rintro e w2 ⟨rfl, b2⟩; have AC := hiddenC (AK.out.below b2); have GC := hiddenC (GK.out.below b2); have OC := hiddenC (OK.out.below b2); have PC := hiddenC (PK.out.later b2); clear b2)
              clear z0 z1 z2 z3 z4 z5 z6
              by_cases h0 : er = 0
              · subst h0
                have EO3 := hiddenC (EO2.out rfl)
                have z0 := GC.out.cell (k := 0) rfl
                have z1 := GC.out.cell (k := 1) rfl
                have z2 := GC.out.cell (k := 2) rfl
                have z3 := GC.out.cell (k := 3) rfl
                have z4 := GC.out.cell (k := 4) rfl
                have z5 := GC.out.cell (k := 5) rfl
                have z6 := GC.out.cell (k := 6) rfl
                simp only [List.getElem_toArray, List.getElem_cons_zero, List.getElem_cons_succ] at z0 z1 z2 z3 z4 z5 z6
                go_wp2_with (refine wpList_storeW _ rfl 26 (.tmp 2) (.tmp 88) rfl rfl ob 26 _ _ rfl rfl OC.out sizPrg rfl rfl ?_; intro w3 hN hU; have N3 := hiddenC hN; have U3 := hiddenC hU; clear hN hU)
                have c0 := N3.out.cell (k := 0) rfl
                have c1 := N3.out.cell (k := 1) rfl
                have c2 := N3.out.cell (k := 2) rfl
                have c3 := N3.out.cell (k := 3) rfl
                have c4 := N3.out.cell (k := 4) rfl
                have c5 := N3.out.cell (k := 5) rfl
                have c6 := N3.out.cell (k := 6) rfl
                simp only [List.getElem_toArray, List.getElem_cons_zero, List.getElem_cons_succ] at c0 c1 c2 c3 c4 c5 c6
                refine bodyPost_ret (v := .agg #[.int .i64 x0, .int .i64 x1, .int .i64 x2, .int .i64 x3, .slice aP NP cP, .slice aL NL cL, .slice aO NO cO]) (by simp [results, Try.results40, go_sem, c0, c1, c2, c3, c4, c5, c6]) rfl ?_
                rw [← HPE.out, EO3.out]
                refine ⟨_, rfl, ⟨aP, cP, aL, cL, aO, cO, LP, LL, ?_, PC.out.but U3.out OC.out (by decide) (by decide) (by decide) (by decide)⟩, ?_⟩
                · unfold prgV
                  simp only
                  rw [HNP.out, HNL.out, HNO.out]
                · have q := AC.out.put U3.out HWO.out HRO.out
                  have e : kz = D.length := by have := q.le; have := NLT.out; omega
                  rw [← e]; exact q
              · have EB := hiddenC (EB2.out h0)
                have q0 : (er != 0) = true := by simpa using h0
                clear EB2 EO2 h0
                go_upto_region 12 with fail
                refine wp_region_pan [10] (fun d_ i u z => match i with
                    | 0 => z = .pointer (some ⟨R, 0, none⟩)
                    | 1 => z = .pointer (some ⟨R, 0, none⟩)
                    | 2 => z = .pointer (some ⟨R, 0, none⟩)
                    | 3 => z = .int .i64 er
                    | 4 => z = .pointer (some ⟨R, 0, none⟩)
                    | 5 => z = .pointer (some ⟨R, 0, none⟩)
                    | 6 => z = .pointer (some ⟨R, 0, none⟩)
                    | 7 => z = .pointer (some ⟨R, 0, none⟩)
                    | 8 => z = .string (strC D)
                    | 9 => z = .int .i64 (D.length : Int)
                    | 10 => True
                    | _ => True) (fun d_ u => (d_ 10 = false → RdA R D kz w u) ∧ (d_ 10 = true → False)) (Z := fun c_ u => c_ = fltP er D.length ∧ RdZ R D w er D.length u) ?_ (by kernel_rfl) (by kernel_rfl) (by kernel_rfl) ?_ ?_ ?_ ?_ ?_ ?_ (by kernel_rfl)
                · rintro c_ a' w' hd_ ⟨rfl, hz⟩
                  exact ⟨hd_, by rw [← HPE.out, EB.out]; exact ⟨rfl, hz⟩⟩
                · intro d_ i w_ v_ w' h hb_
                  match i, h with
                  | 0, h => exact h
                  | 1, h => exact h
                  | 2, h => exact h
                  | 3, h => exact h
                  | 4, h => exact h
                  | 5, h => exact h
                  | 6, h => exact h
                  | 7, h => exact h
                  | 8, h => exact h
                  | 9, h => exact h
                  | 10, h => exact h
                  | _ + 11, _ => trivial
                · intro d_ u u' h hb_
                  exact ⟨fun e => (h.1 e).below hb_, h.2⟩
                · exact ⟨fun _ => AC.out, fun e => absurd e (by decide)⟩
                · intro d_ i o ρ w' hm ho hf hg hC hcs hfs hfr hdep
                  match i, hm, ho, hf, hg, hfr, hdep with
                  | 0, _, ho, hf, hg, hfr, hdep =>
                    simp only [gTA, gCZ, gSI] at ho
                    subst ho
                    refine ⟨fun _ => ?_, fun hw => absurd (show true = false from hw) (by decide)⟩
                    have ts : ρ (.tmp 0) = .pointer (some ⟨R, 0, none⟩) := hfr 0 (by kernel_rfl)
                    simp [go_sem, ts]
                    exact ⟨Below.refl _ _, rfl⟩
                  | 1, _, ho, hf, hg, hfr, hdep =>
                    simp only [gTA, gCZ, gCS, gSI] at ho
                    subst ho
                    refine ⟨fun _ => ?_, fun hw => absurd (show true = false from hw) (by decide)⟩
                    have d0 : ρ (.tmp 77) = .pointer (some ⟨R, 0, none⟩) := hdep 0 77 (by kernel_rfl) (by kernel_rfl)
                    simp [go_sem, d0]
                    exact ⟨Below.refl _ _, rfl⟩
                  | 2, _, ho, hf, hg, hfr, hdep =>
                    simp only [gTA, gCZ, gCS, gSI] at ho
                    subst ho
                    refine ⟨fun _ => ?_, fun hw => absurd (show true = false from hw) (by decide)⟩
                    have d0 : ρ (.tmp 78) = .pointer (some ⟨R, 0, none⟩) := hdep 1 78 (by kernel_rfl) (by kernel_rfl)
                    simp [go_sem, d0]
                    exact ⟨Below.refl _ _, rfl⟩
                  | 3, _, ho, hf, hg, hfr, hdep =>
                    simp only [gTA, gCZ, gCS, gSI] at ho
                    subst ho
                    refine ⟨fun _ => ?_, fun hw => absurd (show true = false from hw) (by decide)⟩
                    have ts : ρ (.tmp 4) = .int .i64 er := hfr 4 (by kernel_rfl)
                    simp [go_sem, ts]
                    exact ⟨Below.refl _ _, rfl⟩
                  | 4, _, ho, hf, hg, hfr, hdep =>
                    simp only [gTA, gCZ, gCS, gSI] at ho
                    subst ho
                    refine ⟨fun _ => ?_, fun hw => absurd (show true = false from hw) (by decide)⟩
                    have ts : ρ (.tmp 0) = .pointer (some ⟨R, 0, none⟩) := hfr 0 (by kernel_rfl)
                    simp [go_sem, ts]
                    exact ⟨Below.refl _ _, rfl⟩
                  | 5, _, ho, hf, hg, hfr, hdep =>
                    simp only [gTA, gCZ, gCS, gSI] at ho
                    subst ho
                    refine ⟨fun _ => ?_, fun hw => absurd (show true = false from hw) (by decide)⟩
                    have d0 : ρ (.tmp 81) = .pointer (some ⟨R, 0, none⟩) := hdep 4 81 (by kernel_rfl) (by kernel_rfl)
                    simp [go_sem, d0]
                    exact ⟨Below.refl _ _, rfl⟩
                  | 6, _, ho, hf, hg, hfr, hdep =>
                    simp only [gTA, gCZ, gCS, gSI] at ho
                    subst ho
                    refine ⟨fun _ => ?_, fun hw => absurd (show true = false from hw) (by decide)⟩
                    have d0 : ρ (.tmp 82) = .pointer (some ⟨R, 0, none⟩) := hdep 5 82 (by kernel_rfl) (by kernel_rfl)
                    simp [go_sem, d0]
                    exact ⟨Below.refl _ _, rfl⟩
                  | 7, _, ho, hf, hg, hfr, hdep =>
                    simp only [gTA, gCZ, gCS, gSI] at ho
                    subst ho
                    refine ⟨fun _ => ?_, fun hw => absurd (show true = false from hw) (by decide)⟩
                    have d0 : ρ (.tmp 83) = .pointer (some ⟨R, 0, none⟩) := hdep 6 83 (by kernel_rfl) (by kernel_rfl)
                    simp [go_sem, d0]
                    exact ⟨Below.refl _ _, rfl⟩
                  | 8, _, ho, hf, hg, hfr, hdep =>
                    simp only [gTA, gCZ, gCS, gSI] at ho
                    subst ho
                    refine ⟨fun _ => ?_, fun hw => absurd (show true = false from hw) (by decide)⟩
                    have hd_ : d_ 10 = false := by cases h : d_ 10 with | false => rfl | true => exact (hC.2 h).elim
                    have cc : w'.cell? ⟨R, 0, none⟩ = some (.string (strC D)) := (hC.1 hd_).box.cell (k := 0) rfl
                    have d0 : ρ (.tmp 84) = .pointer (some ⟨R, 0, none⟩) := hdep 7 84 (by kernel_rfl) (by kernel_rfl)
                    simp [go_sem, d0, cc]
                    exact ⟨Below.refl _ _, rfl⟩
                  | 9, _, ho, hf, hg, hfr, hdep =>
                    simp only [gTA, gCZ, gCS, gSI] at ho
                    subst ho
                    refine ⟨fun _ => ?_, fun hw => absurd (show true = false from hw) (by decide)⟩
                    have d0 : ρ (.tmp 85) = .string (strC D) := hdep 8 85 (by kernel_rfl) (by kernel_rfl)
                    simp [go_sem, d0, strC_size]
                    exact ⟨Below.refl _ _, rfl⟩
                  | 10, hm, _, _, _, _, _ => exact absurd hm (by decide)
                  | n + 11, _, ho, _, _, _, _ => simp at ho
                · intro d_ i o ρ w' hm ho h0 hf hg hC hcs hfs hfr hdep
                  match i, hm, ho, h0, hf, hg, hfr, hdep with
                  | 0, hm, _, _, _, _, _, _ => exact absurd hm (by decide)
                  | 1, hm, _, _, _, _, _, _ => exact absurd hm (by decide)
                  | 2, hm, _, _, _, _, _, _ => exact absurd hm (by decide)
                  | 3, hm, _, _, _, _, _, _ => exact absurd hm (by decide)
                  | 4, hm, _, _, _, _, _, _ => exact absurd hm (by decide)
                  | 5, hm, _, _, _, _, _, _ => exact absurd hm (by decide)
                  | 6, hm, _, _, _, _, _, _ => exact absurd hm (by decide)
                  | 7, hm, _, _, _, _, _, _ => exact absurd hm (by decide)
                  | 8, hm, _, _, _, _, _, _ => exact absurd hm (by decide)
                  | 9, hm, _, _, _, _, _, _ => exact absurd hm (by decide)
                  | 10, _, ho, h0, hf, hg, hfr, hdep =>
                    simp only [gTA, gCZ, gCS, gSI] at ho
                    subst ho
                    refine ⟨rfl, ?_⟩
                    have t0 : ρ (.tmp 79) = .pointer (some ⟨R, 0, none⟩) := hdep 2 79 (by kernel_rfl) (by kernel_rfl)
                    have t1 : ρ (.tmp 80) = .int .i64 er := hdep 3 80 (by kernel_rfl) (by kernel_rfl)
                    have t2 : ρ (.tmp 86) = .int .i64 (D.length : Int) := hdep 9 86 (by kernel_rfl) (by kernel_rfl)
                    refine mark_enter (f := 58) (args := #[.pointer (some ⟨R, 0, none⟩), .int .i64 er, .int .i64 (D.length : Int)]) (by simp [go_sem, t0, t1, t2, hfs]) ((rdFail_any R D kz w' (hC.1 h0).box er D.length).mono fun e w'' hh => .inr ⟨_, hh.1, rfl, (hC.1 h0).transZ hh.2⟩)
                  | n + 11, _, ho, _, _, _, _, _ => simp at ho
                · intro U8 V8x hC8 hS
                  simp only [puts]
                  simp only [Act.put, List.setIfInBounds_toArray, List.set_cons_zero, List.set_cons_succ]
                  clear hS 
                  exact (hC8.2 (by decide)).elim
  · have PX1 : Hid (∀ U, Calls Try.prog 57 #[.string (strC D), .string ⟨#[80, 78, 76, 49]⟩] U fun e w' => e = .returned (.bool false) ∧ w' = U) := fun U => by
      have q := PX.out U
      rw [decide_eq_false hm] at q
      exact q
    have ER := hiddenC (decR_mag hm)
    have FA : Hid (Calls Try.prog 58 #[.pointer (some ⟨R, 0, none⟩), .int .i64 202, .int .i64 0] W1 fun e w' => e = .panicked (fltP 202 0) ∧ RdZ R D w 202 0 w') := (rdFail_any R D 0 W1 A0.out.box 202 0).mono fun e w' hh => ⟨hh.1, A0.out.transZ hh.2⟩
    clear PX hm
    go_wp2_with (first | (go_at_call 57; (with_reducible refine (PX1.out _).mono ?_); rintro e w' ⟨rfl, hw'⟩; rw [hw']; clear hw' w') | (go_at_call 58; (with_reducible refine FA.out.mono ?_); rintro e w2 ⟨rfl, h2⟩; have H2 := hiddenC h2; clear h2))
    refine ⟨rfl, ?_⟩
    rw [← HPE.out, ER.out]
    exact ⟨rfl, H2.out⟩
set_option maxRecDepth 100000 in
set_option maxHeartbeats 1000000 in
theorem decode_catch (R P F : Nat) (D : List UInt8) (w : World) (y0 y1 : Value) (c : Int) (a : Nat) (q : Int) (hR : BlkA 83 R w #[.string (strC D), .int .i64 q, .int .i64 c, .int .i64 (a : Int)]) (hP : BlkA 26 P w #[.int .i64 0, .int .i64 0, .int .i64 0, .int .i64 0, .slice none 0 0, .slice none 0 0, .slice none 0 0]) (hF : BlkA 38 F w #[y0, y1]) (hne : P ≠ F) :
    CallsD Try.prog 39 #[.pointer (some ⟨R, 0, none⟩), .pointer (some ⟨P, 0, none⟩), .pointer (some ⟨F, 0, none⟩)] (.panicking (fltP c a)) w fun e u' w' =>
      e = .returned (.tuple #[]) ∧ u' = .panicking [{ v := .iface 38 (.agg #[.int .i64 c, .int .i64 (a : Int)]), recovered := true }] ∧ BlkA 26 P w' #[.int .i64 0, .int .i64 0, .int .i64 0, .int .i64 0, .slice none 0 0, .slice none 0 0, .slice none 0 0] ∧ BlkA 38 F w' #[.int .i64 c, .int .i64 (a : Int)] ∧ ∀ B, B ≤ P → B ≤ F → B ≤ w.heap.size → Below B w w' := by
  have HP := hiddenC hP
  have HF := hiddenC hF
  have HNE := hiddenC hne
  have r2 := hR.cell (k := 2) rfl
  have r3 := hR.cell (k := 3) rfl
  simp only [List.getElem_toArray, List.getElem_cons_zero, List.getElem_cons_succ] at r2 r3
  obtain ⟨z, hz⟩ : ∃ z : Int, (a : Int) = z := ⟨_, rfl⟩
  have HFL : Hid (fltP c a = [{ v := .iface 38 (.agg #[.int .i64 c, .int .i64 z]), recovered := false }]) := by rw [← hz]; rfl
  rw [HFL.out]
  rw [hz] at r3 ⊢
  clear hR hP hF hne hz HFL
  refine callsD_of_wpS Try.func39 rfl fun c₀ cs hu => ?_
  apply wpS_seq
  apply wpS_region
  simp [wpOpsS, go_sem, recoverD, hu, Try.ntmps39, Exit.thenS]
  refine wpS_cond (t := true) (by simp [Act.eval, Array.replicate]) ?_
  simp only [if_true]
  refine wpS_of_wp ?_
  have p0 := HP.out.cell (k := 0) rfl
  have pf0 := HP.out.frozen 0
  have p1 := HP.out.cell (k := 1) rfl
  have pf1 := HP.out.frozen 1
  have p2 := HP.out.cell (k := 2) rfl
  have pf2 := HP.out.frozen 2
  have p3 := HP.out.cell (k := 3) rfl
  have pf3 := HP.out.frozen 3
  have p4 := HP.out.cell (k := 4) rfl
  have pf4 := HP.out.frozen 4
  have p5 := HP.out.cell (k := 5) rfl
  have pf5 := HP.out.frozen 5
  have p6 := HP.out.cell (k := 6) rfl
  have pf6 := HP.out.frozen 6
  have q0 := HF.out.cell (k := 0) rfl
  have qf0 := HF.out.frozen 0
  have q1 := HF.out.cell (k := 1) rfl
  have qf1 := HF.out.frozen 1
  simp only [List.getElem_toArray, List.getElem_cons_zero, List.getElem_cons_succ] at p0 p1 p2 p3 p4 p5 p6 q0 q1
  have hne := HNE.out
  go_wp2
  refine ⟨rfl, _, rfl, .tuple #[], by simp [results, Try.results39, go_sem], rfl, rfl, ?_, ?_, fun B h1 h2 h3 => ?_⟩
  · have g := (((((((HP.out.set 0 (.int .i64 0)).set 1 (.int .i64 0)).set 2 (.int .i64 0)).set 3 (.int .i64 0)).set 4 (.slice none 0 0)).set 5 (.slice none 0 0)).set 6 (.slice none 0 0))
    exact (g.but (But.set _ _ _ _) HNE.out).but (But.set _ _ _ _) HNE.out
  · have hb7 := ((((((But.set w P 0 (.int .i64 0)).trans (But.set _ P 1 (.int .i64 0))).trans (But.set _ P 2 (.int .i64 0))).trans (But.set _ P 3 (.int .i64 0))).trans (But.set _ P 4 (.slice none 0 0))).trans (But.set _ P 5 (.slice none 0 0))).trans (But.set _ P 6 (.slice none 0 0))
    exact ((HF.out.but hb7 (fun e => HNE.out e.symm)).set 0 _).set 1 _
  · have hb7 := ((((((But.set w P 0 (.int .i64 0)).trans (But.set _ P 1 (.int .i64 0))).trans (But.set _ P 2 (.int .i64 0))).trans (But.set _ P 3 (.int .i64 0))).trans (But.set _ P 4 (.slice none 0 0))).trans (But.set _ P 5 (.slice none 0 0))).trans (But.set _ P 6 (.slice none 0 0))
    exact ((hb7.below h1 h3).setCell (p := ⟨F, 0, none⟩) h2 _).setCell (p := ⟨F, 1, none⟩) h2 _
theorem decode_idle (p s f : Value) (w : World) :
    CallsD Try.prog 39 #[p, s, f] .returning w fun e u' w' => e = .returned (.tuple #[]) ∧ u' = .returning ∧ w' = w := by
  refine callsD_of_wpS Try.func39 rfl fun c₀ cs hu => ?_
  apply wpS_seq
  apply wpS_region
  simp [wpOpsS, go_sem, recoverD, hu, Try.ntmps39, Exit.thenS]
  refine wpS_cond (t := false) (by simp [Act.eval, Array.replicate]) ?_
  simp only [Bool.false_eq_true, if_false]
  refine wpS_of_wp (wp_skip ?_)
  cases c₀
  simp_all [bodyPostS, results, Try.results39]
/-- How a decoding ends. -/
def DecE (W : World) (D : List UInt8) (e : Ending) (w' : World) : Prop :=
  (match decC codeS D with
  | .error x => e = .returned (.tuple #[.agg #[.int .i64 0, .int .i64 0, .int .i64 0, .int .i64 0, .slice none 0 0, .slice none 0 0, .slice none 0 0], .agg #[.int .i64 x.1, .int .i64 (x.2 : Int)]])
  | .ok p => ∃ aP cP aL cL aO cO LP LL, e = .returned (.tuple #[prgV p aP cP aL cL aO cO, .agg #[.int .i64 0, .int .i64 0]]) ∧ PrgO W.heap.size w' p aP cP aL cL aO cO LP LL) ∧ Below W.heap.size W w'
theorem decR_ok2 {D : List UInt8} {p : PrgC} (h : decC codeS D = .ok p) : decR D = .ok (p, D.length) := by unfold decR; rw [h]
theorem decR_err2 {D : List UInt8} {x : Int × Nat} (h : decC codeS D = .error x) : decR D = .error x := by unfold decR; rw [h]
theorem PrgO.mono {B B' w p aP cP aL cL aO cO LP LL} (h : PrgO B w p aP cP aL cL aO cO LP LL) (hB : B' ≤ B) : PrgO B' w p aP cP aL cL aO cO LP LL :=
  ⟨h.pe, h.pa.mono hB, fun x hx => CapV.mono (h.pp x hx) hB, h.le, h.la.mono hB, fun x hx => CapV.mono (h.lp x hx) hB, h.oa.mono hB⟩
theorem hmfC : ∀ (fn : Fn) (first cap : Array Value) (w : World), (Instr.makeFunc fn first cap).run Try.prog w = .ok (.func fn first cap) w := fun _ _ _ _ => rfl
set_option maxRecDepth 100000 in
set_option maxHeartbeats 8000000 in
theorem decode_any (D : List UInt8) (hD : D.length ≤ 4611686018427387904) (W : World) : Calls Try.prog 17 #[.string (strC D)] W (DecE W D) := by
  suffices H : ∀ R : Ending → World → Prop, (∀ e w', DecE W D e w' → R e w') → Calls Try.prog 17 #[.string (strC D)] W R from H _ (fun _ _ h => h)
  intro R hR
  have HR := hiddenC hR
  clear hR
  have h1 : (W.alloc (.cells #[.int .i64 0, .int .i64 0, .int .i64 0, .int .i64 0, .slice none 0 0, .slice none 0 0, .slice none 0 0] 26)).heap.size = W.heap.size + 1 := World.size_alloc ..
  have h2 : ((W.alloc (.cells #[.int .i64 0, .int .i64 0, .int .i64 0, .int .i64 0, .slice none 0 0, .slice none 0 0, .slice none 0 0] 26)).alloc (.cells #[.int .i64 0, .int .i64 0] 38)).heap.size = W.heap.size + 2 := by rw [World.size_alloc, h1]
  have bP := (Below.refl W.heap.size W).alloc (Nat.le_refl _) (.cells #[.int .i64 0, .int .i64 0, .int .i64 0, .int .i64 0, .slice none 0 0, .slice none 0 0, .slice none 0 0] 26)
  have bF := bP.alloc bP.size (.cells #[.int .i64 0, .int .i64 0] 38)
  have bR := bF.alloc bF.size (.cells (rdV D 0) 83)
  have gP := blkA_new 26 W #[.int .i64 0, .int .i64 0, .int .i64 0, .int .i64 0, .slice none 0 0, .slice none 0 0, .slice none 0 0]
  have gF := blkA_new 38 (W.alloc (.cells #[.int .i64 0, .int .i64 0, .int .i64 0, .int .i64 0, .slice none 0 0, .slice none 0 0, .slice none 0 0] 26)) #[.int .i64 0, .int .i64 0]
  have gR := blkA_new 83 ((W.alloc (.cells #[.int .i64 0, .int .i64 0, .int .i64 0, .int .i64 0, .slice none 0 0, .slice none 0 0, .slice none 0 0] 26)).alloc (.cells #[.int .i64 0, .int .i64 0] 38)) (rdV D 0)
  rw [h1] at gF
  rw [h2] at gR
  have GP := hiddenC ((gP.below ((Below.refl _ _).alloc (Nat.le_refl _) (.cells #[.int .i64 0, .int .i64 0] 38))).below ((Below.refl _ _).alloc (Nat.le_refl _) (.cells (rdV D 0) 83)))
  have GF := hiddenC (gF.below ((Below.refl _ _).alloc (Nat.le_refl _) (.cells (rdV D 0) 83)))
  have GR := hiddenC gR
  have BR := hiddenC bR
  have RP := hiddenC (rdProgram_any (W.heap.size + 2) D _ gR hD)
  have H12 := hiddenC h1
  have H22 := hiddenC h2
  have hmf := hmfC
  clear gP gF gR bP bF bR hD
  unfold rdV at RP GP GF GR BR
  generalize hW3 : ((W.alloc (.cells #[.int .i64 0, .int .i64 0, .int .i64 0, .int .i64 0, .slice none 0 0, .slice none 0 0, .slice none 0 0] 26)).alloc (.cells #[.int .i64 0, .int .i64 0] 38)).alloc (.cells #[.string (strC D), .int .i64 ((0 : Nat) : Int), .int .i64 0, .int .i64 0] 83) = W3 at GR GP GF BR RP
  have HW3 := hiddenC hW3
  clear hW3
  go_enter_defers Try.func17, Try.ntmps17
  go_upto_region 3 with fail
  have e3 : ((W.alloc (.cells #[.int .i64 0, .int .i64 0, .int .i64 0, .int .i64 0, .slice none 0 0, .slice none 0 0, .slice none 0 0] 26)).alloc (.cells #[.int .i64 0, .int .i64 0] 38)).alloc (.cells #[.string (strC D), .int .i64 0, .int .i64 0, .int .i64 0] 83) = W3 := HW3.out
  rw [e3]
  clear e3
  cases hd : decC codeS D with
  | error x =>
    obtain ⟨c, a⟩ := x
    rw [decR_err2 hd] at RP
    go_wp2_with (go_at_call 40; (with_reducible refine RP.out.mono ?_); rintro e w3 ⟨rfl, hZ⟩)
    refine leaves_cons (f := 39) (args := #[.pointer (some ⟨W.heap.size + 2, 0, none⟩), .pointer (some ⟨W.heap.size, 0, none⟩), .pointer (some ⟨W.heap.size + 1, 0, none⟩)]) (by simp [fltP]) (by simp [go_sem]) ?_
    obtain ⟨q, hq⟩ := hZ.box
    have gP := GP.out.but hZ.but (by omega)
    have gF := GF.out.but hZ.but (by omega)
    refine (decode_catch _ _ _ D _ _ _ c a q hq gP gF (by omega)).mono ?_
    rintro e u' w4 ⟨rfl, rfl, k1, k2, k3⟩
    have a0 := k1.cell (k := 0) rfl
    have a1 := k1.cell (k := 1) rfl
    have a2 := k1.cell (k := 2) rfl
    have a3 := k1.cell (k := 3) rfl
    have a4 := k1.cell (k := 4) rfl
    have a5 := k1.cell (k := 5) rfl
    have a6 := k1.cell (k := 6) rfl
    have b0 := k2.cell (k := 0) rfl
    have b1 := k2.cell (k := 1) rfl
    simp only [List.getElem_toArray, List.getElem_cons_zero, List.getElem_cons_succ] at a0 a1 a2 a3 a4 a5 a6 b0 b1
    have hb3 : Below W.heap.size W w3 := BR.out.trans (hZ.but.below (Nat.le_add_right _ _) BR.out.size)
    simp [Leaves, settle, results, Try.results17, go_sem, a0, a1, a2, a3, a4, a5, a6, b0, b1]
    refine HR.out _ _ ⟨?_, hb3.trans (k3 _ (Nat.le_refl _) (Nat.le_succ _) hb3.size)⟩
    rw [hd]
  | ok p =>
    rw [decR_ok2 hd] at RP
    have hne : W.heap.size ≠ W.heap.size + 1 := by omega
    go_wp2_with (go_at_call 40; (with_reducible refine RP.out.mono ?_); rintro e w3 ⟨v, rfl, ⟨aP, cP, aL, cL, aO, cO, LP, LL, hv, hO⟩, hA⟩; unfold prgV at hv; subst hv; have HO := hiddenC (hO.mono (show W.heap.size ≤ W3.heap.size from BR.out.size)); have HB3 := hiddenC (BR.out.trans (hA.but.below (Nat.le_add_right W.heap.size 2) BR.out.size)); have gP := GP.out.but hA.but (by omega); have gF := GF.out.but hA.but (by omega); have GP3 := hiddenC gP; have GF3 := hiddenC gF; have p0 := gP.cell (k := 0) rfl; have pf0 := gP.frozen 0; have p1 := gP.cell (k := 1) rfl; have pf1 := gP.frozen 1; have p2 := gP.cell (k := 2) rfl; have pf2 := gP.frozen 2; have p3 := gP.cell (k := 3) rfl; have pf3 := gP.frozen 3; have p4 := gP.cell (k := 4) rfl; have pf4 := gP.frozen 4; have p5 := gP.cell (k := 5) rfl; have pf5 := gP.frozen 5; have p6 := gP.cell (k := 6) rfl; have pf6 := gP.frozen 6; have q0 := gF.cell (k := 0) rfl; have qf0 := gF.frozen 0; have q1 := gF.cell (k := 1) rfl; have qf1 := gF.frozen 1; simp only [List.getElem_toArray, List.getElem_cons_zero, List.getElem_cons_succ] at p0 p1 p2 p3 p4 p5 p6 q0 q1; clear gP gF hO hA)
    refine leaves_cons (f := 39) (args := #[.pointer (some ⟨W.heap.size + 2, 0, none⟩), .pointer (some ⟨W.heap.size, 0, none⟩), .pointer (some ⟨W.heap.size + 1, 0, none⟩)]) (by simp) (by simp [go_sem]) ?_
    refine (decode_idle _ _ _ _).mono ?_
    rintro e u' w4 ⟨rfl, rfl, rfl⟩
    have hb7 := ((((((But.set w3 W.heap.size 0 (.int .i64 p.mem)).trans (But.set _ W.heap.size 1 (.int .i64 p.cnt))).trans (But.set _ W.heap.size 2 (.int .i64 p.ins))).trans (But.set _ W.heap.size 3 (.int .i64 p.outs))).trans (But.set _ W.heap.size 4 (.slice aP p.parts.length cP))).trans (But.set _ W.heap.size 5 (.slice aL p.lines.length cL))).trans (But.set _ W.heap.size 6 (.slice aO p.ops.length cO))
    have k1 := ((((((((GP3.out.set 0 (.int .i64 p.mem)).set 1 (.int .i64 p.cnt)).set 2 (.int .i64 p.ins)).set 3 (.int .i64 p.outs)).set 4 (.slice aP p.parts.length cP)).set 5 (.slice aL p.lines.length cL)).set 6 (.slice aO p.ops.length cO)).but (But.set _ (W.heap.size + 1) 0 (.int .i64 0)) hne).but (But.set _ (W.heap.size + 1) 1 (.int .i64 0)) hne
    have k2 := ((GF3.out.but hb7 (fun e => hne e.symm)).set 0 (.int .i64 0)).set 1 (.int .i64 0)
    have HB4 : Below W.heap.size W (((((((((w3.setCell ⟨W.heap.size, 0, none⟩ (.int .i64 p.mem)).setCell ⟨W.heap.size, 1, none⟩ (.int .i64 p.cnt)).setCell ⟨W.heap.size, 2, none⟩ (.int .i64 p.ins)).setCell ⟨W.heap.size, 3, none⟩ (.int .i64 p.outs)).setCell ⟨W.heap.size, 4, none⟩ (.slice aP p.parts.length cP)).setCell ⟨W.heap.size, 5, none⟩ (.slice aL p.lines.length cL)).setCell ⟨W.heap.size, 6, none⟩ (.slice aO p.ops.length cO)).setCell ⟨W.heap.size + 1, 0, none⟩ (.int .i64 0)).setCell ⟨W.heap.size + 1, 1, none⟩ (.int .i64 0)) := ((HB3.out.trans (hb7.below (Nat.le_refl _) HB3.out.size)).setCell (p := ⟨W.heap.size + 1, 0, none⟩) (Nat.le_succ _) _).setCell (p := ⟨W.heap.size + 1, 1, none⟩) (Nat.le_succ _) _
    have O4 : PrgO W.heap.size (((((((((w3.setCell ⟨W.heap.size, 0, none⟩ (.int .i64 p.mem)).setCell ⟨W.heap.size, 1, none⟩ (.int .i64 p.cnt)).setCell ⟨W.heap.size, 2, none⟩ (.int .i64 p.ins)).setCell ⟨W.heap.size, 3, none⟩ (.int .i64 p.outs)).setCell ⟨W.heap.size, 4, none⟩ (.slice aP p.parts.length cP)).setCell ⟨W.heap.size, 5, none⟩ (.slice aL p.lines.length cL)).setCell ⟨W.heap.size, 6, none⟩ (.slice aO p.ops.length cO)).setCell ⟨W.heap.size + 1, 0, none⟩ (.int .i64 0)).setCell ⟨W.heap.size + 1, 1, none⟩ (.int .i64 0)) p aP cP aL cL aO cO LP LL := by
      have o1 := HO.out.but hb7 GP3.out (by decide) (by decide) (by decide) (by decide)
      have f1 := GF3.out.but hb7 (fun e => hne e.symm)
      have o2 := o1.but (But.set _ (W.heap.size + 1) 0 (.int .i64 0)) f1 (by decide) (by decide) (by decide) (by decide)
      exact o2.but (But.set _ (W.heap.size + 1) 1 (.int .i64 0)) (f1.set 0 (.int .i64 0)) (by decide) (by decide) (by decide) (by decide)
    generalize (((((((((w3.setCell ⟨W.heap.size, 0, none⟩ (.int .i64 p.mem)).setCell ⟨W.heap.size, 1, none⟩ (.int .i64 p.cnt)).setCell ⟨W.heap.size, 2, none⟩ (.int .i64 p.ins)).setCell ⟨W.heap.size, 3, none⟩ (.int .i64 p.outs)).setCell ⟨W.heap.size, 4, none⟩ (.slice aP p.parts.length cP)).setCell ⟨W.heap.size, 5, none⟩ (.slice aL p.lines.length cL)).setCell ⟨W.heap.size, 6, none⟩ (.slice aO p.ops.length cO)).setCell ⟨W.heap.size + 1, 0, none⟩ (.int .i64 0)).setCell ⟨W.heap.size + 1, 1, none⟩ (.int .i64 0)) = w4 at k1 k2 HB4 O4 ⊢
    have a0 : w4.cell? ⟨W.heap.size, 0, none⟩ = some (.int .i64 p.mem) := k1.cell rfl
    have a1 : w4.cell? ⟨W.heap.size, 1, none⟩ = some (.int .i64 p.cnt) := k1.cell rfl
    have a2 : w4.cell? ⟨W.heap.size, 2, none⟩ = some (.int .i64 p.ins) := k1.cell rfl
    have a3 : w4.cell? ⟨W.heap.size, 3, none⟩ = some (.int .i64 p.outs) := k1.cell rfl
    have a4 : w4.cell? ⟨W.heap.size, 4, none⟩ = some (.slice aP p.parts.length cP) := k1.cell rfl
    have a5 : w4.cell? ⟨W.heap.size, 5, none⟩ = some (.slice aL p.lines.length cL) := k1.cell rfl
    have a6 : w4.cell? ⟨W.heap.size, 6, none⟩ = some (.slice aO p.ops.length cO) := k1.cell rfl
    have b0 : w4.cell? ⟨W.heap.size + 1, 0, none⟩ = some (.int .i64 0) := k2.cell rfl
    have b1 : w4.cell? ⟨W.heap.size + 1, 1, none⟩ = some (.int .i64 0) := k2.cell rfl
    have O9 := hiddenC O4
    have B9 := hiddenC HB4
    clear k1 k2 hb7 O4 HB4
    simp [Leaves, settle, results, Try.results17, go_sem, a0, a1, a2, a3, a4, a5, a6, b0, b1]
    refine HR.out _ _ ⟨?_, B9.out⟩
    rw [hd]
    exact ⟨aP, cP, aL, cL, aO, cO, LP, LL, rfl, O9.out⟩
end Go.Proofs.Ytdjplmlfcolklaa
namespace Go.Proofs.Ytdjplmlfcolklaa
open Go.ChangeShapes Go.WideShapes Go.ChangeAt Go.RowKit
theorem drewX {B : Nat} {W w : World} (h : Below B W w) (n : Nat) : Below B W (w.drewN n) := ⟨h.os, h.tape, h.output, h.size, h.block⟩
set_option maxRecDepth 100000 in
set_option maxHeartbeats 4000000 in
theorem sameOps_any (a1 a2 : Option Addr) (L : List OpC) (n c1 c2 : Nat) (w : World) (hl : L.length = n) (hm : n ≤ 1000000) (h1 : AtV opV 3 w a1 L) (h2 : AtV opV 3 w a2 L) :
    Calls Try.prog 19 #[.slice a1 n c1, .slice a2 n c2] w fun e w' => e = .returned (.bool true) ∧ ∃ m, w' = w.drewN m := by
  have H1 := hiddenC h1
  have H2 := hiddenC h2
  have HL := hiddenC hl
  have q0 : ((n : Int) != (n : Int)) = false := by simp
  clear h1 h2 hl
  go_enter Try.func19, Try.ntmps19
  go_wp2
  clear q0
  go_loopg [5] n (fun gk u wr => ∃ (k m : Nat), k ≤ n ∧ gk = n - k ∧ u = .int .i64 (k : Int) ∧ wr = w.drewN m)
  case atStart => exact ⟨0, 0, Nat.zero_le _, rfl, rfl, rfl⟩
  case round =>
    obtain ⟨k, m, hk, rfl, rfl, rfl⟩ := hrel
    by_cases hlt : k < n
    · have hki : (k : Int) < (n : Int) := by omega
      have hkL : k < L.length := by rw [HL.out]; exact hlt
      rcases H1.out with e1 | ⟨b1, o1, rfl, hc⟩
      · rw [e1] at hkL; exact absurd hkL (Nat.not_lt_zero _)
      rcases H2.out with e1 | ⟨b2, o2, rfl, hd⟩
      · rw [e1] at hkL; exact absurd hkL (Nat.not_lt_zero _)
      have hg : L[k]? = some L[k] := List.getElem?_eq_getElem hkL
      generalize L[k] = x at hg
      obtain ⟨t, a, b⟩ := x
      have r0 := hc k _ hg 0 _ rfl
      have r1 := hc k _ hg 1 _ rfl
      have r2 := hc k _ hg 2 _ rfl
      have s0 := hd k _ hg 0 _ rfl
      have s1 := hd k _ hg 1 _ rfl
      have s2 := hd k _ hg 2 _ rfl
      simp only [Nat.add_zero] at r0 s0
      clear hc hd hg
      go_wp2
      go_quiet (fail)
      go_wp2
      go_roundg (n - (k + 1))
      case measure => omega
      case rel => exact ⟨k + 1, m + nq, by omega, rfl, by go_num, rfl⟩
    · have hki : ¬ (k : Int) < (n : Int) := by omega
      go_wp2
      go_ret
      exact ⟨rfl, m, rfl⟩
set_option maxRecDepth 100000 in
set_option maxHeartbeats 8000000 in
theorem sameProg_any (p : PrgC) (a1 : Option Addr) (c1 : Nat) (a2 : Option Addr) (c2 : Nat) (a3 : Option Addr) (c3 : Nat) (b1 : Option Addr) (d1 : Nat) (b2 : Option Addr) (d2 : Nat) (b3 : Option Addr) (d3 : Nat) (LP LP' : List (PrtC × (Option Addr × Nat))) (LL LL' : List (LinC × (Option Addr × Nat))) (W : World) (hL : PrgL W p a1 a2 a3 LP LL) (hL' : PrgL W p b1 b2 b3 LP' LL')
    (hP : p.parts.length ≤ 1000000) (hN : p.lines.length ≤ 1000000) (hO : p.ops.length ≤ 1000000) (hPs : ∀ q ∈ p.parts, q.ps.length ≤ 1000000) (hNs : ∀ q ∈ p.lines, q.start.length ≤ 1000000) :
    Calls Try.prog 10 #[prgV p a1 c1 a2 c2 a3 c3, prgV p b1 d1 b2 d2 b3 d3] W fun e w' => e = .returned (.bool true) ∧ Below W.heap.size W w' := by
  have HL := hiddenC hL
  have HM := hiddenC hL'
  have HPs := hiddenC hPs
  have HNs := hiddenC hNs
  have LPe : Hid (LP.length = p.parts.length) := hL.lenP
  have LLe : Hid (LL.length = p.lines.length) := hL.lenL
  have LPe' : Hid (LP'.length = p.parts.length) := hL'.lenP
  have LLe' : Hid (LL'.length = p.lines.length) := hL'.lenL
  have OC : Hid (∀ U, Below W.heap.size W U → Calls Try.prog 19 #[.slice a3 p.ops.length c3, .slice b3 p.ops.length d3] U fun e w' => e = .returned (.bool true) ∧ ∃ m, w' = U.drewN m) := fun U hb => sameOps_any a3 b3 p.ops _ c3 d3 U rfl hO (hL.oa.below hb) (hL'.oa.below hb)
  unfold prgV
  obtain ⟨nP, hnP⟩ : ∃ n, p.parts.length = n := ⟨_, rfl⟩
  obtain ⟨nL, hnL⟩ : ∃ n, p.lines.length = n := ⟨_, rfl⟩
  obtain ⟨nO, hnO⟩ : ∃ n, p.ops.length = n := ⟨_, rfl⟩
  rw [hnP] at LPe LPe' hP ⊢
  rw [hnL] at LLe LLe' hN ⊢
  rw [hnO] at OC hO ⊢
  have i0 : (p.mem != p.mem) = false := by simp
  have i1 : (p.cnt != p.cnt) = false := by simp
  have i2 : (p.ins != p.ins) = false := by simp
  have i3 : (p.outs != p.outs) = false := by simp
  have i4 : ((nP : Int) != (nP : Int)) = false := by simp
  have i5 : ((nL : Int) != (nL : Int)) = false := by simp
  have I5 := hiddenC i5
  have hbA := (Below.refl W.heap.size W).alloc (Nat.le_refl _) (.cells #[.int .i64 p.mem, .int .i64 p.cnt, .int .i64 p.ins, .int .i64 p.outs, .slice a1 nP c1, .slice a2 nL c2, .slice a3 nO c3] 26)
  have hbB := hbA.alloc hbA.size (.cells #[.int .i64 p.mem, .int .i64 p.cnt, .int .i64 p.ins, .int .i64 p.outs, .slice b1 nP d1, .slice b2 nL d2, .slice b3 nO d3] 26)
  have HBB := hiddenC hbB
  have G0 := hiddenC ((blkA_new 26 W #[.int .i64 p.mem, .int .i64 p.cnt, .int .i64 p.ins, .int .i64 p.outs, .slice a1 nP c1, .slice a2 nL c2, .slice a3 nO c3]).below ((Below.refl _ _).alloc (Nat.le_refl _) (.cells #[.int .i64 p.mem, .int .i64 p.cnt, .int .i64 p.ins, .int .i64 p.outs, .slice b1 nP d1, .slice b2 nL d2, .slice b3 nO d3] 26)))
  have G1 := hiddenC (blkA_new 26 (W.alloc (.cells #[.int .i64 p.mem, .int .i64 p.cnt, .int .i64 p.ins, .int .i64 p.outs, .slice a1 nP c1, .slice a2 nL c2, .slice a3 nO c3] 26)) #[.int .i64 p.mem, .int .i64 p.cnt, .int .i64 p.ins, .int .i64 p.outs, .slice b1 nP d1, .slice b2 nL d2, .slice b3 nO d3])
  have hsz : (W.alloc (.cells #[.int .i64 p.mem, .int .i64 p.cnt, .int .i64 p.ins, .int .i64 p.outs, .slice a1 nP c1, .slice a2 nL c2, .slice a3 nO c3] 26)).heap.size = W.heap.size + 1 := World.size_alloc ..
  clear hL hL' hPs hNs hnP hnL hnO hbA hbB i5
  go_enter Try.func10, Try.ntmps10
  go_upto_region 1 with fail
  generalize (W.alloc (.cells #[.int .i64 p.mem, .int .i64 p.cnt, .int .i64 p.ins, .int .i64 p.outs, .slice a1 nP c1, .slice a2 nL c2, .slice a3 nO c3] 26)).alloc (.cells #[.int .i64 p.mem, .int .i64 p.cnt, .int .i64 p.ins, .int .i64 p.outs, .slice b1 nP d1, .slice b2 nL d2, .slice b3 nO d3] 26) = W1 at *
  have HSZ := hiddenC hsz
  clear hsz
  generalize W.alloc (.cells #[.int .i64 p.mem, .int .i64 p.cnt, .int .i64 p.ins, .int .i64 p.outs, .slice a1 nP c1, .slice a2 nL c2, .slice a3 nO c3] 26) = W0 at *
  have fu0 := G0.out.cell (k := 0) rfl
  have fv0 := G1.out.cell (k := 0) rfl
  have fu1 := G0.out.cell (k := 1) rfl
  have fv1 := G1.out.cell (k := 1) rfl
  have fu2 := G0.out.cell (k := 2) rfl
  have fv2 := G1.out.cell (k := 2) rfl
  have fu3 := G0.out.cell (k := 3) rfl
  have fv3 := G1.out.cell (k := 3) rfl
  have fu4 := G0.out.cell (k := 4) rfl
  have fv4 := G1.out.cell (k := 4) rfl
  have fu5 := G0.out.cell (k := 5) rfl
  have fv5 := G1.out.cell (k := 5) rfl
  have fu6 := G0.out.cell (k := 6) rfl
  have fv6 := G1.out.cell (k := 6) rfl
  simp only [List.getElem_toArray, List.getElem_cons_zero, List.getElem_cons_succ] at fu0 fv0 fu1 fv1 fu2 fv2 fu3 fv3 fu4 fv4 fu5 fv5 fu6 fv6
  rw [HSZ.out] at fv0 fv1 fv2 fv3 fv4 fv5 fv6
  have i5 := I5.out
  go_upto_region 3 with fail
  go_wp2
  clear fu0 fu1 fu2 fu3 fv0 fv1 fv2 fv3 i0 i1 i2 i3 i4 i5 fu6 fv6
  go_loopg [5] nP (fun gk u wr => ∃ (k m : Nat), k ≤ nP ∧ gk = nP - k ∧ u = .int .i64 (k : Int) ∧ wr = W1.drewN m)
  case atStart => exact ⟨0, 0, Nat.zero_le _, rfl, rfl, rfl⟩
  case round =>
    obtain ⟨k, m, hk, rfl, rfl, rfl⟩ := hrel
    by_cases hlt : k < nP
    · have hki : (k : Int) < (nP : Int) := by omega
      have hkL : k < LP.length := by rw [LPe.out]; exact hlt
      have hkM : k < LP'.length := by rw [LPe'.out]; exact hlt
      rcases HL.out.pa.below HBB.out with e1 | ⟨ab, off, rfl, hc⟩
      · rw [e1] at hkL; exact absurd hkL (Nat.not_lt_zero _)
      rcases HM.out.pa.below HBB.out with e1 | ⟨ab', off', rfl, hd⟩
      · rw [e1] at hkM; exact absurd hkM (Nat.not_lt_zero _)
      have hg : LP[k]? = some LP[k] := List.getElem?_eq_getElem hkL
      have hg' : LP'[k]? = some LP'[k] := List.getElem?_eq_getElem hkM
      have same : LP'[k].1 = LP[k].1 := by
        have q1 : (LP.map Prod.fst)[k]? = some LP[k].1 := by rw [List.getElem?_map, hg]; rfl
        have q2 : (LP'.map Prod.fst)[k]? = some LP'[k].1 := by rw [List.getElem?_map, hg']; rfl
        rw [HM.out.pe] at q2
        rw [HL.out.pe] at q1
        exact Option.some.inj (q2.symm.trans q1)
      have hin : LP[k].1.ps.length ≤ 1000000 := HPs.out _ (by rw [← HL.out.pe]; exact List.mem_map_of_mem (List.getElem_mem hkL))
      have A1 := hiddenC ((HL.out.pp _ (List.getElem_mem hkL)).below HBB.out)
      have A2 := hiddenC ((HM.out.pp _ (List.getElem_mem hkM)).below HBB.out)
      generalize LP[k] = x at *
      generalize LP'[k] = x' at *
      obtain ⟨x, y, yc⟩ := x
      obtain ⟨x', y', yc'⟩ := x'
      simp only at same
      subst same
      obtain ⟨t, zs⟩ := x'
      simp only at A1 A2 hin
      have r0 := hc k _ hg 0 _ rfl
      have s0 := hd k _ hg' 0 _ rfl
      have r1 := hc k _ hg 1 _ rfl
      have s1 := hd k _ hg' 1 _ rfl
      simp only [Nat.add_zero] at r0 s0
      have SI : Hid (∀ q, Calls Try.prog 25 #[.slice y zs.length yc, .slice y' zs.length yc'] ((W1.drewN m).drewN q) fun e w' => e = .returned (.bool true) ∧ ∃ p, w' = ((W1.drewN m).drewN q).drewN p) := fun q => (same_any y y' zs _ yc yc' ((W1.drewN m).drewN q) rfl (by omega) (A1.out.below (drewX (drewX (Below.refl _ _) m) q)) (A2.out.below (drewX (drewX (Below.refl _ _) m) q))).mono fun e w' hh => by
        obtain ⟨m, e1, e2⟩ := hh
        exact ⟨e1, m, e2⟩
      generalize zs.length = nk at *
      have e0 : (W1.drewN m).cell? _ = _ := r0
      have e1 : (W1.drewN m).cell? _ = _ := s0
      have e2 : (W1.drewN m).cell? _ = _ := r1
      have e3 : (W1.drewN m).cell? _ = _ := s1
      have e4 : (W1.drewN m).cell? _ = _ := fu4
      have e5 : (W1.drewN m).cell? _ = _ := fv4
      clear hc hd hg hg' A1 A2 hin hkL hkM r0 s0 r1 s1 fu4 fv4
      obtain ⟨Wm, hWm⟩ : ∃ W, W1.drewN m = W := ⟨_, rfl⟩
      have HWM := hiddenC hWm
      rw [hWm] at SI e0 e1 e2 e3 e4 e5 ⊢
      clear hWm
      go_upto_region 6 with fail
      go_quiet (first | (go_at_call 25; (with_reducible refine Calls.quiet_of (SI.out _))))
      go_wp2
      go_roundg (nP - (k + 1))
      case measure => omega
      case rel => exact ⟨k + 1, m + nq, by omega, rfl, by go_num, by rw [← HWM.out]; simp⟩
    · have hki : ¬ (k : Int) < (nP : Int) := by omega
      have w4 : (W1.drewN m).cell? _ = _ := fu4
      have w5 : (W1.drewN m).cell? _ = _ := fu5
      have x5 : (W1.drewN m).cell? _ = _ := fv5
      obtain ⟨W2, hW2⟩ : ∃ W, W1.drewN m = W := ⟨_, rfl⟩
      have HB2 : Hid (Below W.heap.size W W2) := by rw [← hW2]; exact drewX HBB.out m
      have y6 : W2.cell? ⟨W.heap.size, 6, none⟩ = some (.slice a3 nO c3) := by rw [← hW2]; exact G0.out.cell (k := 6) rfl
      have z6 : W2.cell? ⟨W.heap.size + 1, 6, none⟩ = some (.slice b3 nO d3) := by rw [← hW2, ← HSZ.out]; exact G1.out.cell (k := 6) rfl
      rw [hW2] at w4 w5 x5 ⊢
      clear hW2 HBB G0 G1 hki hk
      have HY := hiddenC y6
      have HZ := hiddenC z6
      clear y6 z6
      go_upto_region 8 with fail
      clear w4 hlt
      go_wp2
      go_loopg [6] nL (fun gk u wr => ∃ (k m : Nat), k ≤ nL ∧ gk = nL - k ∧ u = .int .i64 (k : Int) ∧ wr = W2.drewN m)
      case atStart => exact ⟨0, 0, Nat.zero_le _, rfl, rfl, rfl⟩
      case round =>
        obtain ⟨k, m, hk, rfl, rfl, rfl⟩ := hrel
        by_cases hlt : k < nL
        · have hki : (k : Int) < (nL : Int) := by omega
          have hkL : k < LL.length := by rw [LLe.out]; exact hlt
          have hkM : k < LL'.length := by rw [LLe'.out]; exact hlt
          rcases HL.out.la.below HB2.out with e1 | ⟨ab, off, rfl, hc⟩
          · rw [e1] at hkL; exact absurd hkL (Nat.not_lt_zero _)
          rcases HM.out.la.below HB2.out with e1 | ⟨ab', off', rfl, hd⟩
          · rw [e1] at hkM; exact absurd hkM (Nat.not_lt_zero _)
          have hg : LL[k]? = some LL[k] := List.getElem?_eq_getElem hkL
          have hg' : LL'[k]? = some LL'[k] := List.getElem?_eq_getElem hkM
          have same : LL'[k].1 = LL[k].1 := by
            have q1 : (LL.map Prod.fst)[k]? = some LL[k].1 := by rw [List.getElem?_map, hg]; rfl
            have q2 : (LL'.map Prod.fst)[k]? = some LL'[k].1 := by rw [List.getElem?_map, hg']; rfl
            rw [HM.out.le] at q2
            rw [HL.out.le] at q1
            exact Option.some.inj (q2.symm.trans q1)
          have hin : LL[k].1.start.length ≤ 1000000 := HNs.out _ (by rw [← HL.out.le]; exact List.mem_map_of_mem (List.getElem_mem hkL))
          have A1 := hiddenC ((HL.out.lp _ (List.getElem_mem hkL)).below HB2.out)
          have A2 := hiddenC ((HM.out.lp _ (List.getElem_mem hkM)).below HB2.out)
          generalize LL[k] = x at *
          generalize LL'[k] = x' at *
          obtain ⟨x, y, yc⟩ := x
          obtain ⟨x', y', yc'⟩ := x'
          simp only at same
          subst same
          obtain ⟨ba, sz, zs⟩ := x'
          simp only at A1 A2 hin
          have r0 := hc k _ hg 0 _ rfl
          have s0 := hd k _ hg' 0 _ rfl
          have r1 := hc k _ hg 1 _ rfl
          have s1 := hd k _ hg' 1 _ rfl
          have r2 := hc k _ hg 2 _ rfl
          have s2 := hd k _ hg' 2 _ rfl
          simp only [Nat.add_zero] at r0 s0
          have SI : Hid (∀ q, Calls Try.prog 25 #[.slice y zs.length yc, .slice y' zs.length yc'] ((W2.drewN m).drewN q) fun e w' => e = .returned (.bool true) ∧ ∃ p, w' = ((W2.drewN m).drewN q).drewN p) := fun q => (same_any y y' zs _ yc yc' ((W2.drewN m).drewN q) rfl (by omega) (A1.out.below (drewX (drewX (Below.refl _ _) m) q)) (A2.out.below (drewX (drewX (Below.refl _ _) m) q))).mono fun e w' hh => by
            obtain ⟨m, e1, e2⟩ := hh
            exact ⟨e1, m, e2⟩
          generalize zs.length = nk at *
          have e0 : (W2.drewN m).cell? _ = _ := r0
          have e1 : (W2.drewN m).cell? _ = _ := s0
          have e2 : (W2.drewN m).cell? _ = _ := r1
          have e3 : (W2.drewN m).cell? _ = _ := s1
          have e4 : (W2.drewN m).cell? _ = _ := r2
          have e5 : (W2.drewN m).cell? _ = _ := s2
          have e6 : (W2.drewN m).cell? _ = _ := w5
          have e7 : (W2.drewN m).cell? _ = _ := x5
          clear hc hd hg hg' A1 A2 hin hkL hkM r0 s0 r1 s1 r2 s2 w5 x5
          obtain ⟨Wm, hWm⟩ : ∃ W, W2.drewN m = W := ⟨_, rfl⟩
          have HWM := hiddenC hWm
          rw [hWm] at SI e0 e1 e2 e3 e4 e5 e6 e7 ⊢
          clear hWm
          go_upto_region 11 with fail
          go_quiet (first | (go_at_call 25; (with_reducible refine Calls.quiet_of (SI.out _))))
          go_wp2
          go_roundg (nL - (k + 1))
          case measure => omega
          case rel => exact ⟨k + 1, m + nq, by omega, rfl, by go_num, by rw [← HWM.out]; simp⟩
        · have hki : ¬ (k : Int) < (nL : Int) := by omega
          have y5 : (W2.drewN m).cell? _ = _ := w5
          have y6 : (W2.drewN m).cell? _ = _ := HY.out
          have z6 : (W2.drewN m).cell? _ = _ := HZ.out
          have OC1 := hiddenC (OC.out _ (drewX HB2.out m))
          have HB3 := hiddenC (drewX HB2.out m)
          generalize W2.drewN m = W3 at *
          clear w5 x5
          go_upto_region 13 with fail
          go_wp2_with (go_at_call 19; (with_reducible refine OC1.out.mono ?_); rintro e w3 ⟨rfl, m3, hw3⟩; rw [hw3]; clear hw3 w3)
          first | exact ⟨rfl, drewX HB3.out _⟩ | (go_ret; exact ⟨rfl, drewX HB3.out _⟩) | (trace_state; fail)
def cntP : PrgC := ⟨2, 1, 0, 1, [⟨10, [5, -1]⟩], [], [⟨1, 0, 3⟩, ⟨5, 0, 0⟩, ⟨7, 0, 1⟩, ⟨2, 0, 1⟩, ⟨0, 0, 0⟩]⟩
set_option maxRecDepth 100000 in
set_option maxHeartbeats 4000000 in
theorem counting_any (W : World) : Calls Try.prog 26 #[] W fun e w' => ∃ aP aO y, e = .returned (prgV cntP aP 1 none 0 aO 5) ∧ PrgL w' cntP aP none aO [(⟨10, [5, -1]⟩, (y, 2))] [] ∧ Below W.heap.size W w' := by
  obtain ⟨PE, hPE⟩ : ∃ Q : Ending → World → Prop, (fun e w' => ∃ aP aO y, e = .returned (prgV cntP aP 1 none 0 aO 5) ∧ PrgL w' cntP aP none aO [(⟨10, [5, -1]⟩, (y, 2))] [] ∧ Below W.heap.size W w') = Q := ⟨_, rfl⟩
  rw [hPE]
  have HPE := hiddenC hPE
  clear hPE
  have hcs : Try.prog.cellsOf 26 = 7 := by kernel_rfl
  go_enter Try.func26, Try.ntmps26
  go_wp2
  refine bodyPost_ret (v := .agg #[.int .i64 2, .int .i64 1, .int .i64 0, .int .i64 1, .slice (some ⟨W.heap.size + 1 + 1, 0, none⟩) 1 1, .slice none 0 0, .slice (some ⟨W.heap.size + 1 + 1 + 1, 0, none⟩) 5 5]) (by simp [results, Try.results26, go_sem]) rfl ?_
  rw [← HPE.out]
  have s1 : (W.alloc (.cells #[.int .i64 2, .int .i64 1, .int .i64 0, .int .i64 1, .slice (some ⟨W.heap.size + 1 + 1, 0, none⟩) 1 1, .slice none 0 0, .slice (some ⟨W.heap.size + 1 + 1 + 1, 0, none⟩) 5 5] 26)).heap.size = W.heap.size + 1 := World.size_alloc ..
  have s2 : ((W.alloc (.cells #[.int .i64 2, .int .i64 1, .int .i64 0, .int .i64 1, .slice (some ⟨W.heap.size + 1 + 1, 0, none⟩) 1 1, .slice none 0 0, .slice (some ⟨W.heap.size + 1 + 1 + 1, 0, none⟩) 5 5] 26)).alloc (.cells #[.int .i64 5, .int .i64 (-1)] 3)).heap.size = W.heap.size + 1 + 1 := by rw [World.size_alloc, s1]
  have s3 : (((W.alloc (.cells #[.int .i64 2, .int .i64 1, .int .i64 0, .int .i64 1, .slice (some ⟨W.heap.size + 1 + 1, 0, none⟩) 1 1, .slice none 0 0, .slice (some ⟨W.heap.size + 1 + 1 + 1, 0, none⟩) 5 5] 26)).alloc (.cells #[.int .i64 5, .int .i64 (-1)] 3)).alloc (.cells #[.int .u8 10, .slice (some ⟨W.heap.size + 1, 0, none⟩) 2 2] 45)).heap.size = W.heap.size + 1 + 1 + 1 := by rw [World.size_alloc, s2]
  have b0 := (Below.refl W.heap.size W).alloc (Nat.le_refl _) (.cells #[.int .i64 2, .int .i64 1, .int .i64 0, .int .i64 1, .slice (some ⟨W.heap.size + 1 + 1, 0, none⟩) 1 1, .slice none 0 0, .slice (some ⟨W.heap.size + 1 + 1 + 1, 0, none⟩) 5 5] 26)
  have b1 := b0.alloc b0.size (.cells #[.int .i64 5, .int .i64 (-1)] 3)
  have b2 := b1.alloc b1.size (.cells #[.int .u8 10, .slice (some ⟨W.heap.size + 1, 0, none⟩) 2 2] 45)
  have b3 := b2.alloc b2.size (.cells #[.int .u8 1, .int .i64 0, .int .i64 3, .int .u8 5, .int .i64 0, .int .i64 0, .int .u8 7, .int .i64 0, .int .i64 1, .int .u8 2, .int .i64 0, .int .i64 1, .int .u8 0, .int .i64 0, .int .i64 0] 53)
  have g1 := ((blkA_new 3 (W.alloc (.cells #[.int .i64 2, .int .i64 1, .int .i64 0, .int .i64 1, .slice (some ⟨W.heap.size + 1 + 1, 0, none⟩) 1 1, .slice none 0 0, .slice (some ⟨W.heap.size + 1 + 1 + 1, 0, none⟩) 5 5] 26)) #[.int .i64 5, .int .i64 (-1)]).below ((Below.refl _ _).alloc (Nat.le_refl _) (.cells #[.int .u8 10, .slice (some ⟨W.heap.size + 1, 0, none⟩) 2 2] 45))).below ((Below.refl _ _).alloc (Nat.le_refl _) (.cells #[.int .u8 1, .int .i64 0, .int .i64 3, .int .u8 5, .int .i64 0, .int .i64 0, .int .u8 7, .int .i64 0, .int .i64 1, .int .u8 2, .int .i64 0, .int .i64 1, .int .u8 0, .int .i64 0, .int .i64 0] 53))
  have g2 := (blkA_new 45 ((W.alloc (.cells #[.int .i64 2, .int .i64 1, .int .i64 0, .int .i64 1, .slice (some ⟨W.heap.size + 1 + 1, 0, none⟩) 1 1, .slice none 0 0, .slice (some ⟨W.heap.size + 1 + 1 + 1, 0, none⟩) 5 5] 26)).alloc (.cells #[.int .i64 5, .int .i64 (-1)] 3)) #[.int .u8 10, .slice (some ⟨W.heap.size + 1, 0, none⟩) 2 2]).below ((Below.refl _ _).alloc (Nat.le_refl _) (.cells #[.int .u8 1, .int .i64 0, .int .i64 3, .int .u8 5, .int .i64 0, .int .i64 0, .int .u8 7, .int .i64 0, .int .i64 1, .int .u8 2, .int .i64 0, .int .i64 1, .int .u8 0, .int .i64 0, .int .i64 0] 53))
  have g3 := blkA_new 53 (((W.alloc (.cells #[.int .i64 2, .int .i64 1, .int .i64 0, .int .i64 1, .slice (some ⟨W.heap.size + 1 + 1, 0, none⟩) 1 1, .slice none 0 0, .slice (some ⟨W.heap.size + 1 + 1 + 1, 0, none⟩) 5 5] 26)).alloc (.cells #[.int .i64 5, .int .i64 (-1)] 3)).alloc (.cells #[.int .u8 10, .slice (some ⟨W.heap.size + 1, 0, none⟩) 2 2] 45)) #[.int .u8 1, .int .i64 0, .int .i64 3, .int .u8 5, .int .i64 0, .int .i64 0, .int .u8 7, .int .i64 0, .int .i64 1, .int .u8 2, .int .i64 0, .int .i64 1, .int .u8 0, .int .i64 0, .int .i64 0]
  rw [s1] at g1
  rw [s2] at g2
  rw [s3] at g3
  generalize ((((W.alloc (.cells #[.int .i64 2, .int .i64 1, .int .i64 0, .int .i64 1, .slice (some ⟨W.heap.size + 1 + 1, 0, none⟩) 1 1, .slice none 0 0, .slice (some ⟨W.heap.size + 1 + 1 + 1, 0, none⟩) 5 5] 26)).alloc (.cells #[.int .i64 5, .int .i64 (-1)] 3)).alloc (.cells #[.int .u8 10, .slice (some ⟨W.heap.size + 1, 0, none⟩) 2 2] 45)).alloc (.cells #[.int .u8 1, .int .i64 0, .int .i64 3, .int .u8 5, .int .i64 0, .int .i64 0, .int .u8 7, .int .i64 0, .int .i64 1, .int .u8 2, .int .i64 0, .int .i64 1, .int .u8 0, .int .i64 0, .int .i64 0] 53)) = W4 at *
  refine ⟨some ⟨W.heap.size + 1 + 1, 0, none⟩, some ⟨W.heap.size + 1 + 1 + 1, 0, none⟩, some ⟨W.heap.size + 1, 0, none⟩, rfl, ⟨rfl, .inr ⟨_, _, rfl, fun k x hk j u hj => ?_⟩, fun x hx => ?_, rfl, .inl rfl, (fun x hx => nomatch hx), .inr ⟨_, _, rfl, fun k x hk j u hj => ?_⟩⟩, b3⟩
  · match k, hk with
    | 0, hk =>
      obtain rfl := Option.some.inj hk
      match j, hj with
      | 0, hj => obtain rfl := Option.some.inj hj; exact g2.cell (k := 0) rfl
      | 1, hj => obtain rfl := Option.some.inj hj; exact g2.cell (k := 1) rfl
  · obtain rfl := List.mem_singleton.1 hx
    exact at2 (g1.cell (k := 0) rfl) (g1.cell (k := 1) rfl)
  · match k, hk with
    | 0, hk =>
      obtain rfl := Option.some.inj hk
      match j, hj with
      | 0, hj => obtain rfl := Option.some.inj hj; exact g3.cell (k := 0) rfl
      | 1, hj => obtain rfl := Option.some.inj hj; exact g3.cell (k := 1) rfl
      | 2, hj => obtain rfl := Option.some.inj hj; exact g3.cell (k := 2) rfl
    | 1, hk =>
      obtain rfl := Option.some.inj hk
      match j, hj with
      | 0, hj => obtain rfl := Option.some.inj hj; exact g3.cell (k := 3) rfl
      | 1, hj => obtain rfl := Option.some.inj hj; exact g3.cell (k := 4) rfl
      | 2, hj => obtain rfl := Option.some.inj hj; exact g3.cell (k := 5) rfl
    | 2, hk =>
      obtain rfl := Option.some.inj hk
      match j, hj with
      | 0, hj => obtain rfl := Option.some.inj hj; exact g3.cell (k := 6) rfl
      | 1, hj => obtain rfl := Option.some.inj hj; exact g3.cell (k := 7) rfl
      | 2, hj => obtain rfl := Option.some.inj hj; exact g3.cell (k := 8) rfl
    | 3, hk =>
      obtain rfl := Option.some.inj hk
      match j, hj with
      | 0, hj => obtain rfl := Option.some.inj hj; exact g3.cell (k := 9) rfl
      | 1, hj => obtain rfl := Option.some.inj hj; exact g3.cell (k := 10) rfl
      | 2, hj => obtain rfl := Option.some.inj hj; exact g3.cell (k := 11) rfl
    | 4, hk =>
      obtain rfl := Option.some.inj hk
      match j, hj with
      | 0, hj => obtain rfl := Option.some.inj hj; exact g3.cell (k := 12) rfl
      | 1, hj => obtain rfl := Option.some.inj hj; exact g3.cell (k := 13) rfl
      | 2, hj => obtain rfl := Option.some.inj hj; exact g3.cell (k := 14) rfl
theorem cnt_fit : FitP cntP := ⟨⟨fun q hq => by obtain rfl := List.mem_singleton.1 hq; exact ⟨by decide, fun z hz => by rcases List.mem_cons.1 hz with rfl | hz; exact (by decide : (-9223372036854775808 : Int) ≤ 5 ∧ (5 : Int) ≤ 9223372036854775807); obtain rfl := List.mem_singleton.1 hz; exact (by decide : (-9223372036854775808 : Int) ≤ -1 ∧ (-1 : Int) ≤ 9223372036854775807)⟩, fun q hq => nomatch hq⟩, fun q hq => nomatch hq⟩
theorem cnt_step : stepC codeS cntP = (11, 0) := by
  first | rfl | decide | skip
end Go.Proofs.Ytdjplmlfcolklaa

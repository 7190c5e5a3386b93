/- Texts of one chain, laid one behind the other. -/
import Derived.Test.YtdjplmlfcolklaaPartCodeChecks18
import Derived.Laws.BytesArg
import Derived.Laws.IdiomStrings
namespace Go.Proofs.Ytdjplmlfcolklaa
open Go.Lib Go.ChangeShapes Go.WideShapes Go.ChangeAt Go.RowKit
theorem codeS_len (t : Nat) (zs : List Int) (h : codeS t zs = 0) : zs.length ≤ 16 := by
  have hw : ∀ n m : Int, wB n m = true → n ≤ m := fun n m h => (wB_bound h).2
  unfold codeS ofS at h
  by_cases h1 : 1 ≤ t ∧ t ≤ 11
  · rw [if_pos h1] at h
    by_cases h2 : okS t zs = true
    · clear h
      unfold okS at h2
      match t, h1, h2 with
      | 1, _, h2 => have := hw _ _ h2; omega
      | 2, _, h2 => have := of_decide_eq_true (Bool.and_eq_true_iff.1 h2).1; omega
      | 3, _, h2 => have := of_decide_eq_true (Bool.and_eq_true_iff.1 h2).1; omega
      | 4, _, h2 => have := of_decide_eq_true (Bool.and_eq_true_iff.1 h2).1; omega
      | 5, _, h2 => have := of_decide_eq_true (Bool.and_eq_true_iff.1 h2).1; omega
      | 6, _, h2 => have := of_decide_eq_true (Bool.and_eq_true_iff.1 h2).1; omega
      | 7, _, h2 => have := of_decide_eq_true h2; omega
      | 8, _, h2 => have := of_decide_eq_true h2; omega
      | 9, _, h2 => have := of_decide_eq_true (Bool.and_eq_true_iff.1 h2).1; omega
      | 10, _, h2 => have := of_decide_eq_true h2; omega
      | 11, _, h2 => have := of_decide_eq_true (Bool.and_eq_true_iff.1 h2).1; omega
    · rw [if_neg h2] at h; cases h
  · rw [if_neg h1] at h; cases h
theorem prgOk_in {p : PrgC} (h : (stepC codeS p).2 = 0) (hF : FitP p) : PrgOk p := prgOk_of codeS_len h hF.fit
theorem convC {B : Nat} {w : World} {a : Option Addr} {l : List UInt8} {c : Nat} (h : CapV 5 byV 1 B w a c l) : (convert 64 9 (.slice a l.length c)).run Try.prog w = .ok (.string (strC l)) w := by
  rcases h.at byV_len with e | ⟨b, off, rfl, hc⟩
  · subst e
    cases a with
    | none => exact run_convert_bytes_nil w 64 5 Try.underlying64 Try.underlying5 0 c 9 Try.underlying9
    | some ad => exact run_convert_bytes_back w 64 9 5 ad c [] Try.underlying64 Try.underlying5 Try.underlying9 (fun j hj => absurd hj (Nat.not_lt_zero _))
  · refine run_convert_bytes_back w 64 9 5 ⟨b, off, none⟩ c l Try.underlying64 Try.underlying5 Try.underlying9 (fun j hj => ?_)
    have q := hc j _ (List.getElem?_eq_getElem hj) 0 _ rfl
    rw [Addr.add_lit]
    rw [Nat.mul_one, Nat.add_zero] at q
    exact q
/-- What Encode answers. -/
def encT (p : PrgC) : List UInt8 := if (stepC codeS p).2 = 0 then encC p else []
set_option maxRecDepth 100000 in
set_option maxHeartbeats 8000000 in
theorem encode_any (p : PrgC) (aP : Option Addr) (cP : Nat) (aL : Option Addr) (cL : Nat) (aO : Option Addr) (cO : Nat) (LP : List (PrtC × (Option Addr × Nat))) (LL : List (LinC × (Option Addr × Nat))) (W : World) (hL : PrgL W p aP aL aO LP LL) (hF : FitP p) :
    Calls Try.prog 15 #[prgV p aP cP aL cL aO cO] W fun e w' => e = .returned (.tuple #[.string (strC (encT p)), .int .i64 (stepC codeS p).2]) ∧ Below W.heap.size W w' := by
  obtain ⟨PE, hPE⟩ : ∃ Q : Ending → World → Prop, (fun e w' => e = .returned (.tuple #[.string (strC (encT p)), .int .i64 (stepC codeS p).2]) ∧ Below W.heap.size W w') = Q := ⟨_, rfl⟩
  rw [hPE]
  have HPE := hiddenC hPE
  have HL := hiddenC hL
  have b0 := (Below.refl W.heap.size W).alloc (Nat.le_refl _) (.cells #[.int .i64 p.mem, .int .i64 p.cnt, .int .i64 p.ins, .int .i64 p.outs, .slice aP p.parts.length cP, .slice aL p.lines.length cL, .slice aO p.ops.length cO] 26)
  have CC := hiddenC (checkC_any p aP cP aL cL aO cO LP LL _ (hL.below b0) hF)
  have WP : Hid ((stepC codeS p).2 = 0 → ∀ K U, Below W.heap.size W U → W.heap.size ≤ K → WrA K K U [] none 0 → Calls Try.prog 33 #[.pointer (some ⟨K, 0, none⟩), prgV p aP cP aL cL aO cO] U fun e w' => e = .returned (.tuple #[]) ∧ (∃ a' c', WrA K K w' (encC p) a' c') ∧ Below K U w') := fun h0 K U hb hK hW =>
    wrProgram_any K K W U p aP cP aL cL aO cO LP LL hL hb hK hW (Nat.le_of_lt hW.box.lt) (prgOk_in h0 hF)
  have EE : Hid (encT p = if (stepC codeS p).2 = 0 then encC p else []) := rfl
  unfold prgV at CC WP ⊢
  generalize p.parts.length = nP at *
  generalize p.lines.length = nL at *
  generalize p.ops.length = nO at *
  have B0 := hiddenC b0
  have G0 := hiddenC (blkA_new 26 W #[.int .i64 p.mem, .int .i64 p.cnt, .int .i64 p.ins, .int .i64 p.outs, .slice aP nP cP, .slice aL nL cL, .slice aO nO cO])
  have z0 := G0.out.cell (k := 0) rfl
  have z1 := G0.out.cell (k := 1) rfl
  have z2 := G0.out.cell (k := 2) rfl
  have z3 := G0.out.cell (k := 3) rfl
  have z4 := G0.out.cell (k := 4) rfl
  have z5 := G0.out.cell (k := 5) rfl
  have z6 := G0.out.cell (k := 6) rfl
  simp only [List.getElem_toArray, List.getElem_cons_zero, List.getElem_cons_succ] at z0 z1 z2 z3 z4 z5 z6
  clear hPE hL hF b0
  go_enter Try.func15, Try.ntmps15
  go_upto_region 1 with fail
  generalize W.alloc (.cells #[.int .i64 p.mem, .int .i64 p.cnt, .int .i64 p.ins, .int .i64 p.outs, .slice aP nP cP, .slice aL nL cL, .slice aO nO cO] 26) = W1 at *
  by_cases h1 : (stepC codeS p).2 = 0
  · have ER : Hid (encT p = encC p) := by
      have q := EE.out
      rw [if_pos h1] at q
      exact q
    have WP1 := hiddenC (WP.out h1)
    have H10 := hiddenC h1
    rw [h1] at CC
    clear EE WP h1
    go_upto_region 4 with (go_at_call 8; (with_reducible refine CC.out.mono ?_); rintro e w2 ⟨rfl, b2⟩; have B2 := hiddenC (B0.out.trans (b2.mono B0.out.size)); have G2 := hiddenC (G0.out.below b2); clear b2)
    have b3 : Hid (Below w2.heap.size w2 (w2.alloc (.cells #[.slice none 0 0] 67))) := (Below.refl _ _).alloc (Nat.le_refl _) _
    have W3 : Hid (WrA w2.heap.size w2.heap.size (w2.alloc (.cells #[.slice none 0 0] 67)) [] none 0) := ⟨blkA_new _ _ _, CapV.nil _ _, (fun x hx => by cases hx), Nat.le_refl _⟩
    have G3 := hiddenC (G2.out.below b3.out)
    have B3 := hiddenC (B2.out.trans (b3.out.mono B2.out.size))
    clear z0 z1 z2 z3 z4 z5 z6
    go_upto_region 5 with fail
    generalize w2.alloc (.cells #[.slice none 0 0] 67) = w3 at *
    have WP2 := hiddenC (WP1.out w2.heap.size w3 B3.out B2.out.size W3.out)
    obtain ⟨K, hK⟩ : ∃ x, w2.heap.size = x := ⟨_, rfl⟩
    have KW : Hid (W.heap.size ≤ K) := by have := B2.out.size; show _ ≤ _; omega
    rw [hK] at WP2 W3 b3 ⊢
    have z0 := G3.out.cell (k := 0) rfl
    have z1 := G3.out.cell (k := 1) rfl
    have z2 := G3.out.cell (k := 2) rfl
    have z3 := G3.out.cell (k := 3) rfl
    have z4 := G3.out.cell (k := 4) rfl
    have z5 := G3.out.cell (k := 5) rfl
    have z6 := G3.out.cell (k := 6) rfl
    simp only [List.getElem_toArray, List.getElem_cons_zero, List.getElem_cons_succ] at z0 z1 z2 z3 z4 z5 z6
    clear hK
    generalize encC p = l at *
    obtain ⟨N, hN⟩ : ∃ N, l.length = N := ⟨_, rfl⟩
    have HN := hiddenC hN
    clear hN
    go_upto_region 6 with (go_at_call 33; (with_reducible refine WP2.out.mono ?_); rintro e w4 ⟨rfl, ⟨a4, c4, h4⟩, b4⟩; have H4 := hiddenC h4; have B4 := hiddenC (B3.out.trans (b4.mono KW.out)); clear h4 b4)
    clear z0 z1 z2 z3 z4 z5 z6
    have y0 := H4.out.box.cell (k := 0) rfl
    have cv := convC H4.out.own
    simp only [List.getElem_toArray, List.getElem_cons_zero] at y0
    rw [HN.out] at y0 cv
    go_wp2
    rw [← HPE.out, ER.out, H10.out]
    exact ⟨rfl, B4.out⟩
  · have q1 : ((stepC codeS p).2 != 0) = true := by simpa using h1
    have ER : Hid (encT p = []) := by
      have q := EE.out
      rw [if_neg h1] at q
      exact q
    clear EE WP h1
    generalize (stepC codeS p).2 = r at *
    go_wp2_with (go_at_call 8; (with_reducible refine CC.out.mono ?_); rintro e w2 ⟨rfl, b2⟩; have B2 := hiddenC (B0.out.trans (b2.mono B0.out.size)); clear b2)
    rw [← HPE.out, ER.out]
    exact ⟨rfl, B2.out⟩
end Go.Proofs.Ytdjplmlfcolklaa

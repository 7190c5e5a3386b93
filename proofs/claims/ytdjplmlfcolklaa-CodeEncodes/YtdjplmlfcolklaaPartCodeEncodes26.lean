/- Texts of one chain, laid one behind the other. -/
import Derived.Test.YtdjplmlfcolklaaPartCodeEncodes19
import Derived.Test.YtdjplmlfcolklaaPartCodeEncodes25
namespace Go.Proofs.Ytdjplmlfcolklaa
open Go.Lib Go.ChangeShapes Go.WideShapes Go.ChangeAt Go.RowKit
/-- What has been written so far, with what is still to be: together they are T. -/
def EncS (W : World) (cs : Array Value) (T : List UInt8) (w : World) (a : Option Addr) (c n : Nat) (X : List UInt8) : Prop :=
  ∃ L : List UInt8, L.length = n ∧ CapV 5 byV 1 (W.heap.size + 1) w a c L ∧ L ++ X = T ∧ Below W.heap.size W w ∧ BlkA 26 W.heap.size w cs
theorem EncS.later {W : World} {cs : Array Value} {T : List UInt8} {w w' : World} {a : Option Addr} {c n : Nat} {X : List UInt8} (h : EncS W cs T w a c n X) (hb : Below w.heap.size w w') : EncS W cs T w' a c n X := by
  obtain ⟨L, h1, h2, h3, h4, h5⟩ := h
  exact ⟨L, h1, h2.later hb, h3, h4.trans (hb.mono h4.size), h5.below hb⟩
theorem EncS.bel {W : World} {cs : Array Value} {T : List UInt8} {w : World} {a : Option Addr} {c n : Nat} {X : List UInt8} (h : EncS W cs T w a c n X) : Below W.heap.size W w := by
  obtain ⟨L, h1, h2, h3, h4, h5⟩ := h
  exact h4
theorem EncS.box {W : World} {cs : Array Value} {T : List UInt8} {w : World} {a : Option Addr} {c n : Nat} {X : List UInt8} (h : EncS W cs T w a c n X) : BlkA 26 W.heap.size w cs := by
  obtain ⟨L, h1, h2, h3, h4, h5⟩ := h
  exact h5
theorem wpList_appEnc {w : World} {ops : Array Oper} {rest : List Oper} {o : Oper} {a : Act} {Q : Exit → Act → World → Prop} (hgd : o.guard = none) (s x : Operand) (ho : o.op = .call { callee := .builtin .append, args := #[s, x], argTypes := #[64, 64] })
    {W : World} {cs : Array Value} {T : List UInt8} {d0 : Option Addr} {c0 n : Nat} {M X : List UInt8} (hS : EncS W cs T w d0 c0 n (M ++ X)) (hs : a.eval s = .slice d0 n c0) (x2 : Option Addr) (m c2 : Nat) (hm : M.length = m) (hne : M ≠ []) (hx : a.eval x = .slice x2 m c2) (hM : AtV byV 1 w x2 M) (hT : T.length ≤ 10000000)
    (h : ∀ d c' w' N, EncS W cs T w' d c' N X → wpList Try.prog ops Q rest (a.put o.dst (.slice d N c')) w') : wpList Try.prog ops Q (o :: rest) a w := by
  obtain ⟨L, h1, h2, h3, h4, h5⟩ := hS
  have hl := congrArg List.length h3
  rw [List.length_append, List.length_append] at hl
  refine wpList_appByA hgd s x ho (W.heap.size + 1) d0 c0 L n h1 hs h2 x2 M m c2 hm hne hx hM (by omega) h5.lt ?_
  intro d c' w' N hN hg
  refine h d c' w' N ⟨L ++ M, hN, hg.own, by rw [List.append_assoc]; exact h3, h4.trans (hg.below h4.size (fun y hy => Nat.le_trans (Nat.le_succ _) (h2.lt y hy).1)), h5.keep (hg.keep _ h5.lt (fun y hy e => by have := (h2.lt y hy).1; omega))⟩
theorem encN_nat (n : Nat) : encN (n : Int) = uvarint n := by unfold encN; rw [Int.toNat_natCast]
theorem encN_ne (z : Int) : encN z ≠ [] := uv_ne _
theorem encZ_ne (z : Int) : encZ z ≠ [] := uv_ne _
theorem byteAt (w : World) (v : Nat) (h : v < 256) : AtV byV 1 (w.alloc (.cells #[.int .u8 (v : Int)] 5)) (some ⟨w.heap.size, 0, none⟩) [v.toUInt8] := by
  refine .inr ⟨_, 0, rfl, fun k x hx j u hu => ?_⟩
  match k, hx with
  | 0, hx =>
    cases hx
    have e : byV v.toUInt8 = [.int .u8 (v : Int)] := by unfold byV; rw [u8_nat h]
    rw [e] at hu
    refine ((blkA_new 5 w #[.int .u8 (v : Int)]).cell (k := j) (by rw [← Array.getElem?_toList]; exact hu)) ▸ ?_
    simp
theorem flat_fst {α β γ : Type} (f : α → List γ) (L : List (α × β)) : L.flatMap (fun x => f x.1) = (L.map Prod.fst).flatMap f := by rw [List.flatMap_map]
theorem flat_cut {α β : Type} (f : α → List β) {L : List α} {k : Nat} (hk : k < L.length) (X : List β) : (L.drop k).flatMap f ++ X = f L[k] ++ ((L.drop (k + 1)).flatMap f ++ X) := by
  rw [List.drop_eq_getElem_cons hk, List.flatMap_cons, List.append_assoc]
theorem flat_end {α β : Type} (f : α → List β) {L : List α} {k : Nat} (hk : L.length ≤ k) (X : List β) : (L.drop k).flatMap f ++ X = X := by
  rw [List.drop_eq_nil_of_le hk]; rfl
set_option maxRecDepth 100000 in
set_option maxHeartbeats 32000000 in
theorem rencode_any (p : PrgC) (aP : Option Addr) (cP : Nat) (aL : Option Addr) (cL : Nat) (aO : Option Addr) (cO : Nat) (LP : List (PrtC × (Option Addr × Nat))) (LL : List (LinC × (Option Addr × Nat))) (W : World) (hL : PrgL W p aP aL aO LP LL) (hF : FitP p) :
    Calls Try.prog 14 #[prgV p aP cP aL cL aO cO] W fun e w' => e = .returned (.tuple #[.string (strC (encT p)), .int .i64 (stepC codeS p).2]) ∧ Below W.heap.size W w' := by
  have hOK : (stepC codeS p).2 = 0 → PrgOk p := fun h => prgOk_in h hF
  have hET : encT p = if (stepC codeS p).2 = 0 then encC p else [] := rfl
  have CK : Hid (∀ U, Below W.heap.size W U → Calls Try.prog 9 #[prgV p aP cP aL cL aO cO] U fun e w' => e = .returned (.int .i64 (stepC codeS p).2) ∧ Below U.heap.size U w') := fun U hb => rcheck20_any p aP cP aL cL aO cO LP LL U (hL.below hb) hF
  have HL := hiddenC hL
  have HLP := hiddenC hL.lenP
  have HLL := hiddenC hL.lenL
  have CNT := hiddenC rcounted_any
  have INT := hiddenC rinteger_any
  obtain ⟨s2, hs2⟩ : ∃ s, (stepC codeS p).2 = s := ⟨_, rfl⟩
  obtain ⟨ET, hT⟩ : ∃ s, encT p = s := ⟨_, rfl⟩
  rw [hs2] at CK hOK hET ⊢
  rw [hT] at hET ⊢
  have HET := hiddenC hET
  have HOK := hiddenC hOK
  obtain ⟨PE, hPE⟩ : ∃ Q : Ending → World → Prop, (fun e w' => e = .returned (.tuple #[.string (strC ET), .int .i64 s2]) ∧ Below W.heap.size W w') = Q := ⟨_, rfl⟩
  rw [hPE]
  have HPE := hiddenC hPE
  have B0 := hiddenC ((Below.refl W.heap.size W).alloc (Nat.le_refl _) (.cells #[.int .i64 p.mem, .int .i64 p.cnt, .int .i64 p.ins, .int .i64 p.outs, .slice aP p.parts.length cP, .slice aL p.lines.length cL, .slice aO p.ops.length cO] 26))
  have G0 := hiddenC (blkA_new 26 W #[.int .i64 p.mem, .int .i64 p.cnt, .int .i64 p.ins, .int .i64 p.outs, .slice aP p.parts.length cP, .slice aL p.lines.length cL, .slice aO p.ops.length cO])
  unfold prgV at CK ⊢
  obtain ⟨nP, hnP⟩ : ∃ n, p.parts.length = n := ⟨_, rfl⟩
  obtain ⟨nL, hnL⟩ : ∃ n, p.lines.length = n := ⟨_, rfl⟩
  obtain ⟨nO, hnO⟩ : ∃ n, p.ops.length = n := ⟨_, rfl⟩
  have HNP := hiddenC hnP
  have HNL := hiddenC hnL
  have HNO := hiddenC hnO
  rw [hnP] at CK B0 G0 HLP ⊢
  rw [hnL] at CK B0 G0 HLL ⊢
  rw [hnO] at CK B0 G0 ⊢
  clear hPE hL hF hOK hET hs2 hT hnP hnL hnO
  go_enter Try.func14, Try.ntmps14
  go_upto_region 1 with fail
  generalize W.alloc (.cells #[.int .i64 p.mem, .int .i64 p.cnt, .int .i64 p.ins, .int .i64 p.outs, .slice aP nP cP, .slice aL nL cL, .slice aO nO cO] 26) = W1 at *
  have z0 := G0.out.cell (k := 0) rfl
  have z1 := G0.out.cell (k := 1) rfl
  have z2 := G0.out.cell (k := 2) rfl
  have z3 := G0.out.cell (k := 3) rfl
  have z4 := G0.out.cell (k := 4) rfl
  have z5 := G0.out.cell (k := 5) rfl
  have z6 := G0.out.cell (k := 6) rfl
  simp only [List.getElem_toArray, List.getElem_cons_zero, List.getElem_cons_succ] at z0 z1 z2 z3 z4 z5 z6
  go_upto_region 2 with (go_at_call 9; (with_reducible refine (CK.out _ B0.out).mono ?_); rintro e w2 ⟨rfl, q2⟩; have B2 := hiddenC (B0.out.trans (q2.mono B0.out.size)); have G2 := hiddenC (G0.out.below q2); clear q2)
  clear z0 z1 z2 z3 z4 z5 z6 B0 G0
  by_cases h0 : s2 = 0
  · have OK := hiddenC (HOK.out h0)
    have HE : Hid (ET = encC p) := by show _ = _; rw [HET.out, if_pos h0]
    subst h0
    clear HOK HET CK
    have HTL : Hid (ET.length ≤ 10000000) := by show _ ≤ _; rw [HE.out]; exact encC_len OK.out
    obtain ⟨X9, e9⟩ : ∃ X, (p.ops.drop 0).flatMap encO ++ [] = X := ⟨_, rfl⟩
    obtain ⟨X8, e8⟩ : ∃ X, encN (nO : Int) ++ X9 = X := ⟨_, rfl⟩
    obtain ⟨X7, e7⟩ : ∃ X, (LL.drop 0).flatMap (fun x => encB x.1) ++ X8 = X := ⟨_, rfl⟩
    obtain ⟨X6, e6⟩ : ∃ X, encN (nL : Int) ++ X7 = X := ⟨_, rfl⟩
    obtain ⟨X5, e5⟩ : ∃ X, (LP.drop 0).flatMap (fun x => encP x.1) ++ X6 = X := ⟨_, rfl⟩
    obtain ⟨X4, e4⟩ : ∃ X, encN (nP : Int) ++ X5 = X := ⟨_, rfl⟩
    obtain ⟨X3, e3⟩ : ∃ X, encN p.outs ++ X4 = X := ⟨_, rfl⟩
    obtain ⟨X2, e2⟩ : ∃ X, encN p.ins ++ X3 = X := ⟨_, rfl⟩
    obtain ⟨X1, e1⟩ : ∃ X, encN p.cnt ++ X2 = X := ⟨_, rfl⟩
    have HT0 : Hid (magC ++ (encN p.mem ++ X1) = ET) := by
      show _ = _
      rw [HE.out, ← e1, ← e2, ← e3, ← e4, ← e5, ← e6, ← e7, ← e8, ← e9]
      unfold encC encX
      simp only [List.drop_zero, List.append_assoc, List.append_nil, encN_nat, flat_fst, HL.out.pe, HL.out.le, HNP.out, HNL.out, HNO.out]
    have E1 := hiddenC e1
    have E2 := hiddenC e2
    have E3 := hiddenC e3
    have E4 := hiddenC e4
    have E5 := hiddenC e5
    have E6 := hiddenC e6
    have E7 := hiddenC e7
    have E8 := hiddenC e8
    have E9 := hiddenC e9
    have hmP := OK.out.partsL
    have hmL := OK.out.linesL
    have hmO := OK.out.opsL
    rw [HNP.out] at hmP
    rw [HNL.out] at hmL
    rw [HNO.out] at hmO
    clear e1 e2 e3 e4 e5 e6 e7 e8 e9 HE
    have BQ : Hid (W.heap.size + 1 ≤ w2.heap.size) := G2.out.lt
    have z0 := G2.out.cell (k := 0) rfl
    have z1 := G2.out.cell (k := 1) rfl
    have z2 := G2.out.cell (k := 2) rfl
    have z3 := G2.out.cell (k := 3) rfl
    have z4 := G2.out.cell (k := 4) rfl
    have z5 := G2.out.cell (k := 5) rfl
    have z6 := G2.out.cell (k := 6) rfl
    simp only [List.getElem_toArray, List.getElem_cons_zero, List.getElem_cons_succ] at z0 z1 z2 z3 z4 z5 z6
    go_upto_region 6 with (at_builtin; refine wpList_appStrC rfl _ _ rfl (W.heap.size + 1) magC rfl rfl (by decide) BQ.out ?_; intro d3 c3 w3 hc hb; have S0 := hiddenC (show EncS W #[.int .i64 p.mem, .int .i64 p.cnt, .int .i64 p.ins, .int .i64 p.outs, .slice aP nP cP, .slice aL nL cL, .slice aO nO cO] ET w3 d3 c3 magC.length (encN p.mem ++ X1) from ⟨magC, rfl, hc, HT0.out, B2.out.trans (hb.mono B2.out.size), G2.out.below hb⟩); clear hc hb)
    clear HT0 BQ B2 G2
    obtain ⟨n3, hn3⟩ : ∃ q, magC.length = q := ⟨_, rfl⟩
    rw [hn3] at S0 ⊢
    clear hn3
    clear z0 z1 z2 z3 z4 z5 z6
    have z0 := (S0.out.box).cell (k := 0) rfl
    have z1 := (S0.out.box).cell (k := 1) rfl
    have z2 := (S0.out.box).cell (k := 2) rfl
    have z3 := (S0.out.box).cell (k := 3) rfl
    have z4 := (S0.out.box).cell (k := 4) rfl
    have z5 := (S0.out.box).cell (k := 5) rfl
    have z6 := (S0.out.box).cell (k := 6) rfl
    simp only [List.getElem_toArray, List.getElem_cons_zero, List.getElem_cons_succ] at z0 z1 z2 z3 z4 z5 z6
    have CN := hiddenC (fun U => CNT.out p.mem OK.out.mem U)
    go_upto_region 7 with (first
      | (at_builtin; refine wpList_appEnc rfl _ _ rfl HSB.out rfl xa _ xc rfl (encN_ne _) rfl HX.out HTL.out ?_; intro dd ck wk nk hs; have S1 := hiddenC hs; clear hs)
      | (go_at_call 31; (with_reducible refine (CN.out _).mono ?_); rintro e wx ⟨xa, xc, rfl, h1, h2⟩; have HX := hiddenC (h1.at byV_len); have HSB := hiddenC (S0.out.later h2); clear h1 h2))
    clear CN HSB HX S0
    rw [← E1.out] at S1
    clear z0 z1 z2 z3 z4 z5 z6
    have z0 := (S1.out.box).cell (k := 0) rfl
    have z1 := (S1.out.box).cell (k := 1) rfl
    have z2 := (S1.out.box).cell (k := 2) rfl
    have z3 := (S1.out.box).cell (k := 3) rfl
    have z4 := (S1.out.box).cell (k := 4) rfl
    have z5 := (S1.out.box).cell (k := 5) rfl
    have z6 := (S1.out.box).cell (k := 6) rfl
    simp only [List.getElem_toArray, List.getElem_cons_zero, List.getElem_cons_succ] at z0 z1 z2 z3 z4 z5 z6
    have CN := hiddenC (fun U => CNT.out p.cnt OK.out.cnt U)
    go_upto_region 8 with (first
      | (at_builtin; refine wpList_appEnc rfl _ _ rfl HSB.out rfl xa _ xc rfl (encN_ne _) rfl HX.out HTL.out ?_; intro dd ck wk nk hs; have S2 := hiddenC hs; clear hs)
      | (go_at_call 31; (with_reducible refine (CN.out _).mono ?_); rintro e wx ⟨xa, xc, rfl, h1, h2⟩; have HX := hiddenC (h1.at byV_len); have HSB := hiddenC (S1.out.later h2); clear h1 h2))
    clear CN HSB HX S1
    rw [← E2.out] at S2
    clear z0 z1 z2 z3 z4 z5 z6
    have z0 := (S2.out.box).cell (k := 0) rfl
    have z1 := (S2.out.box).cell (k := 1) rfl
    have z2 := (S2.out.box).cell (k := 2) rfl
    have z3 := (S2.out.box).cell (k := 3) rfl
    have z4 := (S2.out.box).cell (k := 4) rfl
    have z5 := (S2.out.box).cell (k := 5) rfl
    have z6 := (S2.out.box).cell (k := 6) rfl
    simp only [List.getElem_toArray, List.getElem_cons_zero, List.getElem_cons_succ] at z0 z1 z2 z3 z4 z5 z6
    have CN := hiddenC (fun U => CNT.out p.ins OK.out.ins U)
    go_upto_region 9 with (first
      | (at_builtin; refine wpList_appEnc rfl _ _ rfl HSB.out rfl xa _ xc rfl (encN_ne _) rfl HX.out HTL.out ?_; intro dd ck wk nk hs; have S3 := hiddenC hs; clear hs)
      | (go_at_call 31; (with_reducible refine (CN.out _).mono ?_); rintro e wx ⟨xa, xc, rfl, h1, h2⟩; have HX := hiddenC (h1.at byV_len); have HSB := hiddenC (S2.out.later h2); clear h1 h2))
    clear CN HSB HX S2
    rw [← E3.out] at S3
    clear z0 z1 z2 z3 z4 z5 z6
    have z0 := (S3.out.box).cell (k := 0) rfl
    have z1 := (S3.out.box).cell (k := 1) rfl
    have z2 := (S3.out.box).cell (k := 2) rfl
    have z3 := (S3.out.box).cell (k := 3) rfl
    have z4 := (S3.out.box).cell (k := 4) rfl
    have z5 := (S3.out.box).cell (k := 5) rfl
    have z6 := (S3.out.box).cell (k := 6) rfl
    simp only [List.getElem_toArray, List.getElem_cons_zero, List.getElem_cons_succ] at z0 z1 z2 z3 z4 z5 z6
    have CN := hiddenC (fun U => CNT.out p.outs OK.out.outs U)
    go_upto_region 10 with (first
      | (at_builtin; refine wpList_appEnc rfl _ _ rfl HSB.out rfl xa _ xc rfl (encN_ne _) rfl HX.out HTL.out ?_; intro dd ck wk nk hs; have S4 := hiddenC hs; clear hs)
      | (go_at_call 31; (with_reducible refine (CN.out _).mono ?_); rintro e wx ⟨xa, xc, rfl, h1, h2⟩; have HX := hiddenC (h1.at byV_len); have HSB := hiddenC (S3.out.later h2); clear h1 h2))
    clear CN HSB HX S3
    rw [← E4.out] at S4
    clear z0 z1 z2 z3 z4 z5 z6
    have z0 := (S4.out.box).cell (k := 0) rfl
    have z1 := (S4.out.box).cell (k := 1) rfl
    have z2 := (S4.out.box).cell (k := 2) rfl
    have z3 := (S4.out.box).cell (k := 3) rfl
    have z4 := (S4.out.box).cell (k := 4) rfl
    have z5 := (S4.out.box).cell (k := 5) rfl
    have z6 := (S4.out.box).cell (k := 6) rfl
    simp only [List.getElem_toArray, List.getElem_cons_zero, List.getElem_cons_succ] at z0 z1 z2 z3 z4 z5 z6
    have CN := hiddenC (fun U => CNT.out (nP : Int) (by unfold CntOk; omega) U)
    go_upto_region 11 with (first
      | (at_builtin; refine wpList_appEnc rfl _ _ rfl HSB.out rfl xa _ xc rfl (encN_ne _) rfl HX.out HTL.out ?_; intro dd ck wk nk hs; have S5 := hiddenC hs; clear hs)
      | (go_at_call 31; (with_reducible refine (CN.out _).mono ?_); rintro e wx ⟨xa, xc, rfl, h1, h2⟩; have HX := hiddenC (h1.at byV_len); have HSB := hiddenC (S4.out.later h2); clear h1 h2))
    clear CN HSB HX S4
    rw [← E5.out] at S5
    clear z0 z1 z2 z3 z4 z5 z6
    have z0 := (S5.out.box).cell (k := 0) rfl
    have z1 := (S5.out.box).cell (k := 1) rfl
    have z2 := (S5.out.box).cell (k := 2) rfl
    have z3 := (S5.out.box).cell (k := 3) rfl
    have z4 := (S5.out.box).cell (k := 4) rfl
    have z5 := (S5.out.box).cell (k := 5) rfl
    have z6 := (S5.out.box).cell (k := 6) rfl
    simp only [List.getElem_toArray, List.getElem_cons_zero, List.getElem_cons_succ] at z0 z1 z2 z3 z4 z5 z6
    clear E1 E2 E3 E4 E5
    go_wp2
    go_loopg [5, 6] nP (fun gk u5 ui wr => ∃ (kx nn : Nat) (dr : Option Addr) (cr : Nat), kx ≤ nP ∧ gk = nP - kx ∧ u5 = .slice dr nn cr ∧ ui = .int .i64 (kx : Int) ∧ EncS W #[.int .i64 p.mem, .int .i64 p.cnt, .int .i64 p.ins, .int .i64 p.outs, .slice aP nP cP, .slice aL nL cL, .slice aO nO cO] ET wr dr cr nn ((LP.drop kx).flatMap (fun x => encP x.1) ++ X6))
    case atStart => exact ⟨0, _, _, _, Nat.zero_le _, rfl, rfl, rfl, S5.out⟩
    case round =>
      obtain ⟨kx, nn, dr, cr, hk, rfl, rfl, rfl, hs⟩ := hrel
      have T1 := hiddenC hs
      clear hs S5 z0 z1 z2 z3 z4 z5 z6
      have z0 := (T1.out.box).cell (k := 0) rfl
      have z1 := (T1.out.box).cell (k := 1) rfl
      have z2 := (T1.out.box).cell (k := 2) rfl
      have z3 := (T1.out.box).cell (k := 3) rfl
      have z4 := (T1.out.box).cell (k := 4) rfl
      have z5 := (T1.out.box).cell (k := 5) rfl
      have z6 := (T1.out.box).cell (k := 6) rfl
      simp only [List.getElem_toArray, List.getElem_cons_zero, List.getElem_cons_succ] at z0 z1 z2 z3 z4 z5 z6
      by_cases hlt : kx < nP
      · have hki : (kx : Int) < (nP : Int) := by omega
        have hwk : IntKind.i64.wrap ((kx : Int) + 1) = (kx : Int) + 1 := by rw [IntKind.wrap_i64]; omega
        have hkL : kx < LP.length := by rw [HLP.out]; exact hlt
        have hmm : LP[kx] ∈ LP := List.getElem_mem hkL
        have hcut := flat_cut (fun x : PrtC × (Option Addr × Nat) => encP x.1) hkL X6
        rw [hcut] at T1
        clear hcut
        have HPP := hiddenC (HL.out.pp _ hmm)
        have OKQ := hiddenC (OK.out.parts LP[kx].1 (by rw [← HL.out.pe]; exact List.mem_map.2 ⟨_, hmm, rfl⟩))
        rcases HL.out.pa with e1 | ⟨ab, off, rfl, hc⟩
        · rw [e1] at hkL; exact absurd hkL (Nat.not_lt_zero _)
        have c0 := hc kx _ (List.getElem?_eq_getElem hkL) 0 _ rfl
        have c1 := hc kx _ (List.getElem?_eq_getElem hkL) 1 _ rfl
        obtain ⟨x, hx⟩ : ∃ x, LP[kx] = x := ⟨_, rfl⟩
        rw [hx] at c0 c1 T1 HPP OKQ
        clear hc hmm hx
        obtain ⟨⟨tg, ps⟩, pa, pc⟩ := x
        simp only [Nat.add_zero] at c0 c1 HPP
        have C0 := hiddenC c0
        have C1 := hiddenC c1
        have htg : tg < 256 := OKQ.out.1
        have hpl : ps.length ≤ 16 := OKQ.out.2.1
        have HIN := hiddenC OKQ.out.2.2
        have TT : Hid (EncS W #[.int .i64 p.mem, .int .i64 p.cnt, .int .i64 p.ins, .int .i64 p.outs, .slice (some ⟨ab, off, none⟩) nP cP, .slice aL nL cL, .slice aO nO cO] ET wr dr cr nn ([tg.toUInt8] ++ (encN (ps.length : Int) ++ ((ps.drop 0).flatMap encZ ++ ((LP.drop (kx + 1)).flatMap (fun x => encP x.1) ++ X6))))) := by
          have q := T1.out
          show EncS _ _ _ _ _ _ _ _
          rw [encN_nat, List.drop_zero]
          have e : encP ⟨tg, ps⟩ = [tg.toUInt8] ++ (uvarint ps.length ++ ps.flatMap encZ) := rfl
          simp only [e, List.append_assoc] at q
          exact q
        clear T1 OKQ c0 c1
        obtain ⟨nz, hnz⟩ : ∃ q, ps.length = q := ⟨_, rfl⟩
        have HNZ := hiddenC hnz
        rw [hnz] at TT C1 hpl
        clear hnz
        obtain ⟨XK, hXK⟩ : ∃ q, (LP.drop (kx + 1)).flatMap (fun x => encP x.1) ++ X6 = q := ⟨_, rfl⟩
        have HXK := hiddenC hXK
        rw [hXK] at TT
        clear hXK
        have r0 := cellC_later TT.out.bel C0.out
        have b7 := (Below.refl wr.heap.size wr).alloc (Nat.le_refl _) (.cells #[.int .u8 (tg : Int)] 5)
        have HX := hiddenC (byteAt wr tg htg)
        have TT2 := hiddenC (TT.out.later b7)
        clear b7
        go_upto_region 15 with (at_builtin; refine wpList_appEnc rfl _ _ rfl TT2.out rfl (some ⟨wr.heap.size, 0, none⟩) 1 1 rfl (List.cons_ne_nil _ _) rfl HX.out HTL.out ?_; intro dd ck wk nk hs; have T2 := hiddenC hs; clear hs)
        clear TT TT2 HX r0
        clear z0 z1 z2 z3 z4 z5 z6
        have z0 := (T2.out.box).cell (k := 0) rfl
        have z1 := (T2.out.box).cell (k := 1) rfl
        have z2 := (T2.out.box).cell (k := 2) rfl
        have z3 := (T2.out.box).cell (k := 3) rfl
        have z4 := (T2.out.box).cell (k := 4) rfl
        have z5 := (T2.out.box).cell (k := 5) rfl
        have z6 := (T2.out.box).cell (k := 6) rfl
        simp only [List.getElem_toArray, List.getElem_cons_zero, List.getElem_cons_succ] at z0 z1 z2 z3 z4 z5 z6
        have r1 := cellC_later T2.out.bel C1.out
        have CN := hiddenC (fun U => CNT.out (nz : Int) (by unfold CntOk; omega) U)
        go_upto_region 16 with (first
          | (at_builtin; refine wpList_appEnc rfl _ _ rfl HSB.out rfl xa _ xc rfl (encN_ne _) rfl HX.out HTL.out ?_; intro dd ck wk nk hs; have T3 := hiddenC hs; clear hs)
          | (go_at_call 31; (with_reducible refine (CN.out _).mono ?_); rintro e wx ⟨xa, xc, rfl, h1, h2⟩; have HX := hiddenC (h1.at byV_len); have HSB := hiddenC (T2.out.later h2); clear h1 h2))
        clear CN HSB HX T2
        clear z0 z1 z2 z3 z4 z5 z6
        have z0 := (T3.out.box).cell (k := 0) rfl
        have z1 := (T3.out.box).cell (k := 1) rfl
        have z2 := (T3.out.box).cell (k := 2) rfl
        have z3 := (T3.out.box).cell (k := 3) rfl
        have z4 := (T3.out.box).cell (k := 4) rfl
        have z5 := (T3.out.box).cell (k := 5) rfl
        have z6 := (T3.out.box).cell (k := 6) rfl
        simp only [List.getElem_toArray, List.getElem_cons_zero, List.getElem_cons_succ] at z0 z1 z2 z3 z4 z5 z6
        clear r1
        go_wp2
        go_loopg [5, 7] nz (fun gk u5 ui wr => ∃ (jx nn : Nat) (dr : Option Addr) (cr : Nat), jx ≤ nz ∧ gk = nz - jx ∧ u5 = .slice dr nn cr ∧ ui = .int .i64 (jx : Int) ∧ EncS W #[.int .i64 p.mem, .int .i64 p.cnt, .int .i64 p.ins, .int .i64 p.outs, .slice (some ⟨ab, off, none⟩) nP cP, .slice aL nL cL, .slice aO nO cO] ET wr dr cr nn ((ps.drop jx).flatMap encZ ++ XK))
        case atStart => exact ⟨0, _, _, _, Nat.zero_le _, rfl, rfl, rfl, T3.out⟩
        case round =>
          obtain ⟨jx, nn, dr, cr, hj, rfl, rfl, rfl, hs⟩ := hrel
          have U1 := hiddenC hs
          clear hs T3 z0 z1 z2 z3 z4 z5 z6
          have z0 := (U1.out.box).cell (k := 0) rfl
          have z1 := (U1.out.box).cell (k := 1) rfl
          have z2 := (U1.out.box).cell (k := 2) rfl
          have z3 := (U1.out.box).cell (k := 3) rfl
          have z4 := (U1.out.box).cell (k := 4) rfl
          have z5 := (U1.out.box).cell (k := 5) rfl
          have z6 := (U1.out.box).cell (k := 6) rfl
          simp only [List.getElem_toArray, List.getElem_cons_zero, List.getElem_cons_succ] at z0 z1 z2 z3 z4 z5 z6
          have r1 := cellC_later U1.out.bel C1.out
          by_cases hjl : jx < nz
          · have hji : (jx : Int) < (nz : Int) := by omega
            have hwj : IntKind.i64.wrap ((jx : Int) + 1) = (jx : Int) + 1 := by rw [IntKind.wrap_i64]; omega
            have hjL : jx < ps.length := by rw [HNZ.out]; exact hjl
            have hcut := flat_cut encZ hjL XK
            rw [hcut] at U1
            clear hcut
            have hok := HIN.out _ (List.getElem_mem hjL)
            rcases HPP.out.below U1.out.bel with e1 | ⟨pb, po, rfl, hc⟩
            · rw [e1] at hjL; exact absurd hjL (Nat.not_lt_zero _)
            have r2 := hc jx hjL
            have e2 : nth ps jx = ps[jx] := by unfold nth; rw [List.getD_eq_getElem?_getD, List.getElem?_eq_getElem hjL]; rfl
            rw [e2] at r2
            obtain ⟨zz, hzz⟩ : ∃ q, ps[jx] = q := ⟨_, rfl⟩
            rw [hzz] at r2 U1 hok
            have HOKZ := hiddenC hok
            clear hc e2 hzz hok
            have CN := hiddenC (fun U => INT.out zz HOKZ.out U)
            go_upto_region 18 with (first
              | (at_builtin; refine wpList_appEnc rfl _ _ rfl HSB.out rfl xa _ xc rfl (encZ_ne _) rfl HX.out HTL.out ?_; intro dd ck wk nk hs; have U2 := hiddenC hs; clear hs)
              | (go_at_call 32; (with_reducible refine (CN.out _).mono ?_); rintro e wx ⟨xa, xc, rfl, h1, h2⟩; have HX := hiddenC (h1.at byV_len); have HSB := hiddenC (U1.out.later h2); clear h1 h2))
            clear CN HSB HX U1
            clear r1 r2
            clear z0 z1 z2 z3 z4 z5 z6
            have z0 := (U2.out.box).cell (k := 0) rfl
            have z1 := (U2.out.box).cell (k := 1) rfl
            have z2 := (U2.out.box).cell (k := 2) rfl
            have z3 := (U2.out.box).cell (k := 3) rfl
            have z4 := (U2.out.box).cell (k := 4) rfl
            have z5 := (U2.out.box).cell (k := 5) rfl
            have z6 := (U2.out.box).cell (k := 6) rfl
            simp only [List.getElem_toArray, List.getElem_cons_zero, List.getElem_cons_succ] at z0 z1 z2 z3 z4 z5 z6
            go_wp2
            go_roundg (nz - (jx + 1))
            case measure => omega
            case rel => exact ⟨jx + 1, _, _, _, by omega, rfl, rfl, by go_num, U2.out⟩
          · have hji : ¬ (jx : Int) < (nz : Int) := by omega
            have hend := flat_end encZ (L := ps) (k := jx) (by rw [HNZ.out]; omega) XK
            rw [hend] at U1
            rw [← HXK.out] at U1
            clear hend
            go_wp2
            go_roundg (nP - (kx + 1))
            case measure => omega
            case rel => exact ⟨kx + 1, _, _, _, by omega, rfl, rfl, by go_num, U1.out⟩
      · have hki : ¬ (kx : Int) < (nP : Int) := by omega
        have hend := flat_end (fun x : PrtC × (Option Addr × Nat) => encP x.1) (L := LP) (k := kx) (by rw [HLP.out]; omega) X6
        rw [hend, ← E6.out] at T1
        clear hend
        have CN := hiddenC (fun U => CNT.out (nL : Int) (by unfold CntOk; omega) U)
        go_upto_region 21 with (first
          | (at_builtin; refine wpList_appEnc rfl _ _ rfl HSB.out rfl xa _ xc rfl (encN_ne _) rfl HX.out HTL.out ?_; intro dd ck wk nk hs; have V1 := hiddenC hs; clear hs)
          | (go_at_call 31; (with_reducible refine (CN.out _).mono ?_); rintro e wx ⟨xa, xc, rfl, h1, h2⟩; have HX := hiddenC (h1.at byV_len); have HSB := hiddenC (T1.out.later h2); clear h1 h2))
        clear CN HSB HX T1
        rw [← E7.out] at V1
        clear z0 z1 z2 z3 z4 z5 z6
        have z0 := (V1.out.box).cell (k := 0) rfl
        have z1 := (V1.out.box).cell (k := 1) rfl
        have z2 := (V1.out.box).cell (k := 2) rfl
        have z3 := (V1.out.box).cell (k := 3) rfl
        have z4 := (V1.out.box).cell (k := 4) rfl
        have z5 := (V1.out.box).cell (k := 5) rfl
        have z6 := (V1.out.box).cell (k := 6) rfl
        simp only [List.getElem_toArray, List.getElem_cons_zero, List.getElem_cons_succ] at z0 z1 z2 z3 z4 z5 z6
        go_wp2
        go_loopg [5, 8] nL (fun gk u5 ui wr => ∃ (kx nn : Nat) (dr : Option Addr) (cr : Nat), kx ≤ nL ∧ gk = nL - kx ∧ u5 = .slice dr nn cr ∧ ui = .int .i64 (kx : Int) ∧ EncS W #[.int .i64 p.mem, .int .i64 p.cnt, .int .i64 p.ins, .int .i64 p.outs, .slice aP nP cP, .slice aL nL cL, .slice aO nO cO] ET wr dr cr nn ((LL.drop kx).flatMap (fun x => encB x.1) ++ X8))
        case atStart => exact ⟨0, _, _, _, Nat.zero_le _, rfl, rfl, rfl, V1.out⟩
        case round =>
          obtain ⟨kx, nn, dr, cr, hk, rfl, rfl, rfl, hs⟩ := hrel
          have T1 := hiddenC hs
          clear hs V1 z0 z1 z2 z3 z4 z5 z6
          have z0 := (T1.out.box).cell (k := 0) rfl
          have z1 := (T1.out.box).cell (k := 1) rfl
          have z2 := (T1.out.box).cell (k := 2) rfl
          have z3 := (T1.out.box).cell (k := 3) rfl
          have z4 := (T1.out.box).cell (k := 4) rfl
          have z5 := (T1.out.box).cell (k := 5) rfl
          have z6 := (T1.out.box).cell (k := 6) rfl
          simp only [List.getElem_toArray, List.getElem_cons_zero, List.getElem_cons_succ] at z0 z1 z2 z3 z4 z5 z6
          by_cases hlt : kx < nL
          · have hki : (kx : Int) < (nL : Int) := by omega
            have hwk : IntKind.i64.wrap ((kx : Int) + 1) = (kx : Int) + 1 := by rw [IntKind.wrap_i64]; omega
            have hkL : kx < LL.length := by rw [HLL.out]; exact hlt
            have hmm : LL[kx] ∈ LL := List.getElem_mem hkL
            have hcut := flat_cut (fun x : LinC × (Option Addr × Nat) => encB x.1) hkL X8
            rw [hcut] at T1
            clear hcut
            have HPP := hiddenC (HL.out.lp _ hmm)
            have OKQ := hiddenC (OK.out.lines LL[kx].1 (by rw [← HL.out.le]; exact List.mem_map.2 ⟨_, hmm, rfl⟩))
            rcases HL.out.la with e1 | ⟨ab, off, rfl, hc⟩
            · rw [e1] at hkL; exact absurd hkL (Nat.not_lt_zero _)
            have c0 := hc kx _ (List.getElem?_eq_getElem hkL) 0 _ rfl
            have c1 := hc kx _ (List.getElem?_eq_getElem hkL) 1 _ rfl
            have c2 := hc kx _ (List.getElem?_eq_getElem hkL) 2 _ rfl
            obtain ⟨x, hx⟩ : ∃ x, LL[kx] = x := ⟨_, rfl⟩
            rw [hx] at c0 c1 c2 T1 HPP OKQ
            clear hc hmm hx
            obtain ⟨⟨lb, ls, ps⟩, pa, pc⟩ := x
            simp only [Nat.add_zero] at c0 c1 c2 HPP
            have C0 := hiddenC c0
            have C1 := hiddenC c1
            have C2 := hiddenC c2
            have OKB := hiddenC OKQ.out.1
            have OKS := hiddenC OKQ.out.2.1
            have hpl : ps.length ≤ 1024 := OKQ.out.2.2.1
            have HIN := hiddenC OKQ.out.2.2.2
            have TT : Hid (EncS W #[.int .i64 p.mem, .int .i64 p.cnt, .int .i64 p.ins, .int .i64 p.outs, .slice aP nP cP, .slice (some ⟨ab, off, none⟩) nL cL, .slice aO nO cO] ET wr dr cr nn (encN lb ++ (encN ls ++ (encN (ps.length : Int) ++ ((ps.drop 0).flatMap encZ ++ ((LL.drop (kx + 1)).flatMap (fun x => encB x.1) ++ X8)))))) := by
              have q := T1.out
              show EncS _ _ _ _ _ _ _ _
              rw [encN_nat, List.drop_zero]
              have e : encB ⟨lb, ls, ps⟩ = encN lb ++ (encN ls ++ (uvarint ps.length ++ ps.flatMap encZ)) := rfl
              simp only [e, List.append_assoc] at q
              exact q
            clear T1 OKQ c0 c1 c2
            obtain ⟨nz, hnz⟩ : ∃ q, ps.length = q := ⟨_, rfl⟩
            have HNZ := hiddenC hnz
            rw [hnz] at TT C2 hpl
            clear hnz
            obtain ⟨XK, hXK⟩ : ∃ q, (LL.drop (kx + 1)).flatMap (fun x => encB x.1) ++ X8 = q := ⟨_, rfl⟩
            have HXK := hiddenC hXK
            rw [hXK] at TT
            clear hXK
            have r0 := cellC_later TT.out.bel C0.out
            have CN := hiddenC (fun U => CNT.out lb OKB.out U)
            go_upto_region 25 with (first
              | (at_builtin; refine wpList_appEnc rfl _ _ rfl HSB.out rfl xa _ xc rfl (encN_ne _) rfl HX.out HTL.out ?_; intro dd ck wk nk hs; have T2 := hiddenC hs; clear hs)
              | (go_at_call 31; (with_reducible refine (CN.out _).mono ?_); rintro e wx ⟨xa, xc, rfl, h1, h2⟩; have HX := hiddenC (h1.at byV_len); have HSB := hiddenC (TT.out.later h2); clear h1 h2))
            clear CN HSB HX TT
            clear r0
            clear z0 z1 z2 z3 z4 z5 z6
            have z0 := (T2.out.box).cell (k := 0) rfl
            have z1 := (T2.out.box).cell (k := 1) rfl
            have z2 := (T2.out.box).cell (k := 2) rfl
            have z3 := (T2.out.box).cell (k := 3) rfl
            have z4 := (T2.out.box).cell (k := 4) rfl
            have z5 := (T2.out.box).cell (k := 5) rfl
            have z6 := (T2.out.box).cell (k := 6) rfl
            simp only [List.getElem_toArray, List.getElem_cons_zero, List.getElem_cons_succ] at z0 z1 z2 z3 z4 z5 z6
            have r1 := cellC_later T2.out.bel C1.out
            have CN := hiddenC (fun U => CNT.out ls OKS.out U)
            go_upto_region 26 with (first
              | (at_builtin; refine wpList_appEnc rfl _ _ rfl HSB.out rfl xa _ xc rfl (encN_ne _) rfl HX.out HTL.out ?_; intro dd ck wk nk hs; have T3 := hiddenC hs; clear hs)
              | (go_at_call 31; (with_reducible refine (CN.out _).mono ?_); rintro e wx ⟨xa, xc, rfl, h1, h2⟩; have HX := hiddenC (h1.at byV_len); have HSB := hiddenC (T2.out.later h2); clear h1 h2))
            clear CN HSB HX T2
            clear r1
            clear z0 z1 z2 z3 z4 z5 z6
            have z0 := (T3.out.box).cell (k := 0) rfl
            have z1 := (T3.out.box).cell (k := 1) rfl
            have z2 := (T3.out.box).cell (k := 2) rfl
            have z3 := (T3.out.box).cell (k := 3) rfl
            have z4 := (T3.out.box).cell (k := 4) rfl
            have z5 := (T3.out.box).cell (k := 5) rfl
            have z6 := (T3.out.box).cell (k := 6) rfl
            simp only [List.getElem_toArray, List.getElem_cons_zero, List.getElem_cons_succ] at z0 z1 z2 z3 z4 z5 z6
            have r2 := cellC_later T3.out.bel C2.out
            have CN := hiddenC (fun U => CNT.out (nz : Int) (by unfold CntOk; omega) U)
            go_upto_region 27 with (first
              | (at_builtin; refine wpList_appEnc rfl _ _ rfl HSB.out rfl xa _ xc rfl (encN_ne _) rfl HX.out HTL.out ?_; intro dd ck wk nk hs; have T4 := hiddenC hs; clear hs)
              | (go_at_call 31; (with_reducible refine (CN.out _).mono ?_); rintro e wx ⟨xa, xc, rfl, h1, h2⟩; have HX := hiddenC (h1.at byV_len); have HSB := hiddenC (T3.out.later h2); clear h1 h2))
            clear CN HSB HX T3
            clear r2
            clear z0 z1 z2 z3 z4 z5 z6
            have z0 := (T4.out.box).cell (k := 0) rfl
            have z1 := (T4.out.box).cell (k := 1) rfl
            have z2 := (T4.out.box).cell (k := 2) rfl
            have z3 := (T4.out.box).cell (k := 3) rfl
            have z4 := (T4.out.box).cell (k := 4) rfl
            have z5 := (T4.out.box).cell (k := 5) rfl
            have z6 := (T4.out.box).cell (k := 6) rfl
            simp only [List.getElem_toArray, List.getElem_cons_zero, List.getElem_cons_succ] at z0 z1 z2 z3 z4 z5 z6
            go_wp2
            go_loopg [5, 9] nz (fun gk u5 ui wr => ∃ (jx nn : Nat) (dr : Option Addr) (cr : Nat), jx ≤ nz ∧ gk = nz - jx ∧ u5 = .slice dr nn cr ∧ ui = .int .i64 (jx : Int) ∧ EncS W #[.int .i64 p.mem, .int .i64 p.cnt, .int .i64 p.ins, .int .i64 p.outs, .slice aP nP cP, .slice (some ⟨ab, off, none⟩) nL cL, .slice aO nO cO] ET wr dr cr nn ((ps.drop jx).flatMap encZ ++ XK))
            case atStart => exact ⟨0, _, _, _, Nat.zero_le _, rfl, rfl, rfl, T4.out⟩
            case round =>
              obtain ⟨jx, nn, dr, cr, hj, rfl, rfl, rfl, hs⟩ := hrel
              have U1 := hiddenC hs
              clear hs T4 z0 z1 z2 z3 z4 z5 z6
              have z0 := (U1.out.box).cell (k := 0) rfl
              have z1 := (U1.out.box).cell (k := 1) rfl
              have z2 := (U1.out.box).cell (k := 2) rfl
              have z3 := (U1.out.box).cell (k := 3) rfl
              have z4 := (U1.out.box).cell (k := 4) rfl
              have z5 := (U1.out.box).cell (k := 5) rfl
              have z6 := (U1.out.box).cell (k := 6) rfl
              simp only [List.getElem_toArray, List.getElem_cons_zero, List.getElem_cons_succ] at z0 z1 z2 z3 z4 z5 z6
              have r1 := cellC_later U1.out.bel C2.out
              by_cases hjl : jx < nz
              · have hji : (jx : Int) < (nz : Int) := by omega
                have hwj : IntKind.i64.wrap ((jx : Int) + 1) = (jx : Int) + 1 := by rw [IntKind.wrap_i64]; omega
                have hjL : jx < ps.length := by rw [HNZ.out]; exact hjl
                have hcut := flat_cut encZ hjL XK
                rw [hcut] at U1
                clear hcut
                have hok := HIN.out _ (List.getElem_mem hjL)
                rcases HPP.out.below U1.out.bel with e1 | ⟨pb, po, rfl, hc⟩
                · rw [e1] at hjL; exact absurd hjL (Nat.not_lt_zero _)
                have r2 := hc jx hjL
                have e2 : nth ps jx = ps[jx] := by unfold nth; rw [List.getD_eq_getElem?_getD, List.getElem?_eq_getElem hjL]; rfl
                rw [e2] at r2
                obtain ⟨zz, hzz⟩ : ∃ q, ps[jx] = q := ⟨_, rfl⟩
                rw [hzz] at r2 U1 hok
                have HOKZ := hiddenC hok
                clear hc e2 hzz hok
                have CN := hiddenC (fun U => INT.out zz HOKZ.out U)
                go_upto_region 29 with (first
                  | (at_builtin; refine wpList_appEnc rfl _ _ rfl HSB.out rfl xa _ xc rfl (encZ_ne _) rfl HX.out HTL.out ?_; intro dd ck wk nk hs; have U2 := hiddenC hs; clear hs)
                  | (go_at_call 32; (with_reducible refine (CN.out _).mono ?_); rintro e wx ⟨xa, xc, rfl, h1, h2⟩; have HX := hiddenC (h1.at byV_len); have HSB := hiddenC (U1.out.later h2); clear h1 h2))
                clear CN HSB HX U1
                clear r1 r2
                clear z0 z1 z2 z3 z4 z5 z6
                have z0 := (U2.out.box).cell (k := 0) rfl
                have z1 := (U2.out.box).cell (k := 1) rfl
                have z2 := (U2.out.box).cell (k := 2) rfl
                have z3 := (U2.out.box).cell (k := 3) rfl
                have z4 := (U2.out.box).cell (k := 4) rfl
                have z5 := (U2.out.box).cell (k := 5) rfl
                have z6 := (U2.out.box).cell (k := 6) rfl
                simp only [List.getElem_toArray, List.getElem_cons_zero, List.getElem_cons_succ] at z0 z1 z2 z3 z4 z5 z6
                go_wp2
                go_roundg (nz - (jx + 1))
                case measure => omega
                case rel => exact ⟨jx + 1, _, _, _, by omega, rfl, rfl, by go_num, U2.out⟩
              · have hji : ¬ (jx : Int) < (nz : Int) := by omega
                have hend := flat_end encZ (L := ps) (k := jx) (by rw [HNZ.out]; omega) XK
                rw [hend] at U1
                rw [← HXK.out] at U1
                clear hend
                go_wp2
                go_roundg (nL - (kx + 1))
                case measure => omega
                case rel => exact ⟨kx + 1, _, _, _, by omega, rfl, rfl, by go_num, U1.out⟩
          · have hki : ¬ (kx : Int) < (nL : Int) := by omega
            have hend := flat_end (fun x : LinC × (Option Addr × Nat) => encB x.1) (L := LL) (k := kx) (by rw [HLL.out]; omega) X8
            rw [hend, ← E8.out] at T1
            clear hend
            have CN := hiddenC (fun U => CNT.out (nO : Int) (by unfold CntOk; omega) U)
            go_upto_region 32 with (first
              | (at_builtin; refine wpList_appEnc rfl _ _ rfl HSB.out rfl xa _ xc rfl (encN_ne _) rfl HX.out HTL.out ?_; intro dd ck wk nk hs; have V1 := hiddenC hs; clear hs)
              | (go_at_call 31; (with_reducible refine (CN.out _).mono ?_); rintro e wx ⟨xa, xc, rfl, h1, h2⟩; have HX := hiddenC (h1.at byV_len); have HSB := hiddenC (T1.out.later h2); clear h1 h2))
            clear CN HSB HX T1
            rw [← E9.out] at V1
            clear z0 z1 z2 z3 z4 z5 z6
            have z0 := (V1.out.box).cell (k := 0) rfl
            have z1 := (V1.out.box).cell (k := 1) rfl
            have z2 := (V1.out.box).cell (k := 2) rfl
            have z3 := (V1.out.box).cell (k := 3) rfl
            have z4 := (V1.out.box).cell (k := 4) rfl
            have z5 := (V1.out.box).cell (k := 5) rfl
            have z6 := (V1.out.box).cell (k := 6) rfl
            simp only [List.getElem_toArray, List.getElem_cons_zero, List.getElem_cons_succ] at z0 z1 z2 z3 z4 z5 z6
            go_wp2
            go_loopg [5, 10] nO (fun gk u5 ui wr => ∃ (kx nn : Nat) (dr : Option Addr) (cr : Nat), kx ≤ nO ∧ gk = nO - kx ∧ u5 = .slice dr nn cr ∧ ui = .int .i64 (kx : Int) ∧ EncS W #[.int .i64 p.mem, .int .i64 p.cnt, .int .i64 p.ins, .int .i64 p.outs, .slice aP nP cP, .slice aL nL cL, .slice aO nO cO] ET wr dr cr nn ((p.ops.drop kx).flatMap encO ++ []))
            case atStart => exact ⟨0, _, _, _, Nat.zero_le _, rfl, rfl, rfl, V1.out⟩
            case round =>
              obtain ⟨kx, nn, dr, cr, hk, rfl, rfl, rfl, hs⟩ := hrel
              have T1 := hiddenC hs
              clear hs V1 z0 z1 z2 z3 z4 z5 z6
              have z0 := (T1.out.box).cell (k := 0) rfl
              have z1 := (T1.out.box).cell (k := 1) rfl
              have z2 := (T1.out.box).cell (k := 2) rfl
              have z3 := (T1.out.box).cell (k := 3) rfl
              have z4 := (T1.out.box).cell (k := 4) rfl
              have z5 := (T1.out.box).cell (k := 5) rfl
              have z6 := (T1.out.box).cell (k := 6) rfl
              simp only [List.getElem_toArray, List.getElem_cons_zero, List.getElem_cons_succ] at z0 z1 z2 z3 z4 z5 z6
              by_cases hlt : kx < nO
              · have hki : (kx : Int) < (nO : Int) := by omega
                have hwk : IntKind.i64.wrap ((kx : Int) + 1) = (kx : Int) + 1 := by rw [IntKind.wrap_i64]; omega
                have hkL : kx < p.ops.length := by rw [HNO.out]; exact hlt
                have hmm : p.ops[kx] ∈ p.ops := List.getElem_mem hkL
                have hcut := flat_cut encO hkL []
                rw [hcut] at T1
                clear hcut
                have OKQ := hiddenC (OK.out.ops _ hmm)
                rcases HL.out.oa with e1 | ⟨ab, off, rfl, hc⟩
                · rw [e1] at hkL; exact absurd hkL (Nat.not_lt_zero _)
                have c0 := hc kx _ (List.getElem?_eq_getElem hkL) 0 _ rfl
                have c1 := hc kx _ (List.getElem?_eq_getElem hkL) 1 _ rfl
                have c2 := hc kx _ (List.getElem?_eq_getElem hkL) 2 _ rfl
                obtain ⟨x, hx⟩ : ∃ x, p.ops[kx] = x := ⟨_, rfl⟩
                rw [hx] at c0 c1 c2 T1 OKQ
                clear hc hmm hx
                obtain ⟨kd, qa, qb⟩ := x
                simp only [Nat.add_zero] at c0 c1 c2
                have C0 := hiddenC c0
                have C1 := hiddenC c1
                have C2 := hiddenC c2
                have htg : kd < 256 := OKQ.out.1
                have OKA := hiddenC OKQ.out.2.1
                have OKB := hiddenC OKQ.out.2.2
                have TT : Hid (EncS W #[.int .i64 p.mem, .int .i64 p.cnt, .int .i64 p.ins, .int .i64 p.outs, .slice aP nP cP, .slice aL nL cL, .slice (some ⟨ab, off, none⟩) nO cO] ET wr dr cr nn ([kd.toUInt8] ++ (encN qa ++ (encN qb ++ ((p.ops.drop (kx + 1)).flatMap encO ++ []))))) := by
                  have q := T1.out
                  show EncS _ _ _ _ _ _ _ _
                  have e : encO ⟨kd, qa, qb⟩ = [kd.toUInt8] ++ (encN qa ++ encN qb) := rfl
                  simp only [e, List.append_assoc, List.append_nil] at q ⊢
                  exact q
                clear T1 OKQ c0 c1 c2
                have r0 := cellC_later TT.out.bel C0.out
                have b7 := (Below.refl wr.heap.size wr).alloc (Nat.le_refl _) (.cells #[.int .u8 (kd : Int)] 5)
                have HX := hiddenC (byteAt wr kd htg)
                have TT2 := hiddenC (TT.out.later b7)
                clear b7
                go_upto_region 36 with (at_builtin; refine wpList_appEnc rfl _ _ rfl TT2.out rfl (some ⟨wr.heap.size, 0, none⟩) 1 1 rfl (List.cons_ne_nil _ _) rfl HX.out HTL.out ?_; intro dd ck wk nk hs; have T2 := hiddenC hs; clear hs)
                clear TT TT2 HX r0
                clear z0 z1 z2 z3 z4 z5 z6
                have z0 := (T2.out.box).cell (k := 0) rfl
                have z1 := (T2.out.box).cell (k := 1) rfl
                have z2 := (T2.out.box).cell (k := 2) rfl
                have z3 := (T2.out.box).cell (k := 3) rfl
                have z4 := (T2.out.box).cell (k := 4) rfl
                have z5 := (T2.out.box).cell (k := 5) rfl
                have z6 := (T2.out.box).cell (k := 6) rfl
                simp only [List.getElem_toArray, List.getElem_cons_zero, List.getElem_cons_succ] at z0 z1 z2 z3 z4 z5 z6
                have r1 := cellC_later T2.out.bel C1.out
                have CN := hiddenC (fun U => CNT.out qa OKA.out U)
                go_upto_region 37 with (first
                  | (at_builtin; refine wpList_appEnc rfl _ _ rfl HSB.out rfl xa _ xc rfl (encN_ne _) rfl HX.out HTL.out ?_; intro dd ck wk nk hs; have T3 := hiddenC hs; clear hs)
                  | (go_at_call 31; (with_reducible refine (CN.out _).mono ?_); rintro e wx ⟨xa, xc, rfl, h1, h2⟩; have HX := hiddenC (h1.at byV_len); have HSB := hiddenC (T2.out.later h2); clear h1 h2))
                clear CN HSB HX T2
                clear r1
                clear z0 z1 z2 z3 z4 z5 z6
                have z0 := (T3.out.box).cell (k := 0) rfl
                have z1 := (T3.out.box).cell (k := 1) rfl
                have z2 := (T3.out.box).cell (k := 2) rfl
                have z3 := (T3.out.box).cell (k := 3) rfl
                have z4 := (T3.out.box).cell (k := 4) rfl
                have z5 := (T3.out.box).cell (k := 5) rfl
                have z6 := (T3.out.box).cell (k := 6) rfl
                simp only [List.getElem_toArray, List.getElem_cons_zero, List.getElem_cons_succ] at z0 z1 z2 z3 z4 z5 z6
                have r2 := cellC_later T3.out.bel C2.out
                have CN := hiddenC (fun U => CNT.out qb OKB.out U)
                go_upto_region 34 with (first
                  | (at_builtin; refine wpList_appEnc rfl _ _ rfl HSB.out rfl xa _ xc rfl (encN_ne _) rfl HX.out HTL.out ?_; intro dd ck wk nk hs; have T4 := hiddenC hs; clear hs)
                  | (go_at_call 31; (with_reducible refine (CN.out _).mono ?_); rintro e wx ⟨xa, xc, rfl, h1, h2⟩; have HX := hiddenC (h1.at byV_len); have HSB := hiddenC (T3.out.later h2); clear h1 h2))
                clear CN HSB HX T3
                clear r2
                clear z0 z1 z2 z3 z4 z5 z6
                have z0 := (T4.out.box).cell (k := 0) rfl
                have z1 := (T4.out.box).cell (k := 1) rfl
                have z2 := (T4.out.box).cell (k := 2) rfl
                have z3 := (T4.out.box).cell (k := 3) rfl
                have z4 := (T4.out.box).cell (k := 4) rfl
                have z5 := (T4.out.box).cell (k := 5) rfl
                have z6 := (T4.out.box).cell (k := 6) rfl
                simp only [List.getElem_toArray, List.getElem_cons_zero, List.getElem_cons_succ] at z0 z1 z2 z3 z4 z5 z6
                go_wp2
                go_roundg (nO - (kx + 1))
                case measure => omega
                case rel => exact ⟨kx + 1, _, _, _, by omega, rfl, rfl, by go_num, T4.out⟩
              · have hki : ¬ (kx : Int) < (nO : Int) := by omega
                have hend := flat_end encO (L := p.ops) (k := kx) (by rw [HNO.out]; omega) []
                rw [hend] at T1
                clear hend
                obtain ⟨L, h1, h2, h3, h4, h5⟩ := T1.out
                rw [List.append_nil] at h3
                subst h3
                have cv := convC h2
                rw [h1] at cv
                have HB := hiddenC h4
                clear h1 h2 h4 h5 T1
                go_wp2
                rw [← HPE.out]
                exact ⟨by first | rfl | simp, HB.out⟩
  · have q0 : (s2 != 0) = true := by simpa using h0
    have HE : Hid (ET = []) := by show _ = _; rw [HET.out, if_neg h0]
    clear h0 HET HOK CK
    go_wp2
    rw [← HPE.out, HE.out]
    exact ⟨by first | rfl | simp [strC], B2.out⟩
end Go.Proofs.Ytdjplmlfcolklaa

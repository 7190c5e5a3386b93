/- Texts of one chain, laid one behind the other. -/
import Derived.Test.YtdjplmlfcolklaaPartCodeEncodes18
import Derived.Laws.BytesArg
import Derived.Laws.IdiomStrings
namespace Go.Proofs.Ytdjplmlfcolklaa
open Go.Lib Go.ChangeShapes Go.WideShapes Go.ChangeAt Go.RowKit
theorem codeS_len (t : Nat) (zs : List Int) (h : codeS t zs = 0) : zs.length ≤ 16 := by
  have hw : ∀ n m : Int, wB n m = true → n ≤ m := fun n m h => (wB_bound h).2
  unfold codeS ofS at h
  by_cases h1 : 1 ≤ t ∧ t ≤ 11
  · rw [if_pos h1] at h
    by_cases h2 : okS t zs = true
    · clear h
      unfold okS at h2
      match t, h1, h2 with
      | 1, _, h2 => have := hw _ _ h2; omega
      | 2, _, h2 => have := of_decide_eq_true (Bool.and_eq_true_iff.1 h2).1; omega
      | 3, _, h2 => have := of_decide_eq_true (Bool.and_eq_true_iff.1 h2).1; omega
      | 4, _, h2 => have := of_decide_eq_true (Bool.and_eq_true_iff.1 h2).1; omega
      | 5, _, h2 => have := of_decide_eq_true (Bool.and_eq_true_iff.1 h2).1; omega
      | 6, _, h2 => have := of_decide_eq_true (Bool.and_eq_true_iff.1 h2).1; omega
      | 7, _, h2 => have := of_decide_eq_true h2; omega
      | 8, _, h2 => have := of_decide_eq_true h2; omega
      | 9, _, h2 => have := of_decide_eq_true (Bool.and_eq_true_iff.1 h2).1; omega
      | 10, _, h2 => have := of_decide_eq_true h2; omega
      | 11, _, h2 => have := of_decide_eq_true (Bool.and_eq_true_iff.1 h2).1; omega
    · rw [if_neg h2] at h; cases h
  · rw [if_neg h1] at h; cases h
theorem prgOk_in {p : PrgC} (h : (stepC codeS p).2 = 0) (hF : FitP p) : PrgOk p := prgOk_of codeS_len h hF.fit
theorem convC {B : Nat} {w : World} {a : Option Addr} {l : List UInt8} {c : Nat} (h : CapV 5 byV 1 B w a c l) : (convert 64 9 (.slice a l.length c)).run Try.prog w = .ok (.string (strC l)) w := by
  rcases h.at byV_len with e | ⟨b, off, rfl, hc⟩
  · subst e
    cases a with
    | none => exact run_convert_bytes_nil w 64 5 Try.underlying64 Try.underlying5 0 c 9 Try.underlying9
    | some ad => exact run_convert_bytes_back w 64 9 5 ad c [] Try.underlying64 Try.underlying5 Try.underlying9 (fun j hj => absurd hj (Nat.not_lt_zero _))
  · refine run_convert_bytes_back w 64 9 5 ⟨b, off, none⟩ c l Try.underlying64 Try.underlying5 Try.underlying9 (fun j hj => ?_)
    have q := hc j _ (List.getElem?_eq_getElem hj) 0 _ rfl
    rw [Addr.add_lit]
    rw [Nat.mul_one, Nat.add_zero] at q
    exact q
/-- What Encode answers. -/
def encT (p : PrgC) : List UInt8 := if (stepC codeS p).2 = 0 then encC p else []
set_option maxRecDepth 100000 in
set_option maxHeartbeats 8000000 in
theorem encode_any (p : PrgC) (aP : Option Addr) (cP : Nat) (aL : Option Addr) (cL : Nat) (aO : Option Addr) (cO : Nat) (LP : List (PrtC × (Option Addr × Nat))) (LL : List (LinC × (Option Addr × Nat))) (W : World) (hL : PrgL W p aP aL aO LP LL) (hF : FitP p) :
    Calls Try.prog 15 #[prgV p aP cP aL cL aO cO] W fun e w' => e = .returned (.tuple #[.string (strC (encT p)), .int .i64 (stepC codeS p).2]) ∧ Below W.heap.size W w' := by
  obtain ⟨PE, hPE⟩ : ∃ Q : Ending → World → Prop, (fun e w' => e = .returned (.tuple #[.string (strC (encT p)), .int .i64 (stepC codeS p).2]) ∧ Below W.heap.size W w') = Q := ⟨_, rfl⟩
  rw [hPE]
  have HPE := hiddenC hPE
  have HL := hiddenC hL
  have b0 := (Below.refl W.heap.size W).alloc (Nat.le_refl _) (.cells #[.int .i64 p.mem, .int .i64 p.cnt, .int .i64 p.ins, .int .i64 p.outs, .slice aP p.parts.length cP, .slice aL p.lines.length cL, .slice aO p.ops.length cO] 26)
  have CC := hiddenC (checkC_any p aP cP aL cL aO cO LP LL _ (hL.below b0) hF)
  have WP : Hid ((stepC codeS p).2 = 0 → ∀ K U, Below W.heap.size W U → W.heap.size ≤ K → WrA K K U [] none 0 → Calls Try.prog 33 #[.pointer (some ⟨K, 0, none⟩), prgV p aP cP aL cL aO cO] U fun e w' => e = .returned (.tuple #[]) ∧ (∃ a' c', WrA K K w' (encC p) a' c') ∧ Below K U w') := fun h0 K U hb hK hW =>
    wrProgram_any K K W U p aP cP aL cL aO cO LP LL hL hb hK hW (Nat.le_of_lt hW.box.lt) (prgOk_in h0 hF)
  have EE : Hid (encT p = if (stepC codeS p).2 = 0 then encC p else []) := rfl
  unfold prgV at CC WP ⊢
  generalize p.parts.length = nP at *
  generalize p.lines.length = nL at *
  generalize p.ops.length = nO at *
  have B0 := hiddenC b0
  have G0 := hiddenC (blkA_new 26 W #[.int .i64 p.mem, .int .i64 p.cnt, .int .i64 p.ins, .int .i64 p.outs, .slice aP nP cP, .slice aL nL cL, .slice aO nO cO])
  have z0 := G0.out.cell (k := 0) rfl
  have z1 := G0.out.cell (k := 1) rfl
  have z2 := G0.out.cell (k := 2) rfl
  have z3 := G0.out.cell (k := 3) rfl
  have z4 := G0.out.cell (k := 4) rfl
  have z5 := G0.out.cell (k := 5) rfl
  have z6 := G0.out.cell (k := 6) rfl
  simp only [List.getElem_toArray, List.getElem_cons_zero, List.getElem_cons_succ] at z0 z1 z2 z3 z4 z5 z6
  clear hPE hL hF b0
  go_enter Try.func15, Try.ntmps15
  go_upto_region 1 with fail
  generalize W.alloc (.cells #[.int .i64 p.mem, .int .i64 p.cnt, .int .i64 p.ins, .int .i64 p.outs, .slice aP nP cP, .slice aL nL cL, .slice aO nO cO] 26) = W1 at *
  by_cases h1 : (stepC codeS p).2 = 0
  · have ER : Hid (encT p = encC p) := by
      have q := EE.out
      rw [if_pos h1] at q
      exact q
    have WP1 := hiddenC (WP.out h1)
    have H10 := hiddenC h1
    rw [h1] at CC
    clear EE WP h1
    go_upto_region 4 with (go_at_call 8; (with_reducible refine CC.out.mono ?_); rintro e w2 ⟨rfl, b2⟩; have B2 := hiddenC (B0.out.trans (b2.mono B0.out.size)); have G2 := hiddenC (G0.out.below b2); clear b2)
    have b3 : Hid (Below w2.heap.size w2 (w2.alloc (.cells #[.slice none 0 0] 67))) := (Below.refl _ _).alloc (Nat.le_refl _) _
    have W3 : Hid (WrA w2.heap.size w2.heap.size (w2.alloc (.cells #[.slice none 0 0] 67)) [] none 0) := ⟨blkA_new _ _ _, CapV.nil _ _, (fun x hx => by cases hx), Nat.le_refl _⟩
    have G3 := hiddenC (G2.out.below b3.out)
    have B3 := hiddenC (B2.out.trans (b3.out.mono B2.out.size))
    clear z0 z1 z2 z3 z4 z5 z6
    go_upto_region 5 with fail
    generalize w2.alloc (.cells #[.slice none 0 0] 67) = w3 at *
    have WP2 := hiddenC (WP1.out w2.heap.size w3 B3.out B2.out.size W3.out)
    obtain ⟨K, hK⟩ : ∃ x, w2.heap.size = x := ⟨_, rfl⟩
    have KW : Hid (W.heap.size ≤ K) := by have := B2.out.size; show _ ≤ _; omega
    rw [hK] at WP2 W3 b3 ⊢
    have z0 := G3.out.cell (k := 0) rfl
    have z1 := G3.out.cell (k := 1) rfl
    have z2 := G3.out.cell (k := 2) rfl
    have z3 := G3.out.cell (k := 3) rfl
    have z4 := G3.out.cell (k := 4) rfl
    have z5 := G3.out.cell (k := 5) rfl
    have z6 := G3.out.cell (k := 6) rfl
    simp only [List.getElem_toArray, List.getElem_cons_zero, List.getElem_cons_succ] at z0 z1 z2 z3 z4 z5 z6
    clear hK
    generalize encC p = l at *
    obtain ⟨N, hN⟩ : ∃ N, l.length = N := ⟨_, rfl⟩
    have HN := hiddenC hN
    clear hN
    go_upto_region 6 with (go_at_call 33; (with_reducible refine WP2.out.mono ?_); rintro e w4 ⟨rfl, ⟨a4, c4, h4⟩, b4⟩; have H4 := hiddenC h4; have B4 := hiddenC (B3.out.trans (b4.mono KW.out)); clear h4 b4)
    clear z0 z1 z2 z3 z4 z5 z6
    have y0 := H4.out.box.cell (k := 0) rfl
    have cv := convC H4.out.own
    simp only [List.getElem_toArray, List.getElem_cons_zero] at y0
    rw [HN.out] at y0 cv
    go_wp2
    rw [← HPE.out, ER.out, H10.out]
    exact ⟨rfl, B4.out⟩
  · have q1 : ((stepC codeS p).2 != 0) = true := by simpa using h1
    have ER : Hid (encT p = []) := by
      have q := EE.out
      rw [if_neg h1] at q
      exact q
    clear EE WP h1
    generalize (stepC codeS p).2 = r at *
    go_wp2_with (go_at_call 8; (with_reducible refine CC.out.mono ?_); rintro e w2 ⟨rfl, b2⟩; have B2 := hiddenC (B0.out.trans (b2.mono B0.out.size)); clear b2)
    rw [← HPE.out, ER.out]
    exact ⟨rfl, B2.out⟩
/-- A row of bytes put behind a row of bytes. -/
theorem wpList_appByA {w : World} {ops : Array Oper} {rest : List Oper} {o : Oper} {a : Act} {Q : Exit → Act → World → Prop} (hgd : o.guard = none) (s x : Operand) (ho : o.op = .call { callee := .builtin .append, args := #[s, x], argTypes := #[64, 64] })
    (B : Nat) (d0 : Option Addr) (c0 : Nat) (zs : List UInt8) (n : Nat) (hl : zs.length = n) (hs : a.eval s = .slice d0 n c0) (hown : CapV 5 byV 1 B w d0 c0 zs) (x2 : Option Addr) (M : List UInt8) (m c2 : Nat) (hm : M.length = m) (hne : M ≠ []) (hx : a.eval x = .slice x2 m c2) (hM : AtV byV 1 w x2 M) (hn : n + m ≤ 100000000000) (hB : B ≤ w.heap.size)
    (h : ∀ d c' w' N, (zs ++ M).length = N → GrwV 5 byV 1 B w d0 (zs ++ M) w' d c' → wpList Try.prog ops Q rest (a.put o.dst (.slice d N c')) w') : wpList Try.prog ops Q (o :: rest) a w := by
  subst hl hm
  obtain ⟨i1, hi1, hy0, hy1, hy2⟩ := info_parts Try.infoByC
  rcases hM with e | ⟨b, off, rfl, hc⟩
  · exact absurd e hne
  refine wpList_append_told (P := Try.prog) w hgd s x 64 ho B 5 i1 _ 1 1 Try.underlying64 hi1 hy0 hy1 hy2 rfl (by decide) (.slice d0 zs.length c0) zs.length _ hs hown ⟨b, off, none⟩ M.length c2 (List.length_pos_iff.2 hne) (M.flatMap byV) hx (by rw [flatV_len byV_len]) (fun j u hu => ?_) (fun u hu => ?_) (by unfold maxLen; omega) (by omega) hB ?_
  · have hj : j < M.length := by have := (List.getElem?_eq_some_iff.1 hu).1; rw [flatV_len byV_len, Nat.mul_one] at this; exact this
    have hg := flatV_get (f := byV) (c := 1) byV_len (List.getElem?_eq_getElem hj) (j := 0) (by decide)
    rw [Nat.mul_one, Nat.add_zero, hu] at hg
    have q := hc j _ (List.getElem?_eq_getElem hj) 0 u hg.symm
    rw [Nat.mul_one, Nat.add_zero] at q
    rw [Addr.add_lit]; exact q
  · obtain ⟨y, -, hy⟩ := List.mem_flatMap.1 hu
    exact byV_one y u hy
  · intro v' w' h2 h3
    rcases h3 with ⟨g1, cap, e1, rfl, hg⟩ | ⟨cap, rfl, hg⟩
    · cases e1
      refine h _ _ w' _ List.length_append ⟨by unfold CapV; rw [List.length_append, List.flatMap_append]; exact h2, fun k hk hne => ?_, fun z hz => .inl hz, hg.size, hg.os, hg.tape, hg.output⟩
      exact hg.block k hk (fun e => by cases e; exact hne _ rfl rfl)
    · refine h _ _ w' _ List.length_append ⟨by unfold CapV; rw [List.length_append, List.flatMap_append]; exact h2, fun k hk hne => ?_, fun z hz => by cases hz; exact .inr (Nat.le_refl _), hg.size, hg.os, hg.tape, hg.output⟩
      exact hg.block k hk (fun e => by cases e)
theorem uv_ne (n : Nat) : uvarint n ≠ [] := by
  by_cases h : 128 ≤ n
  · rw [uvarint_big h]; exact List.cons_ne_nil _ _
  · rw [uvarint_small (by omega)]; exact List.cons_ne_nil _ _
/-- Bytes of a call's own. -/
def BytE (w : World) (l : List UInt8) (e : Ending) (w' : World) : Prop := ∃ a c, e = .returned (.slice a l.length c) ∧ CapV 5 byV 1 w.heap.size w' a c l ∧ Below w.heap.size w w'
set_option maxRecDepth 100000 in
set_option maxHeartbeats 4000000 in
theorem runsigned_any (n : Nat) (hn : n < 18446744073709551616) (w : World) : Calls Try.prog 50 #[.int .u64 (n : Int)] w (BytE w (uvarint n)) := by
  obtain ⟨PE, hPE⟩ : ∃ Q : Ending → World → Prop, BytE w (uvarint n) = Q := ⟨_, rfl⟩
  rw [hPE]
  have HPE : Hid (∀ a c w', CapV 5 byV 1 w.heap.size w' a c (uvarint n) → Below w.heap.size w w' → PE (.returned (.slice a (uvarint n).length c)) w') := fun a c w' h1 h2 => by rw [← hPE]; exact ⟨a, c, rfl, h1, h2⟩
  have HN := hiddenC hn
  have HL : Hid ((uvarint n).length ≤ 10) := Lib.uvarint_length64 hn
  clear hPE hn
  go_enter Try.func50, Try.ntmps50
  go_wp2
  go_loopg [0, 3] n (fun gk u0 u3 wr => ∃ (m : Nat) (pre : List UInt8) (a' : Option Addr) (c' : Nat), m = gk ∧ u0 = .int .u64 (m : Int) ∧ u3 = .slice a' pre.length c' ∧ m ≤ n ∧ uvarint n = pre ++ uvarint m ∧ CapV 5 byV 1 w.heap.size wr a' c' pre ∧ Below w.heap.size w wr)
  case atStart => exact ⟨n, [], none, 0, rfl, rfl, rfl, Nat.le_refl _, rfl, CapV.nil _ _, Below.refl _ _⟩
  case round =>
    obtain ⟨m, pre, a1, c1, rfl, rfl, rfl, hm, he, hC, hB⟩ := hrel
    have HE := hiddenC he
    have HC := hiddenC hC
    have HB := hiddenC hB
    have PL : Hid (pre.length ≤ 10) := by
      have q := congrArg List.length he
      rw [List.length_append] at q
      have := HL.out
      show _ ≤ _; omega
    have hmn : m < 18446744073709551616 := Nat.lt_of_le_of_lt hm HN.out
    obtain ⟨N, hN⟩ : ∃ N, pre.length = N := ⟨_, rfl⟩
    have HNN := hiddenC hN
    rw [hN]
    clear he hC hB hN
    by_cases h128 : 128 ≤ m
    · have hmi : (m : Int) ≥ 128 := by omega
      obtain ⟨x, hxe⟩ : ∃ x : UInt8, (m % 128 + 128).toUInt8 = x := ⟨_, rfl⟩
      obtain ⟨r, hr⟩ : ∃ r : Int, ((m % 128 : Nat) : Int) = r := ⟨_, rfl⟩
      obtain ⟨q, hq⟩ : ∃ q : Nat, m / 128 = q := ⟨_, rfl⟩
      have hr1 : 0 ≤ r ∧ r < 128 := by omega
      have t1 : IntKind.u64.wrap ((m : Int).tmod 128) = r := by
        rw [Int.tmod_eq_emod_of_nonneg (by omega), IntKind.wrap_u64]; omega
      have t1' : (m : Int) % 128 = r := by omega
      have t4' : (m : Int) / 128 = (q : Int) := by omega
      have t5 : IntKind.u64.wrap (q : Int) = q := by rw [IntKind.wrap_u64]; omega
      have t6 : IntKind.u64.wrap r = r := by rw [IntKind.wrap_u64]; omega
      have t2 : IntKind.u64.wrap (r + 128) = r + 128 := by rw [IntKind.wrap_u64]; omega
      have t3 : IntKind.u8.wrap (r + 128) = r + 128 := by rw [IntKind.wrap_u8]; omega
      have t3' : (r + 128) % 256 = r + 128 := by omega
      have t4 : IntKind.u64.wrap ((m : Int).tdiv 128) = (q : Int) := by
        rw [Int.tdiv_eq_ediv_of_nonneg (by omega), IntKind.wrap_u64]; omega
      have HX : Hid ((x.toNat : Int) = r + 128) := by
        show _ = _
        rw [← hxe, u8_nat (by omega), ← hr]; omega
      have HE2 : Hid (uvarint n = (pre ++ [x]) ++ uvarint q) := by
        show _ = _
        rw [HE.out, uvarint_big h128, hxe, hq, List.append_assoc]; rfl
      have hlt : q < m := by omega
      have hqn : q ≤ n := by omega
      clear HE hxe hr hq h128 hmn hm
      have b1 : Hid (Below wr.heap.size wr (wr.alloc (.cells #[.int .u8 (r + 128)] 5))) := (Below.refl _ _).alloc (Nat.le_refl _) _
      have HC2 := hiddenC (HC.out.later b1.out)
      have CX : Hid (∀ j u, (byV x)[j]? = some u → (wr.alloc (.cells #[.int .u8 (r + 128)] 5)).cell? ⟨wr.heap.size, j, none⟩ = some u) := fun j u hu => by
        refine (blkA_new 5 wr #[.int .u8 (r + 128)]).cell ?_
        have e : byV x = [.int .u8 (r + 128)] := by unfold byV; rw [HX.out]
        rw [e] at hu
        rw [← Array.getElem?_toList]; exact hu
      have BQ2 : Hid (w.heap.size ≤ (wr.alloc (.cells #[.int .u8 (r + 128)] 5)).heap.size) := Nat.le_trans HB.out.size b1.out.size
      have HB2 := hiddenC (HB.out.trans (b1.out.mono HB.out.size))
      go_wp2_with (at_builtin; refine wpList_appV rfl _ _ 64 rfl Try.underlying64 (.int .u8 0) 1 Try.infoByC rfl (by decide) (by decide) byV_len w.heap.size a1 c1 pre N HNN.out rfl HC2.out wr.heap.size x rfl CX.out (byV_one _) (by have := PL.out; have := HNN.out; omega) BQ2.out ?_; intro d k w5 hg; have HG := hiddenC hg.own; have HB5 := hiddenC (HB2.out.trans (hg.below BQ2.out (fun y hy => (HC2.out.lt y hy).1))); clear hg)
      have LN : (pre ++ [x]).length = N + 1 := by rw [List.length_append, HNN.out]; rfl
      go_roundg q
      case measure => exact hlt
      case rel => exact ⟨q, pre ++ [x], d, k, rfl, by go_num, by rw [LN], hqn, HE2.out, HG.out, HB5.out⟩
    · have hmi : ¬ (m : Int) ≥ 128 := by omega
      obtain ⟨x, hxe⟩ : ∃ x : UInt8, m.toUInt8 = x := ⟨_, rfl⟩
      obtain ⟨v, hv⟩ : ∃ v : Int, (m : Int) = v := ⟨_, rfl⟩
      have HX : Hid ((x.toNat : Int) = v) := by
        show _ = _
        rw [← hxe, u8_nat (by omega), hv]
      have HE2 : Hid (uvarint n = pre ++ [x]) := by
        show _ = _
        rw [HE.out, uvarint_small (by omega), hxe]
      have hvr : 0 ≤ v ∧ v < 128 := by omega
      have hvw : IntKind.u8.wrap v = v := by rw [IntKind.wrap_u8]; omega
      have hvm : v % 256 = v := by omega
      rw [hv] at hmi ⊢
      clear HE hxe hv h128 hmn hm
      have b1 : Hid (Below wr.heap.size wr (wr.alloc (.cells #[.int .u8 v] 5))) := (Below.refl _ _).alloc (Nat.le_refl _) _
      have HC2 := hiddenC (HC.out.later b1.out)
      have CX : Hid (∀ j u, (byV x)[j]? = some u → (wr.alloc (.cells #[.int .u8 v] 5)).cell? ⟨wr.heap.size, j, none⟩ = some u) := fun j u hu => by
        refine (blkA_new 5 wr #[.int .u8 v]).cell ?_
        have e : byV x = [.int .u8 v] := by unfold byV; rw [HX.out]
        rw [e] at hu
        rw [← Array.getElem?_toList]; exact hu
      have BQ2 : Hid (w.heap.size ≤ (wr.alloc (.cells #[.int .u8 v] 5)).heap.size) := Nat.le_trans HB.out.size b1.out.size
      have HB2 := hiddenC (HB.out.trans (b1.out.mono HB.out.size))
      go_wp2_with (at_builtin; refine wpList_appV rfl _ _ 64 rfl Try.underlying64 (.int .u8 0) 1 Try.infoByC rfl (by decide) (by decide) byV_len w.heap.size a1 c1 pre N HNN.out rfl HC2.out wr.heap.size x rfl CX.out (byV_one _) (by have := PL.out; have := HNN.out; omega) BQ2.out ?_; intro d k w5 hg; have HG := hiddenC hg.own; have HB5 := hiddenC (HB2.out.trans (hg.below BQ2.out (fun y hy => (HC2.out.lt y hy).1))); clear hg)
      have LN : (uvarint n).length = N + 1 := by rw [HE2.out, List.length_append, HNN.out]; rfl
      have HG2 : Hid (CapV 5 byV 1 w.heap.size w5 d k (uvarint n)) := by show CapV 5 byV 1 _ _ _ _ _; rw [HE2.out]; exact HG.out
      have q := HPE.out d k w5 HG2.out HB5.out
      rw [LN] at q
      exact q
set_option maxRecDepth 100000 in
set_option maxHeartbeats 4000000 in
theorem rcounted_any (z : Int) (hz : CntOk z) (w : World) : Calls Try.prog 31 #[.int .i64 z] w (BytE w (encN z)) := by
  unfold encN
  obtain ⟨n, rfl⟩ : ∃ n : Nat, z = (n : Int) := ⟨z.toNat, by have := hz.1; omega⟩
  rw [Int.toNat_natCast]
  have hn : n < 2097152 := by have := hz.2; omega
  have UN := hiddenC (runsigned_any n (by omega) w)
  have t1 : IntKind.u64.wrap (n : Int) = n := by rw [IntKind.wrap_u64]; omega
  have t2 : (n : Int) % 18446744073709551616 = n := by omega
  clear hz
  obtain ⟨PE, hPE⟩ : ∃ Q : Ending → World → Prop, BytE w (uvarint n) = Q := ⟨_, rfl⟩
  rw [hPE]
  have HPE : Hid (∀ e w', BytE w (uvarint n) e w' → PE e w') := fun e w' h => by rw [← hPE]; exact h
  clear hPE
  go_enter Try.func31, Try.ntmps31
  go_wp2_with (go_at_call 50; (with_reducible refine UN.out.mono ?_); rintro e w2 ⟨a, c, rfl, h1, h2⟩; have H1 := hiddenC h1; have H2 := hiddenC h2; clear h1 h2)
  exact HPE.out _ _ ⟨a, c, rfl, H1.out, H2.out⟩
set_option maxRecDepth 100000 in
set_option maxHeartbeats 4000000 in
theorem rinteger_any (z : Int) (hz : IntOk z) (w : World) : Calls Try.prog 32 #[.int .i64 z] w (BytE w (encZ z)) := by
  unfold encZ
  have hb := hz
  unfold IntOk at hb
  have UN := hiddenC (runsigned_any (zigzag z) (zig_lt.2 hz) w)
  obtain ⟨PE, hPE⟩ : ∃ Q : Ending → World → Prop, BytE w (uvarint (zigzag z)) = Q := ⟨_, rfl⟩
  rw [hPE]
  have HPE : Hid (∀ e w', BytE w (uvarint (zigzag z)) e w' → PE e w') := fun e w' h => by rw [← hPE]; exact h
  clear hPE hz
  by_cases h0 : z ≥ 0
  · have hzz : ((zigzag z : Nat) : Int) = 2 * z := by unfold zigzag; split <;> omega
    have t1 : IntKind.u64.wrap z = z := by rw [IntKind.wrap_u64]; omega
    have t2 : IntKind.u64.wrap (2 * z) = 2 * z := by rw [IntKind.wrap_u64]; omega
    have t3 : z % 18446744073709551616 = z := by omega
    have t4 : (2 * z) % 18446744073709551616 = 2 * z := by omega
    rw [hzz] at UN
    clear hzz
    go_enter Try.func32, Try.ntmps32
    go_wp2_with (go_at_call 50; (with_reducible refine UN.out.mono ?_); rintro e w2 ⟨a, c, rfl, h1, h2⟩; have H1 := hiddenC h1; have H2 := hiddenC h2; clear h1 h2)
    exact HPE.out _ _ ⟨a, c, rfl, H1.out, H2.out⟩
  · have hzz : ((zigzag z : Nat) : Int) = 2 * (-(z + 1)) + 1 := by unfold zigzag; split <;> omega
    have s1 : IntKind.i64.wrap (z + 1) = z + 1 := by rw [IntKind.wrap_i64]; omega
    have s2 : IntKind.i64.wrap (-(z + 1)) = -(z + 1) := by rw [IntKind.wrap_i64]; omega
    obtain ⟨y, hy⟩ : ∃ y, -(z + 1) = y := ⟨_, rfl⟩
    rw [hy] at s2 hzz
    have t1 : IntKind.u64.wrap y = y := by rw [IntKind.wrap_u64]; omega
    have t2 : IntKind.u64.wrap (2 * y) = 2 * y := by rw [IntKind.wrap_u64]; omega
    have t3 : IntKind.u64.wrap (2 * y + 1) = 2 * y + 1 := by rw [IntKind.wrap_u64]; omega
    rw [hzz] at UN
    have HY := hiddenC hy
    rw [← hy] at s2
    have s3 : IntKind.i64.wrap (-(z + 1)) = y := by rw [s2, hy]
    clear hzz s2 hy
    go_enter Try.func32, Try.ntmps32
    go_wp2_with (go_at_call 50; (with_reducible refine UN.out.mono ?_); rintro e w2 ⟨a, c, rfl, h1, h2⟩; have H1 := hiddenC h1; have H2 := hiddenC h2; clear h1 h2)
    exact HPE.out _ _ ⟨a, c, rfl, H1.out, H2.out⟩
end Go.Proofs.Ytdjplmlfcolklaa

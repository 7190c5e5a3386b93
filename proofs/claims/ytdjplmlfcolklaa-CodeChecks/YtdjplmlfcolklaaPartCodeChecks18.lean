/- Texts of one chain, laid one behind the other. -/
import Derived.Test.YtdjplmlfcolklaaPartCodeChecks16
import Derived.Test.YtdjplmlfcolklaaPartCodeChecks17
namespace Go.Proofs.Ytdjplmlfcolklaa
open Go.Lib Go.ChangeShapes Go.WideShapes Go.ChangeAt Go.RowKit
theorem flat_len {α : Type} {f : α → List UInt8} {c : Nat} : ∀ l : List α, (∀ x ∈ l, (f x).length ≤ c) → (l.flatMap f).length ≤ c * l.length
  | [], _ => Nat.zero_le _
  | x :: l, h => by
    have h1 := h x (by simp)
    have h2 := flat_len l fun y hy => h y (by simp [hy])
    rw [List.flatMap_cons, List.length_append, List.length_cons, Nat.mul_add]; omega
theorem encL_len {zs : List Int} {m : Nat} (h : zs.length ≤ m) (hm : m ≤ 100000) (hz : ∀ z ∈ zs, IntOk z) : (encL zs).length ≤ 10 + 10 * m := by
  have h1 := flat_len (f := encZ) (c := 10) zs fun z hz2 => encZ_len (hz z hz2)
  have h2 : (uvarint zs.length).length ≤ 10 := Lib.uvarint_length64 (by omega)
  unfold encL
  rw [List.length_append]; omega
theorem encP_len {q : PrtC} (h : PrtOk q) : (encP q).length ≤ 200 := by
  have := encL_len h.2.1 (by decide) h.2.2
  unfold encP
  rw [List.length_cons]; omega
theorem encB_len {q : LinC} (h : LinOk q) : (encB q).length ≤ 10300 := by
  have h1 := encL_len h.2.2.1 (by decide) h.2.2.2
  have h2 := encN_len h.1
  have h3 := encN_len h.2.1
  unfold encB
  rw [List.length_append, List.length_append]; omega
theorem encO_len {q : OpC} (h : OpOk q) : (encO q).length ≤ 21 := by
  have h2 := encN_len h.2.1
  have h3 := encN_len h.2.2
  unfold encO
  rw [List.length_cons, List.length_append]; omega
theorem encC_len {p : PrgC} (h : PrgOk p) : (encC p).length ≤ 10000000 := by
  have h1 := encN_len h.mem
  have h2 := encN_len h.cnt
  have h3 := encN_len h.ins
  have h4 := encN_len h.outs
  have h5 := flat_len (f := encP) (c := 200) p.parts fun q hq => encP_len (h.parts q hq)
  have h6 := flat_len (f := encB) (c := 10300) p.lines fun q hq => encB_len (h.lines q hq)
  have h7 := flat_len (f := encO) (c := 21) p.ops fun q hq => encO_len (h.ops q hq)
  have l1 := h.partsL
  have l2 := h.linesL
  have l3 := h.opsL
  have u1 : (uvarint p.parts.length).length ≤ 10 := Lib.uvarint_length64 (by omega)
  have u2 : (uvarint p.lines.length).length ≤ 10 := Lib.uvarint_length64 (by omega)
  have u3 : (uvarint p.ops.length).length ≤ 10 := Lib.uvarint_length64 (by omega)
  have e : magC.length = 4 := rfl
  unfold encC encX
  simp only [List.length_append]
  omega
theorem byV_flat : ∀ l : List UInt8, l.flatMap byV = Lib.strCells (strC l) := by
  intro l
  unfold Lib.strCells byV
  simp only [strC]
  induction l with
  | nil => rfl
  | cons x l ih => rw [List.flatMap_cons, ih]; simp
/-- A text put where there was nothing. -/
theorem wpList_appStrC {w : World} {ops : Array Oper} {rest : List Oper} {o : Oper} {a : Act} {Q : Exit → Act → World → Prop} (hgd : o.guard = none) (s x : Operand) (ho : o.op = .call { callee := .builtin .append, args := #[s, x], argTypes := #[64, 9] })
    (B : Nat) (m : List UInt8) (hs : a.eval s = .slice none 0 0) (hx : a.eval x = .string (strC m)) (hn : m.length ≤ 100000000000) (hB : B ≤ w.heap.size)
    (h : ∀ d c' w', CapV 5 byV 1 B w' d c' m → Below w.heap.size w w' → wpList Try.prog ops Q rest (a.put o.dst (.slice d m.length c')) w') : wpList Try.prog ops Q (o :: rest) a w := by
  obtain ⟨i5, hi5, hy0, hy1, hy2⟩ := info_parts Try.infoByC
  refine Lib.wpList_append_own_string w hgd s x 64 9 ho B 5 i5 Try.underlying64 Try.underlying9 hi5 hy0 hy1 hy2 (.slice none 0 0) 0 [] hs (World.ownsRow_nil _ _ _ _) (strC m) hx (by rw [strC_size]; unfold maxLen; omega) (by rw [strC_size]; omega) hB ?_
  intro v' w' h2 hg h3
  rw [strC_size, Nat.zero_add, List.nil_append, ← byV_flat m] at h2
  obtain ⟨d, c', rfl⟩ : ∃ d c', v' = .slice d m.length c' := by
    rcases h2.2 with ⟨q1, q2⟩ | ⟨g, cap, cur, rfl, -⟩
    · exact ⟨none, 0, by rw [q1, q2]⟩
    · exact ⟨_, cap, rfl⟩
  exact h d c' w' h2 ⟨hg.os, hg.tape, hg.output, hg.size, fun k hk => hg.block k hk (fun e => by cases e)⟩
theorem at_newC (w : World) (zs : List Int) : At (w.alloc (.cells (zs.map (Value.int .i64)).toArray 3)) (some ⟨w.heap.size, 0, none⟩) zs := by
  refine .inr ⟨_, _, rfl, fun k hk => ?_⟩
  rw [Nat.zero_add]
  refine (blkA_new 3 w _).cell ?_
  unfold nth
  rw [List.getElem?_toArray, List.getElem?_map, List.getElem?_eq_getElem hk, List.getD_eq_getElem?_getD, List.getElem?_eq_getElem hk]
  rfl
/-- Counts that are handed over as they are reckoned. -/
theorem wrCounts_new (B K : Nat) (w : World) (l : List UInt8) (a : Option Addr) (c : Nat) (h : WrA B K w l a c) (hB : B ≤ w.heap.size) (zs : List Int) (n : Nat) (hn : zs.length = n) (hlb : n ≤ 100000) (hzr : ∀ z ∈ zs, CntOk z) (hl : l.length ≤ 1000000000) :
    Calls Try.prog 51 #[.pointer (some ⟨K, 0, none⟩), .slice (some ⟨w.heap.size, 0, none⟩) n n] (w.alloc (.cells (zs.map (Value.int .i64)).toArray 3)) fun e w' => e = .returned (.tuple #[]) ∧ ∃ a' c', WrN B K w a w' (l ++ zs.flatMap encN) a' c' := by
  have ba := (Below.refl w.heap.size w).alloc (Nat.le_refl _) (.cells (zs.map (Value.int .i64)).toArray 3)
  refine (wrCounts_any B K _ l a c (h.below ba) (Nat.le_trans hB ba.size) _ n n zs (at_newC w zs) hn hlb hzr (fun _ x hx => ?_) hl).mono fun e w' hh => ⟨hh.1, ?_⟩
  · cases hx
    refine ⟨?_, fun y hy => ?_⟩
    · have := h.box.lt; show w.heap.size ≠ K; omega
    · have := (h.own.lt y hy).2; show y.block ≠ w.heap.size; omega
  · obtain ⟨a', c', hw⟩ := hh.2
    exact ⟨a', c', ((WrN.refl h).below ba).trans hw⟩
/-- What lies in old memory stays while a writer writes. -/
theorem off_old {W0 : World} {B K : Nat} {an d : Option Addr} {zs : List Int} (h : At W0 an zs) (hB : W0.heap.size ≤ B) (hK : B ≤ K) (hd : ∀ y, d = some y → B ≤ y.block) : zs ≠ [] → OffW K d an := by
  intro hne x hx
  rcases h with e | ⟨b, off, e, hc⟩
  · exact absurd e hne
  · rw [e] at hx
    cases hx
    have hlt := block_lt_C (hc 0 (List.length_pos_iff.2 hne))
    have hlt' : b < W0.heap.size := hlt
    refine ⟨?_, fun y hy => ?_⟩
    · show b ≠ K; omega
    · have := hd y hy; show y.block ≠ b; omega
theorem uv_count (n : Nat) : [((n : Nat) : Int)].flatMap encN = uvarint n := by simp [encN]
set_option maxRecDepth 100000 in
set_option maxHeartbeats 16000000 in
theorem wrProgram_any (B K : Nat) (W0 w : World) (p : PrgC) (aP : Option Addr) (cP : Nat) (aL : Option Addr) (cL : Nat) (aO : Option Addr) (cO : Nat) (LP : List (PrtC × (Option Addr × Nat))) (LL : List (LinC × (Option Addr × Nat))) (hL : PrgL W0 p aP aL aO LP LL) (hb0 : Below W0.heap.size W0 w) (hB0 : W0.heap.size ≤ B) (h : WrA B K w [] none 0) (hB : B ≤ w.heap.size) (hp : PrgOk p) :
    Calls Try.prog 33 #[.pointer (some ⟨K, 0, none⟩), prgV p aP cP aL cL aO cO] w fun e w' => e = .returned (.tuple #[]) ∧ (∃ a' c', WrA B K w' (encC p) a' c') ∧ Below B w w' := by
  obtain ⟨PE, hPE⟩ : ∃ Q : Ending → World → Prop, (fun e w' => e = .returned (.tuple #[]) ∧ (∃ a' c', WrA B K w' (encC p) a' c') ∧ Below B w w') = Q := ⟨_, rfl⟩
  rw [hPE]
  have HPE := hiddenC hPE
  have HOK := hiddenC hp
  have HL := hiddenC hL
  have HB0 := hiddenC hB0
  have CL := hiddenC (encC_len hp)
  have LNP := hiddenC hL.lenP
  have LNL := hiddenC hL.lenL
  have EC : Hid (encC p = (magC ++ [p.mem, p.cnt, p.ins, p.outs, ((p.parts.length : Nat) : Int)].flatMap encN) ++ (((LP.map Prod.fst).flatMap encP) ++ ((uvarint p.lines.length ++ (LL.map Prod.fst).flatMap encB) ++ (uvarint p.ops.length ++ p.ops.flatMap encO)))) := by
    show _ = _
    rw [hL.pe, hL.le]
    unfold encC encX
    simp [encN]
  have C5 : Hid (∀ z ∈ [p.mem, p.cnt, p.ins, p.outs, ((p.parts.length : Nat) : Int)], CntOk z) := fun z hz => by
    simp only [List.mem_cons, List.not_mem_nil, or_false] at hz
    rcases hz with rfl | rfl | rfl | rfl | rfl
    · exact hp.mem
    · exact hp.cnt
    · exact hp.ins
    · exact hp.outs
    · have := hp.partsL; exact ⟨by omega, by omega⟩
  have CNL : Hid (CntOk ((p.lines.length : Nat) : Int)) := by have := hp.linesL; exact ⟨by omega, by omega⟩
  have CNO : Hid (CntOk ((p.ops.length : Nat) : Int)) := by have := hp.opsL; exact ⟨by omega, by omega⟩
  have hp1 := hp.partsL
  have hp2 := hp.linesL
  have hp3 := hp.opsL
  unfold prgV
  obtain ⟨nP, hnP⟩ : ∃ n, p.parts.length = n := ⟨_, rfl⟩
  obtain ⟨nL, hnL⟩ : ∃ n, p.lines.length = n := ⟨_, rfl⟩
  obtain ⟨nO, hnO⟩ : ∃ n, p.ops.length = n := ⟨_, rfl⟩
  rw [hnP] at LNP EC C5 hp1 ⊢
  rw [hnL] at LNL EC CNL hp2 ⊢
  rw [hnO] at EC CNO hp3 ⊢
  have LNO := hiddenC hnO
  have b0 := (Below.refl w.heap.size w).alloc (Nat.le_refl _) (.cells #[.int .i64 p.mem, .int .i64 p.cnt, .int .i64 p.ins, .int .i64 p.outs, .slice aP nP cP, .slice aL nL cL, .slice aO nO cO] 26)
  have BA := hiddenC b0
  have H1 := hiddenC (h.below b0)
  have G0 := hiddenC (blkA_new 26 w #[.int .i64 p.mem, .int .i64 p.cnt, .int .i64 p.ins, .int .i64 p.outs, .slice aP nP cP, .slice aL nL cL, .slice aO nO cO])
  have KPB : Hid (w.heap.size ≠ K) := by have := h.box.lt; show _ ≠ _; omega
  have BQ1 : Hid (B ≤ (w.alloc (.cells #[.int .i64 p.mem, .int .i64 p.cnt, .int .i64 p.ins, .int .i64 p.outs, .slice aP nP cP, .slice aL nL cL, .slice aO nO cO] 26)).heap.size) := Nat.le_trans hB b0.size
  have BQ0 := hiddenC hB
  have WB := hiddenC hb0
  have y0 := H1.out.box.cell (k := 0) rfl
  simp only [List.getElem_toArray, List.getElem_cons_zero, List.length_nil] at y0
  clear hPE hp hL hB0 h hb0 hB b0 hnP hnL hnO
  go_enter Try.func33, Try.ntmps33
  go_upto_region 1 with fail
  generalize w.alloc (.cells #[.int .i64 p.mem, .int .i64 p.cnt, .int .i64 p.ins, .int .i64 p.outs, .slice aP nP cP, .slice aL nL cL, .slice aO nO cO] 26) = w1 at *
  go_upto_region 2 with (at_builtin; refine wpList_appStrC rfl _ _ rfl B magC rfl rfl (by decide) BQ1.out ?_; intro d k0 w2 hown hbel; have HO := hiddenC hown; have HBL := hiddenC hbel; have y2 := cellC_later hbel y0; have f2 := (H1.out.box.below hbel).frozen 0; clear hown hbel y0)
  have W3 : Hid (WrA B K (w2.setCell ⟨K, 0, none⟩ (.slice d magC.length k0)) magC d k0) := ⟨(H1.out.box.below HBL.out).set 0 _, HO.out.but (But.set _ _ _ _) (HO.out.ne_type (H1.out.box.below HBL.out) (by decide)), HO.out.ne_type (H1.out.box.below HBL.out) (by decide), H1.out.le⟩
  have G3 : Hid (BlkA 26 w.heap.size (w2.setCell ⟨K, 0, none⟩ (.slice d magC.length k0)) #[.int .i64 p.mem, .int .i64 p.cnt, .int .i64 p.ins, .int .i64 p.outs, .slice aP nP cP, .slice aL nL cL, .slice aO nO cO]) := (G0.out.below HBL.out).but (But.set _ _ _ _) KPB.out
  have BW3 : Hid (Below B w (w2.setCell ⟨K, 0, none⟩ (.slice d magC.length k0))) := ((BA.out.mono BQ0.out).trans (HBL.out.mono BQ1.out)).trans ((But.set _ _ _ _).below H1.out.le (Nat.le_trans BQ1.out HBL.out.size))
  have DPB : Hid (∀ y, d = some y → y.block ≠ w.heap.size) := HO.out.ne_type (G0.out.below HBL.out) (by decide)
  clear y2 f2
  generalize w2.setCell ⟨K, 0, none⟩ (.slice d magC.length k0) = w3 at *
  have W03 : Hid (Below W0.heap.size W0 w3) := WB.out.trans (BW3.out.mono HB0.out)
  have BQ3 : Hid (B ≤ w3.heap.size) := Nat.le_trans BQ0.out BW3.out.size
  obtain ⟨pb, hpb⟩ : ∃ x, w.heap.size = x := ⟨_, rfl⟩
  rw [hpb] at G3 KPB DPB ⊢
  clear hpb HO HBL G0 BQ1 BA H1 WB
  have z0 := G3.out.cell (k := 0) rfl
  have z1 := G3.out.cell (k := 1) rfl
  have z2 := G3.out.cell (k := 2) rfl
  have z3 := G3.out.cell (k := 3) rfl
  have z4 := G3.out.cell (k := 4) rfl
  simp only [List.getElem_toArray, List.getElem_cons_zero, List.getElem_cons_succ] at z0 z1 z2 z3 z4
  have CT := hiddenC (wrCounts_new B K w3 magC d k0 W3.out BQ3.out [p.mem, p.cnt, p.ins, p.outs, ((nP : Nat) : Int)] 5 rfl (by decide) C5.out (by decide))
  simp only [List.map_cons, List.map_nil] at CT
  have KEEP : Hid (∀ l a c u, WrN B K w3 d u l a c → BlkA 26 pb u #[.int .i64 p.mem, .int .i64 p.cnt, .int .i64 p.ins, .int .i64 p.outs, .slice aP nP cP, .slice aL nL cL, .slice aO nO cO]) := fun l a c u hN => G3.out.keep (hN.sta.block pb G3.out.lt KPB.out DPB.out)
  have LOW : Hid (∀ l a c u, WrN B K w3 d u l a c → Below W0.heap.size W0 u) := fun l a c u hN => W03.out.trans ((WrN.bel W3.out hN BQ3.out).mono HB0.out)
  have SZ3 : Hid (∀ l a c u, WrN B K w3 d u l a c → B ≤ u.heap.size) := fun l a c u hN => Nat.le_trans BQ3.out hN.sta.size
  go_upto_region 3 with (go_at_call 51; (with_reducible refine CT.out.mono ?_); rintro e w4 ⟨rfl, a1, c1, h4⟩; have H4 := hiddenC h4; clear h4)
  clear z0 z1 z2 z3 z4 CT
  have z4 := (KEEP.out _ _ _ _ H4.out).cell (k := 4) rfl
  simp only [List.getElem_toArray, List.getElem_cons_zero, List.getElem_cons_succ] at z4
  obtain ⟨X1, hX1⟩ : ∃ X, (uvarint nL ++ (LL.map Prod.fst).flatMap encB) ++ (uvarint nO ++ p.ops.flatMap encO) = X := ⟨_, rfl⟩
  have HX1 := hiddenC hX1
  have EC1 : Hid (encC p = (magC ++ [p.mem, p.cnt, p.ins, p.outs, ((nP : Nat) : Int)].flatMap encN) ++ ((LP.map Prod.fst).flatMap encP ++ X1)) := by rw [← hX1]; exact EC.out
  clear hX1 EC
  go_wp2
  go_loopg [35] nP (fun gk u wr => ∃ (k : Nat) (pre : List UInt8) (a2 : Option Addr) (c2 : Nat), k ≤ nP ∧ gk = nP - k ∧ u = .int .i64 (k : Int) ∧ encC p = pre ++ (((LP.drop k).map Prod.fst).flatMap encP ++ X1) ∧ WrN B K w3 d wr pre a2 c2)
  case atStart => exact ⟨0, _, _, _, Nat.zero_le _, rfl, rfl, by rw [List.drop_zero]; exact EC1.out, H4.out⟩
  case round =>
    obtain ⟨k, pre, a2, c2, hk, rfl, rfl, he, hN⟩ := hrel
    have HE := hiddenC he
    have HN := hiddenC hN
    have PL : Hid (pre.length ≤ 10000000) := by have q := congrArg List.length he; rw [List.length_append] at q; have := CL.out; show _ ≤ _; omega
    have BQ : Hid (B ≤ wr.heap.size) := SZ3.out _ _ _ _ hN
    clear he hN
    by_cases hlt : k < nP
    · have hki : (k : Int) < (nP : Int) := by omega
      have hkL : k < LP.length := by rw [LNP.out]; exact hlt
      have HLW := hiddenC (HL.out.below (LOW.out _ _ _ _ HN.out))
      rcases HLW.out.pa with e1 | ⟨ab, off, rfl, hc⟩
      · rw [e1] at hkL; exact absurd hkL (Nat.not_lt_zero _)
      have hg : LP[k]? = some LP[k] := List.getElem?_eq_getElem hkL
      have hm : LP[k] ∈ LP := List.getElem_mem hkL
      have c0 := hc k _ hg 0 _ rfl
      have c1 := hc k _ hg 1 _ rfl
      have hok : PrtOk LP[k].1 := HOK.out.parts _ (by rw [← HL.out.pe]; exact List.mem_map_of_mem hm)
      have hat := HL.out.pp _ hm
      have HE2 := HE.out
      rw [List.drop_eq_getElem_cons hkL, List.map_cons, List.flatMap_cons] at HE2
      obtain ⟨x, hx⟩ : ∃ x, LP[k] = x := ⟨_, rfl⟩
      rw [hx] at c0 c1 hok hat HE2
      clear hc hg hm hx hkL HE HLW
      obtain ⟨⟨t, zs⟩, an, cn⟩ := x
      simp only [Nat.add_zero] at c0 c1 hok hat HE2
      obtain ⟨tb, htb⟩ : ∃ b : UInt8, t.toUInt8 = b := ⟨_, rfl⟩
      obtain ⟨tg, htg⟩ : ∃ g : Int, (t : Int) = g := ⟨_, rfl⟩
      have TBE : Hid ((#[Value.int .u8 tg]).toList = byV tb) := by
        have q := u8_nat (show t < 256 from hok.1)
        rw [htb] at q
        show [Value.int .u8 tg] = byV tb
        unfold byV
        rw [q, htg]
      have HE3 : Hid (encC p = ((pre ++ [tb]) ++ encL zs) ++ (((LP.drop (k + 1)).map Prod.fst).flatMap encP ++ X1)) := by
        show _ = _
        rw [HE2]
        unfold encP
        rw [htb]
        simp
      have hok1 : zs.length ≤ 16 := hok.2.1
      have HZO : Hid (∀ z ∈ zs, IntOk z) := hok.2.2
      rw [htg] at c0
      obtain ⟨nz, hnz⟩ : ∃ n, zs.length = n := ⟨_, rfl⟩
      have HNZ := hiddenC hnz
      have HAT := hiddenC hat
      rw [hnz] at c1 hok1
      clear HE2 hok hat htg htb hnz
      have b1 : Hid (Below wr.heap.size wr (wr.alloc (.cells #[.int .u8 tg, .slice an nz cn] 45))) := (Below.refl _ _).alloc (Nat.le_refl _) _
      have gx := blkA_new 45 wr #[.int .u8 tg, .slice an nz cn]
      have HA := hiddenC (HN.out.below b1.out)
      go_upto_region 6 with fail
      generalize wr.alloc (.cells #[.int .u8 tg, .slice an nz cn] 45) = W3 at *
      obtain ⟨xb, hxb⟩ : ∃ x, wr.heap.size = x := ⟨_, rfl⟩
      have NE : Hid (xb ≠ K) := by have := HN.out.wr.box.lt; show _ ≠ _; omega
      have ND : Hid (∀ y, a2 = some y → y.block ≠ xb) := fun y hy => by have := (HN.out.wr.own.lt y hy).2; omega
      have BW : Hid (B ≤ W3.heap.size) := SZ3.out _ _ _ _ HA.out
      rw [hxb] at gx ⊢
      obtain ⟨N, hN⟩ : ∃ N, pre.length = N := ⟨_, rfl⟩
      have PN := hiddenC hN
      have ROW : Hid (CapV 5 byV 1 B W3 a2 c2 pre) := HA.out.wr.own
      have BOX : Hid (BlkA 67 K W3 #[.slice a2 N c2]) := by have q := HA.out.wr.box; rw [PN.out] at q; exact q
      have AP : Hid (∀ y, a2 = some y → y.block ≠ K) := HA.out.wr.apart
      have ZL : Hid (pre.length ≤ 100000000000) := by have := PL.out; show _ ≤ _; omega
      have GX := hiddenC gx
      have x0 := gx.cell (k := 0) rfl
      simp only [List.getElem_toArray, List.getElem_cons_zero] at x0
      clear hN gx hxb c0
      refine wp_region_gen [8, 11] (fun d_ i u z => match i with
          | 0 => z = .pointer (some ⟨K, 0, none⟩)
          | 1 => z = .pointer (some ⟨K, 0, none⟩)
          | 2 => z = .pointer (some ⟨K, 0, none⟩)
          | 3 => z = .pointer (some ⟨K, 0, none⟩)
          | 4 => z = .slice a2 N c2
          | 5 => z = .pointer (some ⟨xb, 0, none⟩)
          | 6 => z = .int .u8 tg
          | 7 => (d_ 8 = false → ElV byV tb u z)
          | 8 => (d_ 8 = true ∧ (d_ 11 = false → SlV 5 byV 1 B K a2 W3.heap.size (pre ++ [tb]) u z))
          | 9 => z = .pointer (some ⟨K, 0, none⟩)
          | 10 => z = .pointer (some ⟨K, 0, none⟩)
          | 11 => True
          | _ => True) (fun d_ u => GoV 67 K 0 #[.slice a2 N c2] 5 byV 1 B a2 c2 pre tb W3 8 11 d_ u) (by kernel_rfl) (by kernel_rfl) (by kernel_rfl) ?_ ?_ ?_ ?_ ?_ ?_ (by kernel_rfl)
      · intro d_ i w_ v_ w' h hb_
        match i, h with
        | 0, h => exact h
        | 1, h => exact h
        | 2, h => exact h
        | 3, h => exact h
        | 4, h => exact h
        | 5, h => exact h
        | 6, h => exact h
        | 7, h => exact fun e => (h e).later hb_
        | 8, h => exact ⟨h.1, fun e => (h.2 e).later hb_⟩
        | 9, h => exact h
        | 10, h => exact h
        | 11, h => exact h
        | _ + 12, _ => trivial
      · intro d_ u u' h hb_
        exact h.later hb_
      · exact GoV.start ROW.out BOX.out
      · intro d_ i o ρ w' hm ho hf hg hC hcs hfs hfr hdep
        match i, hm, ho, hf, hg, hfr, hdep with
        | 0, _, ho, hf, hg, hfr, hdep =>
          simp only [gTA, gCZ, gSI] at ho
          subst ho
          refine ⟨fun _ => ?_, fun hw => absurd (show true = false from hw) (by decide)⟩
          have ts : ρ (.tmp 0) = .pointer (some ⟨K, 0, none⟩) := hfr 0 (by kernel_rfl)
          simp [go_sem, ts]
          exact ⟨Below.refl _ _, rfl⟩
        | 1, _, ho, hf, hg, hfr, hdep =>
          simp only [gTA, gCZ, gCS, gSI] at ho
          subst ho
          refine ⟨fun _ => ?_, fun hw => absurd (show true = false from hw) (by decide)⟩
          have ts : ρ (.tmp 0) = .pointer (some ⟨K, 0, none⟩) := hfr 0 (by kernel_rfl)
          simp [go_sem, ts]
          exact ⟨Below.refl _ _, rfl⟩
        | 2, _, ho, hf, hg, hfr, hdep =>
          simp only [gTA, gCZ, gCS, gSI] at ho
          subst ho
          refine ⟨fun _ => ?_, fun hw => absurd (show true = false from hw) (by decide)⟩
          have d0 : ρ (.tmp 40) = .pointer (some ⟨K, 0, none⟩) := hdep 1 40 (by kernel_rfl) (by kernel_rfl)
          simp [go_sem, d0]
          exact ⟨Below.refl _ _, rfl⟩
        | 3, _, ho, hf, hg, hfr, hdep =>
          simp only [gTA, gCZ, gCS, gSI] at ho
          subst ho
          refine ⟨fun _ => ?_, fun hw => absurd (show true = false from hw) (by decide)⟩
          have d0 : ρ (.tmp 41) = .pointer (some ⟨K, 0, none⟩) := hdep 2 41 (by kernel_rfl) (by kernel_rfl)
          simp [go_sem, d0]
          exact ⟨Below.refl _ _, rfl⟩
        | 4, _, ho, hf, hg, hfr, hdep =>
          simp only [gTA, gCZ, gCS, gSI] at ho
          subst ho
          refine ⟨fun _ => ?_, fun hw => absurd (show true = false from hw) (by decide)⟩
          have hs_ : d_ 11 = false := hf 11 (by decide) (by kernel_rfl)
          have cc : w'.cell? ⟨K, 0, none⟩ = some (.slice a2 N c2) := (hC.box hs_).cell rfl
          have d0 : ρ (.tmp 42) = .pointer (some ⟨K, 0, none⟩) := hdep 3 42 (by kernel_rfl) (by kernel_rfl)
          simp [go_sem, d0, cc]
          exact ⟨Below.refl _ _, rfl⟩
        | 5, _, ho, hf, hg, hfr, hdep =>
          simp only [gTA, gCZ, gCS, gSI] at ho
          subst ho
          refine ⟨fun _ => ?_, fun hw => absurd (show true = false from hw) (by decide)⟩
          have ts : ρ (.tmp 5) = .pointer (some ⟨xb, 0, none⟩) := hfr 5 (by kernel_rfl)
          simp [go_sem, ts]
          exact ⟨Below.refl _ _, rfl⟩
        | 6, _, ho, hf, hg, hfr, hdep =>
          simp only [gTA, gCZ, gCS, gSI] at ho
          subst ho
          refine ⟨fun _ => ?_, fun hw => absurd (show true = false from hw) (by decide)⟩
          have cc := hC.sta.cell x0 NE.out ND.out
          have d0 : ρ (.tmp 44) = .pointer (some ⟨xb, 0, none⟩) := hdep 5 44 (by kernel_rfl) (by kernel_rfl)
          simp [go_sem, d0, cc]
          exact ⟨Below.refl _ _, rfl⟩
        | 7, _, ho, hf, hg, hfr, hdep =>
          simp only [gTA, gCZ, gCS, gSI] at ho
          subst ho
          refine ⟨fun _ => ?_, fun hw => absurd (show true = false from hw) (by decide)⟩
          have t0 : ρ (.tmp 45) = .int .u8 tg := hdep 6 45 (by kernel_rfl) (by kernel_rfl)
          simp [go_sem, t0]
          exact ⟨(Below.refl _ _).alloc (Nat.le_refl _) _, fun _ => elV_new w' 5 #[.int .u8 tg] TBE.out⟩
        | 8, hm, _, _, _, _, _ => exact absurd hm (by decide)
        | 9, _, ho, hf, hg, hfr, hdep =>
          simp only [gTA, gCZ, gCS, gSI] at ho
          subst ho
          refine ⟨fun _ => ?_, fun hw => absurd (show true = false from hw) (by decide)⟩
          have d0 : ρ (.tmp 39) = .pointer (some ⟨K, 0, none⟩) := hdep 0 39 (by kernel_rfl) (by kernel_rfl)
          simp [go_sem, d0]
          exact ⟨Below.refl _ _, rfl⟩
        | 10, _, ho, hf, hg, hfr, hdep =>
          simp only [gTA, gCZ, gCS, gSI] at ho
          subst ho
          refine ⟨fun _ => ?_, fun hw => absurd (show true = false from hw) (by decide)⟩
          have d0 : ρ (.tmp 48) = .pointer (some ⟨K, 0, none⟩) := hdep 9 48 (by kernel_rfl) (by kernel_rfl)
          simp [go_sem, d0]
          exact ⟨Below.refl _ _, rfl⟩
        | 11, hm, _, _, _, _, _ => exact absurd hm (by decide)
        | n + 12, _, ho, _, _, _, _ => simp at ho
      · intro d_ i o ρ w' hm ho h0 hf hg hC hcs hfs hfr hdep
        match i, hm, ho, h0, hf, hg, hfr, hdep with
        | 0, hm, _, _, _, _, _, _ => exact absurd hm (by decide)
        | 1, hm, _, _, _, _, _, _ => exact absurd hm (by decide)
        | 2, hm, _, _, _, _, _, _ => exact absurd hm (by decide)
        | 3, hm, _, _, _, _, _, _ => exact absurd hm (by decide)
        | 4, hm, _, _, _, _, _, _ => exact absurd hm (by decide)
        | 5, hm, _, _, _, _, _, _ => exact absurd hm (by decide)
        | 6, hm, _, _, _, _, _, _ => exact absurd hm (by decide)
        | 7, hm, _, _, _, _, _, _ => exact absurd hm (by decide)
        | 8, _, ho, h0, hf, hg, hfr, hdep =>
          simp only [gTA, gCZ, gCS, gSI] at ho
          subst ho
          have t0 : ρ (.tmp 43) = .slice a2 N c2 := hdep 4 43 (by kernel_rfl) (by kernel_rfl)
          rw [← PN.out] at t0
          have t5 : ElV byV tb w' (ρ (.tmp 46)) := hdep 7 46 (by kernel_rfl) (by kernel_rfl) h0
          have hs_ : d_ 11 = false := hf 11 (by decide) (by kernel_rfl)
          refine ⟨rfl, mark_appV (.tmp 43) (.tmp 46) 64 rfl Try.underlying64 (.int .u8 0) 1 Try.infoByC rfl (by decide) (by decide) byV_len byV_one t0 (hC.row h0) AP.out (hC.box hs_).lt hC.sta t5 ZL.out (Nat.le_trans BW.out hC.sta.size) ?_⟩
          intro u9 v9 hS9 hT9 hK9
          refine ⟨hC.app (by decide) hs_ hT9 hK9, fun _ => ⟨doneC_eq _ _, fun _ => hS9⟩, ?_⟩
          intro j t hj hs
          match j, hs with
          | 0, hs => exact hs
          | 1, hs => exact hs
          | 2, hs => exact hs
          | 3, hs => exact hs
          | 4, hs => exact hs
          | 5, hs => exact hs
          | 6, hs => exact hs
          | 7, hs => exact fun e => absurd e (by rw [doneC_eq]; decide)
          | 8, hs => exact absurd hs.1 (by rw [h0]; decide)
          | 9, hs => exact hs
          | 10, hs => exact hs
          | 11, hs => trivial
          | _ + 12, _ => trivial
        | 9, hm, _, _, _, _, _, _ => exact absurd hm (by decide)
        | 10, hm, _, _, _, _, _, _ => exact absurd hm (by decide)
        | 11, _, ho, h0, hf, hg, hfr, hdep =>
          simp only [gTA, gCZ, gCS, gSI] at ho
          subst ho
          have t0 : ρ (.tmp 49) = .pointer (some ⟨K, 0, none⟩) := hdep 10 49 (by kernel_rfl) (by kernel_rfl)
          have t9 : d_ 8 = true ∧ (d_ 11 = false → SlV 5 byV 1 B K a2 W3.heap.size (pre ++ [tb]) w' (ρ (.tmp 47))) := hdep 8 47 (by kernel_rfl) (by kernel_rfl)
          have hZ := t9.2 h0
          have hZ2 := hZ
          obtain ⟨qd, qk, e9, -, -, -⟩ := hZ
          rw [e9] at hZ2
          have hF := hC.store (by decide) t9.1 h0 hZ2
          have c1_ := (hC.box h0).cell (k := 0) rfl
          have f1 := (hC.box h0).frozen 0
          refine ⟨rfl, markUpon_skip (w' := w'.setCell ⟨K, 0, none⟩ (.slice qd (pre ++ [tb]).length qk)) (by simp [go_sem, t0, e9, c1_, f1]) ?_⟩
          refine ⟨hF, fun h => absurd rfl h, ?_⟩
          intro j t hj hs
          match j, hs with
          | 0, hs => exact hs
          | 1, hs => exact hs
          | 2, hs => exact hs
          | 3, hs => exact hs
          | 4, hs => exact hs
          | 5, hs => exact hs
          | 6, hs => exact hs
          | 7, hs => exact fun e => absurd ((doneC_ne d_ (by decide)).symm.trans e) (by rw [t9.1]; decide)
          | 8, hs => exact ⟨(doneC_ne d_ (by decide)).trans hs.1, fun e => absurd e (by rw [doneC_eq]; decide)⟩
          | 9, hs => exact hs
          | 10, hs => exact hs
          | 11, hs => trivial
          | _ + 12, _ => trivial
        | n + 12, _, ho, _, _, _, _, _ => simp at ho
      · intro U8 V8x hC8 hS
        simp only [puts, put_none]
        simp only [Act.put, List.setIfInBounds_toArray, List.set_cons_zero, List.set_cons_succ]
        clear hS 
        obtain ⟨d5, k5, f0, f1, f2, f3⟩ := hC8.fin (by decide)
        have FN : Hid (WrN B K w3 d V8x (pre ++ [tb]) d5 k5) := HA.out.trans ⟨⟨f0, f1, f2, HA.out.wr.le⟩, hC8.sta, f3⟩
        have FS := hiddenC hC8.sta
        have FL : Hid ((pre ++ [tb]).length ≤ 10000001) := by have := PL.out; rw [List.length_append]; show _ + 1 ≤ _; omega
        clear f0 f1 f2 f3 hC8 x0
        have x1 := FS.out.cell (GX.out.cell (k := 1) rfl) NE.out ND.out
        simp only [List.getElem_toArray, List.getElem_cons_zero, List.getElem_cons_succ] at x1
        have IT := hiddenC (wrInts_any B K V8x (pre ++ [tb]) d5 k5 FN.out.wr (SZ3.out _ _ _ _ FN.out) an nz cn zs (HAT.out.below (LOW.out _ _ _ _ FN.out)) HNZ.out (by omega) HZO.out (off_old HAT.out HB0.out FN.out.wr.le (fun y hy => (FN.out.wr.own.lt y hy).1)) (by have := FL.out; omega))
        go_wp2_with (go_at_call 52; (with_reducible refine IT.out.mono ?_); rintro e w6 ⟨rfl, a6, c6, h6⟩; have H6 := hiddenC (FN.out.trans h6); clear h6)
        go_roundg (nP - (k + 1))
        case measure => omega
        case rel => exact ⟨k + 1, _, _, _, by omega, rfl, by go_num, HE3.out, H6.out⟩
    · have hki : ¬ (k : Int) < (nP : Int) := by omega
      have G9 := hiddenC (KEEP.out _ _ _ _ HN.out)
      have z5 := G9.out.cell (k := 5) rfl
      simp only [List.getElem_toArray, List.getElem_cons_zero, List.getElem_cons_succ] at z5
      have CT := hiddenC (wrCounts_new B K wr pre a2 c2 HN.out.wr BQ.out [((nL : Nat) : Int)] 1 rfl (by decide) (fun z hz => by rw [List.mem_singleton.1 hz]; exact CNL.out) (by have := PL.out; omega))
      simp only [List.map_cons, List.map_nil] at CT
      obtain ⟨X2, hX2⟩ : ∃ X, uvarint nO ++ p.ops.flatMap encO = X := ⟨_, rfl⟩
      have HX2 := hiddenC hX2
      have EC2 : Hid (encC p = (pre ++ [((nL : Nat) : Int)].flatMap encN) ++ ((LL.map Prod.fst).flatMap encB ++ X2)) := by
        show _ = _
        have q := HE.out
        rw [List.drop_eq_nil_of_le (by rw [LNP.out]; omega), List.map_nil, List.flatMap_nil, List.nil_append, ← HX1.out] at q
        rw [q, uv_count, ← hX2]
        simp only [List.append_assoc]
      clear hX2
      go_upto_region 10 with (go_at_call 51; (with_reducible refine CT.out.mono ?_); rintro e w5 ⟨rfl, a5, c5, h5⟩; have H5 := hiddenC (HN.out.trans h5); clear h5)
      clear z5 CT G9 HE
      have z5 := (KEEP.out _ _ _ _ H5.out).cell (k := 5) rfl
      simp only [List.getElem_toArray, List.getElem_cons_zero, List.getElem_cons_succ] at z5
      clear hki hlt hk
      clear HX1
      go_wp2
      go_loopg [64] nL (fun gk u wr => ∃ (k : Nat) (pre : List UInt8) (a2 : Option Addr) (c2 : Nat), k ≤ nL ∧ gk = nL - k ∧ u = .int .i64 (k : Int) ∧ encC p = pre ++ (((LL.drop k).map Prod.fst).flatMap encB ++ X2) ∧ WrN B K w3 d wr pre a2 c2)
      case atStart => exact ⟨0, _, _, _, Nat.zero_le _, rfl, rfl, by rw [List.drop_zero]; exact EC2.out, H5.out⟩
      case round =>
        obtain ⟨k, pre, a2, c2, hk, rfl, rfl, he, hN⟩ := hrel
        have HE := hiddenC he
        have HN := hiddenC hN
        have PL : Hid (pre.length ≤ 10000000) := by have q := congrArg List.length he; rw [List.length_append] at q; have := CL.out; show _ ≤ _; omega
        have BQ : Hid (B ≤ wr.heap.size) := SZ3.out _ _ _ _ hN
        clear he hN
        by_cases hlt : k < nL
        · have hki : (k : Int) < (nL : Int) := by omega
          have hkL : k < LL.length := by rw [LNL.out]; exact hlt
          have HLW := hiddenC (HL.out.below (LOW.out _ _ _ _ HN.out))
          rcases HLW.out.la with e1 | ⟨ab, off, rfl, hc⟩
          · rw [e1] at hkL; exact absurd hkL (Nat.not_lt_zero _)
          have hg : LL[k]? = some LL[k] := List.getElem?_eq_getElem hkL
          have hm : LL[k] ∈ LL := List.getElem_mem hkL
          have c0 := hc k _ hg 0 _ rfl
          have c1 := hc k _ hg 1 _ rfl
          have c2' := hc k _ hg 2 _ rfl
          have hok : LinOk LL[k].1 := HOK.out.lines _ (by rw [← HL.out.le]; exact List.mem_map_of_mem hm)
          have hat := HL.out.lp _ hm
          have HE2 := HE.out
          rw [List.drop_eq_getElem_cons hkL, List.map_cons, List.flatMap_cons] at HE2
          obtain ⟨x, hx⟩ : ∃ x, LL[k] = x := ⟨_, rfl⟩
          rw [hx] at c0 c1 c2' hok hat HE2
          clear hc hg hm hx hkL HE HLW
          obtain ⟨⟨lb, ls, zs⟩, an, cn⟩ := x
          simp only [Nat.add_zero] at c0 c1 c2' hok hat HE2
          have HE3 : Hid (encC p = ((pre ++ [lb, ls].flatMap encN) ++ encL zs) ++ (((LL.drop (k + 1)).map Prod.fst).flatMap encB ++ X2)) := by
            show _ = _
            rw [HE2]
            unfold encB
            simp
          have hok1 : zs.length ≤ 1024 := hok.2.2.1
          have HZO : Hid (∀ z ∈ zs, IntOk z) := hok.2.2.2
          have CO2 : Hid (∀ z ∈ [lb, ls], CntOk z) := fun z hz => by
            simp only [List.mem_cons, List.not_mem_nil, or_false] at hz
            rcases hz with rfl | rfl
            · exact hok.1
            · exact hok.2.1
          obtain ⟨nz, hnz⟩ : ∃ n, zs.length = n := ⟨_, rfl⟩
          have HNZ := hiddenC hnz
          have HAT := hiddenC hat
          rw [hnz] at c2' hok1
          clear HE2 hok hat hnz
          have b1 : Hid (Below wr.heap.size wr (wr.alloc (.cells #[.int .i64 lb, .int .i64 ls, .slice an nz cn] 49))) := (Below.refl _ _).alloc (Nat.le_refl _) _
          have gx := blkA_new 49 wr #[.int .i64 lb, .int .i64 ls, .slice an nz cn]
          have HA := hiddenC (HN.out.below b1.out)
          go_upto_region 13 with fail
          generalize wr.alloc (.cells #[.int .i64 lb, .int .i64 ls, .slice an nz cn] 49) = W3 at *
          obtain ⟨xb, hxb⟩ : ∃ x, wr.heap.size = x := ⟨_, rfl⟩
          have NE : Hid (xb ≠ K) := by have := HN.out.wr.box.lt; show _ ≠ _; omega
          have ND : Hid (∀ y, a2 = some y → y.block ≠ xb) := fun y hy => by have := (HN.out.wr.own.lt y hy).2; omega
          have BW : Hid (B ≤ W3.heap.size) := SZ3.out _ _ _ _ HA.out
          rw [hxb] at gx ⊢
          have GX := hiddenC gx
          have x0 := gx.cell (k := 0) rfl
          have x1 := gx.cell (k := 1) rfl
          simp only [List.getElem_toArray, List.getElem_cons_zero, List.getElem_cons_succ] at x0 x1
          have CT := hiddenC (wrCounts_new B K W3 pre a2 c2 HA.out.wr BW.out [lb, ls] 2 rfl (by decide) CO2.out (by have := PL.out; omega))
          simp only [List.map_cons, List.map_nil] at CT
          clear gx hxb c0 c1 c2'
          go_upto_region 14 with (go_at_call 51; (with_reducible refine CT.out.mono ?_); rintro e w5 ⟨rfl, a5, c5, h5⟩; have x2 := h5.sta.cell (GX.out.cell (k := 2) rfl) NE.out ND.out; have FN := hiddenC (HA.out.trans h5); clear h5 x0 x1)
          simp only [List.getElem_toArray, List.getElem_cons_zero, List.getElem_cons_succ] at x2
          have FL : Hid ((pre ++ [lb, ls].flatMap encN).length ≤ 10000100) := by
            have := PL.out
            have q := flat_len (f := encN) (c := 10) [lb, ls] (fun z hz => encN_len (CO2.out z hz))
            simp only [List.length_cons, List.length_nil] at q
            rw [List.length_append]; show _ ≤ _; omega
          obtain ⟨pre2, hpre2⟩ : ∃ q, pre ++ [lb, ls].flatMap encN = q := ⟨_, rfl⟩
          rw [hpre2] at FN FL HE3
          clear hpre2
          have IT := hiddenC (wrInts_any B K w5 pre2 a5 c5 FN.out.wr (SZ3.out _ _ _ _ FN.out) an nz cn zs (HAT.out.below (LOW.out _ _ _ _ FN.out)) HNZ.out (by omega) HZO.out (off_old HAT.out HB0.out FN.out.wr.le (fun y hy => (FN.out.wr.own.lt y hy).1)) (by have := FL.out; omega))
          go_wp2_with (go_at_call 52; (with_reducible refine IT.out.mono ?_); rintro e w6 ⟨rfl, a6, c6, h6⟩; have H6 := hiddenC (FN.out.trans h6); clear h6)
          go_roundg (nL - (k + 1))
          case measure => omega
          case rel => exact ⟨k + 1, _, _, _, by omega, rfl, by go_num, HE3.out, H6.out⟩
        · have hki : ¬ (k : Int) < (nL : Int) := by omega
          have G9 := hiddenC (KEEP.out _ _ _ _ HN.out)
          have z6 := G9.out.cell (k := 6) rfl
          simp only [List.getElem_toArray, List.getElem_cons_zero, List.getElem_cons_succ] at z6
          have CT := hiddenC (wrCounts_new B K wr pre a2 c2 HN.out.wr BQ.out [((nO : Nat) : Int)] 1 rfl (by decide) (fun z hz => by rw [List.mem_singleton.1 hz]; exact CNO.out) (by have := PL.out; omega))
          simp only [List.map_cons, List.map_nil] at CT
          have EC3 : Hid (encC p = (pre ++ [((nO : Nat) : Int)].flatMap encN) ++ p.ops.flatMap encO) := by
            show _ = _
            have q := HE.out
            rw [List.drop_eq_nil_of_le (by rw [LNL.out]; omega), List.map_nil, List.flatMap_nil, List.nil_append, ← HX2.out] at q
            rw [q, uv_count, List.append_assoc]
          go_upto_region 17 with (go_at_call 51; (with_reducible refine CT.out.mono ?_); rintro e w5 ⟨rfl, a5, c5, h5⟩; have H5 := hiddenC (HN.out.trans h5); clear h5)
          clear z6 CT G9 HE
          have z6 := (KEEP.out _ _ _ _ H5.out).cell (k := 6) rfl
          simp only [List.getElem_toArray, List.getElem_cons_zero, List.getElem_cons_succ] at z6
          clear hki hlt hk
          clear HX2
          go_wp2
          go_loopg [91] nO (fun gk u wr => ∃ (k : Nat) (pre : List UInt8) (a2 : Option Addr) (c2 : Nat), k ≤ nO ∧ gk = nO - k ∧ u = .int .i64 (k : Int) ∧ encC p = pre ++ ((p.ops.drop k).flatMap encO) ∧ WrN B K w3 d wr pre a2 c2)
          case atStart => exact ⟨0, _, _, _, Nat.zero_le _, rfl, rfl, by rw [List.drop_zero]; exact EC3.out, H5.out⟩
          case round =>
            obtain ⟨k, pre, a2, c2, hk, rfl, rfl, he, hN⟩ := hrel
            have HE := hiddenC he
            have HN := hiddenC hN
            have PL : Hid (pre.length ≤ 10000000) := by have q := congrArg List.length he; rw [List.length_append] at q; have := CL.out; show _ ≤ _; omega
            have BQ : Hid (B ≤ wr.heap.size) := SZ3.out _ _ _ _ hN
            clear he hN
            by_cases hlt : k < nO
            · have hki : (k : Int) < (nO : Int) := by omega
              have hkL : k < p.ops.length := by rw [LNO.out]; exact hlt
              have HLW := hiddenC (HL.out.below (LOW.out _ _ _ _ HN.out))
              rcases HLW.out.oa with e1 | ⟨ab, off, rfl, hc⟩
              · rw [e1] at hkL; exact absurd hkL (Nat.not_lt_zero _)
              have hg : p.ops[k]? = some p.ops[k] := List.getElem?_eq_getElem hkL
              have hm : p.ops[k] ∈ p.ops := List.getElem_mem hkL
              have c0 := hc k _ hg 0 _ rfl
              have c1 := hc k _ hg 1 _ rfl
              have c2' := hc k _ hg 2 _ rfl
              have hok : OpOk p.ops[k] := HOK.out.ops _ hm
              have HE2 := HE.out
              rw [List.drop_eq_getElem_cons hkL, List.flatMap_cons] at HE2
              obtain ⟨x, hx⟩ : ∃ x, p.ops[k] = x := ⟨_, rfl⟩
              rw [hx] at c0 c1 c2' hok HE2
              clear hc hg hm hx hkL HE HLW
              obtain ⟨t, qa, qb⟩ := x
              simp only [Nat.add_zero] at c0 c1 c2' hok HE2
              obtain ⟨tb, htb⟩ : ∃ b : UInt8, t.toUInt8 = b := ⟨_, rfl⟩
              obtain ⟨tg, htg⟩ : ∃ g : Int, (t : Int) = g := ⟨_, rfl⟩
              have TBE : Hid ((#[Value.int .u8 tg]).toList = byV tb) := by
                have q := u8_nat (show t < 256 from hok.1)
                rw [htb] at q
                show [Value.int .u8 tg] = byV tb
                unfold byV
                rw [q, htg]
              have HE3 : Hid (encC p = ((pre ++ [tb]) ++ [qa, qb].flatMap encN) ++ (p.ops.drop (k + 1)).flatMap encO) := by
                show _ = _
                rw [HE2]
                unfold encO
                rw [htb]
                simp
              have CO2 : Hid (∀ z ∈ [qa, qb], CntOk z) := fun z hz => by
                simp only [List.mem_cons, List.not_mem_nil, or_false] at hz
                rcases hz with rfl | rfl
                · exact hok.2.1
                · exact hok.2.2
              rw [htg] at c0
              clear HE2 hok htg htb
              have b1 : Hid (Below wr.heap.size wr (wr.alloc (.cells #[.int .u8 tg, .int .i64 qa, .int .i64 qb] 53))) := (Below.refl _ _).alloc (Nat.le_refl _) _
              have gx := blkA_new 53 wr #[.int .u8 tg, .int .i64 qa, .int .i64 qb]
              have HA := hiddenC (HN.out.below b1.out)
              go_upto_region 20 with fail
              generalize wr.alloc (.cells #[.int .u8 tg, .int .i64 qa, .int .i64 qb] 53) = W3 at *
              obtain ⟨xb, hxb⟩ : ∃ x, wr.heap.size = x := ⟨_, rfl⟩
              have NE : Hid (xb ≠ K) := by have := HN.out.wr.box.lt; show _ ≠ _; omega
              have ND : Hid (∀ y, a2 = some y → y.block ≠ xb) := fun y hy => by have := (HN.out.wr.own.lt y hy).2; omega
              have BW : Hid (B ≤ W3.heap.size) := SZ3.out _ _ _ _ HA.out
              rw [hxb] at gx ⊢
              obtain ⟨N, hN⟩ : ∃ N, pre.length = N := ⟨_, rfl⟩
              have PN := hiddenC hN
              have ROW : Hid (CapV 5 byV 1 B W3 a2 c2 pre) := HA.out.wr.own
              have BOX : Hid (BlkA 67 K W3 #[.slice a2 N c2]) := by have q := HA.out.wr.box; rw [PN.out] at q; exact q
              have AP : Hid (∀ y, a2 = some y → y.block ≠ K) := HA.out.wr.apart
              have ZL : Hid (pre.length ≤ 100000000000) := by have := PL.out; show _ ≤ _; omega
              have GX := hiddenC gx
              have x0 := gx.cell (k := 0) rfl
              simp only [List.getElem_toArray, List.getElem_cons_zero] at x0
              clear hN gx hxb c0
              refine wp_region_gen [8, 11] (fun d_ i u z => match i with
                  | 0 => z = .pointer (some ⟨K, 0, none⟩)
                  | 1 => z = .pointer (some ⟨K, 0, none⟩)
                  | 2 => z = .pointer (some ⟨K, 0, none⟩)
                  | 3 => z = .pointer (some ⟨K, 0, none⟩)
                  | 4 => z = .slice a2 N c2
                  | 5 => z = .pointer (some ⟨xb, 0, none⟩)
                  | 6 => z = .int .u8 tg
                  | 7 => (d_ 8 = false → ElV byV tb u z)
                  | 8 => (d_ 8 = true ∧ (d_ 11 = false → SlV 5 byV 1 B K a2 W3.heap.size (pre ++ [tb]) u z))
                  | 9 => z = .pointer (some ⟨K, 0, none⟩)
                  | 10 => z = .pointer (some ⟨K, 0, none⟩)
                  | 11 => True
                  | _ => True) (fun d_ u => GoV 67 K 0 #[.slice a2 N c2] 5 byV 1 B a2 c2 pre tb W3 8 11 d_ u) (by kernel_rfl) (by kernel_rfl) (by kernel_rfl) ?_ ?_ ?_ ?_ ?_ ?_ (by kernel_rfl)
              · intro d_ i w_ v_ w' h hb_
                match i, h with
                | 0, h => exact h
                | 1, h => exact h
                | 2, h => exact h
                | 3, h => exact h
                | 4, h => exact h
                | 5, h => exact h
                | 6, h => exact h
                | 7, h => exact fun e => (h e).later hb_
                | 8, h => exact ⟨h.1, fun e => (h.2 e).later hb_⟩
                | 9, h => exact h
                | 10, h => exact h
                | 11, h => exact h
                | _ + 12, _ => trivial
              · intro d_ u u' h hb_
                exact h.later hb_
              · exact GoV.start ROW.out BOX.out
              · intro d_ i o ρ w' hm ho hf hg hC hcs hfs hfr hdep
                match i, hm, ho, hf, hg, hfr, hdep with
                | 0, _, ho, hf, hg, hfr, hdep =>
                  simp only [gTA, gCZ, gSI] at ho
                  subst ho
                  refine ⟨fun _ => ?_, fun hw => absurd (show true = false from hw) (by decide)⟩
                  have ts : ρ (.tmp 0) = .pointer (some ⟨K, 0, none⟩) := hfr 0 (by kernel_rfl)
                  simp [go_sem, ts]
                  exact ⟨Below.refl _ _, rfl⟩
                | 1, _, ho, hf, hg, hfr, hdep =>
                  simp only [gTA, gCZ, gCS, gSI] at ho
                  subst ho
                  refine ⟨fun _ => ?_, fun hw => absurd (show true = false from hw) (by decide)⟩
                  have ts : ρ (.tmp 0) = .pointer (some ⟨K, 0, none⟩) := hfr 0 (by kernel_rfl)
                  simp [go_sem, ts]
                  exact ⟨Below.refl _ _, rfl⟩
                | 2, _, ho, hf, hg, hfr, hdep =>
                  simp only [gTA, gCZ, gCS, gSI] at ho
                  subst ho
                  refine ⟨fun _ => ?_, fun hw => absurd (show true = false from hw) (by decide)⟩
                  have d0 : ρ (.tmp 96) = .pointer (some ⟨K, 0, none⟩) := hdep 1 96 (by kernel_rfl) (by kernel_rfl)
                  simp [go_sem, d0]
                  exact ⟨Below.refl _ _, rfl⟩
                | 3, _, ho, hf, hg, hfr, hdep =>
                  simp only [gTA, gCZ, gCS, gSI] at ho
                  subst ho
                  refine ⟨fun _ => ?_, fun hw => absurd (show true = false from hw) (by decide)⟩
                  have d0 : ρ (.tmp 97) = .pointer (some ⟨K, 0, none⟩) := hdep 2 97 (by kernel_rfl) (by kernel_rfl)
                  simp [go_sem, d0]
                  exact ⟨Below.refl _ _, rfl⟩
                | 4, _, ho, hf, hg, hfr, hdep =>
                  simp only [gTA, gCZ, gCS, gSI] at ho
                  subst ho
                  refine ⟨fun _ => ?_, fun hw => absurd (show true = false from hw) (by decide)⟩
                  have hs_ : d_ 11 = false := hf 11 (by decide) (by kernel_rfl)
                  have cc : w'.cell? ⟨K, 0, none⟩ = some (.slice a2 N c2) := (hC.box hs_).cell rfl
                  have d0 : ρ (.tmp 98) = .pointer (some ⟨K, 0, none⟩) := hdep 3 98 (by kernel_rfl) (by kernel_rfl)
                  simp [go_sem, d0, cc]
                  exact ⟨Below.refl _ _, rfl⟩
                | 5, _, ho, hf, hg, hfr, hdep =>
                  simp only [gTA, gCZ, gCS, gSI] at ho
                  subst ho
                  refine ⟨fun _ => ?_, fun hw => absurd (show true = false from hw) (by decide)⟩
                  have ts : ρ (.tmp 9) = .pointer (some ⟨xb, 0, none⟩) := hfr 9 (by kernel_rfl)
                  simp [go_sem, ts]
                  exact ⟨Below.refl _ _, rfl⟩
                | 6, _, ho, hf, hg, hfr, hdep =>
                  simp only [gTA, gCZ, gCS, gSI] at ho
                  subst ho
                  refine ⟨fun _ => ?_, fun hw => absurd (show true = false from hw) (by decide)⟩
                  have cc := hC.sta.cell x0 NE.out ND.out
                  have d0 : ρ (.tmp 100) = .pointer (some ⟨xb, 0, none⟩) := hdep 5 100 (by kernel_rfl) (by kernel_rfl)
                  simp [go_sem, d0, cc]
                  exact ⟨Below.refl _ _, rfl⟩
                | 7, _, ho, hf, hg, hfr, hdep =>
                  simp only [gTA, gCZ, gCS, gSI] at ho
                  subst ho
                  refine ⟨fun _ => ?_, fun hw => absurd (show true = false from hw) (by decide)⟩
                  have t0 : ρ (.tmp 101) = .int .u8 tg := hdep 6 101 (by kernel_rfl) (by kernel_rfl)
                  simp [go_sem, t0]
                  exact ⟨(Below.refl _ _).alloc (Nat.le_refl _) _, fun _ => elV_new w' 5 #[.int .u8 tg] TBE.out⟩
                | 8, hm, _, _, _, _, _ => exact absurd hm (by decide)
                | 9, _, ho, hf, hg, hfr, hdep =>
                  simp only [gTA, gCZ, gCS, gSI] at ho
                  subst ho
                  refine ⟨fun _ => ?_, fun hw => absurd (show true = false from hw) (by decide)⟩
                  have d0 : ρ (.tmp 95) = .pointer (some ⟨K, 0, none⟩) := hdep 0 95 (by kernel_rfl) (by kernel_rfl)
                  simp [go_sem, d0]
                  exact ⟨Below.refl _ _, rfl⟩
                | 10, _, ho, hf, hg, hfr, hdep =>
                  simp only [gTA, gCZ, gCS, gSI] at ho
                  subst ho
                  refine ⟨fun _ => ?_, fun hw => absurd (show true = false from hw) (by decide)⟩
                  have d0 : ρ (.tmp 104) = .pointer (some ⟨K, 0, none⟩) := hdep 9 104 (by kernel_rfl) (by kernel_rfl)
                  simp [go_sem, d0]
                  exact ⟨Below.refl _ _, rfl⟩
                | 11, hm, _, _, _, _, _ => exact absurd hm (by decide)
                | n + 12, _, ho, _, _, _, _ => simp at ho
              · intro d_ i o ρ w' hm ho h0 hf hg hC hcs hfs hfr hdep
                match i, hm, ho, h0, hf, hg, hfr, hdep with
                | 0, hm, _, _, _, _, _, _ => exact absurd hm (by decide)
                | 1, hm, _, _, _, _, _, _ => exact absurd hm (by decide)
                | 2, hm, _, _, _, _, _, _ => exact absurd hm (by decide)
                | 3, hm, _, _, _, _, _, _ => exact absurd hm (by decide)
                | 4, hm, _, _, _, _, _, _ => exact absurd hm (by decide)
                | 5, hm, _, _, _, _, _, _ => exact absurd hm (by decide)
                | 6, hm, _, _, _, _, _, _ => exact absurd hm (by decide)
                | 7, hm, _, _, _, _, _, _ => exact absurd hm (by decide)
                | 8, _, ho, h0, hf, hg, hfr, hdep =>
                  simp only [gTA, gCZ, gCS, gSI] at ho
                  subst ho
                  have t0 : ρ (.tmp 99) = .slice a2 N c2 := hdep 4 99 (by kernel_rfl) (by kernel_rfl)
                  rw [← PN.out] at t0
                  have t5 : ElV byV tb w' (ρ (.tmp 102)) := hdep 7 102 (by kernel_rfl) (by kernel_rfl) h0
                  have hs_ : d_ 11 = false := hf 11 (by decide) (by kernel_rfl)
                  refine ⟨rfl, mark_appV (.tmp 99) (.tmp 102) 64 rfl Try.underlying64 (.int .u8 0) 1 Try.infoByC rfl (by decide) (by decide) byV_len byV_one t0 (hC.row h0) AP.out (hC.box hs_).lt hC.sta t5 ZL.out (Nat.le_trans BW.out hC.sta.size) ?_⟩
                  intro u9 v9 hS9 hT9 hK9
                  refine ⟨hC.app (by decide) hs_ hT9 hK9, fun _ => ⟨doneC_eq _ _, fun _ => hS9⟩, ?_⟩
                  intro j t hj hs
                  match j, hs with
                  | 0, hs => exact hs
                  | 1, hs => exact hs
                  | 2, hs => exact hs
                  | 3, hs => exact hs
                  | 4, hs => exact hs
                  | 5, hs => exact hs
                  | 6, hs => exact hs
                  | 7, hs => exact fun e => absurd e (by rw [doneC_eq]; decide)
                  | 8, hs => exact absurd hs.1 (by rw [h0]; decide)
                  | 9, hs => exact hs
                  | 10, hs => exact hs
                  | 11, hs => trivial
                  | _ + 12, _ => trivial
                | 9, hm, _, _, _, _, _, _ => exact absurd hm (by decide)
                | 10, hm, _, _, _, _, _, _ => exact absurd hm (by decide)
                | 11, _, ho, h0, hf, hg, hfr, hdep =>
                  simp only [gTA, gCZ, gCS, gSI] at ho
                  subst ho
                  have t0 : ρ (.tmp 105) = .pointer (some ⟨K, 0, none⟩) := hdep 10 105 (by kernel_rfl) (by kernel_rfl)
                  have t9 : d_ 8 = true ∧ (d_ 11 = false → SlV 5 byV 1 B K a2 W3.heap.size (pre ++ [tb]) w' (ρ (.tmp 103))) := hdep 8 103 (by kernel_rfl) (by kernel_rfl)
                  have hZ := t9.2 h0
                  have hZ2 := hZ
                  obtain ⟨qd, qk, e9, -, -, -⟩ := hZ
                  rw [e9] at hZ2
                  have hF := hC.store (by decide) t9.1 h0 hZ2
                  have c1_ := (hC.box h0).cell (k := 0) rfl
                  have f1 := (hC.box h0).frozen 0
                  refine ⟨rfl, markUpon_skip (w' := w'.setCell ⟨K, 0, none⟩ (.slice qd (pre ++ [tb]).length qk)) (by simp [go_sem, t0, e9, c1_, f1]) ?_⟩
                  refine ⟨hF, fun h => absurd rfl h, ?_⟩
                  intro j t hj hs
                  match j, hs with
                  | 0, hs => exact hs
                  | 1, hs => exact hs
                  | 2, hs => exact hs
                  | 3, hs => exact hs
                  | 4, hs => exact hs
                  | 5, hs => exact hs
                  | 6, hs => exact hs
                  | 7, hs => exact fun e => absurd ((doneC_ne d_ (by decide)).symm.trans e) (by rw [t9.1]; decide)
                  | 8, hs => exact ⟨(doneC_ne d_ (by decide)).trans hs.1, fun e => absurd e (by rw [doneC_eq]; decide)⟩
                  | 9, hs => exact hs
                  | 10, hs => exact hs
                  | 11, hs => trivial
                  | _ + 12, _ => trivial
                | n + 12, _, ho, _, _, _, _, _ => simp at ho
              · intro U8 V8x hC8 hS
                simp only [puts, put_none]
                simp only [Act.put, List.setIfInBounds_toArray, List.set_cons_zero, List.set_cons_succ]
                clear hS 
                obtain ⟨d5, k5, f0, f1, f2, f3⟩ := hC8.fin (by decide)
                have FN : Hid (WrN B K w3 d V8x (pre ++ [tb]) d5 k5) := HA.out.trans ⟨⟨f0, f1, f2, HA.out.wr.le⟩, hC8.sta, f3⟩
                have FS := hiddenC hC8.sta
                have FL : Hid ((pre ++ [tb]).length ≤ 10000001) := by have := PL.out; rw [List.length_append]; show _ + 1 ≤ _; omega
                clear f0 f1 f2 f3 hC8 x0
                have x1 := FS.out.cell (GX.out.cell (k := 1) rfl) NE.out ND.out
                have x2 := FS.out.cell (GX.out.cell (k := 2) rfl) NE.out ND.out
                simp only [List.getElem_toArray, List.getElem_cons_zero, List.getElem_cons_succ] at x1 x2
                have CT := hiddenC (wrCounts_new B K V8x (pre ++ [tb]) d5 k5 FN.out.wr (SZ3.out _ _ _ _ FN.out) [qa, qb] 2 rfl (by decide) CO2.out (by have := FL.out; omega))
                simp only [List.map_cons, List.map_nil] at CT
                go_wp2_with (go_at_call 51; (with_reducible refine CT.out.mono ?_); rintro e w6 ⟨rfl, a6, c6, h6⟩; have H6 := hiddenC (FN.out.trans h6); clear h6)
                go_roundg (nO - (k + 1))
                case measure => omega
                case rel => exact ⟨k + 1, _, _, _, by omega, rfl, by go_num, HE3.out, H6.out⟩
            · have hki : ¬ (k : Int) < (nO : Int) := by omega
              have HE2 := HE.out
              rw [List.drop_eq_nil_of_le (by rw [LNO.out]; omega), List.flatMap_nil, List.append_nil] at HE2
              have HE3 := hiddenC HE2
              clear HE HE2
              go_wp2
              refine bodyPost_end (v := .tuple #[]) (by simp [results, Try.results33, go_sem]) rfl ?_
              rw [← HPE.out, HE3.out]
              exact ⟨rfl, ⟨_, _, HN.out.wr⟩, BW3.out.trans (WrN.bel W3.out HN.out BQ3.out)⟩
end Go.Proofs.Ytdjplmlfcolklaa

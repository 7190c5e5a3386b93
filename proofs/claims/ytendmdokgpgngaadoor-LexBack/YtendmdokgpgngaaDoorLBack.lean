/- Tokens that are written are read as these, each at its place (LexBack). -/
import Derived.Test.YtendmdokgpgngaaDoorLBackA
namespace Go.Proofs.YtendmdokgpgngaaDoor
open Go.ChangeShapes Go.WideShapes Go.ChangeAt Go.RowKit

/-! ### Two rows that grow beside each other -/
theorem row_kept {w w' : World} {base e size n : Nat} {v : Value} {xs : List Value} {row : Option Nat} (h : w.ownsRow base e size v n xs) (hg : w.grownBy w' row) (hne : v.ownBlock = none ∨ v.ownBlock ≠ row) : w'.ownsRow base e size v n xs := World.ownsRow.kept h hg hne
theorem row_below {w w' : World} {base e size n : Nat} {v : Value} {xs : List Value} (h : w.ownsRow base e size v n xs) (hb : Below w.heap.size w w') : w'.ownsRow base e size v n xs := by
  refine ⟨h.1, ?_⟩
  rcases h.2 with h2 | ⟨g, cap, cur, hv, hg, hh, r⟩
  · exact .inl h2
  · refine .inr ⟨g, cap, cur, hv, hg, ?_, r⟩
    rw [hb.block g (Array.getElem?_eq_some_iff.1 hh).1]; exact hh
theorem row_low {w : World} {base e size n : Nat} {v : Value} {xs : List Value} (h : w.ownsRow base e size v n xs) : ∀ k, v.ownBlock = some k → base ≤ k ∧ k < w.heap.size := by
  intro k hk
  rcases h.2 with ⟨rfl, -⟩ | ⟨g, cap, cur, rfl, hg, hh, -⟩
  · cases hk
  · cases hk
    exact ⟨hg, (Array.getElem?_eq_some_iff.1 hh).1⟩
theorem row_apart {w : World} {b1 b2 e1 e2 s1 s2 n1 n2 : Nat} {v1 v2 : Value} {x1 x2 : List Value} (h1 : w.ownsRow b1 e1 s1 v1 n1 x1) (h2 : w.ownsRow b2 e2 s2 v2 n2 x2) (he : e1 ≠ e2) : v1.ownBlock = none ∨ v1.ownBlock ≠ v2.ownBlock := by
  rcases h1.2 with ⟨rfl, -⟩ | ⟨g1, c1, u1, rfl, -, hh1, -⟩
  · exact Or.inl rfl
  · right
    intro e
    rcases h2.2 with ⟨rfl, -⟩ | ⟨g2, c2, u2, rfl, -, hh2, -⟩
    · cases e
    · have : g1 = g2 := Option.some.inj e
      subst this
      rw [hh1] at hh2
      cases hh2
      exact he rfl
structure R2 (w : World) (vb : Value) (l : List UInt8) (vw : Value) (ts : List Tok) (wr : World) : Prop where
  bytes : OwnB w.heap.size wr vb l
  toks : Toks w.heap.size wr vw ts
  bel : Below w.heap.size w wr
theorem R2.below {w vb l vw ts wr w'} (h : R2 w vb l vw ts wr) (hb : Below wr.heap.size wr w') : R2 w vb l vw ts w' := ⟨row_below h.bytes hb, h.toks.below hb, h.bel.trans (hb.mono h.bel.size)⟩
theorem R2.tokA {w vb l vw ts wr v' w' t} (h : R2 w vb l vw ts wr) (ho : w'.ownsRow w.heap.size 33 4 v' (ts.length + 1) (ts.flatMap tokC ++ tokC t)) (hg : wr.grownBy w' vw.ownBlock) : R2 w vb l v' (ts ++ [t]) w' :=
  ⟨row_kept h.bytes hg (row_apart h.bytes h.toks (by decide)), Toks.snoc ho, below_grownO h.bel hg (fun k e => (row_low h.toks k e).1) h.bel.size⟩
theorem cells_append (l m : List UInt8) : Lib.strCells (str (l ++ m)) = Lib.strCells (str l) ++ Lib.strCells (str m) := by
  rw [strCells_str, strCells_str, strCells_str, List.map_append]
theorem R2.strA {w vb l vw ts wr v' w'} {m : List UInt8} (h : R2 w vb l vw ts wr) (ho : w'.ownsRow w.heap.size 5 1 v' (l.length + (str m).size) (Lib.strCells (str l) ++ Lib.strCells (str m))) (hg : wr.grownBy w' vb.ownBlock) : R2 w v' (l ++ m) vw ts w' := by
  refine ⟨?_, row_kept h.toks hg ?_, below_grownO h.bel hg (fun k e => (row_low h.bytes k e).1) h.bel.size⟩
  · unfold OwnB
    rw [cells_append, List.length_append, ← str_size m]
    exact ho
  · exact row_apart h.toks h.bytes (by decide)
theorem R2.shapeB {w vb l vw ts wr} (h : R2 w vb l vw ts wr) : ∃ a cap, vb = .slice a l.length cap := by
  rcases h.bytes.2 with ⟨h1, h2⟩ | ⟨g, cap, cur, rfl, -⟩
  · exact ⟨none, 0, by rw [h1, h2]⟩
  · exact ⟨_, cap, rfl⟩
theorem conv_bytes {base : Nat} {w : World} {v : Value} {l : List UInt8} (h : OwnB base w v l) : (convert 34 9 v).run Tryd.prog w = .ok (.string (str l)) w := by
  have h0 := h
  rcases h.2 with ⟨rfl, h2⟩ | ⟨g, cap, cur, rfl, hg, hh, -⟩
  · have e : l = [] := List.eq_nil_of_length_eq_zero h2
    subst e
    exact run_convert_bytes_nil w 34 5 Tryd.underlying34 Tryd.underlying5 0 0 9 Tryd.underlying9
  · refine run_convert_bytes_back w 34 9 5 ⟨g, 0, none⟩ cap l Tryd.underlying34 Tryd.underlying5 Tryd.underlying9 (fun j hj => ?_)
    refine World.ownsRow.cells h0 (g := g) rfl j _ ?_
    rw [strCells_str, List.getElem?_map, List.getElem?_eq_getElem hj]
    rfl

/-! ### What is written, one token more -/
def wantH : Nat → List (Tok × List UInt8) → List Tok
  | _, [] => []
  | p, x :: r => { x.1 with place := (p : Int) } :: wantH (p + (spelt x.1).length + x.2.length) r
theorem txt_snoc : ∀ (ps : List (Tok × List UInt8)) (x : Tok × List UInt8), txt (ps ++ [x]) = txt ps ++ (spelt x.1 ++ x.2)
  | [], x => by simp [txt]
  | y :: r, x => by
    rw [List.cons_append, txt, txt, txt_snoc r x]
    simp only [List.append_assoc]
theorem want_snoc : ∀ (ps : List (Tok × List UInt8)) (x : Tok × List UInt8) (p : Nat), wantH p (ps ++ [x]) = wantH p ps ++ [{ x.1 with place := ((p + (txt ps).length : Nat) : Int) }]
  | [], x, p => rfl
  | y :: r, x, p => by
    rw [List.cons_append, wantH, wantH, want_snoc r x, List.cons_append]
    have e : p + (spelt y.1).length + y.2.length + (txt r).length = p + (txt (y :: r)).length := by
      rw [txt, List.length_append, List.length_append]; omega
    rw [e]
theorem want_end : ∀ (ps : List (Tok × List UInt8)) (p : Nat), wantT p ps = wantH p ps ++ [⟨0, [], 0, ((p + (txt ps).length : Nat) : Int)⟩]
  | [], p => rfl
  | y :: r, p => by
    rw [wantT, wantH, want_end r, List.cons_append]
    have e : p + (spelt y.1).length + y.2.length + (txt r).length = p + (txt (y :: r)).length := by
      rw [txt, List.length_append, List.length_append]; omega
    rw [e]
theorem want_len : ∀ (ps : List (Tok × List UInt8)) (p : Nat), (∀ x ∈ ps, okP x) → (wantH p ps).length ≤ (txt ps).length
  | [], _, _ => Nat.le_refl _
  | y :: r, p, h => by
    obtain ⟨-, -, k, hk⟩ := h y (by simp)
    have h1 := want_len r (p + (spelt y.1).length + y.2.length) (fun x hx => h x (by simp [hx]))
    have h2 := (gap_facts k []).2.2.1
    rw [← hk] at h2
    rw [wantH, txt, List.length_cons, List.length_append, List.length_append]
    omega
theorem spelt_len {t : Tok} (h : rightB t = true) (hf : fits8 t.num = true) : (spelt t).length ≤ 20 := by
  obtain ⟨so, tx, nm, pl⟩ := t
  unfold rightB at h
  unfold spelt
  simp only at h hf ⊢
  by_cases h1 : so = 1
  · subst h1
    rw [if_pos rfl, Bool.and_eq_true] at h
    rw [if_neg (by decide)]
    have := h.2
    unfold nameB at this
    rw [Bool.and_eq_true, decide_eq_true_iff] at this
    omega
  rw [if_neg h1] at h
  by_cases h2 : so = 2
  · rw [if_pos h2]
    unfold fits8 at hf
    rw [Bool.and_eq_true, decide_eq_true_iff, decide_eq_true_iff] at hf
    unfold intS
    split
    · decide
    · have h5 := natS_len 19 nm.natAbs (by omega)
      rw [List.length_append]
      have : (sgn (decide (nm < 0))).length ≤ 1 := by cases decide (nm < 0) <;> decide
      omega
  rw [if_neg h2] at h ⊢
  by_cases h3 : so = 3
  · rw [if_pos h3, Bool.and_eq_true] at h
    have hm := h.2
    unfold markT at hm
    simp only [Bool.or_eq_true, decide_eq_true_eq] at hm
    rcases hm with ((((h | h) | h) | h) | h) | h <;> subst h <;> decide
  · rw [if_neg h3] at h; cases h

theorem tok_news1 (w : World) (c0 c1 c2 c3 : Value) (t : TypeId) : ∀ j u, [c0, c1, c2, c3][j]? = some u → (w.alloc (.cells #[c0, c1, c2, c3] t)).cell? ((⟨w.heap.size, 0, none⟩ : Addr).add j) = some u := by
  intro j u hu
  match j, hu with
  | 0, hu => simp at hu; subst hu; simp [Addr.add]
  | 1, hu => simp at hu; subst hu; simp [Addr.add]
  | 2, hu => simp at hu; subst hu; simp [Addr.add]
  | 3, hu => simp at hu; subst hu; simp [Addr.add]
set_option maxRecDepth 100000 in
set_option maxHeartbeats 8000000 in
theorem lexBack_walk (a : Option Addr) (len cap : Nat) (ts : List Tok) (gaps : Int) (w : World) (hA : ArgT w a len cap ts) (_hg : -9223372036854775808 ≤ gaps ∧ gaps ≤ 9223372036854775807) (hE : Env w) :
    Calls Tryd.prog 6 #[.slice a len cap, .int .i64 gaps] w (JoinsEnd w) := by
  obtain ⟨hlen, hat, hnum, hreach⟩ := hA
  obtain ⟨i0, hi, hz0, hz1, hz2⟩ := info_parts Tryd.infoTK
  obtain ⟨i5, hi5, hy0, hy1, hy2⟩ := info_parts Tryd.info5
  have HI := hidden hi
  have HI0 := hidden hz0
  have HI1 := hidden hz1
  have HI2 := hidden hz2
  have HJ := hidden hi5
  have HJ0 := hidden hy0
  have HJ1 := hidden hy1
  have HJ2 := hidden hy2
  have HLN := hidden hlen
  have HAT := hidden hat
  have HNUM := hidden hnum
  have HE := hidden hE
  have HW := hidden awake_any
  clear hi hz0 hz1 hz2 hi5 hy0 hy1 hy2 hlen hat hnum hE
  obtain ⟨gm, hgm, hgm1⟩ : ∃ gm : Nat, (gaps.tmod 1000).natAbs = gm ∧ gm ≤ 999 := ⟨_, rfl, by rw [Int.natAbs_tmod]; show gaps.natAbs % 1000 ≤ 999; omega⟩
  have HGM := hidden hgm
  clear hgm
  go_enter Tryd.func6, Tryd.ntmps6
  go_wp2
  go_loopg [5, 6, 7] len (fun gk vb vw v wr => ∃ (i : Nat) (ps : List (Tok × List UInt8)), i ≤ len ∧ gk = len - i ∧ v = .int .i64 i ∧ (∀ x ∈ ps, okP x) ∧ (txt ps).length ≤ 524316 ∧ R2 w vb (txt ps) vw (wantH 0 ps) wr)
  case atStart => exact ⟨0, [], Nat.zero_le _, rfl, rfl, (fun x hx => by cases hx), by decide, ⟨World.ownsRow_nil _ _ _ _, World.ownsRow_nil _ _ _ _, Below.refl _ _⟩⟩
  case round =>
    obtain ⟨i, ps, hil, rfl, rfl, hok, htl, hr2⟩ := hrel
    have HOK := hidden hok
    have HR := hidden hr2
    obtain ⟨ba, bc, rfl⟩ := hr2.shapeB
    clear hok hr2
    have htI : ((txt ps).length : Int) ≤ 524316 := by omega
    by_cases hlt : i < len ∧ (txt ps).length < 524288
    · obtain ⟨hlt, hlt2⟩ := hlt
      have j1 : (i : Int) < (len : Int) := by omega
      have j2 : ((txt ps).length : Int) < 524288 := by omega
      have jr : (len : Int) ≤ 140737488351232 := by omega
      rcases HAT.out.below HR.out.bel with h0 | ⟨g, off, rfl, hc⟩
      · rw [h0] at HLN; exact absurd HLN.out (by simp; omega)
      have HC := hidden (hc i (by rw [HLN.out]; exact hlt))
      obtain ⟨c0, c1, c2, c3⟩ := hc i (by rw [HLN.out]; exact hlt)
      clear hc
      have HNI := hidden (HNUM.out i hlt)
      generalize nthT ts i = t at *
      have HRT := hidden (right_any t)
      cases hrb : rightB t with
      | false =>
        rw [hrb] at HRT
        obtain ⟨so, tx, nm, pl⟩ := t
        simp only at c0 c1 c2 c3 HRT
        go_wp2_with (go_at_call 16; (with_reducible refine (HRT.out _).mono ?_); rintro e w1 ⟨rfl, hb1⟩; have R1 := hidden (HR.out.below hb1); clear hb1)
        go_roundg (len - (i + 1))
        case measure => omega
        case rel => exact ⟨i + 1, ps, by omega, rfl, by go_num, HOK.out, htl, R1.out⟩
      | true =>
        rw [hrb] at HRT
        have HSL := hidden (spelt_len hrb HNI.out)
        have hnf := HNI.out
        obtain ⟨so, tx, nm, pl⟩ := t
        simp only at c0 c1 c2 c3 HRT
        obtain ⟨L, hL⟩ : ∃ L : Int, ((txt ps).length : Int) = L := ⟨_, rfl⟩
        have hL2 : 0 ≤ L ∧ L < 524288 := by omega
        have HL := hidden hL
        have HSP : Hid (∀ W, Calls Tryd.prog 17 #[.agg #[.int .u8 so, .string (str tx), .int .i64 nm, .int .i64 L]] W fun e w' => e = .returned (.string (str (spelt ⟨so, tx, nm, pl⟩))) ∧ Below W.heap.size W w') := fun W => spelt_any ⟨so, tx, nm, L⟩ W hnf
        obtain ⟨r, hr⟩ : ∃ r : Int, gaps.tmod 1000 = r := ⟨_, rfl⟩
        have hrg := HGM.out
        rw [hr] at hrg
        obtain ⟨i7, hi7⟩ : ∃ i7 : Nat, i % 7 = i7 := ⟨_, rfl⟩
        have u1 : (i : Int).tmod 7 = (i7 : Int) := by rw [Int.tmod_eq_emod_of_nonneg (by omega)]; omega
        have u2 : (i : Int) % 7 = (i7 : Int) := by omega
        obtain ⟨kk, hkk⟩ : ∃ kk : Nat, gm + i7 = kk := ⟨_, rfl⟩
        have u3 : (gm : Int) + (i7 : Int) = (kk : Int) := by omega
        have hkb : kk ≤ 100000 := by omega
        have u4 : (kk : Int) ≤ 100000 := by omega
        have HBT := hidden (between_any kk hkb)
        have HGF := hidden ((gap_facts kk []).2.2.2)
        have HTX : Hid (txt (ps ++ [(⟨so, tx, nm, pl⟩, gapS kk)]) = txt ps ++ spelt ⟨so, tx, nm, pl⟩ ++ gapS kk) := by show _ = _; rw [txt_snoc, List.append_assoc]
        have HWT : Hid (wantH 0 (ps ++ [(⟨so, tx, nm, pl⟩, gapS kk)]) = wantH 0 ps ++ [⟨so, tx, nm, L⟩]) := by show _ = _; rw [want_snoc, Nat.zero_add, HL.out]
        have HOK2 : Hid (∀ x ∈ ps ++ [(⟨so, tx, nm, pl⟩, gapS kk)], okP x) := by
          intro x hx
          rcases List.mem_append.1 hx with hx | hx
          · exact HOK.out x hx
          · simp only [List.mem_cons, List.not_mem_nil, or_false] at hx
            subst hx
            exact ⟨hrb, hnf, kk, rfl⟩
        have HWL := hidden (want_len ps 0 HOK.out)
        have sS := str_size (spelt ⟨so, tx, nm, pl⟩)
        have sG := str_size (gapS kk)
        have HLQ : Hid ((spelt ⟨so, tx, nm, pl⟩).length ≤ 20 ∧ (gapS kk).length ≤ 8 ∧ (txt ps).length < 524288) := ⟨HSL.out, HGF.out, hlt2⟩
        clear hi7 hkk hrb hnf HNI HNUM HSL HGF
        generalize spelt ⟨so, tx, nm, pl⟩ = S at *
        generalize gapS kk = G at *
        by_cases hneg : r < 0
        · have v1 : -r = (gm : Int) := by omega
          have v2 : wrap64 (-r) = (gm : Int) := by unfold wrap64; omega
          clear hrg hL
          go_wp2_with (first
            | (at_builtin; refine Lib.wpList_append_own_string _ rfl _ _ 34 9 rfl w.heap.size 5 i5 Tryd.underlying34 Tryd.underlying9 HJ.out HJ0.out HJ1.out HJ2.out _ (txt ps ++ S).length (Lib.strCells (str (txt ps ++ S))) rfl R4.out.bytes (str G) rfl (by have := HLQ.out; rw [sG, List.length_append]; unfold maxLen; omega) (by have := HLQ.out; rw [sG, List.length_append]; omega) R4.out.bel.size ?_; intro v5 w5 hown hgrow _; have R5 := hidden (R4.out.strA hown hgrow); clear hown hgrow)
            | (go_at_call 18; (with_reducible refine (HBT.out _).mono ?_); rintro e w' ⟨rfl, rfl⟩)
            | (at_builtin; refine Lib.wpList_append_own_string _ rfl _ _ 34 9 rfl w.heap.size 5 i5 Tryd.underlying34 Tryd.underlying9 HJ.out HJ0.out HJ1.out HJ2.out _ (txt ps).length (Lib.strCells (str (txt ps))) rfl R3.out.bytes (str S) rfl (by have := HLQ.out; rw [sS]; unfold maxLen; omega) (by have := HLQ.out; rw [sS]; omega) R3.out.bel.size ?_; intro v4 w4 hown hgrow _; have R4 := hidden (R3.out.strA hown hgrow); clear hown hgrow)
            | (go_at_call 17; (with_reducible refine (HSP.out _).mono ?_); rintro e w3 ⟨rfl, hb3⟩; have R3 := hidden (Q2.out.below hb3); clear hb3)
            | (at_builtin; refine wpList_append_own _ rfl _ _ 22 rfl w.heap.size 33 i0 (.agg #[.int .u8 0, .string ⟨#[]⟩, .int .i64 0, .int .i64 0]) 4 40 Tryd.underlying22 HI.out HI0.out HI1.out HI2.out rfl (by decide) _ (wantH 0 ps).length ((wantH 0 ps).flatMap tokC) rfl (R1.out.below (below_two w1 _ _)).toks ⟨w1.heap.size + 1, 0, none⟩ 1 1 (tokC ⟨so, tx, nm, L⟩) rfl rfl (tok_news w1 _ _ _ _ _ _) (tok_one _) (by have := HWL.out; unfold maxLen; omega) (by have := HWL.out; omega) (by have h1 := R1.out.bel.size; simp; omega) ?_; intro vq w2 hown hgrow _; have Q2 := hidden ((R1.out.below (below_two w1 _ _)).tokA hown hgrow); have d0 : w2.cell? ⟨w1.heap.size, 0, none⟩ = some (.int .u8 so) := hgrow.cell (by simp) (fun e => R1.out.toks.lt (Nat.le_refl _) e.symm); have d1 : w2.cell? ⟨w1.heap.size, 1, none⟩ = some (.string (str tx)) := hgrow.cell (by simp) (fun e => R1.out.toks.lt (Nat.le_refl _) e.symm); have d2 : w2.cell? ⟨w1.heap.size, 2, none⟩ = some (.int .i64 nm) := hgrow.cell (by simp) (fun e => R1.out.toks.lt (Nat.le_refl _) e.symm); have d3 : w2.cell? ⟨w1.heap.size, 3, none⟩ = some (.int .i64 L) := hgrow.cell (by simp) (fun e => R1.out.toks.lt (Nat.le_refl _) e.symm); clear hown hgrow)
            | (go_at_call 16; (with_reducible refine (HRT.out _).mono ?_); rintro e w1 ⟨rfl, hb1⟩; have R1 := hidden (HR.out.below hb1); obtain ⟨f0, f1, f2, f3⟩ := HC.out.below hb1; have hLz := HL.out; clear hb1))
          go_roundg (len - (i + 1))
          case measure => omega
          case rel => exact ⟨i + 1, ps ++ [(⟨so, tx, nm, pl⟩, G)], by omega, rfl, by go_num, HOK2.out, by rw [HTX.out, List.length_append, List.length_append]; have := HLQ.out; omega, by rw [HTX.out, HWT.out]; exact R5.out⟩
        · have v1 : r = (gm : Int) := by omega
          subst v1
          have v2 : ¬ ((gm : Int) < 0) := by omega
          have v3 : decide ((gm : Int) < 0) = false := decide_eq_false v2
          clear hrg hL hneg
          go_wp2_with (first
            | (at_builtin; refine Lib.wpList_append_own_string _ rfl _ _ 34 9 rfl w.heap.size 5 i5 Tryd.underlying34 Tryd.underlying9 HJ.out HJ0.out HJ1.out HJ2.out _ (txt ps ++ S).length (Lib.strCells (str (txt ps ++ S))) rfl R4.out.bytes (str G) rfl (by have := HLQ.out; rw [sG, List.length_append]; unfold maxLen; omega) (by have := HLQ.out; rw [sG, List.length_append]; omega) R4.out.bel.size ?_; intro v5 w5 hown hgrow _; have R5 := hidden (R4.out.strA hown hgrow); clear hown hgrow)
            | (go_at_call 18; (with_reducible refine (HBT.out _).mono ?_); rintro e w' ⟨rfl, rfl⟩)
            | (at_builtin; refine Lib.wpList_append_own_string _ rfl _ _ 34 9 rfl w.heap.size 5 i5 Tryd.underlying34 Tryd.underlying9 HJ.out HJ0.out HJ1.out HJ2.out _ (txt ps).length (Lib.strCells (str (txt ps))) rfl R3.out.bytes (str S) rfl (by have := HLQ.out; rw [sS]; unfold maxLen; omega) (by have := HLQ.out; rw [sS]; omega) R3.out.bel.size ?_; intro v4 w4 hown hgrow _; have R4 := hidden (R3.out.strA hown hgrow); clear hown hgrow)
            | (go_at_call 17; (with_reducible refine (HSP.out _).mono ?_); rintro e w3 ⟨rfl, hb3⟩; have R3 := hidden (Q2.out.below hb3); clear hb3)
            | (at_builtin; refine wpList_append_own _ rfl _ _ 22 rfl w.heap.size 33 i0 (.agg #[.int .u8 0, .string ⟨#[]⟩, .int .i64 0, .int .i64 0]) 4 40 Tryd.underlying22 HI.out HI0.out HI1.out HI2.out rfl (by decide) _ (wantH 0 ps).length ((wantH 0 ps).flatMap tokC) rfl (R1.out.below (below_two w1 _ _)).toks ⟨w1.heap.size + 1, 0, none⟩ 1 1 (tokC ⟨so, tx, nm, L⟩) rfl rfl (tok_news w1 _ _ _ _ _ _) (tok_one _) (by have := HWL.out; unfold maxLen; omega) (by have := HWL.out; omega) (by have h1 := R1.out.bel.size; simp; omega) ?_; intro vq w2 hown hgrow _; have Q2 := hidden ((R1.out.below (below_two w1 _ _)).tokA hown hgrow); have d0 : w2.cell? ⟨w1.heap.size, 0, none⟩ = some (.int .u8 so) := hgrow.cell (by simp) (fun e => R1.out.toks.lt (Nat.le_refl _) e.symm); have d1 : w2.cell? ⟨w1.heap.size, 1, none⟩ = some (.string (str tx)) := hgrow.cell (by simp) (fun e => R1.out.toks.lt (Nat.le_refl _) e.symm); have d2 : w2.cell? ⟨w1.heap.size, 2, none⟩ = some (.int .i64 nm) := hgrow.cell (by simp) (fun e => R1.out.toks.lt (Nat.le_refl _) e.symm); have d3 : w2.cell? ⟨w1.heap.size, 3, none⟩ = some (.int .i64 L) := hgrow.cell (by simp) (fun e => R1.out.toks.lt (Nat.le_refl _) e.symm); clear hown hgrow)
            | (go_at_call 16; (with_reducible refine (HRT.out _).mono ?_); rintro e w1 ⟨rfl, hb1⟩; have R1 := hidden (HR.out.below hb1); obtain ⟨f0, f1, f2, f3⟩ := HC.out.below hb1; have hLz := HL.out; clear hb1))
          go_roundg (len - (i + 1))
          case measure => omega
          case rel => exact ⟨i + 1, ps ++ [(⟨so, tx, nm, pl⟩, G)], by omega, rfl, by go_num, HOK2.out, by rw [HTX.out, List.length_append, List.length_append]; have := HLQ.out; omega, by rw [HTX.out, HWT.out]; exact R5.out⟩
    · have HWE : Hid (wantH 0 ps ++ [⟨0, [], 0, ((txt ps).length : Int)⟩] = wantT 0 ps) := by show _ = _; rw [want_end, Nat.zero_add]
      have HWL := hidden (want_len ps 0 HOK.out)
      have HWN : Hid ((wantH 0 ps ++ [(⟨0, [], 0, ((txt ps).length : Int)⟩ : Tok)]).length = (wantH 0 ps).length + 1) := by show _ = _; simp
      have HTN : Hid ((wantT 0 ps).length = (wantH 0 ps).length + 1) := by show _ = _; rw [← HWE.out]; simp
      have HALL := hidden (all_at (txt ps) (wantT 0 ps) ((wantH 0 ps).length + 1) (by rw [text_short (by omega), read_back ps 0 HOK.out]) HTN.out (by intro e; have := HTN.out; rw [e] at this; simp at this))
      have HS : Hid (∀ W a b ca cb, AtT W a (wantT 0 ps) → AtT W b (wantT 0 ps) → Calls Tryd.prog 11 #[.slice a ((wantH 0 ps).length + 1) ca, .slice b ((wantH 0 ps).length + 1) cb] W fun e w' => e = .returned (.bool true) ∧ ∃ m, w' = W.drewN m) := fun W a b ca cb ha hb =>
        same_any a b _ ca cb _ W HTN.out ha hb (by have := HWL.out; omega)
      have al : Hid (∀ {w1 : World} (o : Obj), Below w.heap.size w w1 → Below w.heap.size w (w1.alloc o)) := fun o h => h.alloc h.size o
      have bx : Hid (∀ (W : World) (o : Obj), Below W.heap.size W (W.alloc o)) := fun W o => (Below.refl _ _).alloc (Nat.le_refl _) _
      by_cases hlt2 : i < len
      · have j1 : (i : Int) < (len : Int) := by omega
        have j2 : ¬ (((txt ps).length : Int) < 524288) := by omega
        have j2' : decide (((txt ps).length : Int) < 524288) = false := decide_eq_false j2
        go_wp2_with (first
          | (go_at_call 11; (with_reducible refine (HS.out _ _ _ _ _ G4.out V4.out).mono ?_); rintro e w5 ⟨rfl, m5, rfl⟩)
          | (go_at_call 12; (with_reducible refine (HW.out _ (HE.out.below (al.out _ B3.out))).mono ?_); rintro e w4 ⟨rfl, hb4⟩; have B4 := hidden ((al.out _ B3.out).trans (hb4.mono (al.out _ B3.out).size)); have G4 := hidden ((G3.out.below (bx.out _ _)).below hb4); have V4 := hidden ((V3.out.below (bx.out _ _)).below hb4); have D4 := (two_new _ _ _ _).later hb4; have s0 := D4.c0; have s1 := D4.c1; clear hb4 D4)
          | (go_at_call 9; (with_reducible refine (HALL.out _ (HE.out.below Q2.out.bel)).mono ?_); rintro e w3 ⟨g3, off3, cap3, rfl, hat3, hcap3, hb3⟩; have B3 := hidden (Q2.out.bel.trans (hb3.mono Q2.out.bel.size)); have G3 := hidden hat3; have V3 := hidden (V2.out.below hb3); clear hb3 hat3)
          | (at_builtin; refine wpList_append_own _ rfl _ _ 22 rfl w.heap.size 33 i0 (.agg #[.int .u8 0, .string ⟨#[]⟩, .int .i64 0, .int .i64 0]) 4 40 Tryd.underlying22 HI.out HI0.out HI1.out HI2.out rfl (by decide) _ (wantH 0 ps).length ((wantH 0 ps).flatMap tokC) rfl (HR.out.below (bx.out _ _)).toks ⟨wr.heap.size, 0, none⟩ 1 1 (tokC ⟨0, [], 0, ((txt ps).length : Int)⟩) rfl rfl (tok_news1 wr _ _ _ _ _) (tok_one _) (by have := HWL.out; unfold maxLen; omega) (by have := HWL.out; omega) (by have h1 := HR.out.bel.size; simp; omega) ?_; intro vq w2 hown hgrow _; have Q2 := hidden ((HR.out.below (bx.out _ _)).tokA hown hgrow); obtain ⟨aq, cq, eq, hatq⟩ := Q2.out.toks.at; rw [HWE.out] at hatq; rw [HWN.out] at eq; have V2 := hidden hatq; have hcv := conv_bytes Q2.out.bytes; subst eq; clear hown hgrow hatq))
        go_ret
        exact ⟨rfl, bdrew B4.out _⟩
      · have j1 : ¬ ((i : Int) < (len : Int)) := by omega
        have j1' : decide ((i : Int) < (len : Int)) = false := decide_eq_false j1
        go_wp2_with (first
          | (go_at_call 11; (with_reducible refine (HS.out _ _ _ _ _ G4.out V4.out).mono ?_); rintro e w5 ⟨rfl, m5, rfl⟩)
          | (go_at_call 12; (with_reducible refine (HW.out _ (HE.out.below (al.out _ B3.out))).mono ?_); rintro e w4 ⟨rfl, hb4⟩; have B4 := hidden ((al.out _ B3.out).trans (hb4.mono (al.out _ B3.out).size)); have G4 := hidden ((G3.out.below (bx.out _ _)).below hb4); have V4 := hidden ((V3.out.below (bx.out _ _)).below hb4); have D4 := (two_new _ _ _ _).later hb4; have s0 := D4.c0; have s1 := D4.c1; clear hb4 D4)
          | (go_at_call 9; (with_reducible refine (HALL.out _ (HE.out.below Q2.out.bel)).mono ?_); rintro e w3 ⟨g3, off3, cap3, rfl, hat3, hcap3, hb3⟩; have B3 := hidden (Q2.out.bel.trans (hb3.mono Q2.out.bel.size)); have G3 := hidden hat3; have V3 := hidden (V2.out.below hb3); clear hb3 hat3)
          | (at_builtin; refine wpList_append_own _ rfl _ _ 22 rfl w.heap.size 33 i0 (.agg #[.int .u8 0, .string ⟨#[]⟩, .int .i64 0, .int .i64 0]) 4 40 Tryd.underlying22 HI.out HI0.out HI1.out HI2.out rfl (by decide) _ (wantH 0 ps).length ((wantH 0 ps).flatMap tokC) rfl (HR.out.below (bx.out _ _)).toks ⟨wr.heap.size, 0, none⟩ 1 1 (tokC ⟨0, [], 0, ((txt ps).length : Int)⟩) rfl rfl (tok_news1 wr _ _ _ _ _) (tok_one _) (by have := HWL.out; unfold maxLen; omega) (by have := HWL.out; omega) (by have h1 := HR.out.bel.size; simp; omega) ?_; intro vq w2 hown hgrow _; have Q2 := hidden ((HR.out.below (bx.out _ _)).tokA hown hgrow); obtain ⟨aq, cq, eq, hatq⟩ := Q2.out.toks.at; rw [HWE.out] at hatq; rw [HWN.out] at eq; have V2 := hidden hatq; have hcv := conv_bytes Q2.out.bytes; subst eq; clear hown hgrow hatq))
        go_ret
        exact ⟨rfl, bdrew B4.out _⟩
end Go.Proofs.YtendmdokgpgngaaDoor

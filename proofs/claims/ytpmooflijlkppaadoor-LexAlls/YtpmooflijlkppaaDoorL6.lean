/- lex.All: a text's tokens, whatever the text. -/
import Derived.Test.YtpmooflijlkppaaDoorL5
import Derived.Test.YtpmooflijlkppaaDoorLAll
namespace Go.Proofs.YtpmooflijlkppaaDoor
open Go.ChangeShapes Go.WideShapes Go.ChangeAt Go.RowKit

theorem Tryd.infoTK : (Tryd.prog.info? 54).map (fun i => (i.zero, i.size, i.bytes)) = some (some (.agg #[.int .u8 0, .string ⟨#[]⟩, .int .i64 0, .int .i64 0]), 4, 40) := by kernel_rfl
/-- A token's four cells. -/
def tokC (t : Tok) : List Value := [.int .u8 t.sort, .string (str t.text), .int .i64 t.num, .int .i64 t.place]
theorem tokC_len : ∀ ts : List Tok, (ts.flatMap tokC).length = ts.length * 4
  | [] => rfl
  | t :: r => by
    rw [List.flatMap_cons, List.length_append, tokC_len r, List.length_cons]
    show 4 + _ = _
    omega
/-- A row of tokens of a call's own. -/
def Toks (base : Nat) (w : World) (v : Value) (ts : List Tok) : Prop := w.ownsRow base 54 4 v ts.length (ts.flatMap tokC)
theorem Toks.ne {base w v ts} (h : Toks base w v ts) {k : Nat} (hk : k < base) : v.ownBlock ≠ some k := by
  rcases h.2 with ⟨rfl, -⟩ | ⟨g, c, cur, rfl, hg, -⟩
  · intro e; cases e
  · intro e; cases e; exact absurd hk (by simpa using hg)
theorem Toks.lt {base w v ts} (h : Toks base w v ts) {k : Nat} (hk : w.heap.size ≤ k) : v.ownBlock ≠ some k := by
  rcases h.2 with ⟨rfl, -⟩ | ⟨g, c, cur, rfl, hg, hh, -⟩
  · intro e; cases e
  · intro e; cases e
    have := (Array.getElem?_eq_some_iff.1 hh).1
    simp at hk; omega
theorem Toks.grown {base w w' v ts b} (h : Toks base w v ts) (hg : w.grownBy w' (some b)) (hb : b < base) : Toks base w' v ts := World.ownsRow.kept h hg (Or.inr (h.ne hb))
theorem Toks.below {base w w' v ts} (h : Toks base w v ts) (hb : Below w.heap.size w w') : Toks base w' v ts := by
  refine ⟨h.1, ?_⟩
  rcases h.2 with h2 | ⟨g, cap, cur, hv, hg, hh, r⟩
  · exact .inl h2
  · refine .inr ⟨g, cap, cur, hv, hg, ?_, r⟩
    rw [hb.block g (Array.getElem?_eq_some_iff.1 hh).1]; exact hh
theorem Toks.mono {base base' w v ts} (h : Toks base w v ts) (hb : base' ≤ base) : Toks base' w v ts := by
  refine ⟨h.1, ?_⟩
  rcases h.2 with h2 | ⟨g, cap, cur, hv, hg, r⟩
  · exact .inl h2
  · exact .inr ⟨g, cap, cur, hv, Nat.le_trans hb hg, r⟩
/-- The state of All between two tokens. -/
structure AllSt (w : World) (l : List UInt8) (p : Nat) (v : Value) (ts : List Tok) (wr : World) : Prop where
  cur : Cur 51 (w.heap.size + 1) l p wr
  owns : Toks (w.heap.size + 2) wr v ts
  fault : wr.heap[w.heap.size]? = some (.cells #[.int .i64 0, .int .i64 0] 25 (0, 0))
  bel : Below w.heap.size w wr
  env : Env wr
theorem below_grown {B : Nat} {a w w' : World} {k : Nat} (h : Below B a w) (hg : w.grownBy w' (some k)) (hk : B ≤ k) (hB : B ≤ w.heap.size) : Below B a w' :=
  h.trans ⟨hg.os, hg.tape, hg.output, hg.size, fun i hi => hg.block i (by omega) (fun e => by have := Option.some.inj e; omega)⟩
theorem below_grownO {B : Nat} {a w w' : World} {row : Option Nat} (h : Below B a w) (hg : w.grownBy w' row) (hk : ∀ k, row = some k → B ≤ k) (hB : B ≤ w.heap.size) : Below B a w' :=
  h.trans ⟨hg.os, hg.tape, hg.output, hg.size, fun i hi => hg.block i (by omega) (fun e => by have := hk i e.symm; omega)⟩
theorem AllSt.grown {w l p v ts wr w' q} (h : AllSt w l p v ts wr) (hE : Env w) (hg : wr.grownBy w' (some (w.heap.size + 1))) (hc : Cur 51 (w.heap.size + 1) l q w') : AllSt w l q v ts w' where
  cur := hc
  owns := h.owns.grown hg (by omega)
  fault := (hg.block _ (Array.getElem?_eq_some_iff.1 h.fault).1 (fun e => by have := Option.some.inj e; omega)).trans h.fault
  bel := below_grown h.bel hg (by omega) h.bel.size
  env := h.env.grown hg (by have := hE.lt; omega)
theorem AllSt.below {w l p v ts wr w'} (h : AllSt w l p v ts wr) (hb : Below wr.heap.size wr w') : AllSt w l p v ts w' where
  cur := h.cur.below hb
  owns := h.owns.below hb
  fault := (hb.block _ (Array.getElem?_eq_some_iff.1 h.fault).1).trans h.fault
  bel := h.bel.trans (hb.mono h.bel.size)
  env := h.env.below hb
theorem AllSt.app {w l p v ts wr v' w' t} (h : AllSt w l p v ts wr) (hE : Env w) (ho : w'.ownsRow (w.heap.size + 2) 54 4 v' (ts.length + 1) (ts.flatMap tokC ++ tokC t)) (hg : wr.grownBy w' v.ownBlock) : AllSt w l p v' (ts ++ [t]) w' where
  cur := h.cur.kept (hg.block _ h.cur.lt (fun e => h.owns.ne (k := w.heap.size + 1) (by omega) e.symm))
  owns := by unfold Toks; rw [List.flatMap_append, List.length_append]; simpa [List.flatMap] using ho
  fault := (hg.block _ (Array.getElem?_eq_some_iff.1 h.fault).1 (fun e => h.owns.ne (k := w.heap.size) (by omega) e.symm)).trans h.fault
  bel := below_grownO h.bel hg (fun k e => by
    rcases Nat.lt_or_ge k (w.heap.size + 2) with h1 | h1
    · exact absurd e (h.owns.ne h1)
    · omega) h.bel.size
  env := by
    obtain ⟨te, pe, hc⟩ := h.env
    exact ⟨te, pe, hg.cell hc (fun e => h.owns.ne (k := 1) (by have := hE.lt; omega) e.symm)⟩
theorem tok_news (w : World) (o : Obj) (c0 c1 c2 c3 : Value) (t : TypeId) : ∀ j u, [c0, c1, c2, c3][j]? = some u → ((w.alloc o).alloc (.cells #[c0, c1, c2, c3] t)).cell? ((⟨w.heap.size + 1, 0, none⟩ : Addr).add j) = some u := by
  intro j u hu
  match j, hu with
  | 0, hu => simp at hu; subst hu; simp [Addr.add]
  | 1, hu => simp at hu; subst hu; simp [Addr.add]
  | 2, hu => simp at hu; subst hu; simp [Addr.add]
  | 3, hu => simp at hu; subst hu; simp [Addr.add]
theorem tok_one (t : Tok) : ∀ u ∈ tokC t, u.oneCell' = true := by
  intro u hu
  simp only [tokC, List.mem_cons, List.not_mem_nil, or_false] at hu
  rcases hu with rfl | rfl | rfl | rfl <;> rfl
theorem below_two (w : World) (o1 o2 : Obj) : Below w.heap.size w ((w.alloc o1).alloc o2) := ((Below.refl _ _).alloc (Nat.le_refl _) _).alloc (by simp) _
theorem two_cells {w : World} {n : Nat} {x y : Value} {T : TypeId} (h : w.heap[n]? = some (.cells #[x, y] T (0, 0))) : w.cell? ⟨n, 0, none⟩ = some x ∧ w.cell? ⟨n, 1, none⟩ = some y ∧ w.frozen? ⟨n, 0, none⟩ = false ∧ w.frozen? ⟨n, 1, none⟩ = false ∧ n < w.heap.size :=
  ⟨by simp [World.cell?, h], by simp [World.cell?, h], by simp [World.frozen?, h], by simp [World.frozen?, h], (Array.getElem?_eq_some_iff.1 h).1⟩
theorem ownsRow_setCell_low {w1 : World} {base base2 : Nat} {ad : Addr} {v u : Value} {ts : List Tok} {w2 : World} (h : Toks base w1 v ts) (h2 : Toks base2 w2 v ts) (ha : ad.block < base2) : Toks base (w1.setCell ad u) v ts := by
  refine ⟨h.1, ?_⟩
  rcases h.2 with h3 | ⟨g, cap, cur, hv, hg, hh, r⟩
  · exact .inl h3
  · refine .inr ⟨g, cap, cur, hv, hg, ?_, r⟩
    rw [Below.heap_setCell _ _ _ _ (fun e => by subst e; subst hv; exact absurd rfl (h2.ne ha))]
    exact hh
theorem cell_back {w : World} {n : Nat} {x y : Value} (a c : Value) (o : Obj) (h0 : w.cell? ⟨n, 0, none⟩ = some x) (h1 : w.cell? ⟨n, 1, none⟩ = some y) :
    (((w.setCell ⟨n, 0, none⟩ a).setCell ⟨n, 1, none⟩ c).alloc o).cell? ⟨n, 0, none⟩ = some a ∧ (((w.setCell ⟨n, 0, none⟩ a).setCell ⟨n, 1, none⟩ c).alloc o).cell? ⟨n, 1, none⟩ = some c := by
  have hn : n < ((w.setCell ⟨n, 0, none⟩ a).setCell ⟨n, 1, none⟩ c).heap.size := by simp; exact block_lt_of_cell h0
  have hb := (Below.refl ((w.setCell ⟨n, 0, none⟩ a).setCell ⟨n, 1, none⟩ c).heap.size ((w.setCell ⟨n, 0, none⟩ a).setCell ⟨n, 1, none⟩ c)).alloc (Nat.le_refl _) o
  refine ⟨(hb.cell (p := ⟨n, 0, none⟩) hn).trans ?_, (hb.cell (p := ⟨n, 1, none⟩) hn).trans ?_⟩
  · rw [World.cell?_setCell_other _ _ _ _ (by simp)]
    exact World.cell?_setCell_same _ _ _ h0
  · refine World.cell?_setCell_same (u := y) _ _ _ ?_
    rw [World.cell?_setCell_other _ _ _ _ (by simp)]
    exact h1
/-- How All ends. -/
def AllEnd (w : World) (l : List UInt8) (e : Ending) (w' : World) : Prop :=
  ∃ v, e = .returned (.tuple #[v, .agg #[.int .i64 (textG l).err, .int .i64 (textG l).place]]) ∧ Toks w.heap.size w' v (textG l).toks ∧ Below w.heap.size w w'

theorem all_long (l : List UInt8) (w : World) (hl : 1048576 < l.length) : Calls Tryd.prog 7 #[.string (str l)] w (AllEnd w l) := by
  have e1 := str_size l
  have hg : textG l = ⟨[], 2, 1048576⟩ := by unfold textG; rw [if_pos hl]
  have i1 : (1048576 : Int) < (l.length : Int) := by omega
  unfold AllEnd
  rw [hg]
  go_enter Tryd.func7, Tryd.ntmps7
  go_wp2
  exact bodyPost_ret (v := .tuple #[.slice none 0 0, .agg #[.int .i64 2, .int .i64 1048576]]) (by simp [results, Tryd.results7, go_sem]) rfl ⟨_, rfl, World.ownsRow_nil _ _ _ _, (Below.refl _ _).alloc (Nat.le_refl _) _⟩

set_option maxRecDepth 100000 in
set_option maxHeartbeats 2000000 in
theorem all_short (l : List UInt8) (w : World) (hE : Env w) (hl : l.length ≤ 1048576) : Calls Tryd.prog 7 #[.string (str l)] w (AllEnd w l) := by
  have e1 := str_size l
  have i1 : decide ((1048576 : Int) < (l.length : Int)) = false := decide_eq_false (by omega)
  have i2 : ¬ ((1048576 : Int) < (l.length : Int)) := by omega
  have HG : Hid (textG l = allL 0 l) := by show textG l = _; unfold textG; rw [if_neg (by omega)]
  have HE := hidden hE
  have HS0 : Hid (∀ x0 y0 x1 y1, x0 = Value.int .i64 0 → y0 = Value.int .i64 0 → x1 = Value.string (str l) → y1 = Value.int .i64 0 → AllSt w l 0 (.slice none 0 0) [] ((w.alloc (.cells #[x0, y0] 25)).alloc (.cells #[x1, y1] 51))) := by
    intro x0 y0 x1 y1 h1 h2 h3 h4
    subst h1 h2 h3 h4
    have hb : Below w.heap.size w ((w.alloc (.cells #[.int .i64 0, .int .i64 0] 25)).alloc (.cells #[.string (str l), .int .i64 0] 51)) := ((Below.refl _ _).alloc (Nat.le_refl _) _).alloc (by simp) _
    refine ⟨?_, World.ownsRow_nil _ _ _ _, ?_, hb, hE.below hb⟩
    · show ((w.heap.push _).push _)[w.heap.size + 1]? = _
      rw [Array.getElem?_push, if_pos (by simp)]
      rfl
    · show ((w.heap.push _).push _)[w.heap.size]? = _
      rw [Array.getElem?_push, if_neg (by simp), Array.getElem?_push, if_pos rfl]
  clear hE
  go_enter Tryd.func7, Tryd.ntmps7
  go_wp2
  have HS := hidden (HS0.out _ _ _ _ rfl rfl rfl rfl)
  clear HS0
  have HA0 : Hid (allL 0 l = (allL 0 (l.drop 0)).app []) := by show _ = _; rw [List.drop_zero, app_nil _ (fun h => allL_zero h)]
  go_loopg [5] (l.length + 1) (fun gk v wr => ∃ p ts, p ≤ l.length ∧ gk = l.length - p + 1 ∧ AllSt w l p v ts wr ∧ ts.length ≤ p ∧ allL 0 l = (allL p (l.drop p)).app ts)
  case atStart => exact ⟨0, [], Nat.zero_le _, by omega, HS.out, Nat.le_refl _, HA0.out⟩
  case round =>
    clear HS HA0
    obtain ⟨p, ts, hp, rfl, hst, hts, hall⟩ := hrel
    have HST := hidden hst
    have HALL := hidden hall
    clear hst hall
    have HK : Hid (∀ W, Cur 51 (w.heap.size + 1) l p W → Calls Tryd.prog 19 #[.pointer (some ⟨w.heap.size + 1, 0, none⟩)] W fun e w' => e = .returned (.tuple #[]) ∧ Moved 51 (w.heap.size + 1) l (p + skipN false (l.drop p)) W w') := fun W hc => skip_any _ _ l p W hc hp hl
    have hk := skipN_le false (l.drop p)
    rw [List.length_drop] at hk
    obtain ⟨p1, hp1⟩ : ∃ p1, p + skipN false (l.drop p) = p1 := ⟨_, rfl⟩
    rw [hp1] at HK
    have HP1 := hidden hp1
    have hp1' : p1 ≤ l.length := by omega
    have hpp : p ≤ p1 := by omega
    clear hp1 hk
    have hb1 : w.heap.size + 1 ≠ 1 := by have := HE.out.lt; omega
    by_cases hend : p1 = l.length
    · subst hend
      have HZ2 : Hid (∀ W, Cur 51 (w.heap.size + 1) l l.length W → Calls Tryd.prog 20 #[.pointer (some ⟨w.heap.size + 1, 0, none⟩)] W fun e w' => e = .returned (.tuple #[.agg #[.int .u8 0, .string (str []), .int .i64 0, .int .i64 0], .int .i64 0]) ∧ W.grownBy w' (some (w.heap.size + 1)) ∧ Cur 51 (w.heap.size + 1) l l.length w') := fun W hc => (token_end _ _ l W hc).mono fun _ _ h => ⟨h.1, h.2.1, h.2.2 rfl⟩
      have HALL2 : Hid (textG l = ⟨ts ++ [⟨0, [], 0, (l.length : Int)⟩], 0, 0⟩) := by
        show _ = _
        have e2 : (l.drop p).drop (skipN false (l.drop p)) = [] := by rw [List.drop_drop, HP1.out, List.drop_length]
        have h3 := allL_end (p := p) e2
        rw [HP1.out] at h3
        rw [HG.out, HALL.out, h3]
        rfl
      obtain ⟨i0, hi, hz0, hz1, hz2⟩ := info_parts Tryd.infoTK
      have HI := hidden hi
      have HI0 := hidden hz0
      have HI1 := hidden hz1
      have HI2 := hidden hz2
      clear hi hz0 hz1 hz2
      go_wp2_with (first
        | (at_builtin; refine wpList_append_own _ rfl _ _ 22 rfl (w.heap.size + 2) 54 i0 (.agg #[.int .u8 0, .string ⟨#[]⟩, .int .i64 0, .int .i64 0]) 4 40 Tryd.underlying22 HI.out HI0.out HI1.out HI2.out rfl (by decide) _ ts.length (ts.flatMap tokC) rfl (S5.out.below (below_two w5 _ _)).owns ⟨w5.heap.size + 1, 0, none⟩ 1 1 (tokC ⟨0, [], 0, (l.length : Int)⟩) rfl rfl (tok_news w5 _ _ _ _ _ _) (tok_one _) (by unfold maxLen; omega) (by omega) (by have h1 := S5.out.bel.size; have h2 := S5.out.cur.lt; simp; omega) ?_; intro v' w8 hown hgrow _; have S8 : Hid (AllSt w l l.length v' (ts ++ [⟨0, [], 0, (l.length : Int)⟩]) w8) := (S5.out.below (below_two w5 _ _)).app HE.out hown hgrow; have cb : w8.cell? ⟨w5.heap.size, 0, none⟩ = some (.int .u8 0) := hgrow.cell (by simp) (fun e => S5.out.owns.lt (Nat.le_refl _) e.symm); obtain ⟨k0, k1, g0, g1, k2⟩ := two_cells S8.out.fault; clear hown hgrow)
        | (go_at_call 20; (with_reducible refine (HZ2.out _ S1.out.cur).mono ?_); rintro e w5 ⟨rfl, hg5, hc5⟩; have S5 : Hid (AllSt w l l.length u5 ts w5) := S1.out.grown HE.out hg5 hc5; clear hg5 hc5)
        | (go_at_call 19; (with_reducible refine (HK.out _ HST.out.cur).mono ?_); rintro e w1 ⟨rfl, hm1⟩; have S1 : Hid (AllSt w l l.length u5 ts w1) := HST.out.grown HE.out hm1.grown hm1.cur; have c1 := hm1.cur.c1; clear hm1))
      exact bodyPost_ret (v := .tuple #[v', .agg #[.int .i64 0, .int .i64 0]]) (by simp [results, Tryd.results7, go_sem, k0, k1]) rfl (by
        refine ⟨v', by rw [HALL2.out], ?_, (S8.out.bel.setCell (p := ⟨w.heap.size, 0, none⟩) (Nat.le_refl _) _).setCell (p := ⟨w.heap.size, 1, none⟩) (Nat.le_refl _) _⟩
        rw [HALL2.out]
        exact ownsRow_setCell_low (ownsRow_setCell_low (S8.out.owns.mono (by omega)) S8.out.owns (show w.heap.size < w.heap.size + 2 by omega)) S8.out.owns (show w.heap.size < w.heap.size + 2 by omega))
    · by_cases herr : (tokO (l.drop p1)).err = 0
      · obtain ⟨hn, hn2, hsort⟩ := tok_some herr
        have HZ : Hid (∀ W, Cur 51 (w.heap.size + 1) l p1 W → Env W → Calls Tryd.prog 20 #[.pointer (some ⟨w.heap.size + 1, 0, none⟩)] W (OneEndP 51 (w.heap.size + 1) l p1 (tokO (l.drop p1)) W)) := fun W hc he => token_any _ _ l p1 W hc hb1 (by omega) hl he
        rw [List.length_drop] at hn2
        have HALL2 : Hid (allL 0 l = (allL (p1 + (tokO (l.drop p1)).n) (l.drop (p1 + (tokO (l.drop p1)).n))).app (ts ++ [{ (tokO (l.drop p1)).tok with place := (p1 : Int) }])) := by
          show _ = _
          have e2 : (l.drop p).drop (skipN false (l.drop p)) = l.drop p1 := by rw [List.drop_drop, HP1.out]
          have hne : (l.drop p).drop (skipN false (l.drop p)) ≠ [] := by rw [e2]; intro e; have := congrArg List.length e; rw [List.length_drop] at this; simp at this; omega
          have h3 := allL_tok (p := p) hne (by rw [e2]; exact herr)
          rw [e2, HP1.out, List.drop_drop, ← Nat.add_assoc, HP1.out] at h3
          rw [HALL.out, h3, app_cons]
        have hso : (tokO (l.drop p1)).tok.sort ≠ 0 := by omega
        generalize tokO (l.drop p1) = o at *
        obtain ⟨⟨so, tx, nm, pl⟩, er, n⟩ := o
        simp only at herr hn hn2 hsort hso HALL2
        subst herr
        have hso' : decide (so = 0) = false := decide_eq_false hso
        clear hsort HALL
        have HZ2 : Hid (∀ W, Cur 51 (w.heap.size + 1) l p1 W → Env W → Calls Tryd.prog 20 #[.pointer (some ⟨w.heap.size + 1, 0, none⟩)] W fun e w' => e = .returned (.tuple #[.agg #[.int .u8 so, .string (str tx), .int .i64 nm, .int .i64 pl], .int .i64 0]) ∧ W.grownBy w' (some (w.heap.size + 1)) ∧ Cur 51 (w.heap.size + 1) l (p1 + n) w') := fun W hc he => (HZ.out W hc he).mono fun _ _ h => ⟨h.1, h.2.1, h.2.2 rfl⟩
        clear HZ
        obtain ⟨i0, hi, hz0, hz1, hz2⟩ := info_parts Tryd.infoTK
        have HI := hidden hi
        have HI0 := hidden hz0
        have HI1 := hidden hz1
        have HI2 := hidden hz2
        clear hi hz0 hz1 hz2
        go_wp2_with (first
          | (at_builtin; refine wpList_append_own _ rfl _ _ 22 rfl (w.heap.size + 2) 54 i0 (.agg #[.int .u8 0, .string ⟨#[]⟩, .int .i64 0, .int .i64 0]) 4 40 Tryd.underlying22 HI.out HI0.out HI1.out HI2.out rfl (by decide) _ ts.length (ts.flatMap tokC) rfl (S5.out.below (below_two w5 _ _)).owns ⟨w5.heap.size + 1, 0, none⟩ 1 1 (tokC ⟨so, tx, nm, (p1 : Int)⟩) rfl rfl (tok_news w5 _ _ _ _ _ _) (tok_one _) (by unfold maxLen; omega) (by omega) (by have h1 := S5.out.bel.size; have h2 := S5.out.cur.lt; simp; omega) ?_; intro v' w8 hown hgrow _; have S8 : Hid (AllSt w l (p1 + n) v' (ts ++ [⟨so, tx, nm, (p1 : Int)⟩]) w8) := (S5.out.below (below_two w5 _ _)).app HE.out hown hgrow; have cb : w8.cell? ⟨w5.heap.size, 0, none⟩ = some (.int .u8 so) := hgrow.cell (by simp) (fun e => S5.out.owns.lt (Nat.le_refl _) e.symm); clear hown hgrow)
          | (go_at_call 20; (with_reducible refine (HZ2.out _ S1.out.cur S1.out.env).mono ?_); rintro e w5 ⟨rfl, hg5, hc5⟩; have S5 : Hid (AllSt w l (p1 + n) u5 ts w5) := S1.out.grown HE.out hg5 hc5; clear hg5 hc5)
          | (go_at_call 19; (with_reducible refine (HK.out _ HST.out.cur).mono ?_); rintro e w1 ⟨rfl, hm1⟩; have S1 : Hid (AllSt w l p1 u5 ts w1) := HST.out.grown HE.out hm1.grown hm1.cur; have c1 := hm1.cur.c1; clear hm1))
        go_roundg (l.length - (p1 + n) + 1)
        case measure => omega
        case rel => exact ⟨p1 + n, _, by omega, rfl, S8.out, by simp; omega, HALL2.out⟩
      · have HZ : Hid (∀ W, Cur 51 (w.heap.size + 1) l p1 W → Env W → Calls Tryd.prog 20 #[.pointer (some ⟨w.heap.size + 1, 0, none⟩)] W (OneEndP 51 (w.heap.size + 1) l p1 (tokO (l.drop p1)) W)) := fun W hc he => token_any _ _ l p1 W hc hb1 (by omega) hl he
        have HALL2 : Hid (textG l = ⟨[], (tokO (l.drop p1)).err, (p1 : Int)⟩) := by
          show _ = _
          have e2 : (l.drop p).drop (skipN false (l.drop p)) = l.drop p1 := by rw [List.drop_drop, HP1.out]
          have hne : (l.drop p).drop (skipN false (l.drop p)) ≠ [] := by rw [e2]; intro e; have := congrArg List.length e; rw [List.length_drop] at this; simp at this; omega
          have h3 := allL_err (p := p) hne (by rw [e2]; exact herr)
          rw [e2, HP1.out] at h3
          rw [HG.out, HALL.out, h3]
          unfold Got.app
          rw [if_neg herr]
        generalize tokO (l.drop p1) = o at *
        obtain ⟨⟨so, tx, nm, pl⟩, er, n⟩ := o
        simp only at herr HALL2
        have herr' : decide (er = 0) = false := decide_eq_false herr
        have HZ2 : Hid (∀ W, Cur 51 (w.heap.size + 1) l p1 W → Env W → Calls Tryd.prog 20 #[.pointer (some ⟨w.heap.size + 1, 0, none⟩)] W fun e w' => e = .returned (.tuple #[.agg #[.int .u8 so, .string (str tx), .int .i64 nm, .int .i64 pl], .int .i64 er]) ∧ W.grownBy w' (some (w.heap.size + 1))) := fun W hc he => (HZ.out W hc he).mono fun _ _ h => ⟨h.1, h.2.1⟩
        clear HZ HALL
        go_wp2_with (first
          | (go_at_call 20; (with_reducible refine (HZ2.out _ S1.out.cur S1.out.env).mono ?_); rintro e w5 ⟨rfl, hg5⟩; have B5 : Hid (Below w.heap.size w w5) := below_grown S1.out.bel hg5 (by omega) S1.out.bel.size; obtain ⟨k0, k1, g0, g1, k2⟩ := two_cells ((hg5.block _ (two_cells S1.out.fault).2.2.2.2 (fun e => by have := Option.some.inj e; omega)).trans S1.out.fault); clear hg5)
          | (go_at_call 19; (with_reducible refine (HK.out _ HST.out.cur).mono ?_); rintro e w1 ⟨rfl, hm1⟩; have S1 : Hid (AllSt w l p1 u5 ts w1) := HST.out.grown HE.out hm1.grown hm1.cur; have c1 := hm1.cur.c1; clear hm1))
        have r0 := fun o => cell_back (.int .i64 er) (.int .i64 (p1 : Int)) o k0 k1
        have r1 := fun o => (r0 o).1
        have r2 := fun o => (r0 o).2
        exact bodyPost_ret (v := .tuple #[.slice none 0 0, .agg #[.int .i64 er, .int .i64 (p1 : Int)]]) (by simp [results, Tryd.results7, go_sem, r1, r2]) rfl (by
          refine ⟨.slice none 0 0, by rw [HALL2.out], ?_, ?_⟩
          · rw [HALL2.out]; exact World.ownsRow_nil _ _ _ _
          · exact (((B5.out.setCell (p := ⟨w.heap.size, 0, none⟩) (Nat.le_refl _) _).setCell (p := ⟨w.heap.size, 1, none⟩) (Nat.le_refl _) _).alloc (by simp; omega) _))
theorem all_any (l : List UInt8) (w : World) (hE : Env w) : Calls Tryd.prog 7 #[.string (str l)] w (AllEnd w l) := by
  rcases Nat.lt_or_ge 1048576 l.length with h | h
  · exact all_long l w h
  · exact all_short l w hE h
end Go.Proofs.YtpmooflijlkppaaDoor

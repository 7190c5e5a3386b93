/- Texts of one chain, laid one behind the other. -/
import Derived.Test.YtehgkgbijhobdaaPartActorsTwo17
import Derived.Test.YtehgkgbijhobdaaPartActorsTwo12
import Derived.Test.YtehgkgbijhobdaaPartActorsTwo16
import Derived.Test.YtehgkgbijhobdaaPartActorsTwo11
namespace Go.Proofs.Ytehgkgbijhobdaa
open Go.ChangeShapes Go.WideShapes Go.ChangeAt Go.RowKit
theorem OutT.later {B : Nat} {w w' : World} {A : Nat → Option Addr} {C : Nat → Nat} {x : Option Addr} {O : List (List Int)} (h : OutT B w A C x O) (hb : Below w.heap.size w w') : OutT B w' A C x O := h.keep (fun k _ hk => hb.block k hk) hb.size
def RowV (B : Nat) (u : World) (row : List Int) (z : Value) : Prop := ∃ b c, z = .slice (some ⟨b, 0, none⟩) row.length c ∧ CapR B u (some ⟨b, 0, none⟩) c row
def TabV (B : Nat) (u : World) (O : List (List Int)) (z : Value) : Prop := ∃ g A C c, z = .slice (some ⟨g, 0, none⟩) O.length c ∧ OutT B u A C (some ⟨g, 0, none⟩) O
theorem RowV.later {B : Nat} {u u' : World} {row : List Int} {z : Value} (h : RowV B u row z) (hb : Below u.heap.size u u') : RowV B u' row z := by
  obtain ⟨b, c, h1, h2⟩ := h
  exact ⟨b, c, h1, h2.later hb⟩
theorem TabV.later {B : Nat} {u u' : World} {O : List (List Int)} {z : Value} (h : TabV B u O z) (hb : Below u.heap.size u u') : TabV B u' O z := by
  obtain ⟨g, A, C, c, h1, h2⟩ := h
  exact ⟨g, A, C, c, h1, h2.later hb⟩
theorem RowV.but {B K : Nat} {u u' : World} {row : List Int} {z : Value} (h : RowV B u row z) (hb : But K u u') (hK : K < B) : RowV B u' row z := by
  obtain ⟨b, c, h1, h2⟩ := h
  exact ⟨b, c, h1, h2.but hb hK⟩
theorem TabV.but {B K : Nat} {u u' : World} {O : List (List Int)} {z : Value} (h : TabV B u O z) (hb : But K u u') (hK : K < B) : TabV B u' O z := by
  obtain ⟨g, A, C, c, h1, h2⟩ := h
  exact ⟨g, A, C, c, h1, h2.but hb hK⟩
theorem RowV.one (V : World) (x : Int) {B : Nat} (hB : B ≤ V.heap.size) : RowV B (V.alloc (.cells #[.int .i64 x] 3)) [x] (.slice (some ⟨V.heap.size, 0, none⟩) 1 1) := ⟨_, 1, rfl, (capR_one V x).mono hB⟩
theorem TabV.one (V : World) (B b c : Nat) (row : List Int) (hB : B ≤ V.heap.size) (h : CapR B V (some ⟨b, 0, none⟩) c row) : TabV B (V.alloc (.cells #[.slice (some ⟨b, 0, none⟩) row.length c] 22)) [row] (.slice (some ⟨V.heap.size, 0, none⟩) 1 1) := ⟨_, _, _, 1, rfl, table_one V B b c row hB h⟩
theorem mark_store6 {P : Program} (w : World) {o : Oper} {ρ : Operand → Value} (T : TypeId) (x y : Operand) (ho : o.op = .store T x y) (hsz : ∀ w, (sizeOf T).run P w = .ok 6 w)
    (b : Nat) (S : TypeId) (c0 c1 c2 c3 c4 c5 : Value) (t0 n0 : Int) (p1 p2 p3 p4 : Option Addr) (l1 l2 l3 l4 k1 k2 k3 k4 : Nat) (hx : ρ x = .pointer (some ⟨b, 0, none⟩)) (hy : ρ y = .agg #[.int .u8 t0, .slice p1 l1 k1, .slice p2 l2 k2, .slice p3 l3 k3, .slice p4 l4 k4, .int .i64 n0]) (hB : BlkA S b w #[c0, c1, c2, c3, c4, c5]) {Q : World → Value → Prop}
    (h : ∀ w' v, BlkA S b w' #[.int .u8 t0, .slice p1 l1 k1, .slice p2 l2 k2, .slice p3 l3 k3, .slice p4 l4 k4, .int .i64 n0] → But b w w' → Q w' v) : markUpon P w Q ((execOp ρ o).run P w) := by
  have z0 : w.cell? ⟨b, 0, none⟩ = some c0 := hB.cell rfl
  have z1 : w.cell? ⟨b, 1, none⟩ = some c1 := hB.cell rfl
  have z2 : w.cell? ⟨b, 2, none⟩ = some c2 := hB.cell rfl
  have z3 : w.cell? ⟨b, 3, none⟩ = some c3 := hB.cell rfl
  have z4 : w.cell? ⟨b, 4, none⟩ = some c4 := hB.cell rfl
  have z5 : w.cell? ⟨b, 5, none⟩ = some c5 := hB.cell rfl
  have f0 := hB.frozen 0
  have f1 := hB.frozen 1
  have f2 := hB.frozen 2
  have f3 := hB.frozen 3
  have f4 := hB.frozen 4
  have f5 := hB.frozen 5
  have hs := six_but6 hB (.int .u8 t0) (.slice p1 l1 k1) (.slice p2 l2 k2) (.slice p3 l3 k3) (.slice p4 l4 k4) (.int .i64 n0)
  unfold execOp
  simp only [ho, hx, hy]
  simp [go_sem, hsz, z0, z1, z2, z3, z4, z5, f0, f1, f2, f3, f4, f5]
  exact h _ _ hs.1 hs.2
set_option maxRecDepth 100000 in
set_option maxHeartbeats 4000000 in
theorem rdone_3 (N : Nat → Prop) (w : World) (zs ks : List Int) (n : Nat) (v : Value) (a : Option Addr) (len cap : Nat) (I : List (List Int)) (h : IsRN N w 3 zs ks n v) (hA : ArgL w a len I) (hT : takesS 3 zs I = true) (hz : 1 ≤ nth (insS 3 zs) 0) :
    Calls Try.prog 31 #[v, .slice a len cap] w (DoneF N w 3 zs n (some ([[nth (nthL I 0) 0]], ks))) := by
  obtain ⟨p, cp, iA, ci, oA, co, k, ck, rfl, hp, hi, ho, hkk, np, ni, no, nk, h4⟩ := h
  obtain ⟨li, hli⟩ : ∃ q, (insS 3 zs).length = q := ⟨_, rfl⟩
  obtain ⟨lo, hlo⟩ : ∃ q, (outsS 3 zs).length = q := ⟨_, rfl⟩
  have HLI := hidden6 hli
  have HLO := hidden6 hlo
  have NP := hidden6 np
  have NI := hidden6 ni
  have NO := hidden6 no
  have NK := hidden6 nk
  have H4 := hidden6 h4
  have HP00 := hidden6 hp
  have HI00 := hidden6 hi
  have HO00 := hidden6 ho
  have HK00 := hidden6 hkk
  rw [hli, hlo]
  show Calls Try.prog 31 #[.agg #[.int .u8 3, .slice p zs.length cp, .slice iA li ci, .slice oA lo co, .slice k ks.length ck, .int .i64 (n : Int)], .slice a len cap] w _
  have hb0 := ((Below.refl w.heap.size w).alloc (Nat.le_refl _) (.cells #[.int .u8 3, .slice p zs.length cp, .slice iA li ci, .slice oA lo co, .slice k ks.length ck, .int .i64 (n : Int)] 31)).alloc (by simp) (.cells #[.int .u8 0, .slice none 0 0, .slice none 0 0, .slice none 0 0, .slice none 0 0, .int .i64 0] 31)
  have g2 := (blkA_new 31 w #[.int .u8 3, .slice p zs.length cp, .slice iA li ci, .slice oA lo co, .slice k ks.length ck, .int .i64 (n : Int)]).below ((Below.refl _ _).alloc (Nat.le_refl _) (.cells #[.int .u8 0, .slice none 0 0, .slice none 0 0, .slice none 0 0, .slice none 0 0, .int .i64 0] 31))
  have g4 : BlkA 31 (w.heap.size + 1) ((w.alloc (.cells #[.int .u8 3, .slice p zs.length cp, .slice iA li ci, .slice oA lo co, .slice k ks.length ck, .int .i64 (n : Int)] 31)).alloc (.cells #[.int .u8 0, .slice none 0 0, .slice none 0 0, .slice none 0 0, .slice none 0 0, .int .i64 0] 31)) #[.int .u8 0, .slice none 0 0, .slice none 0 0, .slice none 0 0, .slice none 0 0, .int .i64 0] := by
    have h3 := blkA_new 31 (w.alloc (.cells #[.int .u8 3, .slice p zs.length cp, .slice iA li ci, .slice oA lo co, .slice k ks.length ck, .int .i64 (n : Int)] 31)) #[.int .u8 0, .slice none 0 0, .slice none 0 0, .slice none 0 0, .slice none 0 0, .int .i64 0]
    rw [World.size_alloc] at h3
    exact h3
  have hA0 := hA.below hb0
  have hp0 := hp.below hb0
  have hk0 := hkk.below hb0
  have HB0 := hidden6 hb0
  have HRN : Hid (IsRN N w 3 zs ks n (RA 3 (.slice p zs.length cp) (.slice iA li ci) (.slice oA lo co) (.slice k ks.length ck) (n : Int))) := ⟨p, cp, iA, ci, oA, co, k, ck, by rw [hli, hlo], hp, hi, ho, hkk, np, ni, no, nk, h4⟩
  obtain ⟨ab, ao, xb, xo, m, c, rfl, l0, m0, hm, b1, b2⟩ := first_tok hA hT (by show 0 < 1; decide) hz
  have HAB : Hid (ab ≠ w.heap.size + 1) := by have : ab < w.heap.size := block_lt_of_cell b1; show _ ≠ _; omega
  have HXB : Hid (xb ≠ w.heap.size + 1) := by have : xb < w.heap.size := block_lt_of_cell b2; show _ ≠ _; omega
  have A1 := hidden6 (cell_keep6 hb0 b1)
  have A2 := hidden6 (cell_keep6 hb0 b2)
  have l0i : (0 : Int) < (len : Int) := by omega
  have m0i : (0 : Int) < (m : Int) := by omega
  clear hT hz hA0 hp0 hk0 b1 b2 hm
  generalize nth (nthL I 0) 0 = x at *
  clear hA np ni no nk h4 hli hlo hp hi ho hkk
  go_enter Try.func31, Try.ntmps31
  go_upto_region 1 with fail
  generalize (w.alloc (.cells #[.int .u8 3, .slice p zs.length cp, .slice iA li ci, .slice oA lo co, .slice k ks.length ck, .int .i64 (n : Int)] 31)).alloc (.cells #[.int .u8 0, .slice none 0 0, .slice none 0 0, .slice none 0 0, .slice none 0 0, .int .i64 0] 31) = W0 at *
  have G2 := hidden6 g2
  have G4 := hidden6 g4
  have L2 : w.heap.size + 1 < W0.heap.size := g4.lt
  have L1 : w.heap.size < W0.heap.size := by omega
  have e0 : W0.cell? ⟨w.heap.size, 0, none⟩ = some (.int .u8 3) := g2.cell rfl
  clear hb0
  have y1 : W0.cell? ⟨w.heap.size, 1, none⟩ = some (.slice p zs.length cp) := g2.cell rfl
  have y2 : W0.cell? ⟨w.heap.size, 2, none⟩ = some (.slice iA li ci) := g2.cell rfl
  have y3 : W0.cell? ⟨w.heap.size, 3, none⟩ = some (.slice oA lo co) := g2.cell rfl
  have y4 : W0.cell? ⟨w.heap.size, 4, none⟩ = some (.slice k ks.length ck) := g2.cell rfl
  have y5 : W0.cell? ⟨w.heap.size, 5, none⟩ = some (.int .i64 (n : Int)) := g2.cell rfl
  have HL2 := hidden6 L2
  clear g2 g4 y1 y2 y3 y4 y5
  go_upto_region 9 with fail
  refine wp_region_gen [8] (fun d i u z => match i with
      | 0 => z = .agg #[.int .u8 3, .slice p zs.length cp, .slice iA li ci, .slice oA lo co, .slice k ks.length ck, .int .i64 (n : Int)]
      | 1 => z = .slice (some ⟨ab, ao, none⟩) len cap
      | 2 => z = .pointer (some ⟨ab, ao, none⟩)
      | 3 => z = .slice (some ⟨xb, xo, none⟩) m c
      | 4 => z = .pointer (some ⟨xb, xo, none⟩)
      | 5 => z = .int .i64 x
      | 6 => RowV W0.heap.size u [x] z
      | 7 => TabV W0.heap.size u [[x]] z
      | 8 => True
      | 9 => TabV W0.heap.size u [[x]] z
      | 10 => z = .int .i64 0
      | _ => True) (fun d u => BlkA 31 (w.heap.size) u #[.int .u8 3, .slice p zs.length cp, .slice iA li ci, .slice oA lo co, .slice k ks.length ck, .int .i64 (n : Int)] ∧ (d 8 = true → BlkA 31 (w.heap.size + 1) u #[.int .u8 3, .slice p zs.length cp, .slice iA li ci, .slice oA lo co, .slice k ks.length ck, .int .i64 (n : Int)]) ∧ (d 8 = false → BlkA 31 (w.heap.size + 1) u #[.int .u8 0, .slice none 0 0, .slice none 0 0, .slice none 0 0, .slice none 0 0, .int .i64 0]) ∧ But (w.heap.size + 1) W0 u) (by kernel_rfl) (by kernel_rfl) (by kernel_rfl) ?_ ?_ ?_ ?_ ?_ ?_ (by kernel_rfl)
  · intro d i w v w' h hb
    match i, h with
    | 0, h => exact h
    | 1, h => exact h
    | 2, h => exact h
    | 3, h => exact h
    | 4, h => exact h
    | 5, h => exact h
    | 6, h => exact RowV.later h hb
    | 7, h => exact TabV.later h hb
    | 8, h => exact h
    | 9, h => exact TabV.later h hb
    | 10, h => exact h
    | _ + 11, _ => trivial
  · intro d u u' h hb
    exact ⟨h.1.below hb, fun e => (h.2.1 e).below hb, fun e => (h.2.2.1 e).below hb, h.2.2.2.trans (But.of_below hb)⟩
  · exact ⟨G2.out, fun h => absurd h (by decide), fun _ => G4.out, ⟨rfl, rfl, rfl, Nat.le_refl _, fun _ _ _ => rfl⟩⟩
  · intro d i o ρ w' hm ho hf hg hC hcs hfs hfr hdep
    match i, hm, ho, hf, hg, hfr, hdep with
    | 0, _, ho, hf, hg, hfr, hdep =>
      simp only [gTA, gCZ, gSI] at ho
      subst ho
      refine ⟨fun _ => ?_, fun hw => absurd (show true = false from hw) (by decide)⟩
      have tq : ρ (.tmp 2) = .pointer (some ⟨w.heap.size, 0, none⟩) := hfr 2 (by kernel_rfl)
      have c0 := hC.1.cell (k := 0) rfl
      have c1 := hC.1.cell (k := 1) rfl
      have c2 := hC.1.cell (k := 2) rfl
      have c3 := hC.1.cell (k := 3) rfl
      have c4 := hC.1.cell (k := 4) rfl
      have c5 := hC.1.cell (k := 5) rfl
      simp [go_sem, tq, c0, c1, c2, c3, c4, c5]
      exact ⟨Below.refl _ _, rfl⟩
    | 1, _, ho, hf, hg, hfr, hdep =>
      simp only [gTA, gCZ, gCS, gSI] at ho
      subst ho
      refine ⟨fun _ => ?_, fun hw => absurd (show true = false from hw) (by decide)⟩
      have ts : ρ (.tmp 1) = .slice (some ⟨ab, ao, none⟩) len cap := hfr 1 (by kernel_rfl)
      simp [go_sem, ts]
      exact ⟨Below.refl _ _, rfl⟩
    | 2, _, ho, hf, hg, hfr, hdep =>
      simp only [gTA, gCZ, gCS, gSI] at ho
      subst ho
      refine ⟨fun _ => ?_, fun hw => absurd (show true = false from hw) (by decide)⟩
      have d0 : ρ (.tmp 44) = .slice (some ⟨ab, ao, none⟩) len cap := hdep 1 44 (by kernel_rfl) (by kernel_rfl)
      simp [go_sem, d0, hcs, l0]
      exact ⟨Below.refl _ _, rfl⟩
    | 3, _, ho, hf, hg, hfr, hdep =>
      simp only [gTA, gCZ, gCS, gSI] at ho
      subst ho
      refine ⟨fun _ => ?_, fun hw => absurd (show true = false from hw) (by decide)⟩
      have cc := cell_but hC.2.2.2 A1.out HAB.out
      have d0 : ρ (.tmp 45) = .pointer (some ⟨ab, ao, none⟩) := hdep 2 45 (by kernel_rfl) (by kernel_rfl)
      simp [go_sem, d0, cc]
      exact ⟨Below.refl _ _, rfl⟩
    | 4, _, ho, hf, hg, hfr, hdep =>
      simp only [gTA, gCZ, gCS, gSI] at ho
      subst ho
      refine ⟨fun _ => ?_, fun hw => absurd (show true = false from hw) (by decide)⟩
      have d0 : ρ (.tmp 46) = .slice (some ⟨xb, xo, none⟩) m c := hdep 3 46 (by kernel_rfl) (by kernel_rfl)
      simp [go_sem, d0, hcs, m0]
      exact ⟨Below.refl _ _, rfl⟩
    | 5, _, ho, hf, hg, hfr, hdep =>
      simp only [gTA, gCZ, gCS, gSI] at ho
      subst ho
      refine ⟨fun _ => ?_, fun hw => absurd (show true = false from hw) (by decide)⟩
      have cc := cell_but hC.2.2.2 A2.out HXB.out
      have d0 : ρ (.tmp 47) = .pointer (some ⟨xb, xo, none⟩) := hdep 4 47 (by kernel_rfl) (by kernel_rfl)
      simp [go_sem, d0, cc]
      exact ⟨Below.refl _ _, rfl⟩
    | 6, _, ho, hf, hg, hfr, hdep =>
      simp only [gTA, gCZ, gCS, gSI] at ho
      subst ho
      refine ⟨fun _ => ?_, fun hw => absurd (show true = false from hw) (by decide)⟩
      have d0 : ρ (.tmp 48) = .int .i64 x := hdep 5 48 (by kernel_rfl) (by kernel_rfl)
      simp [go_sem, d0]
      exact ⟨(Below.refl _ _).alloc (Nat.le_refl _) _, RowV.one w' x hC.2.2.2.size⟩
    | 7, _, ho, hf, hg, hfr, hdep =>
      simp only [gTA, gCZ, gCS, gSI] at ho
      subst ho
      refine ⟨fun _ => ?_, fun hw => absurd (show true = false from hw) (by decide)⟩
      obtain ⟨b, c', e6, q6⟩ : RowV W0.heap.size w' [x] (ρ (.tmp 49)) := hdep 6 49 (by kernel_rfl) (by kernel_rfl)
      simp [go_sem, e6]
      exact ⟨(Below.refl _ _).alloc (Nat.le_refl _) _, TabV.one w' W0.heap.size b c' [x] hC.2.2.2.size q6⟩
    | 8, hm, _, _, _, _, _ => exact absurd hm (by decide)
    | 9, _, ho, hf, hg, hfr, hdep =>
      simp only [gTA, gCZ, gCS, gSI] at ho
      subst ho
      refine ⟨fun _ => ?_, fun hw => absurd (show true = false from hw) (by decide)⟩
      obtain ⟨g, A, C, cc, e7, q7⟩ : TabV W0.heap.size w' [[x]] (ρ (.tmp 50)) := hdep 7 50 (by kernel_rfl) (by kernel_rfl)
      simp [go_sem, e7]
      exact ⟨Below.refl _ _, g, A, C, cc, rfl, q7⟩
    | 10, _, ho, hf, hg, hfr, hdep =>
      simp only [gTA, gCZ, gCS, gSI] at ho
      subst ho
      refine ⟨fun _ => ?_, fun hw => absurd (show true = false from hw) (by decide)⟩
      simp [go_sem, hcs]
      exact ⟨Below.refl _ _, rfl⟩
    | n + 11, _, ho, _, _, _, _ => simp at ho
  · intro d i o ρ w' hm ho h0 hf hg hC hcs hfs hfr hdep
    match i, hm, ho, h0, hf, hg, hfr, hdep with
    | 0, hm, _, _, _, _, _, _ => exact absurd hm (by decide)
    | 1, hm, _, _, _, _, _, _ => exact absurd hm (by decide)
    | 2, hm, _, _, _, _, _, _ => exact absurd hm (by decide)
    | 3, hm, _, _, _, _, _, _ => exact absurd hm (by decide)
    | 4, hm, _, _, _, _, _, _ => exact absurd hm (by decide)
    | 5, hm, _, _, _, _, _, _ => exact absurd hm (by decide)
    | 6, hm, _, _, _, _, _, _ => exact absurd hm (by decide)
    | 7, hm, _, _, _, _, _, _ => exact absurd hm (by decide)
    | 8, _, ho, h0, hf, hg, hfr, hdep =>
      simp only [gTA, gCZ, gCS, gSI] at ho
      subst ho
      have tq : ρ (.tmp 4) = .pointer (some ⟨w.heap.size + 1, 0, none⟩) := hfr 4 (by kernel_rfl)
      have t0 : ρ (.tmp 43) = .agg #[.int .u8 3, .slice p zs.length cp, .slice iA li ci, .slice oA lo co, .slice k ks.length ck, .int .i64 (n : Int)] := hdep 0 43 (by kernel_rfl) (by kernel_rfl)
      refine ⟨rfl, mark_store6 w' 31 (.tmp 4) (.tmp 43) rfl size_actor (w.heap.size + 1) 31 _ _ _ _ _ _ _ _ _ _ _ _ _ _ _ _ _ _ _ _ tq t0 (hC.2.2.1 h0) ?_⟩
      intro u9 v9 hB9 hU9
      have hl2 := HL2.out
      have hsz := hC.2.2.2.size
      refine ⟨⟨hC.1.keep (hU9.block _ hC.1.lt (by omega)), fun _ => hB9, fun h => absurd h (by simp [doneAt]), hC.2.2.2.trans hU9⟩, fun h => absurd rfl h, ?_⟩
      intro j t _ hs
      match j, hs with
      | 0, hs => exact hs
      | 1, hs => exact hs
      | 2, hs => exact hs
      | 3, hs => exact hs
      | 4, hs => exact hs
      | 5, hs => exact hs
      | 6, hs => exact RowV.but hs hU9 HL2.out
      | 7, hs => exact TabV.but hs hU9 HL2.out
      | 8, hs => exact hs
      | 9, hs => exact TabV.but hs hU9 HL2.out
      | 10, hs => exact hs
      | _ + 11, _ => trivial
    | 9, hm, _, _, _, _, _, _ => exact absurd hm (by decide)
    | 10, hm, _, _, _, _, _, _ => exact absurd hm (by decide)
    | n + 11, _, ho, _, _, _, _, _ => simp at ho
  · intro V w9 hC9 hS
    obtain ⟨g9, A9, C9, c9, e9, o9⟩ : TabV W0.heap.size w9 [[x]] (V 9) := hS 9 (by decide) (by intro h; cases h)
    have e10 : V 10 = .int .i64 0 := hS 10 (by decide) (by intro h; cases h)
    simp only [puts, put_none, e9, e10]
    simp only [Act.put, List.setIfInBounds_toArray, List.set_cons_zero, List.set_cons_succ]
    clear hS e9 e10
    go_wp2
    have N9 := hidden6 (hC9.2.1 rfl)
    have z0 : w9.cell? ⟨w.heap.size + 1, 0, none⟩ = some (.int .u8 3) := N9.out.cell rfl
    have z1 : w9.cell? ⟨w.heap.size + 1, 1, none⟩ = some (.slice p zs.length cp) := N9.out.cell rfl
    have z2 : w9.cell? ⟨w.heap.size + 1, 2, none⟩ = some (.slice iA li ci) := N9.out.cell rfl
    have z3 : w9.cell? ⟨w.heap.size + 1, 3, none⟩ = some (.slice oA lo co) := N9.out.cell rfl
    have z4 : w9.cell? ⟨w.heap.size + 1, 4, none⟩ = some (.slice k ks.length ck) := N9.out.cell rfl
    have z5 : w9.cell? ⟨w.heap.size + 1, 5, none⟩ = some (.int .i64 (n : Int)) := N9.out.cell rfl
    refine bodyPost_ret (v := .tuple #[.agg #[.int .u8 3, .slice p zs.length cp, .slice iA li ci, .slice oA lo co, .slice k ks.length ck, .int .i64 (n : Int)], .slice (some ⟨g9, 0, none⟩) 1 c9, .int .i64 0]) (by simp [results, Try.results31, go_sem, z0, z1, z2, z3, z4, z5]) rfl ?_
    have q9 := HB0.out.trans (hC9.2.2.2.below (Nat.le_succ _) HB0.out.size)
    exact ⟨_, _, _, _, _, rfl, o9.mono HB0.out.size, same_rn HRN.out q9, q9⟩
set_option maxRecDepth 100000 in
set_option maxHeartbeats 4000000 in
theorem rdone_4 (N : Nat → Prop) (w : World) (zs ks : List Int) (n : Nat) (v : Value) (a : Option Addr) (len cap : Nat) (I : List (List Int)) (h : IsRN N w 4 zs ks n v) (hA : ArgL w a len I) (hT : takesS 4 zs I = true) (hz1 : zs.length = 2) (hz : (1 ≤ nth zs 0 ∧ nth zs 0 ≤ 16) ∧ 1 ≤ nth zs 1 ∧ nth zs 1 ≤ 64) :
    Calls Try.prog 31 #[v, .slice a len cap] w (DoneF N w 4 zs n (some ([weaveS (nth zs 0).toNat (nth zs 1).toNat I], ks))) := by
  obtain ⟨p, cp, iA, ci, oA, co, k, ck, rfl, hp, hi, ho, hkk, np, ni, no, nk, h4⟩ := h
  obtain ⟨pb, po, rfl, hpc0, hpc1⟩ : ∃ pb po, p = some ⟨pb, po, none⟩ ∧ w.cell? ⟨pb, po, none⟩ = some (.int .i64 (nth zs 0)) ∧ w.cell? ⟨pb, po + 1, none⟩ = some (.int .i64 (nth zs 1)) := by
    rcases hp with h0 | ⟨b, off, e, hc⟩
    · rw [h0] at hz1; simp at hz1
    · exact ⟨b, off, e, by have := hc 0 (by omega); rwa [Nat.add_zero] at this, hc 1 (by omega)⟩
  obtain ⟨li, hli⟩ : ∃ q, (insS 4 zs).length = q := ⟨_, rfl⟩
  obtain ⟨lo, hlo⟩ : ∃ q, (outsS 4 zs).length = q := ⟨_, rfl⟩
  have HLI := hidden6 hli
  have HLO := hidden6 hlo
  have NP := hidden6 np
  have NI := hidden6 ni
  have NO := hidden6 no
  have NK := hidden6 nk
  have H4 := hidden6 h4
  have HP00 := hidden6 hp
  have HI00 := hidden6 hi
  have HO00 := hidden6 ho
  have HK00 := hidden6 hkk
  rw [hli, hlo]
  show Calls Try.prog 31 #[.agg #[.int .u8 4, .slice (some ⟨pb, po, none⟩) zs.length cp, .slice iA li ci, .slice oA lo co, .slice k ks.length ck, .int .i64 (n : Int)], .slice a len cap] w _
  have hb0 := ((Below.refl w.heap.size w).alloc (Nat.le_refl _) (.cells #[.int .u8 4, .slice (some ⟨pb, po, none⟩) zs.length cp, .slice iA li ci, .slice oA lo co, .slice k ks.length ck, .int .i64 (n : Int)] 31)).alloc (by simp) (.cells #[.int .u8 0, .slice none 0 0, .slice none 0 0, .slice none 0 0, .slice none 0 0, .int .i64 0] 31)
  have g2 := (blkA_new 31 w #[.int .u8 4, .slice (some ⟨pb, po, none⟩) zs.length cp, .slice iA li ci, .slice oA lo co, .slice k ks.length ck, .int .i64 (n : Int)]).below ((Below.refl _ _).alloc (Nat.le_refl _) (.cells #[.int .u8 0, .slice none 0 0, .slice none 0 0, .slice none 0 0, .slice none 0 0, .int .i64 0] 31))
  have g4 : BlkA 31 (w.heap.size + 1) ((w.alloc (.cells #[.int .u8 4, .slice (some ⟨pb, po, none⟩) zs.length cp, .slice iA li ci, .slice oA lo co, .slice k ks.length ck, .int .i64 (n : Int)] 31)).alloc (.cells #[.int .u8 0, .slice none 0 0, .slice none 0 0, .slice none 0 0, .slice none 0 0, .int .i64 0] 31)) #[.int .u8 0, .slice none 0 0, .slice none 0 0, .slice none 0 0, .slice none 0 0, .int .i64 0] := by
    have h3 := blkA_new 31 (w.alloc (.cells #[.int .u8 4, .slice (some ⟨pb, po, none⟩) zs.length cp, .slice iA li ci, .slice oA lo co, .slice k ks.length ck, .int .i64 (n : Int)] 31)) #[.int .u8 0, .slice none 0 0, .slice none 0 0, .slice none 0 0, .slice none 0 0, .int .i64 0]
    rw [World.size_alloc] at h3
    exact h3
  have hA0 := hA.below hb0
  have hp0 := hp.below hb0
  have hk0 := hkk.below hb0
  have HB0 := hidden6 hb0
  have pc0 := (hb0.cell (block_lt_of_cell hpc0)).trans hpc0
  have pc1 := (hb0.cell (block_lt_of_cell hpc1)).trans hpc1
  have HRN : Hid (IsRN N w 4 zs ks n (RA 4 (.slice (some ⟨pb, po, none⟩) zs.length cp) (.slice iA li ci) (.slice oA lo co) (.slice k ks.length ck) (n : Int))) := ⟨some ⟨pb, po, none⟩, cp, iA, ci, oA, co, k, ck, by rw [hli, hlo], hp, hi, ho, hkk, np, ni, no, nk, h4⟩
  obtain ⟨M, hM⟩ : ∃ M : Nat, nth zs 0 = (M : Int) := ⟨(nth zs 0).toNat, by omega⟩
  obtain ⟨Q, hQ⟩ : ∃ Q : Nat, nth zs 1 = (Q : Int) := ⟨(nth zs 1).toNat, by omega⟩
  have hM1 : 1 ≤ M ∧ M ≤ 16 := by omega
  have hQ1 : 1 ≤ Q ∧ Q ≤ 64 := by omega
  have PC0 := hidden6 pc0
  have PC1 := hidden6 pc1
  rw [hM] at PC0
  rw [hQ] at PC1
  have HPB : Hid (pb ≠ w.heap.size + 1) := by have : pb < w.heap.size := block_lt_of_cell hpc0; show _ ≠ _; omega
  have HZ0 : Hid (0 < zs.length) := by show _ < _; omega
  have HZ1 : Hid (1 < zs.length) := by show _ < _; omega
  have hz0 := HZ0.out
  have hz1' : (1 : Int) < (zs.length : Int) := by have := HZ1.out; omega
  have HAW := hidden6 hA
  have hf := takes_facts hT
  have hli4 : (insS 4 zs).length = M := by show (rep (nth zs 0) (nth zs 1)).length = M; unfold rep; rw [hM]; simp
  have HWV : Hid (∀ V, Below w.heap.size w V → Calls Try.prog 39 #[.int .i64 (M : Int), .int .i64 (Q : Int), .slice a len cap] V (RowEnd V (weaveS M Q I))) := fun V hb => rwoven_any M Q V a len cap I (hA.below hb) (by rw [← hA.size, hf.1, hli4]) (fun i hi => by
    have h1 := hf.2 i (by rw [hf.1, hli4]; exact hi)
    have h2 : nth (insS 4 zs) i = nth zs 1 := rep_nth (by rw [show (rep (nth zs 0) (nth zs 1)).length = M from hli4]; exact hi)
    omega) hM1 (by omega)
  have hpos : 0 < (weaveS M Q I).length := by rw [weave_len]; exact Nat.mul_pos (by omega) (by omega)
  have HPOS := hidden6 hpos
  have GV : Hid (weaveS (nth zs 0).toNat (nth zs 1).toNat I = weaveS M Q I) := by show _ = _; rw [hM, hQ]; rfl
  rw [GV.out]
  clear hT hf hli4 hA0 hp0 hk0 hz hz1 hM hQ pc0 pc1 hpc0 hpc1 hpos
  clear hA np ni no nk h4 hli hlo hp hi ho hkk
  go_enter Try.func31, Try.ntmps31
  go_upto_region 1 with fail
  generalize (w.alloc (.cells #[.int .u8 4, .slice (some ⟨pb, po, none⟩) zs.length cp, .slice iA li ci, .slice oA lo co, .slice k ks.length ck, .int .i64 (n : Int)] 31)).alloc (.cells #[.int .u8 0, .slice none 0 0, .slice none 0 0, .slice none 0 0, .slice none 0 0, .int .i64 0] 31) = W0 at *
  have G2 := hidden6 g2
  have G4 := hidden6 g4
  have L2 : w.heap.size + 1 < W0.heap.size := g4.lt
  have L1 : w.heap.size < W0.heap.size := by omega
  have e0 : W0.cell? ⟨w.heap.size, 0, none⟩ = some (.int .u8 4) := g2.cell rfl
  clear hb0
  have y1 : W0.cell? ⟨w.heap.size, 1, none⟩ = some (.slice (some ⟨pb, po, none⟩) zs.length cp) := g2.cell rfl
  have y2 : W0.cell? ⟨w.heap.size, 2, none⟩ = some (.slice iA li ci) := g2.cell rfl
  have y3 : W0.cell? ⟨w.heap.size, 3, none⟩ = some (.slice oA lo co) := g2.cell rfl
  have y4 : W0.cell? ⟨w.heap.size, 4, none⟩ = some (.slice k ks.length ck) := g2.cell rfl
  have y5 : W0.cell? ⟨w.heap.size, 5, none⟩ = some (.int .i64 (n : Int)) := g2.cell rfl
  have HL2 := hidden6 L2
  clear g2 g4 y1 y2 y3 y4 y5
  go_upto_region 11 with fail
  refine wp_region_gen [12] (fun d i u z => match i with
      | 0 => z = .agg #[.int .u8 4, .slice (some ⟨pb, po, none⟩) zs.length cp, .slice iA li ci, .slice oA lo co, .slice k ks.length ck, .int .i64 (n : Int)]
      | 1 => z = .pointer (some ⟨w.heap.size, 1, none⟩)
      | 2 => z = .slice (some ⟨pb, po, none⟩) zs.length cp
      | 3 => z = .pointer (some ⟨pb, po, none⟩)
      | 4 => z = .int .i64 (M : Int)
      | 5 => z = .pointer (some ⟨w.heap.size, 1, none⟩)
      | 6 => z = .slice (some ⟨pb, po, none⟩) zs.length cp
      | 7 => z = .pointer (some ⟨pb, po + 1, none⟩)
      | 8 => z = .int .i64 (Q : Int)
      | 9 => z = .slice a len cap
      | 10 => RowV W0.heap.size u (weaveS M Q I) z
      | 11 => TabV W0.heap.size u [(weaveS M Q I)] z
      | 12 => True
      | 13 => TabV W0.heap.size u [(weaveS M Q I)] z
      | 14 => z = .int .i64 0
      | _ => True) (fun d u => BlkA 31 (w.heap.size) u #[.int .u8 4, .slice (some ⟨pb, po, none⟩) zs.length cp, .slice iA li ci, .slice oA lo co, .slice k ks.length ck, .int .i64 (n : Int)] ∧ (d 12 = true → BlkA 31 (w.heap.size + 1) u #[.int .u8 4, .slice (some ⟨pb, po, none⟩) zs.length cp, .slice iA li ci, .slice oA lo co, .slice k ks.length ck, .int .i64 (n : Int)]) ∧ (d 12 = false → BlkA 31 (w.heap.size + 1) u #[.int .u8 0, .slice none 0 0, .slice none 0 0, .slice none 0 0, .slice none 0 0, .int .i64 0]) ∧ But (w.heap.size + 1) W0 u) (by kernel_rfl) (by kernel_rfl) (by kernel_rfl) ?_ ?_ ?_ ?_ ?_ ?_ (by kernel_rfl)
  · intro d i w v w' h hb
    match i, h with
    | 0, h => exact h
    | 1, h => exact h
    | 2, h => exact h
    | 3, h => exact h
    | 4, h => exact h
    | 5, h => exact h
    | 6, h => exact h
    | 7, h => exact h
    | 8, h => exact h
    | 9, h => exact h
    | 10, h => exact RowV.later h hb
    | 11, h => exact TabV.later h hb
    | 12, h => exact h
    | 13, h => exact TabV.later h hb
    | 14, h => exact h
    | _ + 15, _ => trivial
  · intro d u u' h hb
    exact ⟨h.1.below hb, fun e => (h.2.1 e).below hb, fun e => (h.2.2.1 e).below hb, h.2.2.2.trans (But.of_below hb)⟩
  · exact ⟨G2.out, fun h => absurd h (by decide), fun _ => G4.out, ⟨rfl, rfl, rfl, Nat.le_refl _, fun _ _ _ => rfl⟩⟩
  · intro d i o ρ w' hm ho hf hg hC hcs hfs hfr hdep
    match i, hm, ho, hf, hg, hfr, hdep with
    | 0, _, ho, hf, hg, hfr, hdep =>
      simp only [gTA, gCZ, gSI] at ho
      subst ho
      refine ⟨fun _ => ?_, fun hw => absurd (show true = false from hw) (by decide)⟩
      have tq : ρ (.tmp 2) = .pointer (some ⟨w.heap.size, 0, none⟩) := hfr 2 (by kernel_rfl)
      have c0 := hC.1.cell (k := 0) rfl
      have c1 := hC.1.cell (k := 1) rfl
      have c2 := hC.1.cell (k := 2) rfl
      have c3 := hC.1.cell (k := 3) rfl
      have c4 := hC.1.cell (k := 4) rfl
      have c5 := hC.1.cell (k := 5) rfl
      simp [go_sem, tq, c0, c1, c2, c3, c4, c5]
      exact ⟨Below.refl _ _, rfl⟩
    | 1, _, ho, hf, hg, hfr, hdep =>
      simp only [gTA, gCZ, gCS, gSI] at ho
      subst ho
      refine ⟨fun _ => ?_, fun hw => absurd (show true = false from hw) (by decide)⟩
      have tq : ρ (.tmp 2) = .pointer (some ⟨w.heap.size, 0, none⟩) := hfr 2 (by kernel_rfl)
      simp [go_sem, tq]
      exact ⟨Below.refl _ _, rfl⟩
    | 2, _, ho, hf, hg, hfr, hdep =>
      simp only [gTA, gCZ, gCS, gSI] at ho
      subst ho
      refine ⟨fun _ => ?_, fun hw => absurd (show true = false from hw) (by decide)⟩
      have c1 : w'.cell? ⟨w.heap.size, 1, none⟩ = some (.slice (some ⟨pb, po, none⟩) zs.length cp) := hC.1.cell (k := 1) rfl
      have d0 : ρ (.tmp 54) = .pointer (some ⟨w.heap.size, 1, none⟩) := hdep 1 54 (by kernel_rfl) (by kernel_rfl)
      simp [go_sem, d0, c1]
      exact ⟨Below.refl _ _, rfl⟩
    | 3, _, ho, hf, hg, hfr, hdep =>
      simp only [gTA, gCZ, gCS, gSI] at ho
      subst ho
      refine ⟨fun _ => ?_, fun hw => absurd (show true = false from hw) (by decide)⟩
      have d0 : ρ (.tmp 55) = .slice (some ⟨pb, po, none⟩) zs.length cp := hdep 2 55 (by kernel_rfl) (by kernel_rfl)
      simp [go_sem, d0, hcs, hz0]
      exact ⟨Below.refl _ _, rfl⟩
    | 4, _, ho, hf, hg, hfr, hdep =>
      simp only [gTA, gCZ, gCS, gSI] at ho
      subst ho
      refine ⟨fun _ => ?_, fun hw => absurd (show true = false from hw) (by decide)⟩
      have cc := cell_but hC.2.2.2 PC0.out HPB.out
      have d0 : ρ (.tmp 56) = .pointer (some ⟨pb, po, none⟩) := hdep 3 56 (by kernel_rfl) (by kernel_rfl)
      simp [go_sem, d0, cc]
      exact ⟨Below.refl _ _, rfl⟩
    | 5, _, ho, hf, hg, hfr, hdep =>
      simp only [gTA, gCZ, gCS, gSI] at ho
      subst ho
      refine ⟨fun _ => ?_, fun hw => absurd (show true = false from hw) (by decide)⟩
      have tq : ρ (.tmp 2) = .pointer (some ⟨w.heap.size, 0, none⟩) := hfr 2 (by kernel_rfl)
      simp [go_sem, tq]
      exact ⟨Below.refl _ _, rfl⟩
    | 6, _, ho, hf, hg, hfr, hdep =>
      simp only [gTA, gCZ, gCS, gSI] at ho
      subst ho
      refine ⟨fun _ => ?_, fun hw => absurd (show true = false from hw) (by decide)⟩
      have c1 : w'.cell? ⟨w.heap.size, 1, none⟩ = some (.slice (some ⟨pb, po, none⟩) zs.length cp) := hC.1.cell (k := 1) rfl
      have d0 : ρ (.tmp 58) = .pointer (some ⟨w.heap.size, 1, none⟩) := hdep 5 58 (by kernel_rfl) (by kernel_rfl)
      simp [go_sem, d0, c1]
      exact ⟨Below.refl _ _, rfl⟩
    | 7, _, ho, hf, hg, hfr, hdep =>
      simp only [gTA, gCZ, gCS, gSI] at ho
      subst ho
      refine ⟨fun _ => ?_, fun hw => absurd (show true = false from hw) (by decide)⟩
      have d0 : ρ (.tmp 59) = .slice (some ⟨pb, po, none⟩) zs.length cp := hdep 6 59 (by kernel_rfl) (by kernel_rfl)
      simp [go_sem, d0, hcs, hz1']
      exact ⟨Below.refl _ _, rfl⟩
    | 8, _, ho, hf, hg, hfr, hdep =>
      simp only [gTA, gCZ, gCS, gSI] at ho
      subst ho
      refine ⟨fun _ => ?_, fun hw => absurd (show true = false from hw) (by decide)⟩
      have cc := cell_but hC.2.2.2 PC1.out HPB.out
      have d0 : ρ (.tmp 60) = .pointer (some ⟨pb, po + 1, none⟩) := hdep 7 60 (by kernel_rfl) (by kernel_rfl)
      simp [go_sem, d0, cc]
      exact ⟨Below.refl _ _, rfl⟩
    | 9, _, ho, hf, hg, hfr, hdep =>
      simp only [gTA, gCZ, gCS, gSI] at ho
      subst ho
      refine ⟨fun _ => ?_, fun hw => absurd (show true = false from hw) (by decide)⟩
      have ts : ρ (.tmp 1) = .slice a len cap := hfr 1 (by kernel_rfl)
      simp [go_sem, ts]
      exact ⟨Below.refl _ _, rfl⟩
    | 10, _, ho, hf, hg, hfr, hdep =>
      simp only [gTA, gCZ, gCS, gSI] at ho
      subst ho
      refine ⟨fun _ => ?_, fun hw => absurd (show true = false from hw) (by decide)⟩
      have d0 : ρ (.tmp 57) = .int .i64 (M : Int) := hdep 4 57 (by kernel_rfl) (by kernel_rfl)
      have d1 : ρ (.tmp 61) = .int .i64 (Q : Int) := hdep 8 61 (by kernel_rfl) (by kernel_rfl)
      have d2 : ρ (.tmp 62) = .slice a len cap := hdep 9 62 (by kernel_rfl) (by kernel_rfl)
      simp [go_sem, d0, d1, d2, hfs]
      refine ⟨rfl, (HWV.out _ (HB0.out.trans (hC.2.2.2.below (Nat.le_succ _) HB0.out.size))).mono ?_⟩
      rintro e u ⟨ra, rc, rfl, hr, hb⟩
      obtain ⟨g, rfl, -⟩ := hr.there HPOS.out
      exact ⟨_, rfl, hb, g, rc, rfl, hr.mono hC.2.2.2.size⟩
    | 11, _, ho, hf, hg, hfr, hdep =>
      simp only [gTA, gCZ, gCS, gSI] at ho
      subst ho
      refine ⟨fun _ => ?_, fun hw => absurd (show true = false from hw) (by decide)⟩
      obtain ⟨b, c, e6, q6⟩ : RowV W0.heap.size w' (weaveS M Q I) (ρ (.tmp 63)) := hdep 10 63 (by kernel_rfl) (by kernel_rfl)
      simp [go_sem, e6]
      exact ⟨(Below.refl _ _).alloc (Nat.le_refl _) _, TabV.one w' W0.heap.size b c (weaveS M Q I) hC.2.2.2.size q6⟩
    | 12, hm, _, _, _, _, _ => exact absurd hm (by decide)
    | 13, _, ho, hf, hg, hfr, hdep =>
      simp only [gTA, gCZ, gCS, gSI] at ho
      subst ho
      refine ⟨fun _ => ?_, fun hw => absurd (show true = false from hw) (by decide)⟩
      obtain ⟨g, A, C, cc, e7, q7⟩ : TabV W0.heap.size w' [(weaveS M Q I)] (ρ (.tmp 64)) := hdep 11 64 (by kernel_rfl) (by kernel_rfl)
      simp [go_sem, e7]
      exact ⟨Below.refl _ _, g, A, C, cc, rfl, q7⟩
    | 14, _, ho, hf, hg, hfr, hdep =>
      simp only [gTA, gCZ, gCS, gSI] at ho
      subst ho
      refine ⟨fun _ => ?_, fun hw => absurd (show true = false from hw) (by decide)⟩
      simp [go_sem, hcs]
      exact ⟨Below.refl _ _, rfl⟩
    | n + 15, _, ho, _, _, _, _ => simp at ho
  · intro d i o ρ w' hm ho h0 hf hg hC hcs hfs hfr hdep
    match i, hm, ho, h0, hf, hg, hfr, hdep with
    | 0, hm, _, _, _, _, _, _ => exact absurd hm (by decide)
    | 1, hm, _, _, _, _, _, _ => exact absurd hm (by decide)
    | 2, hm, _, _, _, _, _, _ => exact absurd hm (by decide)
    | 3, hm, _, _, _, _, _, _ => exact absurd hm (by decide)
    | 4, hm, _, _, _, _, _, _ => exact absurd hm (by decide)
    | 5, hm, _, _, _, _, _, _ => exact absurd hm (by decide)
    | 6, hm, _, _, _, _, _, _ => exact absurd hm (by decide)
    | 7, hm, _, _, _, _, _, _ => exact absurd hm (by decide)
    | 8, hm, _, _, _, _, _, _ => exact absurd hm (by decide)
    | 9, hm, _, _, _, _, _, _ => exact absurd hm (by decide)
    | 10, hm, _, _, _, _, _, _ => exact absurd hm (by decide)
    | 11, hm, _, _, _, _, _, _ => exact absurd hm (by decide)
    | 12, _, ho, h0, hf, hg, hfr, hdep =>
      simp only [gTA, gCZ, gCS, gSI] at ho
      subst ho
      have tq : ρ (.tmp 4) = .pointer (some ⟨w.heap.size + 1, 0, none⟩) := hfr 4 (by kernel_rfl)
      have t0 : ρ (.tmp 53) = .agg #[.int .u8 4, .slice (some ⟨pb, po, none⟩) zs.length cp, .slice iA li ci, .slice oA lo co, .slice k ks.length ck, .int .i64 (n : Int)] := hdep 0 53 (by kernel_rfl) (by kernel_rfl)
      refine ⟨rfl, mark_store6 w' 31 (.tmp 4) (.tmp 53) rfl size_actor (w.heap.size + 1) 31 _ _ _ _ _ _ _ _ _ _ _ _ _ _ _ _ _ _ _ _ tq t0 (hC.2.2.1 h0) ?_⟩
      intro u9 v9 hB9 hU9
      have hl2 := HL2.out
      have hsz := hC.2.2.2.size
      refine ⟨⟨hC.1.keep (hU9.block _ hC.1.lt (by omega)), fun _ => hB9, fun h => absurd h (by simp [doneAt]), hC.2.2.2.trans hU9⟩, fun h => absurd rfl h, ?_⟩
      intro j t _ hs
      match j, hs with
      | 0, hs => exact hs
      | 1, hs => exact hs
      | 2, hs => exact hs
      | 3, hs => exact hs
      | 4, hs => exact hs
      | 5, hs => exact hs
      | 6, hs => exact hs
      | 7, hs => exact hs
      | 8, hs => exact hs
      | 9, hs => exact hs
      | 10, hs => exact RowV.but hs hU9 HL2.out
      | 11, hs => exact TabV.but hs hU9 HL2.out
      | 12, hs => exact hs
      | 13, hs => exact TabV.but hs hU9 HL2.out
      | 14, hs => exact hs
      | _ + 15, _ => trivial
    | 13, hm, _, _, _, _, _, _ => exact absurd hm (by decide)
    | 14, hm, _, _, _, _, _, _ => exact absurd hm (by decide)
    | n + 15, _, ho, _, _, _, _, _ => simp at ho
  · intro V w9 hC9 hS
    obtain ⟨g9, A9, C9, c9, e13, o9⟩ : TabV W0.heap.size w9 [(weaveS M Q I)] (V 13) := hS 13 (by decide) (by intro h; cases h)
    have e14 : V 14 = .int .i64 0 := hS 14 (by decide) (by intro h; cases h)
    simp only [puts, put_none, e13, e14]
    simp only [Act.put, List.setIfInBounds_toArray, List.set_cons_zero, List.set_cons_succ]
    clear hS e13 e14
    go_wp2
    have N9 := hidden6 (hC9.2.1 rfl)
    have z0 : w9.cell? ⟨w.heap.size + 1, 0, none⟩ = some (.int .u8 4) := N9.out.cell rfl
    have z1 : w9.cell? ⟨w.heap.size + 1, 1, none⟩ = some (.slice (some ⟨pb, po, none⟩) zs.length cp) := N9.out.cell rfl
    have z2 : w9.cell? ⟨w.heap.size + 1, 2, none⟩ = some (.slice iA li ci) := N9.out.cell rfl
    have z3 : w9.cell? ⟨w.heap.size + 1, 3, none⟩ = some (.slice oA lo co) := N9.out.cell rfl
    have z4 : w9.cell? ⟨w.heap.size + 1, 4, none⟩ = some (.slice k ks.length ck) := N9.out.cell rfl
    have z5 : w9.cell? ⟨w.heap.size + 1, 5, none⟩ = some (.int .i64 (n : Int)) := N9.out.cell rfl
    refine bodyPost_ret (v := .tuple #[.agg #[.int .u8 4, .slice (some ⟨pb, po, none⟩) zs.length cp, .slice iA li ci, .slice oA lo co, .slice k ks.length ck, .int .i64 (n : Int)], .slice (some ⟨g9, 0, none⟩) 1 c9, .int .i64 0]) (by simp [results, Try.results31, go_sem, z0, z1, z2, z3, z4, z5]) rfl ?_
    have q9 := HB0.out.trans (hC9.2.2.2.below (Nat.le_succ _) HB0.out.size)
    exact ⟨_, _, _, _, _, rfl, o9.mono HB0.out.size, same_rn HRN.out q9, q9⟩
set_option maxRecDepth 100000 in
set_option maxHeartbeats 4000000 in
theorem rdone_5 (N : Nat → Prop) (w : World) (zs ks : List Int) (n : Nat) (v : Value) (a : Option Addr) (len cap : Nat) (I : List (List Int)) (h : IsRN N w 5 zs ks n v) (hA : ArgL w a len I) (hT : takesS 5 zs I = true) (hz1 : zs.length = 2) (hz : (1 ≤ nth zs 0 ∧ nth zs 0 ≤ 16) ∧ 1 ≤ nth zs 1 ∧ nth zs 1 ≤ 64) :
    Calls Try.prog 31 #[v, .slice a len cap] w (DoneF N w 5 zs n (some (partS (nth zs 0).toNat (nth zs 1).toNat (nthL I 0), ks))) := by
  obtain ⟨p, cp, iA, ci, oA, co, k, ck, rfl, hp, hi, ho, hkk, np, ni, no, nk, h4⟩ := h
  obtain ⟨pb, po, rfl, hpc0, hpc1⟩ : ∃ pb po, p = some ⟨pb, po, none⟩ ∧ w.cell? ⟨pb, po, none⟩ = some (.int .i64 (nth zs 0)) ∧ w.cell? ⟨pb, po + 1, none⟩ = some (.int .i64 (nth zs 1)) := by
    rcases hp with h0 | ⟨b, off, e, hc⟩
    · rw [h0] at hz1; simp at hz1
    · exact ⟨b, off, e, by have := hc 0 (by omega); rwa [Nat.add_zero] at this, hc 1 (by omega)⟩
  obtain ⟨li, hli⟩ : ∃ q, (insS 5 zs).length = q := ⟨_, rfl⟩
  obtain ⟨lo, hlo⟩ : ∃ q, (outsS 5 zs).length = q := ⟨_, rfl⟩
  have HLI := hidden6 hli
  have HLO := hidden6 hlo
  have NP := hidden6 np
  have NI := hidden6 ni
  have NO := hidden6 no
  have NK := hidden6 nk
  have H4 := hidden6 h4
  have HP00 := hidden6 hp
  have HI00 := hidden6 hi
  have HO00 := hidden6 ho
  have HK00 := hidden6 hkk
  rw [hli, hlo]
  show Calls Try.prog 31 #[.agg #[.int .u8 5, .slice (some ⟨pb, po, none⟩) zs.length cp, .slice iA li ci, .slice oA lo co, .slice k ks.length ck, .int .i64 (n : Int)], .slice a len cap] w _
  have hb0 := ((Below.refl w.heap.size w).alloc (Nat.le_refl _) (.cells #[.int .u8 5, .slice (some ⟨pb, po, none⟩) zs.length cp, .slice iA li ci, .slice oA lo co, .slice k ks.length ck, .int .i64 (n : Int)] 31)).alloc (by simp) (.cells #[.int .u8 0, .slice none 0 0, .slice none 0 0, .slice none 0 0, .slice none 0 0, .int .i64 0] 31)
  have g2 := (blkA_new 31 w #[.int .u8 5, .slice (some ⟨pb, po, none⟩) zs.length cp, .slice iA li ci, .slice oA lo co, .slice k ks.length ck, .int .i64 (n : Int)]).below ((Below.refl _ _).alloc (Nat.le_refl _) (.cells #[.int .u8 0, .slice none 0 0, .slice none 0 0, .slice none 0 0, .slice none 0 0, .int .i64 0] 31))
  have g4 : BlkA 31 (w.heap.size + 1) ((w.alloc (.cells #[.int .u8 5, .slice (some ⟨pb, po, none⟩) zs.length cp, .slice iA li ci, .slice oA lo co, .slice k ks.length ck, .int .i64 (n : Int)] 31)).alloc (.cells #[.int .u8 0, .slice none 0 0, .slice none 0 0, .slice none 0 0, .slice none 0 0, .int .i64 0] 31)) #[.int .u8 0, .slice none 0 0, .slice none 0 0, .slice none 0 0, .slice none 0 0, .int .i64 0] := by
    have h3 := blkA_new 31 (w.alloc (.cells #[.int .u8 5, .slice (some ⟨pb, po, none⟩) zs.length cp, .slice iA li ci, .slice oA lo co, .slice k ks.length ck, .int .i64 (n : Int)] 31)) #[.int .u8 0, .slice none 0 0, .slice none 0 0, .slice none 0 0, .slice none 0 0, .int .i64 0]
    rw [World.size_alloc] at h3
    exact h3
  have hA0 := hA.below hb0
  have hp0 := hp.below hb0
  have hk0 := hkk.below hb0
  have HB0 := hidden6 hb0
  have pc0 := (hb0.cell (block_lt_of_cell hpc0)).trans hpc0
  have pc1 := (hb0.cell (block_lt_of_cell hpc1)).trans hpc1
  have HRN : Hid (IsRN N w 5 zs ks n (RA 5 (.slice (some ⟨pb, po, none⟩) zs.length cp) (.slice iA li ci) (.slice oA lo co) (.slice k ks.length ck) (n : Int))) := ⟨some ⟨pb, po, none⟩, cp, iA, ci, oA, co, k, ck, by rw [hli, hlo], hp, hi, ho, hkk, np, ni, no, nk, h4⟩
  obtain ⟨M, hM⟩ : ∃ M : Nat, nth zs 0 = (M : Int) := ⟨(nth zs 0).toNat, by omega⟩
  obtain ⟨Q, hQ⟩ : ∃ Q : Nat, nth zs 1 = (Q : Int) := ⟨(nth zs 1).toNat, by omega⟩
  have hM1 : 1 ≤ M ∧ M ≤ 16 := by omega
  have hQ1 : 1 ≤ Q ∧ Q ≤ 64 := by omega
  have PC0 := hidden6 pc0
  have PC1 := hidden6 pc1
  rw [hM] at PC0
  rw [hQ] at PC1
  have HPB : Hid (pb ≠ w.heap.size + 1) := by have : pb < w.heap.size := block_lt_of_cell hpc0; show _ ≠ _; omega
  have HZ0 : Hid (0 < zs.length) := by show _ < _; omega
  have HZ1 : Hid (1 < zs.length) := by show _ < _; omega
  have hz0 := HZ0.out
  have hz1' : (1 : Int) < (zs.length : Int) := by have := HZ1.out; omega
  have HAW := hidden6 hA
  have hf := takes_facts hT
  have hl1 : I.length = 1 := hf.1
  have hr0 : (nthL I 0).length = M * Q := by
    have h1 := hf.2 0 (by omega)
    have h2 : nth (insS 5 zs) 0 = nth zs 0 * nth zs 1 := rfl
    rw [h2, hM, hQ] at h1
    exact_mod_cast h1
  obtain ⟨ab, ao, ha, hrow⟩ : ∃ ab ao, a = some ⟨ab, ao, none⟩ ∧ ∃ x c, w.cell? ⟨ab, ao, none⟩ = some (.slice x (M * Q) c) ∧ At w x (nthL I 0) := by
    rcases hA.lies with h0 | ⟨b, off, e, hc⟩
    · rw [h0] at hl1; simp at hl1
    · obtain ⟨x, c, h1, h2⟩ := hc 0 (by omega)
      exact ⟨b, off, e, x, c, by rw [hr0, Nat.add_zero] at h1; exact h1, h2⟩
  obtain ⟨xa, xc, b1, hat⟩ := hrow
  subst ha
  have HAB : Hid (ab ≠ w.heap.size + 1) := by have : ab < w.heap.size := block_lt_of_cell b1; show _ ≠ _; omega
  have A1 := hidden6 (cell_keep6 hb0 b1)
  have l0 : 0 < len := by rw [← hA.size]; omega
  have HPT : Hid (∀ V, Below w.heap.size w V → Calls Try.prog 40 #[.int .i64 (M : Int), .int .i64 (Q : Int), .slice xa (M * Q) xc] V (RowsE V M (partS M Q (nthL I 0)))) := fun V hb => rparted_any M Q V xa (M * Q) xc (nthL I 0) hr0 (hat.below hb) rfl hM1 hQ1
  have HPL : Hid ((partS M Q (nthL I 0)).length = M) := part_len _ _ _
  have GV : Hid (partS (nth zs 0).toNat (nth zs 1).toNat (nthL I 0) = partS M Q (nthL I 0)) := by show _ = _; rw [hM, hQ]; rfl
  rw [GV.out]
  clear hT hf hl1 hr0 hA0 hp0 hk0 hz hz1 hM hQ pc0 pc1 hpc0 hpc1 b1 hat
  obtain ⟨L5', hL5'⟩ : ∃ q, M * Q = q := ⟨_, rfl⟩
  rw [hL5'] at A1 HPT
  clear hL5'
  clear hA np ni no nk h4 hli hlo hp hi ho hkk
  go_enter Try.func31, Try.ntmps31
  go_upto_region 1 with fail
  generalize (w.alloc (.cells #[.int .u8 5, .slice (some ⟨pb, po, none⟩) zs.length cp, .slice iA li ci, .slice oA lo co, .slice k ks.length ck, .int .i64 (n : Int)] 31)).alloc (.cells #[.int .u8 0, .slice none 0 0, .slice none 0 0, .slice none 0 0, .slice none 0 0, .int .i64 0] 31) = W0 at *
  have G2 := hidden6 g2
  have G4 := hidden6 g4
  have L2 : w.heap.size + 1 < W0.heap.size := g4.lt
  have L1 : w.heap.size < W0.heap.size := by omega
  have e0 : W0.cell? ⟨w.heap.size, 0, none⟩ = some (.int .u8 5) := g2.cell rfl
  clear hb0
  have y1 : W0.cell? ⟨w.heap.size, 1, none⟩ = some (.slice (some ⟨pb, po, none⟩) zs.length cp) := g2.cell rfl
  have y2 : W0.cell? ⟨w.heap.size, 2, none⟩ = some (.slice iA li ci) := g2.cell rfl
  have y3 : W0.cell? ⟨w.heap.size, 3, none⟩ = some (.slice oA lo co) := g2.cell rfl
  have y4 : W0.cell? ⟨w.heap.size, 4, none⟩ = some (.slice k ks.length ck) := g2.cell rfl
  have y5 : W0.cell? ⟨w.heap.size, 5, none⟩ = some (.int .i64 (n : Int)) := g2.cell rfl
  have HL2 := hidden6 L2
  clear g2 g4 y1 y2 y3 y4 y5
  go_upto_region 13 with fail
  refine wp_region_gen [13] (fun d i u z => match i with
      | 0 => z = .agg #[.int .u8 5, .slice (some ⟨pb, po, none⟩) zs.length cp, .slice iA li ci, .slice oA lo co, .slice k ks.length ck, .int .i64 (n : Int)]
      | 1 => z = .pointer (some ⟨w.heap.size, 1, none⟩)
      | 2 => z = .slice (some ⟨pb, po, none⟩) zs.length cp
      | 3 => z = .pointer (some ⟨pb, po, none⟩)
      | 4 => z = .int .i64 (M : Int)
      | 5 => z = .pointer (some ⟨w.heap.size, 1, none⟩)
      | 6 => z = .slice (some ⟨pb, po, none⟩) zs.length cp
      | 7 => z = .pointer (some ⟨pb, po + 1, none⟩)
      | 8 => z = .int .i64 (Q : Int)
      | 9 => z = .slice (some ⟨ab, ao, none⟩) len cap
      | 10 => z = .pointer (some ⟨ab, ao, none⟩)
      | 11 => z = .slice xa L5' xc
      | 12 => TabV W0.heap.size u (partS M Q (nthL I 0)) z
      | 13 => True
      | 14 => TabV W0.heap.size u (partS M Q (nthL I 0)) z
      | 15 => z = .int .i64 0
      | _ => True) (fun d u => BlkA 31 (w.heap.size) u #[.int .u8 5, .slice (some ⟨pb, po, none⟩) zs.length cp, .slice iA li ci, .slice oA lo co, .slice k ks.length ck, .int .i64 (n : Int)] ∧ (d 13 = true → BlkA 31 (w.heap.size + 1) u #[.int .u8 5, .slice (some ⟨pb, po, none⟩) zs.length cp, .slice iA li ci, .slice oA lo co, .slice k ks.length ck, .int .i64 (n : Int)]) ∧ (d 13 = false → BlkA 31 (w.heap.size + 1) u #[.int .u8 0, .slice none 0 0, .slice none 0 0, .slice none 0 0, .slice none 0 0, .int .i64 0]) ∧ But (w.heap.size + 1) W0 u) (by kernel_rfl) (by kernel_rfl) (by kernel_rfl) ?_ ?_ ?_ ?_ ?_ ?_ (by kernel_rfl)
  · intro d i w v w' h hb
    match i, h with
    | 0, h => exact h
    | 1, h => exact h
    | 2, h => exact h
    | 3, h => exact h
    | 4, h => exact h
    | 5, h => exact h
    | 6, h => exact h
    | 7, h => exact h
    | 8, h => exact h
    | 9, h => exact h
    | 10, h => exact h
    | 11, h => exact h
    | 12, h => exact TabV.later h hb
    | 13, h => exact h
    | 14, h => exact TabV.later h hb
    | 15, h => exact h
    | _ + 16, _ => trivial
  · intro d u u' h hb
    exact ⟨h.1.below hb, fun e => (h.2.1 e).below hb, fun e => (h.2.2.1 e).below hb, h.2.2.2.trans (But.of_below hb)⟩
  · exact ⟨G2.out, fun h => absurd h (by decide), fun _ => G4.out, ⟨rfl, rfl, rfl, Nat.le_refl _, fun _ _ _ => rfl⟩⟩
  · intro d i o ρ w' hm ho hf hg hC hcs hfs hfr hdep
    match i, hm, ho, hf, hg, hfr, hdep with
    | 0, _, ho, hf, hg, hfr, hdep =>
      simp only [gTA, gCZ, gSI] at ho
      subst ho
      refine ⟨fun _ => ?_, fun hw => absurd (show true = false from hw) (by decide)⟩
      have tq : ρ (.tmp 2) = .pointer (some ⟨w.heap.size, 0, none⟩) := hfr 2 (by kernel_rfl)
      have c0 := hC.1.cell (k := 0) rfl
      have c1 := hC.1.cell (k := 1) rfl
      have c2 := hC.1.cell (k := 2) rfl
      have c3 := hC.1.cell (k := 3) rfl
      have c4 := hC.1.cell (k := 4) rfl
      have c5 := hC.1.cell (k := 5) rfl
      simp [go_sem, tq, c0, c1, c2, c3, c4, c5]
      exact ⟨Below.refl _ _, rfl⟩
    | 1, _, ho, hf, hg, hfr, hdep =>
      simp only [gTA, gCZ, gCS, gSI] at ho
      subst ho
      refine ⟨fun _ => ?_, fun hw => absurd (show true = false from hw) (by decide)⟩
      have tq : ρ (.tmp 2) = .pointer (some ⟨w.heap.size, 0, none⟩) := hfr 2 (by kernel_rfl)
      simp [go_sem, tq]
      exact ⟨Below.refl _ _, rfl⟩
    | 2, _, ho, hf, hg, hfr, hdep =>
      simp only [gTA, gCZ, gCS, gSI] at ho
      subst ho
      refine ⟨fun _ => ?_, fun hw => absurd (show true = false from hw) (by decide)⟩
      have c1 : w'.cell? ⟨w.heap.size, 1, none⟩ = some (.slice (some ⟨pb, po, none⟩) zs.length cp) := hC.1.cell (k := 1) rfl
      have d0 : ρ (.tmp 68) = .pointer (some ⟨w.heap.size, 1, none⟩) := hdep 1 68 (by kernel_rfl) (by kernel_rfl)
      simp [go_sem, d0, c1]
      exact ⟨Below.refl _ _, rfl⟩
    | 3, _, ho, hf, hg, hfr, hdep =>
      simp only [gTA, gCZ, gCS, gSI] at ho
      subst ho
      refine ⟨fun _ => ?_, fun hw => absurd (show true = false from hw) (by decide)⟩
      have d0 : ρ (.tmp 69) = .slice (some ⟨pb, po, none⟩) zs.length cp := hdep 2 69 (by kernel_rfl) (by kernel_rfl)
      simp [go_sem, d0, hcs, hz0]
      exact ⟨Below.refl _ _, rfl⟩
    | 4, _, ho, hf, hg, hfr, hdep =>
      simp only [gTA, gCZ, gCS, gSI] at ho
      subst ho
      refine ⟨fun _ => ?_, fun hw => absurd (show true = false from hw) (by decide)⟩
      have cc := cell_but hC.2.2.2 PC0.out HPB.out
      have d0 : ρ (.tmp 70) = .pointer (some ⟨pb, po, none⟩) := hdep 3 70 (by kernel_rfl) (by kernel_rfl)
      simp [go_sem, d0, cc]
      exact ⟨Below.refl _ _, rfl⟩
    | 5, _, ho, hf, hg, hfr, hdep =>
      simp only [gTA, gCZ, gCS, gSI] at ho
      subst ho
      refine ⟨fun _ => ?_, fun hw => absurd (show true = false from hw) (by decide)⟩
      have tq : ρ (.tmp 2) = .pointer (some ⟨w.heap.size, 0, none⟩) := hfr 2 (by kernel_rfl)
      simp [go_sem, tq]
      exact ⟨Below.refl _ _, rfl⟩
    | 6, _, ho, hf, hg, hfr, hdep =>
      simp only [gTA, gCZ, gCS, gSI] at ho
      subst ho
      refine ⟨fun _ => ?_, fun hw => absurd (show true = false from hw) (by decide)⟩
      have c1 : w'.cell? ⟨w.heap.size, 1, none⟩ = some (.slice (some ⟨pb, po, none⟩) zs.length cp) := hC.1.cell (k := 1) rfl
      have d0 : ρ (.tmp 72) = .pointer (some ⟨w.heap.size, 1, none⟩) := hdep 5 72 (by kernel_rfl) (by kernel_rfl)
      simp [go_sem, d0, c1]
      exact ⟨Below.refl _ _, rfl⟩
    | 7, _, ho, hf, hg, hfr, hdep =>
      simp only [gTA, gCZ, gCS, gSI] at ho
      subst ho
      refine ⟨fun _ => ?_, fun hw => absurd (show true = false from hw) (by decide)⟩
      have d0 : ρ (.tmp 73) = .slice (some ⟨pb, po, none⟩) zs.length cp := hdep 6 73 (by kernel_rfl) (by kernel_rfl)
      simp [go_sem, d0, hcs, hz1']
      exact ⟨Below.refl _ _, rfl⟩
    | 8, _, ho, hf, hg, hfr, hdep =>
      simp only [gTA, gCZ, gCS, gSI] at ho
      subst ho
      refine ⟨fun _ => ?_, fun hw => absurd (show true = false from hw) (by decide)⟩
      have cc := cell_but hC.2.2.2 PC1.out HPB.out
      have d0 : ρ (.tmp 74) = .pointer (some ⟨pb, po + 1, none⟩) := hdep 7 74 (by kernel_rfl) (by kernel_rfl)
      simp [go_sem, d0, cc]
      exact ⟨Below.refl _ _, rfl⟩
    | 9, _, ho, hf, hg, hfr, hdep =>
      simp only [gTA, gCZ, gCS, gSI] at ho
      subst ho
      refine ⟨fun _ => ?_, fun hw => absurd (show true = false from hw) (by decide)⟩
      have ts : ρ (.tmp 1) = .slice (some ⟨ab, ao, none⟩) len cap := hfr 1 (by kernel_rfl)
      simp [go_sem, ts]
      exact ⟨Below.refl _ _, rfl⟩
    | 10, _, ho, hf, hg, hfr, hdep =>
      simp only [gTA, gCZ, gCS, gSI] at ho
      subst ho
      refine ⟨fun _ => ?_, fun hw => absurd (show true = false from hw) (by decide)⟩
      have d0 : ρ (.tmp 76) = .slice (some ⟨ab, ao, none⟩) len cap := hdep 9 76 (by kernel_rfl) (by kernel_rfl)
      simp [go_sem, d0, hcs, l0]
      exact ⟨Below.refl _ _, rfl⟩
    | 11, _, ho, hf, hg, hfr, hdep =>
      simp only [gTA, gCZ, gCS, gSI] at ho
      subst ho
      refine ⟨fun _ => ?_, fun hw => absurd (show true = false from hw) (by decide)⟩
      have cc := cell_but hC.2.2.2 A1.out HAB.out
      have d0 : ρ (.tmp 77) = .pointer (some ⟨ab, ao, none⟩) := hdep 10 77 (by kernel_rfl) (by kernel_rfl)
      simp [go_sem, d0, cc]
      exact ⟨Below.refl _ _, rfl⟩
    | 12, _, ho, hf, hg, hfr, hdep =>
      simp only [gTA, gCZ, gCS, gSI] at ho
      subst ho
      refine ⟨fun _ => ?_, fun hw => absurd (show true = false from hw) (by decide)⟩
      have d0 : ρ (.tmp 71) = .int .i64 (M : Int) := hdep 4 71 (by kernel_rfl) (by kernel_rfl)
      have d1 : ρ (.tmp 75) = .int .i64 (Q : Int) := hdep 8 75 (by kernel_rfl) (by kernel_rfl)
      have d2 : ρ (.tmp 78) = .slice xa L5' xc := hdep 11 78 (by kernel_rfl) (by kernel_rfl)
      simp [go_sem, d0, d1, d2, hfs]
      refine ⟨rfl, (HPT.out _ (HB0.out.trans (hC.2.2.2.below (Nat.le_succ _) HB0.out.size))).mono ?_⟩
      rintro e u ⟨rx, rc, RA', RC', rfl, hr, hb⟩
      rcases hr.tab with h0 | ⟨g, hx, hg, hrest⟩
      · have := HPL.out; rw [h0] at this; simp at this; omega
      · subst hx
        exact ⟨_, rfl, hb, g, RA', RC', rc, by rw [HPL.out], hr.mono hC.2.2.2.size⟩
    | 13, hm, _, _, _, _, _ => exact absurd hm (by decide)
    | 14, _, ho, hf, hg, hfr, hdep =>
      simp only [gTA, gCZ, gCS, gSI] at ho
      subst ho
      refine ⟨fun _ => ?_, fun hw => absurd (show true = false from hw) (by decide)⟩
      obtain ⟨g, A, C, cc, e7, q7⟩ : TabV W0.heap.size w' (partS M Q (nthL I 0)) (ρ (.tmp 79)) := hdep 12 79 (by kernel_rfl) (by kernel_rfl)
      simp [go_sem, e7]
      exact ⟨Below.refl _ _, g, A, C, cc, rfl, q7⟩
    | 15, _, ho, hf, hg, hfr, hdep =>
      simp only [gTA, gCZ, gCS, gSI] at ho
      subst ho
      refine ⟨fun _ => ?_, fun hw => absurd (show true = false from hw) (by decide)⟩
      simp [go_sem, hcs]
      exact ⟨Below.refl _ _, rfl⟩
    | n + 16, _, ho, _, _, _, _ => simp at ho
  · intro d i o ρ w' hm ho h0 hf hg hC hcs hfs hfr hdep
    match i, hm, ho, h0, hf, hg, hfr, hdep with
    | 0, hm, _, _, _, _, _, _ => exact absurd hm (by decide)
    | 1, hm, _, _, _, _, _, _ => exact absurd hm (by decide)
    | 2, hm, _, _, _, _, _, _ => exact absurd hm (by decide)
    | 3, hm, _, _, _, _, _, _ => exact absurd hm (by decide)
    | 4, hm, _, _, _, _, _, _ => exact absurd hm (by decide)
    | 5, hm, _, _, _, _, _, _ => exact absurd hm (by decide)
    | 6, hm, _, _, _, _, _, _ => exact absurd hm (by decide)
    | 7, hm, _, _, _, _, _, _ => exact absurd hm (by decide)
    | 8, hm, _, _, _, _, _, _ => exact absurd hm (by decide)
    | 9, hm, _, _, _, _, _, _ => exact absurd hm (by decide)
    | 10, hm, _, _, _, _, _, _ => exact absurd hm (by decide)
    | 11, hm, _, _, _, _, _, _ => exact absurd hm (by decide)
    | 12, hm, _, _, _, _, _, _ => exact absurd hm (by decide)
    | 13, _, ho, h0, hf, hg, hfr, hdep =>
      simp only [gTA, gCZ, gCS, gSI] at ho
      subst ho
      have tq : ρ (.tmp 4) = .pointer (some ⟨w.heap.size + 1, 0, none⟩) := hfr 4 (by kernel_rfl)
      have t0 : ρ (.tmp 67) = .agg #[.int .u8 5, .slice (some ⟨pb, po, none⟩) zs.length cp, .slice iA li ci, .slice oA lo co, .slice k ks.length ck, .int .i64 (n : Int)] := hdep 0 67 (by kernel_rfl) (by kernel_rfl)
      refine ⟨rfl, mark_store6 w' 31 (.tmp 4) (.tmp 67) rfl size_actor (w.heap.size + 1) 31 _ _ _ _ _ _ _ _ _ _ _ _ _ _ _ _ _ _ _ _ tq t0 (hC.2.2.1 h0) ?_⟩
      intro u9 v9 hB9 hU9
      have hl2 := HL2.out
      have hsz := hC.2.2.2.size
      refine ⟨⟨hC.1.keep (hU9.block _ hC.1.lt (by omega)), fun _ => hB9, fun h => absurd h (by simp [doneAt]), hC.2.2.2.trans hU9⟩, fun h => absurd rfl h, ?_⟩
      intro j t _ hs
      match j, hs with
      | 0, hs => exact hs
      | 1, hs => exact hs
      | 2, hs => exact hs
      | 3, hs => exact hs
      | 4, hs => exact hs
      | 5, hs => exact hs
      | 6, hs => exact hs
      | 7, hs => exact hs
      | 8, hs => exact hs
      | 9, hs => exact hs
      | 10, hs => exact hs
      | 11, hs => exact hs
      | 12, hs => exact TabV.but hs hU9 HL2.out
      | 13, hs => exact hs
      | 14, hs => exact TabV.but hs hU9 HL2.out
      | 15, hs => exact hs
      | _ + 16, _ => trivial
    | 14, hm, _, _, _, _, _, _ => exact absurd hm (by decide)
    | 15, hm, _, _, _, _, _, _ => exact absurd hm (by decide)
    | n + 16, _, ho, _, _, _, _, _ => simp at ho
  · intro V w9 hC9 hS
    obtain ⟨g9, A9, C9, c9, e14, o9⟩ : TabV W0.heap.size w9 (partS M Q (nthL I 0)) (V 14) := hS 14 (by decide) (by intro h; cases h)
    have e15 : V 15 = .int .i64 0 := hS 15 (by decide) (by intro h; cases h)
    simp only [puts, put_none, e14, e15]
    simp only [Act.put, List.setIfInBounds_toArray, List.set_cons_zero, List.set_cons_succ]
    clear hS e14 e15
    go_wp2
    have N9 := hidden6 (hC9.2.1 rfl)
    have z0 : w9.cell? ⟨w.heap.size + 1, 0, none⟩ = some (.int .u8 5) := N9.out.cell rfl
    have z1 : w9.cell? ⟨w.heap.size + 1, 1, none⟩ = some (.slice (some ⟨pb, po, none⟩) zs.length cp) := N9.out.cell rfl
    have z2 : w9.cell? ⟨w.heap.size + 1, 2, none⟩ = some (.slice iA li ci) := N9.out.cell rfl
    have z3 : w9.cell? ⟨w.heap.size + 1, 3, none⟩ = some (.slice oA lo co) := N9.out.cell rfl
    have z4 : w9.cell? ⟨w.heap.size + 1, 4, none⟩ = some (.slice k ks.length ck) := N9.out.cell rfl
    have z5 : w9.cell? ⟨w.heap.size + 1, 5, none⟩ = some (.int .i64 (n : Int)) := N9.out.cell rfl
    refine bodyPost_ret (v := .tuple #[.agg #[.int .u8 5, .slice (some ⟨pb, po, none⟩) zs.length cp, .slice iA li ci, .slice oA lo co, .slice k ks.length ck, .int .i64 (n : Int)], .slice (some ⟨g9, 0, none⟩) (partS M Q (nthL I 0)).length c9, .int .i64 0]) (by simp [results, Try.results31, go_sem, z0, z1, z2, z3, z4, z5]) rfl ?_
    have q9 := HB0.out.trans (hC9.2.2.2.below (Nat.le_succ _) HB0.out.size)
    exact ⟨_, _, _, _, _, rfl, o9.mono HB0.out.size, same_rn HRN.out q9, q9⟩
/-- An actor that a firing gives. -/
def VV (N : Nat → Prop) (W : World) (zs : List Int) (n : Nat) (r : Option (List (List Int) × List Int)) (u : World) (z : Value) : Prop :=
  (∃ p1 l1 k1 p2 l2 k2 p3 l3 k3 p4 l4 k4, z = (RA 1 (.slice p1 l1 k1) (.slice p2 l2 k2) (.slice p3 l3 k3) (.slice p4 l4 k4) (n : Int))) ∧ ∀ p, r = some p → IsRN (Wid N W u) u 1 zs p.2 n z
/-- The rows that it gives. -/
def OV (W : World) (r : Option (List (List Int) × List Int)) (u : World) (z : Value) : Prop :=
  match r with
  | some p => ∃ x c A C, z = .slice x p.1.length c ∧ OutT W.heap.size u A C x p.1
  | none => z = .slice none 0 0
def EV (r : Option (List (List Int) × List Int)) (z : Value) : Prop :=
  match r with
  | some _ => z = .int .i64 0
  | none => z = .int .i64 70
def TV (N : Nat → Prop) (W : World) (zs : List Int) (n : Nat) (r : Option (List (List Int) × List Int)) (u : World) (z : Value) : Prop := ∃ v s e, z = .tuple #[v, s, e] ∧ VV N W zs n r u v ∧ OV W r u s ∧ EV r e
def StV (K : Nat) (N : Nat → Prop) (W : World) (zs : List Int) (n : Nat) (r : Option (List (List Int) × List Int)) (u : World) : Prop :=
  ∃ p1 l1 k1 p2 l2 k2 p3 l3 k3 p4 l4 k4, BlkA 31 K u #[.int .u8 1, .slice p1 l1 k1, .slice p2 l2 k2, .slice p3 l3 k3, .slice p4 l4 k4, .int .i64 (n : Int)] ∧ VV N W zs n r u (RA 1 (.slice p1 l1 k1) (.slice p2 l2 k2) (.slice p3 l3 k3) (.slice p4 l4 k4) (n : Int))
theorem VV.later {N : Nat → Prop} {W u u' : World} {zs : List Int} {n : Nat} {r : Option (List (List Int) × List Int)} {z : Value} (h : VV N W zs n r u z) (hb : Below u.heap.size u u') : VV N W zs n r u' z :=
  ⟨h.1, fun p hp => ((h.2 p hp).below hb).wider fun _ hk => Or.imp id (fun q => ⟨q.1, Nat.lt_of_lt_of_le q.2 hb.size⟩) hk⟩
theorem VV.but {N : Nat → Prop} {W u u' : World} {zs : List Int} {n K : Nat} {r : Option (List (List Int) × List Int)} {z : Value} (h : VV N W zs n r u z) (hU : But K u u') (hN : ∀ k, N k → k < K) (hK : K < W.heap.size) (hW : W.heap.size ≤ u.heap.size) : VV N W zs n r u' z := by
  refine ⟨h.1, fun p hp => ((h.2 p hp).keeps fun k hk => ?_).wider fun _ hk => Or.imp id (fun q => ⟨q.1, Nat.lt_of_lt_of_le q.2 hU.size⟩) hk⟩
  rcases hk with q | q
  · have := hN k q
    exact hU.block k (by omega) (by omega)
  · have := q.1
    exact hU.block k q.2 (by omega)
theorem OV.later {W u u' : World} {r : Option (List (List Int) × List Int)} {z : Value} (h : OV W r u z) (hb : Below u.heap.size u u') : OV W r u' z := by
  cases r with
  | none => exact h
  | some p =>
    obtain ⟨x, c, A, C, h1, h2⟩ := h
    exact ⟨x, c, A, C, h1, h2.later hb⟩
theorem OV.but {W u u' : World} {K : Nat} {r : Option (List (List Int) × List Int)} {z : Value} (h : OV W r u z) (hU : But K u u') (hK : K < W.heap.size) : OV W r u' z := by
  cases r with
  | none => exact h
  | some p =>
    obtain ⟨x, c, A, C, h1, h2⟩ := h
    exact ⟨x, c, A, C, h1, h2.but hU hK⟩
theorem TV.later {N : Nat → Prop} {W u u' : World} {zs : List Int} {n : Nat} {r : Option (List (List Int) × List Int)} {z : Value} (h : TV N W zs n r u z) (hb : Below u.heap.size u u') : TV N W zs n r u' z := by
  obtain ⟨v, s, e, h0, h1, h2, h3⟩ := h
  exact ⟨v, s, e, h0, h1.later hb, h2.later hb, h3⟩
theorem TV.but {N : Nat → Prop} {W u u' : World} {zs : List Int} {n K : Nat} {r : Option (List (List Int) × List Int)} {z : Value} (h : TV N W zs n r u z) (hU : But K u u') (hN : ∀ k, N k → k < K) (hK : K < W.heap.size) (hW : W.heap.size ≤ u.heap.size) : TV N W zs n r u' z := by
  obtain ⟨v, s, e, h0, h1, h2, h3⟩ := h
  exact ⟨v, s, e, h0, h1.but hU hN hK hW, h2.but hU hK, h3⟩
theorem StV.later {K : Nat} {N : Nat → Prop} {W u u' : World} {zs : List Int} {n : Nat} {r : Option (List (List Int) × List Int)} (h : StV K N W zs n r u) (hb : Below u.heap.size u u') : StV K N W zs n r u' := by
  obtain ⟨p1, l1, k1, p2, l2, k2, p3, l3, k3, p4, l4, k4, h1, h2⟩ := h
  exact ⟨p1, l1, k1, p2, l2, k2, p3, l3, k3, p4, l4, k4, h1.below hb, h2.later hb⟩
theorem done_tv {N : Nat → Prop} {W W' u : World} {zs : List Int} {n : Nat} {r : Option (List (List Int) × List Int)} {e : Ending} (h : DoneF N W' 1 zs n r e u) (hW : W.heap.size ≤ W'.heap.size) : ∃ z, e = .returned z ∧ Below W'.heap.size W' u ∧ TV N W zs n r u z := by
  cases r with
  | none =>
    obtain ⟨p1, l1, k1, p2, l2, k2, p3, l3, k3, p4, l4, k4, rfl, hb⟩ := h
    exact ⟨_, rfl, hb, _, _, _, rfl, ⟨⟨p1, l1, k1, p2, l2, k2, p3, l3, k3, p4, l4, k4, rfl⟩, fun p hp => by cases hp⟩, rfl, rfl⟩
  | some p =>
    obtain ⟨v, x, c, A, C, rfl, hO, hI, hb⟩ := h
    have hI2 : IsRN (Wid N W u) u 1 zs p.2 n v := hI.wider fun _ hk => Or.imp id (fun q => ⟨Nat.le_trans hW q.1, q.2⟩) hk
    refine ⟨_, rfl, hb, _, _, _, rfl, ⟨?_, fun q hq => by cases hq; exact hI2⟩, ⟨x, c, A, C, rfl, hO.mono hW⟩, rfl⟩
    obtain ⟨p1, k1, p2, k2, p3, k3, p4, k4, hv, -⟩ := hI2
    exact ⟨_, _, _, _, _, _, _, _, _, _, _, _, hv⟩
theorem tv_done {N : Nat → Prop} {w W w9 : World} {zs : List Int} {n : Nat} {r : Option (List (List Int) × List Int)} {v s e : Value} (hV : VV N W zs n r w9 v) (hO : OV W r w9 s) (hE : EV r e) (hW : w.heap.size ≤ W.heap.size) (hb : Below w.heap.size w w9) : DoneF N w 1 zs n r (.returned (.tuple #[v, s, e])) w9 := by
  cases r with
  | none =>
    obtain ⟨⟨p1, l1, k1, p2, l2, k2, p3, l3, k3, p4, l4, k4, rfl⟩, -⟩ := hV
    cases hO
    cases hE
    exact ⟨p1, l1, k1, p2, l2, k2, p3, l3, k3, p4, l4, k4, rfl, hb⟩
  | some p =>
    obtain ⟨x, c, A, C, rfl, h2⟩ := hO
    cases hE
    exact ⟨v, x, c, A, C, rfl, h2.mono hW, (hV.2 p rfl).wider fun _ hk => Or.imp id (fun q => ⟨Nat.le_trans hW q.1, q.2⟩) hk, hb⟩
set_option maxRecDepth 100000 in
set_option maxHeartbeats 4000000 in
theorem rdone_1 (N : Nat → Prop) (w : World) (zs ks : List Int) (n : Nat) (v : Value) (a : Option Addr) (len cap : Nat) (I : List (List Int)) (h : IsRN N w 1 zs ks n v) (hA : ArgL w a len I) (hT : takesS 1 zs I = true) (hz : 1 ≤ nth (insS 1 zs) 0) (hNl : ∀ k, N k → k < w.heap.size) (r : Option (List (List Int) × List Int)) (HR : ∀ W v, Below w.heap.size w W → IsRN N W 1 zs ks n v → Calls Try.prog 38 #[v, .int .i64 (nth (nthL I 0) 0)] W (DoneF N W 1 zs n r)) :
    Calls Try.prog 31 #[v, .slice a len cap] w (DoneF N w 1 zs n r) := by
  obtain ⟨p, cp, iA, ci, oA, co, k, ck, rfl, hp, hi, ho, hkk, np, ni, no, nk, h4⟩ := h
  obtain ⟨li, hli⟩ : ∃ q, (insS 1 zs).length = q := ⟨_, rfl⟩
  obtain ⟨lo, hlo⟩ : ∃ q, (outsS 1 zs).length = q := ⟨_, rfl⟩
  have HLI := hidden6 hli
  have HLO := hidden6 hlo
  have NP := hidden6 np
  have NI := hidden6 ni
  have NO := hidden6 no
  have NK := hidden6 nk
  have H4 := hidden6 h4
  have HP00 := hidden6 hp
  have HI00 := hidden6 hi
  have HO00 := hidden6 ho
  have HK00 := hidden6 hkk
  rw [hli, hlo]
  show Calls Try.prog 31 #[.agg #[.int .u8 1, .slice p zs.length cp, .slice iA li ci, .slice oA lo co, .slice k ks.length ck, .int .i64 (n : Int)], .slice a len cap] w _
  have hb0 := ((Below.refl w.heap.size w).alloc (Nat.le_refl _) (.cells #[.int .u8 1, .slice p zs.length cp, .slice iA li ci, .slice oA lo co, .slice k ks.length ck, .int .i64 (n : Int)] 31)).alloc (by simp) (.cells #[.int .u8 0, .slice none 0 0, .slice none 0 0, .slice none 0 0, .slice none 0 0, .int .i64 0] 31)
  have g2 := (blkA_new 31 w #[.int .u8 1, .slice p zs.length cp, .slice iA li ci, .slice oA lo co, .slice k ks.length ck, .int .i64 (n : Int)]).below ((Below.refl _ _).alloc (Nat.le_refl _) (.cells #[.int .u8 0, .slice none 0 0, .slice none 0 0, .slice none 0 0, .slice none 0 0, .int .i64 0] 31))
  have g4 : BlkA 31 (w.heap.size + 1) ((w.alloc (.cells #[.int .u8 1, .slice p zs.length cp, .slice iA li ci, .slice oA lo co, .slice k ks.length ck, .int .i64 (n : Int)] 31)).alloc (.cells #[.int .u8 0, .slice none 0 0, .slice none 0 0, .slice none 0 0, .slice none 0 0, .int .i64 0] 31)) #[.int .u8 0, .slice none 0 0, .slice none 0 0, .slice none 0 0, .slice none 0 0, .int .i64 0] := by
    have h3 := blkA_new 31 (w.alloc (.cells #[.int .u8 1, .slice p zs.length cp, .slice iA li ci, .slice oA lo co, .slice k ks.length ck, .int .i64 (n : Int)] 31)) #[.int .u8 0, .slice none 0 0, .slice none 0 0, .slice none 0 0, .slice none 0 0, .int .i64 0]
    rw [World.size_alloc] at h3
    exact h3
  have hA0 := hA.below hb0
  have hp0 := hp.below hb0
  have hk0 := hkk.below hb0
  have HB0 := hidden6 hb0
  have HRN : Hid (IsRN N w 1 zs ks n (RA 1 (.slice p zs.length cp) (.slice iA li ci) (.slice oA lo co) (.slice k ks.length ck) (n : Int))) := ⟨p, cp, iA, ci, oA, co, k, ck, by rw [hli, hlo], hp, hi, ho, hkk, np, ni, no, nk, h4⟩
  obtain ⟨ab, ao, xb, xo, m, c, rfl, l0, m0, hm, b1, b2⟩ := first_tok hA hT (by show 0 < 1; decide) hz
  have HAB : Hid (ab ≠ w.heap.size + 1) := by have : ab < w.heap.size := block_lt_of_cell b1; show _ ≠ _; omega
  have HXB : Hid (xb ≠ w.heap.size + 1) := by have : xb < w.heap.size := block_lt_of_cell b2; show _ ≠ _; omega
  have A1 := hidden6 (cell_keep6 hb0 b1)
  have A2 := hidden6 (cell_keep6 hb0 b2)
  have HNK : Hid (∀ k, N k → k < w.heap.size + 1) := fun k hk => Nat.lt_succ_of_lt (hNl k hk)
  have HRF : Hid (∀ W, Below w.heap.size w W → Calls Try.prog 38 #[.agg #[.int .u8 1, .slice p zs.length cp, .slice iA li ci, .slice oA lo co, .slice k ks.length ck, .int .i64 (n : Int)], .int .i64 (nth (nthL I 0) 0)] W (DoneF N W 1 zs n r)) := fun W hb => HR W _ hb (HRN.out.below hb)
  clear hT hz hA0 hp0 hk0 b1 b2 hm HR hNl
  generalize nth (nthL I 0) 0 = x at *
  clear hA np ni no nk h4 hli hlo hp hi ho hkk
  go_enter Try.func31, Try.ntmps31
  go_upto_region 1 with fail
  generalize (w.alloc (.cells #[.int .u8 1, .slice p zs.length cp, .slice iA li ci, .slice oA lo co, .slice k ks.length ck, .int .i64 (n : Int)] 31)).alloc (.cells #[.int .u8 0, .slice none 0 0, .slice none 0 0, .slice none 0 0, .slice none 0 0, .int .i64 0] 31) = W0 at *
  have G2 := hidden6 g2
  have G4 := hidden6 g4
  have L2 : w.heap.size + 1 < W0.heap.size := g4.lt
  have L1 : w.heap.size < W0.heap.size := by omega
  have e0 : W0.cell? ⟨w.heap.size, 0, none⟩ = some (.int .u8 1) := g2.cell rfl
  clear hb0
  have y1 : W0.cell? ⟨w.heap.size, 1, none⟩ = some (.slice p zs.length cp) := g2.cell rfl
  have y2 : W0.cell? ⟨w.heap.size, 2, none⟩ = some (.slice iA li ci) := g2.cell rfl
  have y3 : W0.cell? ⟨w.heap.size, 3, none⟩ = some (.slice oA lo co) := g2.cell rfl
  have y4 : W0.cell? ⟨w.heap.size, 4, none⟩ = some (.slice k ks.length ck) := g2.cell rfl
  have y5 : W0.cell? ⟨w.heap.size, 5, none⟩ = some (.int .i64 (n : Int)) := g2.cell rfl
  have HL2 := hidden6 L2
  clear g2 g4 y1 y2 y3 y4 y5
  go_upto_region 3 with fail
  refine wp_region_gen [10] (fun d i u z => match i with
      | 0 => z = .agg #[.int .u8 1, .slice p zs.length cp, .slice iA li ci, .slice oA lo co, .slice k ks.length ck, .int .i64 (n : Int)]
      | 1 => z = .slice (some ⟨ab, ao, none⟩) len cap
      | 2 => z = .pointer (some ⟨ab, ao, none⟩)
      | 3 => z = .slice (some ⟨xb, xo, none⟩) m c
      | 4 => z = .pointer (some ⟨xb, xo, none⟩)
      | 5 => z = .int .i64 x
      | 6 => TV N W0 zs n r u z
      | 7 => VV N W0 zs n r u z
      | 8 => OV W0 r u z
      | 9 => EV r z
      | 10 => True
      | 11 => OV W0 r u z
      | 12 => EV r z
      | _ => True) (fun d u => BlkA 31 (w.heap.size) u #[.int .u8 1, .slice p zs.length cp, .slice iA li ci, .slice oA lo co, .slice k ks.length ck, .int .i64 (n : Int)] ∧ (d 10 = true → StV (w.heap.size + 1) N W0 zs n r u) ∧ (d 10 = false → BlkA 31 (w.heap.size + 1) u #[.int .u8 0, .slice none 0 0, .slice none 0 0, .slice none 0 0, .slice none 0 0, .int .i64 0]) ∧ But (w.heap.size + 1) W0 u) (by kernel_rfl) (by kernel_rfl) (by kernel_rfl) ?_ ?_ ?_ ?_ ?_ ?_ (by kernel_rfl)
  · intro d i w v w' h hb
    match i, h with
    | 0, h => exact h
    | 1, h => exact h
    | 2, h => exact h
    | 3, h => exact h
    | 4, h => exact h
    | 5, h => exact h
    | 6, h => exact TV.later h hb
    | 7, h => exact VV.later h hb
    | 8, h => exact OV.later h hb
    | 9, h => exact h
    | 10, h => exact h
    | 11, h => exact OV.later h hb
    | 12, h => exact h
    | _ + 13, _ => trivial
  · intro d u u' h hb
    exact ⟨h.1.below hb, fun e => (h.2.1 e).later hb, fun e => (h.2.2.1 e).below hb, h.2.2.2.trans (But.of_below hb)⟩
  · exact ⟨G2.out, fun h => absurd h (by decide), fun _ => G4.out, ⟨rfl, rfl, rfl, Nat.le_refl _, fun _ _ _ => rfl⟩⟩
  · intro d i o ρ w' hm ho hf hg hC hcs hfs hfr hdep
    match i, hm, ho, hf, hg, hfr, hdep with
    | 0, _, ho, hf, hg, hfr, hdep =>
      simp only [gTA, gCZ, gSI] at ho
      subst ho
      refine ⟨fun _ => ?_, fun hw => absurd (show true = false from hw) (by decide)⟩
      have tq : ρ (.tmp 2) = .pointer (some ⟨w.heap.size, 0, none⟩) := hfr 2 (by kernel_rfl)
      have c0 := hC.1.cell (k := 0) rfl
      have c1 := hC.1.cell (k := 1) rfl
      have c2 := hC.1.cell (k := 2) rfl
      have c3 := hC.1.cell (k := 3) rfl
      have c4 := hC.1.cell (k := 4) rfl
      have c5 := hC.1.cell (k := 5) rfl
      simp [go_sem, tq, c0, c1, c2, c3, c4, c5]
      exact ⟨Below.refl _ _, rfl⟩
    | 1, _, ho, hf, hg, hfr, hdep =>
      simp only [gTA, gCZ, gCS, gSI] at ho
      subst ho
      refine ⟨fun _ => ?_, fun hw => absurd (show true = false from hw) (by decide)⟩
      have ts : ρ (.tmp 1) = .slice (some ⟨ab, ao, none⟩) len cap := hfr 1 (by kernel_rfl)
      simp [go_sem, ts]
      exact ⟨Below.refl _ _, rfl⟩
    | 2, _, ho, hf, hg, hfr, hdep =>
      simp only [gTA, gCZ, gCS, gSI] at ho
      subst ho
      refine ⟨fun _ => ?_, fun hw => absurd (show true = false from hw) (by decide)⟩
      have d0 : ρ (.tmp 15) = .slice (some ⟨ab, ao, none⟩) len cap := hdep 1 15 (by kernel_rfl) (by kernel_rfl)
      simp [go_sem, d0, hcs, l0]
      exact ⟨Below.refl _ _, rfl⟩
    | 3, _, ho, hf, hg, hfr, hdep =>
      simp only [gTA, gCZ, gCS, gSI] at ho
      subst ho
      refine ⟨fun _ => ?_, fun hw => absurd (show true = false from hw) (by decide)⟩
      have cc := cell_but hC.2.2.2 A1.out HAB.out
      have d0 : ρ (.tmp 16) = .pointer (some ⟨ab, ao, none⟩) := hdep 2 16 (by kernel_rfl) (by kernel_rfl)
      simp [go_sem, d0, cc]
      exact ⟨Below.refl _ _, rfl⟩
    | 4, _, ho, hf, hg, hfr, hdep =>
      simp only [gTA, gCZ, gCS, gSI] at ho
      subst ho
      refine ⟨fun _ => ?_, fun hw => absurd (show true = false from hw) (by decide)⟩
      have d0 : ρ (.tmp 17) = .slice (some ⟨xb, xo, none⟩) m c := hdep 3 17 (by kernel_rfl) (by kernel_rfl)
      simp [go_sem, d0, hcs, m0]
      exact ⟨Below.refl _ _, rfl⟩
    | 5, _, ho, hf, hg, hfr, hdep =>
      simp only [gTA, gCZ, gCS, gSI] at ho
      subst ho
      refine ⟨fun _ => ?_, fun hw => absurd (show true = false from hw) (by decide)⟩
      have cc := cell_but hC.2.2.2 A2.out HXB.out
      have d0 : ρ (.tmp 18) = .pointer (some ⟨xb, xo, none⟩) := hdep 4 18 (by kernel_rfl) (by kernel_rfl)
      simp [go_sem, d0, cc]
      exact ⟨Below.refl _ _, rfl⟩
    | 6, _, ho, hf, hg, hfr, hdep =>
      simp only [gTA, gCZ, gCS, gSI] at ho
      subst ho
      refine ⟨fun _ => ?_, fun hw => absurd (show true = false from hw) (by decide)⟩
      have d0 : ρ (.tmp 14) = .agg #[.int .u8 1, .slice p zs.length cp, .slice iA li ci, .slice oA lo co, .slice k ks.length ck, .int .i64 (n : Int)] := hdep 0 14 (by kernel_rfl) (by kernel_rfl)
      have d1 : ρ (.tmp 19) = .int .i64 x := hdep 5 19 (by kernel_rfl) (by kernel_rfl)
      simp [go_sem, d0, d1, hfs]
      refine ⟨rfl, (HRF.out _ (HB0.out.trans (hC.2.2.2.below (Nat.le_succ _) HB0.out.size))).mono ?_⟩
      intro e u h
      obtain ⟨z, rfl, hb, hz⟩ := done_tv h hC.2.2.2.size
      exact ⟨z, rfl, hb, hz⟩
    | 7, _, ho, hf, hg, hfr, hdep =>
      simp only [gTA, gCZ, gCS, gSI] at ho
      subst ho
      refine ⟨fun _ => ?_, fun hw => absurd (show true = false from hw) (by decide)⟩
      obtain ⟨v7, s7, e7, q0, h1, h2, h3⟩ : TV N W0 zs n r w' (ρ (.tmp 20)) := hdep 6 20 (by kernel_rfl) (by kernel_rfl)
      simp [go_sem, q0]
      exact ⟨Below.refl _ _, h1⟩
    | 8, _, ho, hf, hg, hfr, hdep =>
      simp only [gTA, gCZ, gCS, gSI] at ho
      subst ho
      refine ⟨fun _ => ?_, fun hw => absurd (show true = false from hw) (by decide)⟩
      obtain ⟨v7, s7, e7, q0, h1, h2, h3⟩ : TV N W0 zs n r w' (ρ (.tmp 20)) := hdep 6 20 (by kernel_rfl) (by kernel_rfl)
      simp [go_sem, q0]
      exact ⟨Below.refl _ _, h2⟩
    | 9, _, ho, hf, hg, hfr, hdep =>
      simp only [gTA, gCZ, gCS, gSI] at ho
      subst ho
      refine ⟨fun _ => ?_, fun hw => absurd (show true = false from hw) (by decide)⟩
      obtain ⟨v7, s7, e7, q0, h1, h2, h3⟩ : TV N W0 zs n r w' (ρ (.tmp 20)) := hdep 6 20 (by kernel_rfl) (by kernel_rfl)
      simp [go_sem, q0]
      exact ⟨Below.refl _ _, h3⟩
    | 10, hm, _, _, _, _, _ => exact absurd hm (by decide)
    | 11, _, ho, hf, hg, hfr, hdep =>
      simp only [gTA, gCZ, gCS, gSI] at ho
      subst ho
      refine ⟨fun _ => ?_, fun hw => absurd (show true = false from hw) (by decide)⟩
      have h8 : OV W0 r w' (ρ (.tmp 22)) := hdep 8 22 (by kernel_rfl) (by kernel_rfl)
      simp [go_sem]
      exact ⟨Below.refl _ _, h8⟩
    | 12, _, ho, hf, hg, hfr, hdep =>
      simp only [gTA, gCZ, gCS, gSI] at ho
      subst ho
      refine ⟨fun _ => ?_, fun hw => absurd (show true = false from hw) (by decide)⟩
      have h9 : EV r (ρ (.tmp 23)) := hdep 9 23 (by kernel_rfl) (by kernel_rfl)
      simp [go_sem]
      exact ⟨Below.refl _ _, h9⟩
    | n + 13, _, ho, _, _, _, _ => simp at ho
  · intro d i o ρ w' hm ho h0 hf hg hC hcs hfs hfr hdep
    match i, hm, ho, h0, hf, hg, hfr, hdep with
    | 0, hm, _, _, _, _, _, _ => exact absurd hm (by decide)
    | 1, hm, _, _, _, _, _, _ => exact absurd hm (by decide)
    | 2, hm, _, _, _, _, _, _ => exact absurd hm (by decide)
    | 3, hm, _, _, _, _, _, _ => exact absurd hm (by decide)
    | 4, hm, _, _, _, _, _, _ => exact absurd hm (by decide)
    | 5, hm, _, _, _, _, _, _ => exact absurd hm (by decide)
    | 6, hm, _, _, _, _, _, _ => exact absurd hm (by decide)
    | 7, hm, _, _, _, _, _, _ => exact absurd hm (by decide)
    | 8, hm, _, _, _, _, _, _ => exact absurd hm (by decide)
    | 9, hm, _, _, _, _, _, _ => exact absurd hm (by decide)
    | 10, _, ho, h0, hf, hg, hfr, hdep =>
      simp only [gTA, gCZ, gCS, gSI] at ho
      subst ho
      have tq : ρ (.tmp 4) = .pointer (some ⟨w.heap.size + 1, 0, none⟩) := hfr 4 (by kernel_rfl)
      have h7 : VV N W0 zs n r w' (ρ (.tmp 21)) := hdep 7 21 (by kernel_rfl) (by kernel_rfl)
      obtain ⟨p1, l1, k1, p2, l2, k2, p3, l3, k3, p4, l4, k4, e7⟩ := h7.1
      rw [e7] at h7
      refine ⟨rfl, mark_store6 w' 31 (.tmp 4) (.tmp 21) rfl size_actor (w.heap.size + 1) 31 _ _ _ _ _ _ _ _ _ _ _ _ _ _ _ _ _ _ _ _ tq e7 (hC.2.2.1 h0) ?_⟩
      intro u9 v9 hB9 hU9
      have hl2 := HL2.out
      have hsz := hC.2.2.2.size
      refine ⟨⟨hC.1.keep (hU9.block _ hC.1.lt (by omega)), fun _ => ⟨p1, l1, k1, p2, l2, k2, p3, l3, k3, p4, l4, k4, hB9, h7.but hU9 (HNK.out) HL2.out hC.2.2.2.size⟩, fun h => absurd h (by simp [doneAt]), hC.2.2.2.trans hU9⟩, fun h => absurd rfl h, ?_⟩
      intro j t _ hs
      match j, hs with
      | 0, hs => exact hs
      | 1, hs => exact hs
      | 2, hs => exact hs
      | 3, hs => exact hs
      | 4, hs => exact hs
      | 5, hs => exact hs
      | 6, hs => exact TV.but hs hU9 (HNK.out) HL2.out hC.2.2.2.size
      | 7, hs => exact VV.but hs hU9 (HNK.out) HL2.out hC.2.2.2.size
      | 8, hs => exact OV.but hs hU9 HL2.out
      | 9, hs => exact hs
      | 10, hs => exact hs
      | 11, hs => exact OV.but hs hU9 HL2.out
      | 12, hs => exact hs
      | _ + 13, _ => trivial
    | 11, hm, _, _, _, _, _, _ => exact absurd hm (by decide)
    | 12, hm, _, _, _, _, _, _ => exact absurd hm (by decide)
    | n + 13, _, ho, _, _, _, _, _ => simp at ho
  · intro V w9 hC9 hS
    have h11 : OV W0 r w9 (V 11) := hS 11 (by decide) (by intro h; cases h)
    have h12 : EV r (V 12) := hS 12 (by decide) (by intro h; cases h)
    obtain ⟨s9, e11⟩ : ∃ q, V 11 = q := ⟨_, rfl⟩
    obtain ⟨f9, e12⟩ : ∃ q, V 12 = q := ⟨_, rfl⟩
    rw [e11] at h11
    rw [e12] at h12
    have H11 := hidden6 h11
    have H12 := hidden6 h12
    clear h11 h12
    simp only [puts, put_none, e11, e12]
    simp only [Act.put, List.setIfInBounds_toArray, List.set_cons_zero, List.set_cons_succ]
    clear hS e11 e12
    go_wp2
    obtain ⟨p1, l1, k1, p2, l2, k2, p3, l3, k3, p4, l4, k4, hB9, hV9⟩ := hC9.2.1 rfl
    have N9 := hidden6 hB9
    have z0 : w9.cell? ⟨w.heap.size + 1, 0, none⟩ = some (.int .u8 1) := N9.out.cell rfl
    have z1 : w9.cell? ⟨w.heap.size + 1, 1, none⟩ = some (.slice p1 l1 k1) := N9.out.cell rfl
    have z2 : w9.cell? ⟨w.heap.size + 1, 2, none⟩ = some (.slice p2 l2 k2) := N9.out.cell rfl
    have z3 : w9.cell? ⟨w.heap.size + 1, 3, none⟩ = some (.slice p3 l3 k3) := N9.out.cell rfl
    have z4 : w9.cell? ⟨w.heap.size + 1, 4, none⟩ = some (.slice p4 l4 k4) := N9.out.cell rfl
    have z5 : w9.cell? ⟨w.heap.size + 1, 5, none⟩ = some (.int .i64 (n : Int)) := N9.out.cell rfl
    refine bodyPost_ret (v := .tuple #[.agg #[.int .u8 1, .slice p1 l1 k1, .slice p2 l2 k2, .slice p3 l3 k3, .slice p4 l4 k4, .int .i64 (n : Int)], s9, f9]) (by simp [results, Try.results31, go_sem, z0, z1, z2, z3, z4, z5]) rfl ?_
    exact tv_done hV9 H11.out H12.out HB0.out.size (HB0.out.trans (hC9.2.2.2.below (Nat.le_succ _) HB0.out.size))
theorem one_newB (W : World) (y x : Value) (s t : TypeId) : ∀ j u, [x][j]? = some u → ((W.alloc (.cells #[y] s)).alloc (.cells #[x] t)).cell? ((⟨W.heap.size + 1, 0, none⟩ : Addr).add j) = some u := by
  have h := one_new6 (W.alloc (.cells #[y] s)) x t
  rwa [World.size_alloc] at h
set_option maxRecDepth 100000 in
set_option maxHeartbeats 4000000 in
theorem rdone_9 (N : Nat → Prop) (w : World) (zs ks : List Int) (n : Nat) (v : Value) (a : Option Addr) (len cap : Nat) (I : List (List Int)) (h : IsRN N w 9 zs ks n v) (hA : ArgL w a len I) (hT : takesS 9 zs I = true) (hz1 : zs.length = 1) (hz : 1 ≤ nth zs 0 ∧ nth zs 0 ≤ 16) :
    Calls Try.prog 31 #[v, .slice a len cap] w (DoneF N w 9 zs n (some (List.replicate (nth zs 0).toNat [nth (nthL I 0) 0], ks))) := by
  obtain ⟨p, cp, iA, ci, oA, co, k, ck, rfl, hp, hi, ho, hkk, np, ni, no, nk, h4⟩ := h
  obtain ⟨pb, po, rfl, hpc0⟩ : ∃ pb po, p = some ⟨pb, po, none⟩ ∧ w.cell? ⟨pb, po, none⟩ = some (.int .i64 (nth zs 0)) := by
    rcases hp with h0 | ⟨b, off, e, hc⟩
    · rw [h0] at hz1; simp at hz1
    · exact ⟨b, off, e, by have := hc 0 (by omega); rwa [Nat.add_zero] at this⟩
  obtain ⟨li, hli⟩ : ∃ q, (insS 9 zs).length = q := ⟨_, rfl⟩
  obtain ⟨lo, hlo⟩ : ∃ q, (outsS 9 zs).length = q := ⟨_, rfl⟩
  have HLI := hidden6 hli
  have HLO := hidden6 hlo
  have NP := hidden6 np
  have NI := hidden6 ni
  have NO := hidden6 no
  have NK := hidden6 nk
  have H4 := hidden6 h4
  have HP00 := hidden6 hp
  have HI00 := hidden6 hi
  have HO00 := hidden6 ho
  have HK00 := hidden6 hkk
  rw [hli, hlo]
  show Calls Try.prog 31 #[.agg #[.int .u8 9, .slice (some ⟨pb, po, none⟩) zs.length cp, .slice iA li ci, .slice oA lo co, .slice k ks.length ck, .int .i64 (n : Int)], .slice a len cap] w _
  have hb0 := ((Below.refl w.heap.size w).alloc (Nat.le_refl _) (.cells #[.int .u8 9, .slice (some ⟨pb, po, none⟩) zs.length cp, .slice iA li ci, .slice oA lo co, .slice k ks.length ck, .int .i64 (n : Int)] 31)).alloc (by simp) (.cells #[.int .u8 0, .slice none 0 0, .slice none 0 0, .slice none 0 0, .slice none 0 0, .int .i64 0] 31)
  have g2 := (blkA_new 31 w #[.int .u8 9, .slice (some ⟨pb, po, none⟩) zs.length cp, .slice iA li ci, .slice oA lo co, .slice k ks.length ck, .int .i64 (n : Int)]).below ((Below.refl _ _).alloc (Nat.le_refl _) (.cells #[.int .u8 0, .slice none 0 0, .slice none 0 0, .slice none 0 0, .slice none 0 0, .int .i64 0] 31))
  have g4 : BlkA 31 (w.heap.size + 1) ((w.alloc (.cells #[.int .u8 9, .slice (some ⟨pb, po, none⟩) zs.length cp, .slice iA li ci, .slice oA lo co, .slice k ks.length ck, .int .i64 (n : Int)] 31)).alloc (.cells #[.int .u8 0, .slice none 0 0, .slice none 0 0, .slice none 0 0, .slice none 0 0, .int .i64 0] 31)) #[.int .u8 0, .slice none 0 0, .slice none 0 0, .slice none 0 0, .slice none 0 0, .int .i64 0] := by
    have h3 := blkA_new 31 (w.alloc (.cells #[.int .u8 9, .slice (some ⟨pb, po, none⟩) zs.length cp, .slice iA li ci, .slice oA lo co, .slice k ks.length ck, .int .i64 (n : Int)] 31)) #[.int .u8 0, .slice none 0 0, .slice none 0 0, .slice none 0 0, .slice none 0 0, .int .i64 0]
    rw [World.size_alloc] at h3
    exact h3
  have hA0 := hA.below hb0
  have hp0 := hp.below hb0
  have hk0 := hkk.below hb0
  have HB0 := hidden6 hb0
  have pc0 := (hb0.cell (block_lt_of_cell hpc0)).trans hpc0
  have HRN : Hid (IsRN N w 9 zs ks n (RA 9 (.slice (some ⟨pb, po, none⟩) zs.length cp) (.slice iA li ci) (.slice oA lo co) (.slice k ks.length ck) (n : Int))) := ⟨some ⟨pb, po, none⟩, cp, iA, ci, oA, co, k, ck, by rw [hli, hlo], hp, hi, ho, hkk, np, ni, no, nk, h4⟩
  obtain ⟨ab, ao, xb, xo, m, c, rfl, l0, m0, hm, b1, b2⟩ := first_tok hA hT (by show 0 < 1; decide) (by show (1 : Int) ≤ 1; decide)
  have A1 := hidden6 (cell_keep6 hb0 b1)
  have A2 := hidden6 (cell_keep6 hb0 b2)
  have l0i : (0 : Int) < (len : Int) := by omega
  have m0i : (0 : Int) < (m : Int) := by omega
  obtain ⟨M, hM⟩ : ∃ M : Nat, nth zs 0 = (M : Int) := ⟨(nth zs 0).toNat, by omega⟩
  have hM1 : 1 ≤ M ∧ M ≤ 16 := by omega
  rw [hM] at pc0
  have PC0 := hidden6 pc0
  have hzI : (0 : Int) < (zs.length : Int) := by omega
  have hz0 : 0 < zs.length := by omega
  have GV : Hid ((nth zs 0).toNat = M) := by show _ = _; rw [hM]; rfl
  rw [GV.out]
  obtain ⟨i1, hi1, hy0, hy1, hy2⟩ := info_parts Try.info22
  have HK := hidden6 hi1
  have HK0 := hidden6 hy0
  have HK1 := hidden6 hy1
  have HK2 := hidden6 hy2
  clear hT hA0 hp0 hk0 hM hz hz1 hpc0 b1 b2 hm pc0 hi1 hy0 hy1 hy2 GV
  generalize nth (nthL I 0) 0 = x at *
  clear hA np ni no nk h4 hli hlo hp hi ho hkk
  go_enter Try.func31, Try.ntmps31
  go_upto_region 1 with fail
  generalize (w.alloc (.cells #[.int .u8 9, .slice (some ⟨pb, po, none⟩) zs.length cp, .slice iA li ci, .slice oA lo co, .slice k ks.length ck, .int .i64 (n : Int)] 31)).alloc (.cells #[.int .u8 0, .slice none 0 0, .slice none 0 0, .slice none 0 0, .slice none 0 0, .int .i64 0] 31) = W0 at *
  have G2 := hidden6 g2
  have G4 := hidden6 g4
  have L2 : w.heap.size + 1 < W0.heap.size := g4.lt
  have L1 : w.heap.size < W0.heap.size := by omega
  have e0 : W0.cell? ⟨w.heap.size, 0, none⟩ = some (.int .u8 9) := g2.cell rfl
  clear hb0
  have y1 : W0.cell? ⟨w.heap.size, 1, none⟩ = some (.slice (some ⟨pb, po, none⟩) zs.length cp) := g2.cell rfl
  have y2 : W0.cell? ⟨w.heap.size, 2, none⟩ = some (.slice iA li ci) := g2.cell rfl
  have y3 : W0.cell? ⟨w.heap.size, 3, none⟩ = some (.slice oA lo co) := g2.cell rfl
  have y4 : W0.cell? ⟨w.heap.size, 4, none⟩ = some (.slice k ks.length ck) := g2.cell rfl
  have y5 : W0.cell? ⟨w.heap.size, 5, none⟩ = some (.int .i64 (n : Int)) := g2.cell rfl
  clear g2 g4
  clear y1 y2 y3 y4 y5
  go_upto_region 16 with fail
  go_wp2
  go_loopg [8, 9] M (fun gk v u wr => ∃ (i : Nat) (A : Nat → Option Addr) (C : Nat → Nat), i ≤ M ∧ gk = M - i ∧ u = .int .i64 (i : Int) ∧ TabG W0.heap.size wr v A C (List.replicate i [x]) ∧ Below W0.heap.size W0 wr)
  case atStart => exact ⟨0, _, _, Nat.zero_le _, rfl, rfl, tabG_nil _ _, Below.refl _ _⟩
  case round =>
    obtain ⟨i, A, C, hi, rfl, rfl, hT, hB⟩ := hrel
    obtain ⟨vx, vc, rfl⟩ := tabG_shape hT
    have hti : (List.replicate i [x]).length = i := List.length_replicate
    rw [hti] at hT ⊢
    have HT := hidden6 hT
    have HB := hidden6 hB
    have y1 : wr.cell? ⟨w.heap.size, 1, none⟩ = some (.slice (some ⟨pb, po, none⟩) zs.length cp) := (G2.out.below hB).cell rfl
    have pc := cell_keep6 hB PC0.out
    have hs1 := hB.size
    have L3 : w.heap.size < wr.heap.size := by omega
    clear e0 hT
    by_cases hlt : i < M
    · have hii : (i : Int) < (M : Int) := by omega
      have a1 := cell_keep6 hB A1.out
      have a2 := cell_keep6 hB A2.out
      clear hB
      have hbo : Hid (Below wr.heap.size wr ((wr.alloc (.cells #[.int .i64 x] 3)).alloc (.cells #[.slice (some ⟨wr.heap.size, 0, none⟩) 1 1] 22))) := ((Below.refl _ _).alloc (Nat.le_refl _) _).alloc (by simp) _
      have TT : Hid (TabG W0.heap.size ((wr.alloc (.cells #[.int .i64 x] 3)).alloc (.cells #[.slice (some ⟨wr.heap.size, 0, none⟩) 1 1] 22)) (.slice vx i vc) A C (List.replicate i [x])) := HT.out.below hbo.out
      have TR : Hid (((wr.alloc (.cells #[.int .i64 x] 3)).alloc (.cells #[.slice (some ⟨wr.heap.size, 0, none⟩) 1 1] 22)).ownsRow W0.heap.size 22 1 (.slice vx i vc) i (tabC A C (List.replicate i [x]))) := by have h := TT.out.row; rw [hti] at h; exact h
      have HR1 : Hid (CapR wr.heap.size ((wr.alloc (.cells #[.int .i64 x] 3)).alloc (.cells #[.slice (some ⟨wr.heap.size, 0, none⟩) 1 1] 22)) (some ⟨wr.heap.size, 0, none⟩) 1 [x]) := (capR_one wr x).later ((Below.refl _ _).alloc (Nat.le_refl _) _)
      go_wp2_with (at_builtin; refine wpList_append_told _ rfl (.tmp 90) (.tmp 97) 37 rfl W0.heap.size 22 i1 (.slice none 0 0) 1 24 Try.underlying37 HK.out HK0.out HK1.out HK2.out rfl (by decide) (.slice vx i vc) i (tabC A C (List.replicate i [x])) rfl TR.out ⟨wr.heap.size + 1, 0, none⟩ 1 1 (by decide) [.slice (some ⟨wr.heap.size, 0, none⟩) 1 1] (by simp [go_sem]) rfl (one_newB _ _ _ _ _) (one_cellS _ _ _) (by unfold maxLen; omega) (by omega) (by simp; omega) ?_; intro v' w2 ho ht; have HO := hidden6 ho; have HG := hidden6 ht; clear ho ht)
      go_roundg (M - (i + 1))
      case measure => omega
      case rel =>
        have r := TabG.app HT.out hs1 hbo.out HR1.out (v' := _) (w4 := w2) (by rw [hti]; exact HO.out) (by rw [hti]; exact HG.out)
        rw [← List.replicate_succ'] at r
        have hbf : Below W0.heap.size W0 w2 := by
          have q : Below W0.heap.size W0 ((wr.alloc (.cells #[.int .i64 x] 3)).alloc (.cells #[.slice (some ⟨wr.heap.size, 0, none⟩) 1 1] 22)) := HB.out.trans (hbo.out.mono hs1)
          rcases HG.out with ⟨g, cap, e, -, hg⟩ | ⟨cap, -, hg⟩
          · exact q.grown hg q.size (fun k hk => by cases hk; exact (rowG_lt TR.out (k := g) (by rw [e]; rfl)).1)
          · exact q.grown hg q.size (fun k hk => by cases hk)
        exact ⟨i + 1, _, _, by omega, rfl, by go_num, r, hbf⟩
    · have hii : ¬ (i : Int) < (M : Int) := by omega
      have ei : i = M := by omega
      subst ei
      have HT2 : Hid (OutT W0.heap.size wr A C vx (List.replicate i [x])) := by
        have h := HT.out
        have h2 : TabG W0.heap.size wr (.slice vx (List.replicate i [x]).length vc) A C (List.replicate i [x]) := by rw [hti]; exact h
        exact h2.out
      clear HT hB
      have z0 : wr.cell? ⟨w.heap.size, 0, none⟩ = some (.int .u8 9) := (G2.out.below HB.out).cell rfl
      have z2 : wr.cell? ⟨w.heap.size, 2, none⟩ = some (.slice iA li ci) := (G2.out.below HB.out).cell rfl
      have z3 : wr.cell? ⟨w.heap.size, 3, none⟩ = some (.slice oA lo co) := (G2.out.below HB.out).cell rfl
      have z4 : wr.cell? ⟨w.heap.size, 4, none⟩ = some (.slice k ks.length ck) := (G2.out.below HB.out).cell rfl
      have z5 : wr.cell? ⟨w.heap.size, 5, none⟩ = some (.int .i64 (n : Int)) := (G2.out.below HB.out).cell rfl
      have N4 := hidden6 (G4.out.below HB.out)
      go_wp2_with (refine wpList_store6 _ rfl 31 (.tmp 4) (.tmp 99) rfl rfl size_actor (w.heap.size + 1) 31 _ _ _ _ _ _ _ _ _ _ _ _ _ _ _ _ _ _ _ _ rfl rfl (N4.out) ?_; intro w9 hN9 hU9; have N9 := hidden6 hN9; have U9 := hidden6 hU9; clear hN9 hU9)
      clear z0 z2 z3 z4 z5
      have z0 : w9.cell? ⟨w.heap.size + 1, 0, none⟩ = some (.int .u8 9) := N9.out.cell rfl
      have z1 : w9.cell? ⟨w.heap.size + 1, 1, none⟩ = some (.slice (some ⟨pb, po, none⟩) zs.length cp) := N9.out.cell rfl
      have z2 : w9.cell? ⟨w.heap.size + 1, 2, none⟩ = some (.slice iA li ci) := N9.out.cell rfl
      have z3 : w9.cell? ⟨w.heap.size + 1, 3, none⟩ = some (.slice oA lo co) := N9.out.cell rfl
      have z4 : w9.cell? ⟨w.heap.size + 1, 4, none⟩ = some (.slice k ks.length ck) := N9.out.cell rfl
      have z5 : w9.cell? ⟨w.heap.size + 1, 5, none⟩ = some (.int .i64 (n : Int)) := N9.out.cell rfl
      refine bodyPost_ret (v := .tuple #[.agg #[.int .u8 9, .slice (some ⟨pb, po, none⟩) zs.length cp, .slice iA li ci, .slice oA lo co, .slice k ks.length ck, .int .i64 (n : Int)], .slice vx i vc, .int .i64 0]) (by simp [results, Try.results31, go_sem, z0, z1, z2, z3, z4, z5]) rfl ?_
      have q9 := done_none HB0.out HB.out U9.out (Nat.le_succ _)
      exact ⟨_, vx, vc, A, C, by show _ = Ending.returned (.tuple #[_, .slice vx (List.replicate i [x]).length vc, _]); rw [hti]; rfl, (HT2.out.but U9.out L2).mono HB0.out.size, same_rn HRN.out q9, q9⟩
theorem rdone_any (t : Nat) (ht : 1 ≤ t ∧ t ≤ 11) (N : Nat → Prop) (w : World) (zs ks : List Int) (n : Nat) (v : Value) (a : Option Addr) (len cap : Nat) (I : List (List Int)) (h : IsRN N w t zs ks n v) (hA : ArgL w a len I) (hT : takesS t zs I = true) (ok : okS t zs = true) (hK : KeepOk t zs ks) (inr : InR zs) (hNl : ∀ k, N k → k < w.heap.size) :
    Calls Try.prog 31 #[v, .slice a len cap] w (DoneF N w t zs n (giveS t zs ks I)) := by
  revert h hT ok hK
  revert t
  refine eleven ?_ ?_ ?_ ?_ ?_ ?_ ?_ ?_ ?_ ?_ ?_
  · intro h hT ok hK
    have hl : zs.length ≤ 16 := by
      have h1 : wB (zs.length : Int) 16 = true := ok
      unfold wB at h1
      simp at h1
      omega
    refine rdone_1 N w zs ks n v a len cap I h hA hT (by show (1 : Int) ≤ 1; decide) hNl _ fun W v' hb h' => ?_
    cases hd : dotO 0 zs (nth (nthL I 0) 0 :: ks) with
    | none =>
      have e : giveS 1 zs ks I = none := by show Option.map _ _ = _; rw [hd]; rfl
      rw [e]
      exact rfilter7_no N W zs ks n v' _ h' (hA.fits 0 0) (hK.2.1 rfl) hl hK.1 inr hd
    | some y =>
      have e : giveS 1 zs ks I = some ([[y]], (nth (nthL I 0) 0 :: ks).take ks.length) := by show Option.map _ _ = _; rw [hd]; rfl
      rw [e]
      exact rfilter7_yes N W zs ks n v' _ y h' (hA.fits 0 0) (hK.2.1 rfl) hl hK.1 inr hd
  · intro h hT ok hK
    obtain ⟨h1, h2⟩ := ok_one rfl ok
    exact rdone_2 N w zs ks n v a len cap I h hA hT h1 h2
  · intro h hT ok hK
    obtain ⟨h1, h2⟩ := ok_one rfl ok
    exact rdone_3 N w zs ks n v a len cap I h hA hT h2.1
  · intro h hT ok hK
    obtain ⟨h1, h2⟩ := ok_two rfl ok
    exact rdone_4 N w zs ks n v a len cap I h hA hT h1 h2
  · intro h hT ok hK
    obtain ⟨h1, h2⟩ := ok_two rfl ok
    exact rdone_5 N w zs ks n v a len cap I h hA hT h1 h2
  · intro h hT ok hK
    obtain ⟨h1, h2⟩ := ok_one rfl ok
    have hI : I.length ≤ 16 := by
      rw [(takes_facts hT).1]
      show (List.replicate (nth zs 0).toNat (1 : Int)).length ≤ 16
      rw [List.length_replicate]
      omega
    refine rdone_6 N w zs ks n v a len cap h hNl _ fun W v' hb h' => ?_
    cases hd : sumO 0 (I.map (nth · 0)) with
    | none =>
      have e : giveS 6 zs ks I = none := by show Option.map _ _ = _; rw [hd]; rfl
      rw [e]
      exact radd_no N W zs ks n v' a len cap I h' (hA.below hb) hT hI hd
    | some y =>
      have e : giveS 6 zs ks I = some ([[y]], ks) := by show Option.map _ _ = _; rw [hd]; rfl
      rw [e]
      exact radd_yes N W zs ks n v' a len cap I y h' (hA.below hb) hT hI hd
  · intro h hT ok hK
    refine rdone_7 N w zs ks n v a len cap h hNl _ fun W v' hb h' => ?_
    by_cases h0 : nth (nthL I 1) 0 = 0
    · have e : giveS 7 zs ks I = none := if_pos (.inl h0)
      rw [e]
      exact rquot_zero N W zs ks n v' a len cap I h' (hA.below hb) hT h0
    · by_cases h1 : nth (nthL I 0) 0 = -9223372036854775808 ∧ nth (nthL I 1) 0 = -1
      · have e : giveS 7 zs ks I = none := if_pos (.inr h1)
        rw [e]
        exact rquot_least N W zs ks n v' a len cap I h' (hA.below hb) hT h0 h1
      · have e : giveS 7 zs ks I = some ([[(nth (nthL I 0) 0).tdiv (nth (nthL I 1) 0)]], ks) := if_neg (fun h => h.elim h0 h1)
        rw [e]
        exact rquot_yes N W zs ks n v' a len cap I h' (hA.below hb) hT h0 h1
  · intro h hT ok hK
    refine rdone_8 N w zs ks n v a len cap h hNl _ fun W v' hb h' => ?_
    cases hf : fitB (nth ks 0 + nth (nthL I 0) 0) with
    | true =>
      have e : giveS 8 zs ks I = some ([[nth ks 0 + nth (nthL I 0) 0]], [nth ks 0 + nth (nthL I 0) 0]) := if_pos hf
      rw [e]
      exact rsum_yes N W zs ks n v' a len cap I h' (hA.below hb) hT (hK.2.2.1 (.inl rfl)) hK.1 hf
    | false =>
      have e : giveS 8 zs ks I = none := if_neg (by rw [hf]; decide)
      rw [e]
      exact rsum_no N W zs ks n v' a len cap I h' (hA.below hb) hT (hK.2.2.1 (.inl rfl)) hK.1 hf
  · intro h hT ok hK
    obtain ⟨h1, h2⟩ := ok_one rfl ok
    exact rdone_9 N w zs ks n v a len cap I h hA hT h1 h2
  · intro h hT ok hK
    have hz2 : zs.length = 2 := of_decide_eq_true ok
    refine rdone_10 N w zs ks n v a len cap h hNl _ fun W v' hb h' => ?_
    cases hf : fitB (nth ks 0 + nth zs 1) with
    | true =>
      have e : giveS 10 zs ks I = some ([[nth ks 0]], [nth ks 0 + nth zs 1]) := if_pos hf
      rw [e]
      exact rtick_yes N W zs ks n v' a len cap I h' (hA.below hb) hT (hK.2.2.1 (.inr rfl)) hK.1 hz2 inr hf
    | false =>
      have e : giveS 10 zs ks I = none := if_neg (by rw [hf]; decide)
      rw [e]
      exact rtick_no N W zs ks n v' a len cap I h' (hA.below hb) hT (hK.2.2.1 (.inr rfl)) hK.1 hz2 inr hf
  · intro h hT ok hK
    exact rdone_11 N w zs ks n v a len cap h
/-- How the document's Fire ends. -/
def FiredR (N : Nat → Prop) (w : World) (t : Nat) (zs : List Int) (v0 : Value) (n : Nat) (r : Int × List (List Int) × List Int) (e : Ending) (w' : World) : Prop :=
  (r.1 = 0 ∧ ∃ v x c A C, e = .returned (.tuple #[v, .slice x r.2.1.length c, .int .i64 0]) ∧ OutT w.heap.size w' A C x r.2.1 ∧ IsRN (Wid N w w') w' t zs r.2.2 (n + 1) v ∧ Below w.heap.size w w') ∨
  (r.1 ≠ 0 ∧ e = .returned (.tuple #[v0, .slice none 0 0, .int .i64 r.1]) ∧ Below w.heap.size w w')
theorem rfits7 (t : Nat) (zs : List Int) (pv ov kv : Value) (nv : Int) (w : World) (a1 : Option Addr) (c1 : Nat) (a : Option Addr) (len cap : Nat) (I : List (List Int)) (h1 : At w a1 (insS t zs)) (hm : (insS t zs).length ≤ 1024) (hl : I.length = len) (hI : AtL w a I) (li : Nat) (hli : (insS t zs).length = li) :
    Calls Try.prog 30 #[.agg #[.int .u8 (t : Int), pv, .slice a1 li c1, ov, kv, .int .i64 nv], .slice a len cap] w (fun e w' => e = .returned (.bool (takesS t zs I)) ∧ Below w.heap.size w w') := by
  subst hli
  refine (rfits_any t pv ov kv nv w a1 c1 (insS t zs) a len cap I h1 hm hl hI).mono ?_
  rintro e w' ⟨h2, h3⟩
  refine ⟨?_, h3⟩
  unfold takesS
  exact h2
theorem fire_some {N : Nat → Prop} {w W1 w2 w9 : World} {K t m : Nat} {zs ks' : List Int} {O : List (List Int)} {v : Value} {x : Option Addr} {A : Nat → Option Addr} {C : Nat → Nat} (hNl : ∀ k, N k → k < w.heap.size) (hbW : w.heap.size ≤ W1.heap.size) (h12 : W1.heap.size ≤ w2.heap.size) (hO : OutT W1.heap.size w2 A C x O) (hI : IsRN (Wid N W1 w2) w2 t zs ks' m v)
    (hk : ∀ k, k < w2.heap.size → k ≠ K → w9.heap[k]? = w2.heap[k]?) (hs : w2.heap.size ≤ w9.heap.size) (hKw : w.heap.size ≤ K) (hK : K < W1.heap.size) : OutT w.heap.size w9 A C x O ∧ IsRN (Wid N w w9) w9 t zs ks' m v := by
  refine ⟨(hO.keep (fun k h1 h2 => hk k h2 (by omega)) hs).mono hbW, (hI.keeps fun k hk' => ?_).wider fun k hk' => ?_⟩
  · rcases hk' with q | q
    · have := hNl k q
      exact hk k (by omega) (by omega)
    · have := q.1
      exact hk k q.2 (by omega)
  · rcases hk' with q | q
    · exact .inl q
    · exact .inr ⟨by have := q.1; omega, by have := q.2; omega⟩
set_option maxRecDepth 100000 in
set_option maxHeartbeats 4000000 in
theorem rfire7_bad (t : Nat) (N : Nat → Prop) (w : World) (zs ks : List Int) (n : Nat) (v : Value) (a : Option Addr) (len cap : Nat) (I : List (List Int)) (h : IsRN N w t zs ks n v) (hA : ArgL w a len I) (hin : (insS t zs).length ≤ 1024) (hT : takesS t zs I = false) :
    Calls Try.prog 21 #[v, .slice a len cap] w (FiredR N w t zs v n (1, [], ks)) := by
  obtain ⟨p, cp, iA, ci, oA, co, k, ck, rfl, hp, hi, ho, hkk, np, ni, no, nk, h4⟩ := h
  obtain ⟨li, hli⟩ : ∃ q, (insS t zs).length = q := ⟨_, rfl⟩
  obtain ⟨lo, hlo⟩ : ∃ q, (outsS t zs).length = q := ⟨_, rfl⟩
  have HLI := hidden6 hli
  have HLO := hidden6 hlo
  have NP := hidden6 np
  have NI := hidden6 ni
  have NO := hidden6 no
  have NK := hidden6 nk
  have H4 := hidden6 h4
  have HP00 := hidden6 hp
  have HI00 := hidden6 hi
  have HO00 := hidden6 ho
  have HK00 := hidden6 hkk
  rw [hli, hlo]
  show Calls Try.prog 21 #[.agg #[.int .u8 t, .slice p zs.length cp, .slice iA li ci, .slice oA lo co, .slice k ks.length ck, .int .i64 (n : Int)], .slice a len cap] w _
  have hb0 := ((Below.refl w.heap.size w).alloc (Nat.le_refl _) (.cells #[.int .u8 t, .slice p zs.length cp, .slice iA li ci, .slice oA lo co, .slice k ks.length ck, .int .i64 (n : Int)] 31)).alloc (by simp) (.cells #[.int .u8 0, .slice none 0 0, .slice none 0 0, .slice none 0 0, .slice none 0 0, .int .i64 0] 31)
  have g2 := (blkA_new 31 w #[.int .u8 t, .slice p zs.length cp, .slice iA li ci, .slice oA lo co, .slice k ks.length ck, .int .i64 (n : Int)]).below ((Below.refl _ _).alloc (Nat.le_refl _) (.cells #[.int .u8 0, .slice none 0 0, .slice none 0 0, .slice none 0 0, .slice none 0 0, .int .i64 0] 31))
  have g4 : BlkA 31 (w.heap.size + 1) ((w.alloc (.cells #[.int .u8 t, .slice p zs.length cp, .slice iA li ci, .slice oA lo co, .slice k ks.length ck, .int .i64 (n : Int)] 31)).alloc (.cells #[.int .u8 0, .slice none 0 0, .slice none 0 0, .slice none 0 0, .slice none 0 0, .int .i64 0] 31)) #[.int .u8 0, .slice none 0 0, .slice none 0 0, .slice none 0 0, .slice none 0 0, .int .i64 0] := by
    have h3 := blkA_new 31 (w.alloc (.cells #[.int .u8 t, .slice p zs.length cp, .slice iA li ci, .slice oA lo co, .slice k ks.length ck, .int .i64 (n : Int)] 31)) #[.int .u8 0, .slice none 0 0, .slice none 0 0, .slice none 0 0, .slice none 0 0, .int .i64 0]
    rw [World.size_alloc] at h3
    exact h3
  have hA0 := hA.below hb0
  have hp0 := hp.below hb0
  have hk0 := hkk.below hb0
  have HB0 := hidden6 hb0
  have HRN : Hid (IsRN N w t zs ks n (RA t (.slice p zs.length cp) (.slice iA li ci) (.slice oA lo co) (.slice k ks.length ck) (n : Int))) := ⟨p, cp, iA, ci, oA, co, k, ck, by rw [hli, hlo], hp, hi, ho, hkk, np, ni, no, nk, h4⟩
  have hln : (insS t zs).length ≤ 1024 := hin
  have HF : Hid (∀ V, Below w.heap.size w V → Calls Try.prog 30 #[.agg #[.int .u8 t, .slice p zs.length cp, .slice iA li ci, .slice oA lo co, .slice k ks.length ck, .int .i64 (n : Int)], .slice a len cap] V (fun e w' => e = .returned (.bool (takesS t zs I)) ∧ Below V.heap.size V w')) := fun V hb => rfits7 t zs (.slice p zs.length cp) (.slice oA lo co) (.slice k ks.length ck) (n : Int) V iA ci a len cap I (hi.below hb) hln hA.size (hA.below hb).lies li hli
  clear hA0 hp0 hk0 hln hin
  clear hA np ni no nk h4 hli hlo hp hi ho hkk
  go_enter Try.func21, Try.ntmps21
  go_upto_region 1 with fail
  generalize (w.alloc (.cells #[.int .u8 t, .slice p zs.length cp, .slice iA li ci, .slice oA lo co, .slice k ks.length ck, .int .i64 (n : Int)] 31)).alloc (.cells #[.int .u8 0, .slice none 0 0, .slice none 0 0, .slice none 0 0, .slice none 0 0, .int .i64 0] 31) = W0 at *
  have G2 := hidden6 g2
  have G4 := hidden6 g4
  have L2 : w.heap.size + 1 < W0.heap.size := g4.lt
  have L1 : w.heap.size < W0.heap.size := by omega
  have e0 : W0.cell? ⟨w.heap.size, 0, none⟩ = some (.int .u8 t) := g2.cell rfl
  clear hb0
  have y0 : W0.cell? ⟨w.heap.size, 0, none⟩ = some (.int .u8 t) := (g2).cell rfl
  have y1 : W0.cell? ⟨w.heap.size, 1, none⟩ = some (.slice p zs.length cp) := (g2).cell rfl
  have y2 : W0.cell? ⟨w.heap.size, 2, none⟩ = some (.slice iA li ci) := (g2).cell rfl
  have y3 : W0.cell? ⟨w.heap.size, 3, none⟩ = some (.slice oA lo co) := (g2).cell rfl
  have y4 : W0.cell? ⟨w.heap.size, 4, none⟩ = some (.slice k ks.length ck) := (g2).cell rfl
  have y5 : W0.cell? ⟨w.heap.size, 5, none⟩ = some (.int .i64 (n : Int)) := (g2).cell rfl
  clear g2 g4
  go_wp2_with (first | (refine wpList_store6 _ rfl 31 (.tmp 4) (.tmp 14) rfl rfl size_actor (w.heap.size + 1) 31 _ _ _ _ _ _ _ _ _ _ _ _ _ _ _ _ _ _ _ _ rfl rfl (N4.out) ?_; intro w9 hN9 hU9; have N9 := hidden6 hN9; have U9 := hidden6 hU9; clear hN9 hU9) | (go_at_call 30; (with_reducible refine (HF.out _ HB0.out).mono ?_); rintro e w1 ⟨rfl, hb1⟩; have B1 := hidden6 hb1; have N2 := hidden6 (G2.out.below hb1); have N4 := hidden6 (G4.out.below hb1); have L6 : w.heap.size + 1 < w1.heap.size := Nat.lt_of_lt_of_le L2 hb1.size; clear hb1; have x0 : w1.cell? ⟨w.heap.size, 0, none⟩ = some (.int .u8 t) := (N2.out).cell rfl; have x1 : w1.cell? ⟨w.heap.size, 1, none⟩ = some (.slice p zs.length cp) := (N2.out).cell rfl; have x2 : w1.cell? ⟨w.heap.size, 2, none⟩ = some (.slice iA li ci) := (N2.out).cell rfl; have x3 : w1.cell? ⟨w.heap.size, 3, none⟩ = some (.slice oA lo co) := (N2.out).cell rfl; have x4 : w1.cell? ⟨w.heap.size, 4, none⟩ = some (.slice k ks.length ck) := (N2.out).cell rfl; have x5 : w1.cell? ⟨w.heap.size, 5, none⟩ = some (.int .i64 (n : Int)) := (N2.out).cell rfl; rw [hT]; clear y0 y1 y2 y3 y4 y5))
  have z0 : w9.cell? ⟨w.heap.size + 1, 0, none⟩ = some (.int .u8 t) := N9.out.cell rfl
  have z1 : w9.cell? ⟨w.heap.size + 1, 1, none⟩ = some (.slice p zs.length cp) := N9.out.cell rfl
  have z2 : w9.cell? ⟨w.heap.size + 1, 2, none⟩ = some (.slice iA li ci) := N9.out.cell rfl
  have z3 : w9.cell? ⟨w.heap.size + 1, 3, none⟩ = some (.slice oA lo co) := N9.out.cell rfl
  have z4 : w9.cell? ⟨w.heap.size + 1, 4, none⟩ = some (.slice k ks.length ck) := N9.out.cell rfl
  have z5 : w9.cell? ⟨w.heap.size + 1, 5, none⟩ = some (.int .i64 (n : Int)) := N9.out.cell rfl
  refine bodyPost_ret (v := .tuple #[.agg #[.int .u8 t, .slice p zs.length cp, .slice iA li ci, .slice oA lo co, .slice k ks.length ck, .int .i64 (n : Int)], .slice none 0 0, .int .i64 1]) (by simp [results, Try.results21, go_sem, z0, z1, z2, z3, z4, z5]) rfl ?_
  have q1 := HB0.out.trans (B1.out.mono HB0.out.size)
  exact .inr ⟨by show (1 : Int) ≠ 0; decide, by show _ = Ending.returned (.tuple #[RA t (.slice p zs.length cp) (.slice iA li ci) (.slice oA lo co) (.slice k ks.length ck) (n : Int), _, _]); rfl, q1.trans (U9.out.below (Nat.le_succ _) q1.size)⟩
set_option maxRecDepth 100000 in
set_option maxHeartbeats 4000000 in
theorem rfire7_none (t : Nat) (N : Nat → Prop) (w : World) (zs ks : List Int) (n : Nat) (v : Value) (a : Option Addr) (len cap : Nat) (I : List (List Int)) (h : IsRN N w t zs ks n v) (hA : ArgL w a len I) (hin : (insS t zs).length ≤ 1024) (hT : takesS t zs I = true) (HR : ∀ W v, Below w.heap.size w W → IsRN N W t zs ks n v → Calls Try.prog 31 #[v, .slice a len cap] W (DoneF N W t zs n none))  :
    Calls Try.prog 21 #[v, .slice a len cap] w (FiredR N w t zs v n (70, [], ks)) := by
  obtain ⟨p, cp, iA, ci, oA, co, k, ck, rfl, hp, hi, ho, hkk, np, ni, no, nk, h4⟩ := h
  obtain ⟨li, hli⟩ : ∃ q, (insS t zs).length = q := ⟨_, rfl⟩
  obtain ⟨lo, hlo⟩ : ∃ q, (outsS t zs).length = q := ⟨_, rfl⟩
  have HLI := hidden6 hli
  have HLO := hidden6 hlo
  have NP := hidden6 np
  have NI := hidden6 ni
  have NO := hidden6 no
  have NK := hidden6 nk
  have H4 := hidden6 h4
  have HP00 := hidden6 hp
  have HI00 := hidden6 hi
  have HO00 := hidden6 ho
  have HK00 := hidden6 hkk
  rw [hli, hlo]
  show Calls Try.prog 21 #[.agg #[.int .u8 t, .slice p zs.length cp, .slice iA li ci, .slice oA lo co, .slice k ks.length ck, .int .i64 (n : Int)], .slice a len cap] w _
  have hb0 := ((Below.refl w.heap.size w).alloc (Nat.le_refl _) (.cells #[.int .u8 t, .slice p zs.length cp, .slice iA li ci, .slice oA lo co, .slice k ks.length ck, .int .i64 (n : Int)] 31)).alloc (by simp) (.cells #[.int .u8 0, .slice none 0 0, .slice none 0 0, .slice none 0 0, .slice none 0 0, .int .i64 0] 31)
  have g2 := (blkA_new 31 w #[.int .u8 t, .slice p zs.length cp, .slice iA li ci, .slice oA lo co, .slice k ks.length ck, .int .i64 (n : Int)]).below ((Below.refl _ _).alloc (Nat.le_refl _) (.cells #[.int .u8 0, .slice none 0 0, .slice none 0 0, .slice none 0 0, .slice none 0 0, .int .i64 0] 31))
  have g4 : BlkA 31 (w.heap.size + 1) ((w.alloc (.cells #[.int .u8 t, .slice p zs.length cp, .slice iA li ci, .slice oA lo co, .slice k ks.length ck, .int .i64 (n : Int)] 31)).alloc (.cells #[.int .u8 0, .slice none 0 0, .slice none 0 0, .slice none 0 0, .slice none 0 0, .int .i64 0] 31)) #[.int .u8 0, .slice none 0 0, .slice none 0 0, .slice none 0 0, .slice none 0 0, .int .i64 0] := by
    have h3 := blkA_new 31 (w.alloc (.cells #[.int .u8 t, .slice p zs.length cp, .slice iA li ci, .slice oA lo co, .slice k ks.length ck, .int .i64 (n : Int)] 31)) #[.int .u8 0, .slice none 0 0, .slice none 0 0, .slice none 0 0, .slice none 0 0, .int .i64 0]
    rw [World.size_alloc] at h3
    exact h3
  have hA0 := hA.below hb0
  have hp0 := hp.below hb0
  have hk0 := hkk.below hb0
  have HB0 := hidden6 hb0
  have HRN : Hid (IsRN N w t zs ks n (RA t (.slice p zs.length cp) (.slice iA li ci) (.slice oA lo co) (.slice k ks.length ck) (n : Int))) := ⟨p, cp, iA, ci, oA, co, k, ck, by rw [hli, hlo], hp, hi, ho, hkk, np, ni, no, nk, h4⟩
  have hln : (insS t zs).length ≤ 1024 := hin
  have HF : Hid (∀ V, Below w.heap.size w V → Calls Try.prog 30 #[.agg #[.int .u8 t, .slice p zs.length cp, .slice iA li ci, .slice oA lo co, .slice k ks.length ck, .int .i64 (n : Int)], .slice a len cap] V (fun e w' => e = .returned (.bool (takesS t zs I)) ∧ Below V.heap.size V w')) := fun V hb => rfits7 t zs (.slice p zs.length cp) (.slice oA lo co) (.slice k ks.length ck) (n : Int) V iA ci a len cap I (hi.below hb) hln hA.size (hA.below hb).lies li hli
  have HD : Hid (∀ V, Below w.heap.size w V → Calls Try.prog 31 #[.agg #[.int .u8 t, .slice p zs.length cp, .slice iA li ci, .slice oA lo co, .slice k ks.length ck, .int .i64 (n : Int)], .slice a len cap] V (DoneF N V t zs n none)) := fun V hb => HR V _ hb (HRN.out.below hb)
  clear hA0 hp0 hk0 hln hin
  clear hA np ni no nk h4 hli hlo hp hi ho hkk
  go_enter Try.func21, Try.ntmps21
  go_upto_region 1 with fail
  generalize (w.alloc (.cells #[.int .u8 t, .slice p zs.length cp, .slice iA li ci, .slice oA lo co, .slice k ks.length ck, .int .i64 (n : Int)] 31)).alloc (.cells #[.int .u8 0, .slice none 0 0, .slice none 0 0, .slice none 0 0, .slice none 0 0, .int .i64 0] 31) = W0 at *
  have G2 := hidden6 g2
  have G4 := hidden6 g4
  have L2 : w.heap.size + 1 < W0.heap.size := g4.lt
  have L1 : w.heap.size < W0.heap.size := by omega
  have e0 : W0.cell? ⟨w.heap.size, 0, none⟩ = some (.int .u8 t) := g2.cell rfl
  clear hb0
  have y0 : W0.cell? ⟨w.heap.size, 0, none⟩ = some (.int .u8 t) := (g2).cell rfl
  have y1 : W0.cell? ⟨w.heap.size, 1, none⟩ = some (.slice p zs.length cp) := (g2).cell rfl
  have y2 : W0.cell? ⟨w.heap.size, 2, none⟩ = some (.slice iA li ci) := (g2).cell rfl
  have y3 : W0.cell? ⟨w.heap.size, 3, none⟩ = some (.slice oA lo co) := (g2).cell rfl
  have y4 : W0.cell? ⟨w.heap.size, 4, none⟩ = some (.slice k ks.length ck) := (g2).cell rfl
  have y5 : W0.cell? ⟨w.heap.size, 5, none⟩ = some (.int .i64 (n : Int)) := (g2).cell rfl
  clear g2 g4 HR
  go_wp2_with (first | (refine wpList_store6 _ rfl 31 (.tmp 4) (.tmp 24) rfl rfl size_actor (w.heap.size + 1) 31 _ _ _ _ _ _ _ _ _ _ _ _ _ _ _ _ _ _ _ _ rfl rfl (V4.out) ?_; intro w9 hN9 hU9; have N9 := hidden6 hN9; have U9 := hidden6 hU9; clear hN9 hU9) | (refine wpList_store6 _ rfl 31 (.tmp 7) (.tmp 19) rfl rfl size_actor w2.heap.size 31 _ _ _ _ _ _ _ _ _ _ _ _ _ _ _ _ _ _ _ _ rfl rfl (blkA_new 31 w2 #[.int .u8 0, .slice none 0 0, .slice none 0 0, .slice none 0 0, .slice none 0 0, .int .i64 0]) ?_; intro w3 hN3 hU3; have N3 := hidden6 hN3; have U3 := hidden6 hU3; have V2 := hidden6 ((M2.out.below ((Below.refl _ _).alloc (Nat.le_refl _) (.cells #[.int .u8 0, .slice none 0 0, .slice none 0 0, .slice none 0 0, .slice none 0 0, .int .i64 0] 31))).keep (hU3.block _ (by simp; omega) (by omega))); have V4 := hidden6 ((M4.out.below ((Below.refl _ _).alloc (Nat.le_refl _) (.cells #[.int .u8 0, .slice none 0 0, .slice none 0 0, .slice none 0 0, .slice none 0 0, .int .i64 0] 31))).keep (hU3.block _ (by simp; omega) (by omega))); clear hN3 hU3; have u0 : w3.cell? ⟨w.heap.size, 0, none⟩ = some (.int .u8 t) := (V2.out).cell rfl; have u1 : w3.cell? ⟨w.heap.size, 1, none⟩ = some (.slice p zs.length cp) := (V2.out).cell rfl; have u2 : w3.cell? ⟨w.heap.size, 2, none⟩ = some (.slice iA li ci) := (V2.out).cell rfl; have u3 : w3.cell? ⟨w.heap.size, 3, none⟩ = some (.slice oA lo co) := (V2.out).cell rfl; have u4 : w3.cell? ⟨w.heap.size, 4, none⟩ = some (.slice k ks.length ck) := (V2.out).cell rfl; have u5 : w3.cell? ⟨w.heap.size, 5, none⟩ = some (.int .i64 (n : Int)) := (V2.out).cell rfl) | (go_at_call 30; (with_reducible refine (HF.out _ HB0.out).mono ?_); rintro e w1 ⟨rfl, hb1⟩; have B1 := hidden6 hb1; have N2 := hidden6 (G2.out.below hb1); have N4 := hidden6 (G4.out.below hb1); have L6 : w.heap.size + 1 < w1.heap.size := Nat.lt_of_lt_of_le L2 hb1.size; have Q1 := hidden6 (HB0.out.trans (hb1.mono HB0.out.size)); clear hb1; have x0 : w1.cell? ⟨w.heap.size, 0, none⟩ = some (.int .u8 t) := (N2.out).cell rfl; have x1 : w1.cell? ⟨w.heap.size, 1, none⟩ = some (.slice p zs.length cp) := (N2.out).cell rfl; have x2 : w1.cell? ⟨w.heap.size, 2, none⟩ = some (.slice iA li ci) := (N2.out).cell rfl; have x3 : w1.cell? ⟨w.heap.size, 3, none⟩ = some (.slice oA lo co) := (N2.out).cell rfl; have x4 : w1.cell? ⟨w.heap.size, 4, none⟩ = some (.slice k ks.length ck) := (N2.out).cell rfl; have x5 : w1.cell? ⟨w.heap.size, 5, none⟩ = some (.int .i64 (n : Int)) := (N2.out).cell rfl; rw [hT]; clear y0 y1 y2 y3 y4 y5) | (go_at_call 31; (with_reducible refine (HD.out _ Q1.out).mono ?_); rintro e w2 ⟨p1, l1, k1, p2, l2, k2, p3, l3, k3, p4, l4, k4, rfl, hb2⟩; have B2 := hidden6 hb2; have M2 := hidden6 (N2.out.below hb2); have M4 := hidden6 (N4.out.below hb2); have L7 : w.heap.size + 1 < w2.heap.size := Nat.lt_of_lt_of_le L6 hb2.size; clear hb2; clear x0 x1 x2 x3 x4 x5))
  have z0 : w9.cell? ⟨w.heap.size + 1, 0, none⟩ = some (.int .u8 t) := N9.out.cell rfl
  have z1 : w9.cell? ⟨w.heap.size + 1, 1, none⟩ = some (.slice p zs.length cp) := N9.out.cell rfl
  have z2 : w9.cell? ⟨w.heap.size + 1, 2, none⟩ = some (.slice iA li ci) := N9.out.cell rfl
  have z3 : w9.cell? ⟨w.heap.size + 1, 3, none⟩ = some (.slice oA lo co) := N9.out.cell rfl
  have z4 : w9.cell? ⟨w.heap.size + 1, 4, none⟩ = some (.slice k ks.length ck) := N9.out.cell rfl
  have z5 : w9.cell? ⟨w.heap.size + 1, 5, none⟩ = some (.int .i64 (n : Int)) := N9.out.cell rfl
  refine bodyPost_ret (v := .tuple #[.agg #[.int .u8 t, .slice p zs.length cp, .slice iA li ci, .slice oA lo co, .slice k ks.length ck, .int .i64 (n : Int)], .slice none 0 0, .int .i64 70]) (by simp [results, Try.results21, go_sem, z0, z1, z2, z3, z4, z5]) rfl ?_
  have q2 := Q1.out.trans (B2.out.mono Q1.out.size)
  have q3 := (q2.alloc q2.size (.cells #[.int .u8 0, .slice none 0 0, .slice none 0 0, .slice none 0 0, .slice none 0 0, .int .i64 0] 31)).trans (U3.out.below (Nat.le_of_lt (Nat.lt_of_succ_lt L7)) (by simp; omega))
  exact .inr ⟨by show (70 : Int) ≠ 0; decide, by show _ = Ending.returned (.tuple #[RA t (.slice p zs.length cp) (.slice iA li ci) (.slice oA lo co) (.slice k ks.length ck) (n : Int), _, _]); rfl, q3.trans (U9.out.below (Nat.le_succ _) q3.size)⟩
set_option maxRecDepth 100000 in
set_option maxHeartbeats 4000000 in
theorem rfire7_some (t : Nat) (O : List (List Int)) (ks1 : List Int) (N : Nat → Prop) (w : World) (zs ks : List Int) (n : Nat) (v : Value) (a : Option Addr) (len cap : Nat) (I : List (List Int)) (h : IsRN N w t zs ks n v) (hA : ArgL w a len I) (hNl : ∀ k, N k → k < w.heap.size) (hn : n < 4611686018427387904) (hin : (insS t zs).length ≤ 1024) (hT : takesS t zs I = true) (HR : ∀ W v, Below w.heap.size w W → IsRN N W t zs ks n v → Calls Try.prog 31 #[v, .slice a len cap] W (DoneF N W t zs n (some (O, ks1))))  :
    Calls Try.prog 21 #[v, .slice a len cap] w (FiredR N w t zs v n (0, O, ks1)) := by
  obtain ⟨p, cp, iA, ci, oA, co, k, ck, rfl, hp, hi, ho, hkk, np, ni, no, nk, h4⟩ := h
  obtain ⟨li, hli⟩ : ∃ q, (insS t zs).length = q := ⟨_, rfl⟩
  obtain ⟨lo, hlo⟩ : ∃ q, (outsS t zs).length = q := ⟨_, rfl⟩
  have HLI := hidden6 hli
  have HLO := hidden6 hlo
  have NP := hidden6 np
  have NI := hidden6 ni
  have NO := hidden6 no
  have NK := hidden6 nk
  have H4 := hidden6 h4
  have HP00 := hidden6 hp
  have HI00 := hidden6 hi
  have HO00 := hidden6 ho
  have HK00 := hidden6 hkk
  rw [hli, hlo]
  show Calls Try.prog 21 #[.agg #[.int .u8 t, .slice p zs.length cp, .slice iA li ci, .slice oA lo co, .slice k ks.length ck, .int .i64 (n : Int)], .slice a len cap] w _
  have hb0 := ((Below.refl w.heap.size w).alloc (Nat.le_refl _) (.cells #[.int .u8 t, .slice p zs.length cp, .slice iA li ci, .slice oA lo co, .slice k ks.length ck, .int .i64 (n : Int)] 31)).alloc (by simp) (.cells #[.int .u8 0, .slice none 0 0, .slice none 0 0, .slice none 0 0, .slice none 0 0, .int .i64 0] 31)
  have g2 := (blkA_new 31 w #[.int .u8 t, .slice p zs.length cp, .slice iA li ci, .slice oA lo co, .slice k ks.length ck, .int .i64 (n : Int)]).below ((Below.refl _ _).alloc (Nat.le_refl _) (.cells #[.int .u8 0, .slice none 0 0, .slice none 0 0, .slice none 0 0, .slice none 0 0, .int .i64 0] 31))
  have g4 : BlkA 31 (w.heap.size + 1) ((w.alloc (.cells #[.int .u8 t, .slice p zs.length cp, .slice iA li ci, .slice oA lo co, .slice k ks.length ck, .int .i64 (n : Int)] 31)).alloc (.cells #[.int .u8 0, .slice none 0 0, .slice none 0 0, .slice none 0 0, .slice none 0 0, .int .i64 0] 31)) #[.int .u8 0, .slice none 0 0, .slice none 0 0, .slice none 0 0, .slice none 0 0, .int .i64 0] := by
    have h3 := blkA_new 31 (w.alloc (.cells #[.int .u8 t, .slice p zs.length cp, .slice iA li ci, .slice oA lo co, .slice k ks.length ck, .int .i64 (n : Int)] 31)) #[.int .u8 0, .slice none 0 0, .slice none 0 0, .slice none 0 0, .slice none 0 0, .int .i64 0]
    rw [World.size_alloc] at h3
    exact h3
  have hA0 := hA.below hb0
  have hp0 := hp.below hb0
  have hk0 := hkk.below hb0
  have HB0 := hidden6 hb0
  have HRN : Hid (IsRN N w t zs ks n (RA t (.slice p zs.length cp) (.slice iA li ci) (.slice oA lo co) (.slice k ks.length ck) (n : Int))) := ⟨p, cp, iA, ci, oA, co, k, ck, by rw [hli, hlo], hp, hi, ho, hkk, np, ni, no, nk, h4⟩
  have hln : (insS t zs).length ≤ 1024 := hin
  have HF : Hid (∀ V, Below w.heap.size w V → Calls Try.prog 30 #[.agg #[.int .u8 t, .slice p zs.length cp, .slice iA li ci, .slice oA lo co, .slice k ks.length ck, .int .i64 (n : Int)], .slice a len cap] V (fun e w' => e = .returned (.bool (takesS t zs I)) ∧ Below V.heap.size V w')) := fun V hb => rfits7 t zs (.slice p zs.length cp) (.slice oA lo co) (.slice k ks.length ck) (n : Int) V iA ci a len cap I (hi.below hb) hln hA.size (hA.below hb).lies li hli
  have HNL := hidden6 hNl
  have hnI : (n : Int) < 4611686018427387904 := by omega
  have HD : Hid (∀ V, Below w.heap.size w V → Calls Try.prog 31 #[.agg #[.int .u8 t, .slice p zs.length cp, .slice iA li ci, .slice oA lo co, .slice k ks.length ck, .int .i64 (n : Int)], .slice a len cap] V (DoneF N V t zs n (some (O, ks1)))) := fun V hb => HR V _ hb (HRN.out.below hb)
  clear hA0 hp0 hk0 hln hin
  clear hA np ni no nk h4 hli hlo hp hi ho hkk
  go_enter Try.func21, Try.ntmps21
  go_upto_region 1 with fail
  generalize (w.alloc (.cells #[.int .u8 t, .slice p zs.length cp, .slice iA li ci, .slice oA lo co, .slice k ks.length ck, .int .i64 (n : Int)] 31)).alloc (.cells #[.int .u8 0, .slice none 0 0, .slice none 0 0, .slice none 0 0, .slice none 0 0, .int .i64 0] 31) = W0 at *
  have G2 := hidden6 g2
  have G4 := hidden6 g4
  have L2 : w.heap.size + 1 < W0.heap.size := g4.lt
  have L1 : w.heap.size < W0.heap.size := by omega
  have e0 : W0.cell? ⟨w.heap.size, 0, none⟩ = some (.int .u8 t) := g2.cell rfl
  clear hb0
  have y0 : W0.cell? ⟨w.heap.size, 0, none⟩ = some (.int .u8 t) := (g2).cell rfl
  have y1 : W0.cell? ⟨w.heap.size, 1, none⟩ = some (.slice p zs.length cp) := (g2).cell rfl
  have y2 : W0.cell? ⟨w.heap.size, 2, none⟩ = some (.slice iA li ci) := (g2).cell rfl
  have y3 : W0.cell? ⟨w.heap.size, 3, none⟩ = some (.slice oA lo co) := (g2).cell rfl
  have y4 : W0.cell? ⟨w.heap.size, 4, none⟩ = some (.slice k ks.length ck) := (g2).cell rfl
  have y5 : W0.cell? ⟨w.heap.size, 5, none⟩ = some (.int .i64 (n : Int)) := (g2).cell rfl
  clear g2 g4 HR hNl
  go_upto_region 7 with (first | (refine wpList_store6 _ rfl 31 (.tmp 7) (.tmp 19) rfl rfl size_actor w2.heap.size 31 _ _ _ _ _ _ _ _ _ _ _ _ _ _ _ _ _ _ _ _ rfl rfl (blkA_new 31 w2 #[.int .u8 0, .slice none 0 0, .slice none 0 0, .slice none 0 0, .slice none 0 0, .int .i64 0]) ?_; intro w3 hN3 hU3; have N3 := hidden6 hN3; have U3 := hidden6 hU3; have V2 := hidden6 ((M2.out.below ((Below.refl _ _).alloc (Nat.le_refl _) (.cells #[.int .u8 0, .slice none 0 0, .slice none 0 0, .slice none 0 0, .slice none 0 0, .int .i64 0] 31))).keep (hU3.block _ (by simp; omega) (by omega))); have V4 := hidden6 ((M4.out.below ((Below.refl _ _).alloc (Nat.le_refl _) (.cells #[.int .u8 0, .slice none 0 0, .slice none 0 0, .slice none 0 0, .slice none 0 0, .int .i64 0] 31))).keep (hU3.block _ (by simp; omega) (by omega))); have m5 : w3.cell? ⟨w2.heap.size, 5, none⟩ = some (.int .i64 (n : Int)) := hN3.cell rfl; have mf := hN3.frozen 5; clear hN3 hU3; have u0 : w3.cell? ⟨w.heap.size, 0, none⟩ = some (.int .u8 t) := (V2.out).cell rfl; have u1 : w3.cell? ⟨w.heap.size, 1, none⟩ = some (.slice p zs.length cp) := (V2.out).cell rfl; have u2 : w3.cell? ⟨w.heap.size, 2, none⟩ = some (.slice iA li ci) := (V2.out).cell rfl; have u3 : w3.cell? ⟨w.heap.size, 3, none⟩ = some (.slice oA lo co) := (V2.out).cell rfl; have u4 : w3.cell? ⟨w.heap.size, 4, none⟩ = some (.slice k ks.length ck) := (V2.out).cell rfl; have u5 : w3.cell? ⟨w.heap.size, 5, none⟩ = some (.int .i64 (n : Int)) := (V2.out).cell rfl) | (go_at_call 30; (with_reducible refine (HF.out _ HB0.out).mono ?_); rintro e w1 ⟨rfl, hb1⟩; have B1 := hidden6 hb1; have N2 := hidden6 (G2.out.below hb1); have N4 := hidden6 (G4.out.below hb1); have L6 : w.heap.size + 1 < w1.heap.size := Nat.lt_of_lt_of_le L2 hb1.size; have Q1 := hidden6 (HB0.out.trans (hb1.mono HB0.out.size)); clear hb1; have x0 : w1.cell? ⟨w.heap.size, 0, none⟩ = some (.int .u8 t) := (N2.out).cell rfl; have x1 : w1.cell? ⟨w.heap.size, 1, none⟩ = some (.slice p zs.length cp) := (N2.out).cell rfl; have x2 : w1.cell? ⟨w.heap.size, 2, none⟩ = some (.slice iA li ci) := (N2.out).cell rfl; have x3 : w1.cell? ⟨w.heap.size, 3, none⟩ = some (.slice oA lo co) := (N2.out).cell rfl; have x4 : w1.cell? ⟨w.heap.size, 4, none⟩ = some (.slice k ks.length ck) := (N2.out).cell rfl; have x5 : w1.cell? ⟨w.heap.size, 5, none⟩ = some (.int .i64 (n : Int)) := (N2.out).cell rfl; rw [hT]; clear y0 y1 y2 y3 y4 y5) | (go_at_call 31; (with_reducible refine (HD.out _ Q1.out).mono ?_); rintro e w2 ⟨v2, ox, oc, A2, C2, rfl, hO2, hI2, hb2⟩; obtain ⟨p1, k1, p2, k2, p3, k3, p4, k4, hv2, hr2⟩ := hI2; subst hv2; have HO2 := hidden6 hO2; have HR2 := hidden6 hr2; clear hO2 hr2; obtain ⟨li2, hli2⟩ : ∃ q, (insS t zs).length = q := ⟨_, rfl⟩; obtain ⟨lo2, hlo2⟩ : ∃ q, (outsS t zs).length = q := ⟨_, rfl⟩; rw [hli2, hlo2]; unfold RA; have HLI2 := hidden6 hli2; have HLO2 := hidden6 hlo2; clear hli2 hlo2; have B2 := hidden6 hb2; have M2 := hidden6 (N2.out.below hb2); have M4 := hidden6 (N4.out.below hb2); have L7 : w.heap.size + 1 < w2.heap.size := Nat.lt_of_lt_of_le L6 hb2.size; clear hb2; clear x0 x1 x2 x3 x4 x5))
  have N5 : Hid (BlkA 31 w2.heap.size (w3.setCell ⟨w2.heap.size, 5, none⟩ (.int .i64 ((n : Int) + 1))) #[.int .u8 (t : Int), .slice p1 zs.length k1, .slice p2 li2 k2, .slice p3 lo2 k3, .slice p4 ks1.length k4, .int .i64 ((n : Int) + 1)]) := N3.out.set 5 (.int .i64 ((n : Int) + 1))
  have U5 := hidden6 (But.set w3 w2.heap.size 5 (.int .i64 ((n : Int) + 1)))
  have V5 := hidden6 (V4.out.keep (U5.out.block _ V4.out.lt (by omega)))
  clear u0 u1 u2 u3 u4 u5 m5 mf
  generalize w3.setCell ⟨w2.heap.size, 5, none⟩ (.int .i64 ((n : Int) + 1)) = w4 at *
  have t0 : w4.cell? ⟨w2.heap.size, 0, none⟩ = some (.int .u8 (t : Int)) := N5.out.cell rfl
  have t1 : w4.cell? ⟨w2.heap.size, 1, none⟩ = some (.slice p1 zs.length k1) := N5.out.cell rfl
  have t2 : w4.cell? ⟨w2.heap.size, 2, none⟩ = some (.slice p2 li2 k2) := N5.out.cell rfl
  have t3 : w4.cell? ⟨w2.heap.size, 3, none⟩ = some (.slice p3 lo2 k3) := N5.out.cell rfl
  have t4 : w4.cell? ⟨w2.heap.size, 4, none⟩ = some (.slice p4 ks1.length k4) := N5.out.cell rfl
  have t5 : w4.cell? ⟨w2.heap.size, 5, none⟩ = some (.int .i64 ((n : Int) + 1)) := N5.out.cell rfl
  go_wp2_with (refine wpList_store6 _ rfl 31 (.tmp 4) (.tmp 30) rfl rfl size_actor (w.heap.size + 1) 31 _ _ _ _ _ _ _ _ _ _ _ _ _ _ _ _ _ _ _ _ rfl rfl (V5.out) ?_; intro w9 hN9 hU9; have N9 := hidden6 hN9; have U9 := hidden6 hU9; clear hN9 hU9)
  clear t0 t1 t2 t3 t4 t5
  have z0 : w9.cell? ⟨w.heap.size + 1, 0, none⟩ = some (.int .u8 (t : Int)) := N9.out.cell rfl
  have z1 : w9.cell? ⟨w.heap.size + 1, 1, none⟩ = some (.slice p1 zs.length k1) := N9.out.cell rfl
  have z2 : w9.cell? ⟨w.heap.size + 1, 2, none⟩ = some (.slice p2 li2 k2) := N9.out.cell rfl
  have z3 : w9.cell? ⟨w.heap.size + 1, 3, none⟩ = some (.slice p3 lo2 k3) := N9.out.cell rfl
  have z4 : w9.cell? ⟨w.heap.size + 1, 4, none⟩ = some (.slice p4 ks1.length k4) := N9.out.cell rfl
  have z5 : w9.cell? ⟨w.heap.size + 1, 5, none⟩ = some (.int .i64 ((n : Int) + 1)) := N9.out.cell rfl
  refine bodyPost_ret (v := .tuple #[.agg #[.int .u8 (t : Int), .slice p1 zs.length k1, .slice p2 li2 k2, .slice p3 lo2 k3, .slice p4 ks1.length k4, .int .i64 ((n : Int) + 1)], .slice ox O.length oc, .int .i64 0]) (by simp [results, Try.results21, go_sem, z0, z1, z2, z3, z4, z5]) rfl ?_
  have q2 := Q1.out.trans (B2.out.mono Q1.out.size)
  have s2 := q2.size
  have q3 := (q2.alloc q2.size (.cells #[.int .u8 0, .slice none 0 0, .slice none 0 0, .slice none 0 0, .slice none 0 0, .int .i64 0] 31)).trans (U3.out.below s2 (by simp; omega))
  have q4 := q3.trans (U5.out.below s2 q3.size)
  have q9 := q4.trans (U9.out.below (Nat.le_succ _) q4.size)
  have s3 : (w2.alloc (.cells #[.int .u8 0, .slice none 0 0, .slice none 0 0, .slice none 0 0, .slice none 0 0, .int .i64 0] 31)).heap.size ≤ w3.heap.size := U3.out.size
  rw [World.size_alloc] at s3
  have s4 := U5.out.size
  have s9 := U9.out.size
  have hk : ∀ k, k < w2.heap.size → k ≠ w.heap.size + 1 → w9.heap[k]? = w2.heap[k]? := fun k h1 h2 => by
    have e1 := U9.out.block k (by omega) h2
    have e2 := U5.out.block k (by omega) (by omega)
    have e3 := U3.out.block k (by rw [World.size_alloc]; omega) (by omega)
    have e4 := ((Below.refl w2.heap.size w2).alloc (Nat.le_refl _) (.cells #[.int .u8 0, .slice none 0 0, .slice none 0 0, .slice none 0 0, .slice none 0 0, .int .i64 0] 31)).block k h1
    exact e1.trans (e2.trans (e3.trans e4))
  have r := fire_some (K := w.heap.size + 1) (t := t) (zs := zs) (ks' := ks1) (m := n + 1) (v := RA t (.slice p1 zs.length k1) (.slice p2 li2 k2) (.slice p3 lo2 k3) (.slice p4 ks1.length k4) ((n + 1 : Nat) : Int)) HNL.out Q1.out.size B2.out.size HO2.out ⟨p1, k1, p2, k2, p3, k3, p4, k4, by rw [HLI2.out, HLO2.out], HR2.out⟩ hk (by omega) (Nat.le_succ _) L6
  exact .inl ⟨rfl, _, ox, oc, A2, C2, rfl, r.1, r.2, q9⟩
theorem rfire7_any (t : Nat) (ht : 1 ≤ t ∧ t ≤ 11) (N : Nat → Prop) (w : World) (zs ks : List Int) (n : Nat) (v : Value) (a : Option Addr) (len cap : Nat) (I : List (List Int)) (h : IsRN N w t zs ks n v) (hA : ArgL w a len I) (hin : (insS t zs).length ≤ 1024) (ok : okS t zs = true) (hK : KeepOk t zs ks) (inr : InR zs) (hNl : ∀ k, N k → k < w.heap.size) (hn : n < 4611686018427387904) :
    Calls Try.prog 21 #[v, .slice a len cap] w (FiredR N w t zs v n (fireS t zs ks I)) := by
  unfold fireS
  by_cases hT : takesS t zs I = true
  · rw [if_pos hT]
    have HR : ∀ W v', Below w.heap.size w W → IsRN N W t zs ks n v' → Calls Try.prog 31 #[v', .slice a len cap] W (DoneF N W t zs n (giveS t zs ks I)) := fun W v' hb h' => rdone_any t ht N W zs ks n v' a len cap I h' (hA.below hb) hT ok hK inr (fun k hk => Nat.lt_of_lt_of_le (hNl k hk) hb.size)
    cases hg : giveS t zs ks I with
    | none =>
      rw [hg] at HR
      exact rfire7_none t N w zs ks n v a len cap I h hA hin hT HR
    | some p =>
      obtain ⟨O, ks1⟩ := p
      rw [hg] at HR
      exact rfire7_some t O ks1 N w zs ks n v a len cap I h hA hNl hn hin hT HR
  · rw [if_neg hT]
    exact rfire7_bad t N w zs ks n v a len cap I h hA hin (by simpa using hT)
/-- The worlds of that step. -/
structure CL (L : Nat) (w4 : World) (X : Nat → Prop) (R Q : Nat) (z vn : Array Value) (d3 d5 : Bool) (u : World) : Prop where
  low : L ≤ w4.heap.size
  bel : Below L w4 u
  blk : ∀ k, k < w4.heap.size → ¬ X k → k ≠ R → u.heap[k]? = w4.heap[k]?
  q : BlkA 31 Q u vn
  r0 : d5 = false → BlkA 31 R u z
  r1 : d5 = true → BlkA 31 R u vn
  old : d3 = false → ∀ k, k < w4.heap.size → k ≠ R → u.heap[k]? = w4.heap[k]?
theorem CL.later {L : Nat} {w4 u u' : World} {X : Nat → Prop} {R Q : Nat} {z vn : Array Value} {d3 d5 : Bool} (h : CL L w4 X R Q z vn d3 d5 u) (hb : Below u.heap.size u u') : CL L w4 X R Q z vn d3 d5 u' := by
  have hs := h.bel.size
  have hl := h.low
  exact ⟨h.low, h.bel.trans (hb.mono (by omega)), fun k h1 h2 h3 => (hb.block k (by omega)).trans (h.blk k h1 h2 h3), h.q.below hb, fun e => (h.r0 e).below hb, fun e => (h.r1 e).below hb, fun e k h1 h2 => (hb.block k (by omega)).trans (h.old e k h1 h2)⟩
theorem CL.change {L : Nat} {w4 u u' : World} {X : Nat → Prop} {R Q : Nat} {z vn : Array Value} {d3 d5 : Bool} (h : CL L w4 X R Q z vn d3 d5 u) (hb : Below L u u') (hk : ∀ k, k < u.heap.size → ¬ X k → u'.heap[k]? = u.heap[k]?) (hQ : ¬ X Q) (hR : ¬ X R) : CL L w4 X R Q z vn true d5 u' := by
  have hs := h.bel.size
  exact ⟨h.low, h.bel.trans hb, fun k h1 h2 h3 => (hk k (by omega) h2).trans (h.blk k h1 h2 h3), h.q.keep (hk _ h.q.lt hQ), fun e => (h.r0 e).keep (hk _ (h.r0 e).lt hR), fun e => (h.r1 e).keep (hk _ (h.r1 e).lt hR), fun e => by cases e⟩
theorem CL.stored {L : Nat} {w4 u u' : World} {X : Nat → Prop} {R Q : Nat} {z vn : Array Value} {d3 d5 : Bool} (h : CL L w4 X R Q z vn d3 d5 u) (hb : But R u u') (hB : BlkA 31 R u' vn) (hL : L ≤ R) (hQ : Q ≠ R) : CL L w4 X R Q z vn d3 true u' := by
  have hs := h.bel.size
  have hl := h.low
  exact ⟨h.low, h.bel.trans (hb.below hL (by omega)), fun k h1 h2 h3 => (hb.block k (by omega) h3).trans (h.blk k h1 h2 h3), h.q.keep (hb.block _ h.q.lt hQ), (fun e => by cases e), fun _ => hB, fun e k h1 h2 => (hb.block k (by omega) h2).trans (h.old e k h1 h2)⟩
/-- A table of rows whose blocks are told. -/
def TabX (B : Nat) (X : Nat → Prop) (u : World) (O : List (List Int)) (z : Value) : Prop := ∃ A C, TabG B u z A C O ∧ ∀ j x, j < O.length → A j = some x → X x.block
theorem TabX.later {B : Nat} {X : Nat → Prop} {u u' : World} {O : List (List Int)} {z : Value} (h : TabX B X u O z) (hb : Below u.heap.size u u') : TabX B X u' O z := by
  obtain ⟨A, C, h1, h2⟩ := h
  exact ⟨A, C, h1.below hb, h2⟩
theorem TabX.but {B R : Nat} {X : Nat → Prop} {u u' : World} {O : List (List Int)} {z : Value} (h : TabX B X u O z) (hb : But R u u') (hR : R < B) : TabX B X u' O z := by
  obtain ⟨A, C, h1, h2⟩ := h
  exact ⟨A, C, h1.keep fun k e1 e2 => hb.block k e2 (by omega), h2⟩
theorem apartX {B : Nat} {X : Nat → Prop} {u : World} {O : List (List Int)} {z : Value} (h : TabX B X u O z) (hB : B ≤ u.heap.size) (hm : O.length ≤ 5864062014805) (hs : ∀ j, j < O.length → (nthL O j).length * 8 ≤ 140737488351232) :
    Calls Try.prog 10 #[z] u fun e w' => e = .returned (.bool true) ∧ Below B u w' ∧ ∀ k, k < u.heap.size → ¬ X k → w'.heap[k]? = u.heap[k]? := by
  obtain ⟨A, C, h1, h2⟩ := h
  rcases h1.row.2 with ⟨e, -⟩ | ⟨g, cap, cur, e, -⟩
  · subst e
    exact (apart_none u).mono fun _ _ ⟨e1, e2⟩ => ⟨e1, e2.mono hB, fun k hk _ => e2.block k hk⟩
  · subst e
    exact (apart_keeps B g O.length cap A _ C _ u (table_tabG h1 hm hs)).mono fun _ _ ⟨e1, e2, e3⟩ => ⟨e1, e2, fun k hk hX => e3 k hk fun j x hj hx e4 => hX (e4 ▸ h2 j x hj hx)⟩
/-- The blocks of a table, its rows, and the rows that are laid behind them. -/
def XL (v : Value) (A A2 : Nat → Option Addr) (n m : Nat) : Nat → Prop := fun k => v.ownBlock = some k ∨ (∃ j x, j < n ∧ A j = some x ∧ x.block = k) ∨ (∃ j x, j < m ∧ A2 j = some x ∧ x.block = k)
theorem mark_appX {w : World} {o : Oper} {ρ : Operand → Value} (s x : Operand) (ho : o.op = .call { callee := .builtin .append, args := #[s, x], argTypes := #[37, 37] }) {B B2 : Nat} {v : Value} {A A2 : Nat → Option Addr} {C C2 : Nat → Nat} {I O : List (List Int)} {gx : Option Addr} {gc : Nat}
    (hs : ρ s = v) (hx : ρ x = .slice gx O.length gc) (hT : TabG B w v A C I) (hO : OutT B2 w A2 C2 gx O) (hsep : ∀ j x, j < I.length → A j = some x → x.block < B2) (hv : ∀ k, v.ownBlock = some k → k < B2) (hB : B ≤ B2) (hBw : B ≤ w.heap.size) (hsum : O = [] ∨ I.length + O.length ≤ 1000000)
    {T : World → Value → Prop} (h : ∀ w' v', TabX B (XL v A A2 I.length O.length) w' (I ++ O) v' → Below B w w' → (∀ k, k < w.heap.size → ¬ XL v A A2 I.length O.length k → w'.heap[k]? = w.heap[k]?) → T w' v') : markUpon Try.prog w T ((execOp ρ o).run Try.prog w) := by
  obtain ⟨i1, hi1, hy0, hy1, hy2⟩ := info_parts Try.info22
  rcases hO.tab with h0 | ⟨g2, rfl, hg1, hg2, hc, hd⟩
  · subst h0
    have hr := run_append_zero (P := Try.prog) (w := w) B 37 o.type 22 i1 1 Try.underlying37 hi1 v I.length _ hT.row gx gc
    unfold execOp
    simp only [ho, resolve, invoke, builtin, Sem.run_bind, Sem.run_pure, Result.andThen_ok, List.map_toArray, List.map_cons, List.map_nil, hs, hx, List.length_nil, hr]
    refine h w v ⟨A, C, by rw [List.append_nil]; exact hT, fun j x hj hx => .inr (.inl ⟨j, x, by simpa using hj, hx, rfl⟩)⟩ (Below.refl _ _) fun _ _ _ => rfl
  · by_cases h0 : O = []
    · subst h0
      have hr := run_append_zero (P := Try.prog) (w := w) B 37 o.type 22 i1 1 Try.underlying37 hi1 v I.length _ hT.row (some ⟨g2, 0, none⟩) gc
      unfold execOp
      simp only [ho, resolve, invoke, builtin, Sem.run_bind, Sem.run_pure, Result.andThen_ok, List.map_toArray, List.map_cons, List.map_nil, hs, hx, List.length_nil, hr]
      refine h w v ⟨A, C, by rw [List.append_nil]; exact hT, fun j x hj hx => .inr (.inl ⟨j, x, by simpa using hj, hx, rfl⟩)⟩ (Below.refl _ _) fun _ _ _ => rfl
    · have hs1 : I.length + O.length ≤ 1000000 := hsum.resolve_left h0
      have hO1 : 0 < O.length := List.length_pos_iff.2 h0
      obtain ⟨v', w', hr, h2, h3⟩ := run_append_told (P := Try.prog) w B 37 o.type 22 i1 (.slice none 0 0) 1 24 Try.underlying37 hi1 hy0 hy1 hy2 rfl (by decide) v I.length _ hT.row ⟨g2, 0, none⟩ O.length gc hO1 (tabC A2 C2 O) (by rw [tabC_len, Nat.mul_one]) (fun j u hu => by
        have hj : j < O.length := by have := (List.getElem?_eq_some_iff.1 hu).1; rw [tabC_len] at this; exact this
        rw [tabC_get _ _ _ hj] at hu
        cases hu
        have := hc j hj
        by_cases e : j = 0
        · subst e; simpa [Addr.add] using this
        · simpa [Addr.add, e] using this) (fun u hu => by
        unfold tabC at hu
        obtain ⟨j, -, rfl⟩ := List.mem_map.1 hu
        rfl) (by unfold maxLen; omega) (by omega) hBw
      obtain ⟨hG, hkey⟩ := hT.appAll hO hsep hv hB h2 h3
      unfold execOp
      simp only [ho, resolve, invoke, builtin, Sem.run_bind, Sem.run_pure, Result.andThen_ok, List.map_toArray, List.map_cons, List.map_nil, hs, hx, hr]
      refine h w' v' ⟨_, _, hG, fun j y hj hy => ?_⟩ ?_ fun k hk hX => hkey k hk fun e => hX (.inl e)
      · rw [List.length_append] at hj
        by_cases e : j < I.length
        · rw [joinF_lt e] at hy
          exact .inr (.inl ⟨j, y, e, hy, rfl⟩)
        · obtain ⟨q, rfl⟩ : ∃ q, j = I.length + q := ⟨j - I.length, by omega⟩
          rw [joinF_ge] at hy
          exact .inr (.inr ⟨q, y, by omega, hy, rfl⟩)
      · rcases h3 with ⟨g, cap, e, -, hg⟩ | ⟨cap, -, hg⟩
        · exact (Below.refl _ _).grown hg hBw (fun k hk => by cases hk; exact (rowG_lt hT.row (k := g) (by rw [e]; rfl)).1)
        · exact (Below.refl _ _).grown hg hBw (fun k hk => by cases hk)
theorem firedU {N : Nat → Prop} {w : World} {t : Nat} {zs ks ks' : List Int} {v0 : Value} {n : Nat} {I O : List (List Int)} {cd : Int} {e : Ending} {w' : World} (hr : fireS t zs ks I = (cd, O, ks')) (h : FiredR N w t zs v0 n (fireS t zs ks I) e w') (h0 : IsRN N w t zs ks n v0) (hNl : ∀ k, N k → k < w.heap.size) :
    ∃ v x c A C, e = .returned (.tuple #[v, .slice x O.length c, .int .i64 cd]) ∧ OutT w.heap.size w' A C x O ∧ IsRN (Wid N w w') w' t zs ks' (if cd = 0 then n + 1 else n) v ∧ Below w.heap.size w w' := by
  rw [hr] at h
  rcases h with ⟨hc, v, x, c, A, C, h1, h2, h3, h4⟩ | ⟨hc, h1, h2⟩
  · have hc' : cd = 0 := hc
    subst hc'
    exact ⟨v, x, c, A, C, h1, h2, by rw [if_pos rfl]; exact h3, h4⟩
  · have hc' : cd ≠ 0 := hc
    rcases fire_cases t zs ks I with ⟨cd', -, hf⟩ | ⟨O', ks'', hf⟩
    · rw [hr] at hf
      cases hf
      exact ⟨v0, none, 0, _, _, h1, outT_nil _ _, by rw [if_neg hc']; exact (h0.keeps fun k hk => h2.block k (hNl k hk)).wider fun k hk => .inl hk, h2⟩
    · rw [hr] at hf
      cases hf
      exact absurd rfl hc'
def RFU (N : Nat → Prop) (V : World) (t : Nat) (zs ks' : List Int) (n' : Nat) (O : List (List Int)) (cd : Int) (e : Ending) (w' : World) : Prop :=
  ∃ v x c A C, e = .returned (.tuple #[v, .slice x O.length c, .int .i64 cd]) ∧ OutT V.heap.size w' A C x O ∧ IsRN (Wid N V w') w' t zs ks' n' v ∧ Below V.heap.size V w'
def BFU (F : Nat → Prop) (V : World) (B K t : Nat) (zs ks' : List Int) (n' : Nat) (O : List (List Int)) (cd : Int) (e : Ending) (w' : World) : Prop :=
  ∃ x c A C F', e = .returned (.tuple #[.slice x O.length c, .int .i64 cd]) ∧ OutT V.heap.size w' A C x O ∧ Bod F' w' B K t zs ks' n' ∧ (∀ k, F' k → F k ∨ (V.heap.size ≤ k ∧ ∀ j y, j < O.length → A j = some y → y.block ≠ k)) ∧ But K V w'
theorem firedB {F : Nat → Prop} {V : World} {B K t : Nat} {zs ks ks' : List Int} {n : Nat} {I O : List (List Int)} {cd : Int} {e : Ending} {w' : World} (hr : fireS t zs ks I = (cd, O, ks')) (h : FireEnd F V B K t zs ks n I e w') : BFU F V B K t zs ks' (if cd = 0 then n + 1 else n) O cd e w' := by
  unfold FireEnd at h
  rw [hr] at h
  exact h
theorem fire_sum {t : Nat} (ht : 1 ≤ t ∧ t ≤ 11) {zs ks ks' : List Int} {I O : List (List Int)} {cd : Int} (ok : okS t zs = true) (h : fireS t zs ks I = (cd, O, ks')) : (O = [] ∨ I.length + O.length ≤ 1000000) ∧ O.length ≤ 16 ∧ ∀ j, j < O.length → (nthL O j).length ≤ 64 := by
  rcases fire_cases t zs ks I with ⟨cd', -, hf⟩ | ⟨O', ks'', hf⟩
  · rw [h] at hf
    cases hf
    exact ⟨.inl rfl, Nat.zero_le _, fun j hj => absurd hj (Nat.not_lt_zero _)⟩
  · have hf2 := hf
    rw [h] at hf
    cases hf
    have h1 := fire_count ht ok hf2
    refine ⟨.inr ?_, h1, fun j hj => fire_small ht ok hf2 hj⟩
    unfold fireS at hf2
    by_cases hT : takesS t zs I = true
    · have := takes_len hT
      have := (ins_pos t ht zs ok).1
      omega
    · rw [if_neg hT] at hf2
      cases hf2
theorem OwnL.cells {B : Nat} {w : World} {vx : Option Addr} {vc : Nat} {A : Nat → Option Addr} {C : Nat → Nat} {I : List (List Int)} (h : OwnL B w (.slice vx I.length vc) A C I) {j : Nat} (hj : j < I.length) : ∃ G g, vx = some ⟨G, 0, none⟩ ∧ w.cell? ⟨G, j, none⟩ = some (.slice (some ⟨g, 0, none⟩) (nthL I j).length ((nthL I j).length + 4)) ∧ Lend B w g (nthL I j).length (nthL I j) := by
  obtain ⟨g, h1, h2, h3⟩ := h.lend j hj
  rcases h.tab.row.2 with ⟨e, h0⟩ | ⟨G, cap, cur, e, -⟩
  · omega
  · cases e
    refine ⟨G, g, rfl, ?_, h3⟩
    rw [World.ownsRow.cellAt h.tab.row j (by simpa using hj), tabC_get _ _ _ hj, h1, h2]
/-- How the law's firing ends. -/
def LFired (F N : Nat → Prop) (w : World) (B K t : Nat) (zs : List Int) (n : Nat) (e : Ending) (w' : World) : Prop :=
  ∃ v' F' N' ks' n', e = .returned (.tuple #[v', .bool true]) ∧ Bod F' w' B K t zs ks' n' ∧ IsRN N' w' t zs ks' n' v' ∧ (∀ k, N' k → k < w'.heap.size) ∧ ¬ N' K ∧ n' ≤ n + 1 ∧ (∀ k, F' k → F k ∨ w.heap.size ≤ k) ∧ (∀ k, N' k → N k ∨ w.heap.size ≤ k) ∧ But K w w'
set_option maxRecDepth 100000 in
set_option maxHeartbeats 4000000 in
theorem lfire7_any (t : Nat) (tt : 1 ≤ t ∧ t ≤ 11) (F N : Nat → Prop) (w : World) (B K : Nat) (zs ks : List Int) (n : Nat) (v : Value) (a : Option Addr) (len cap : Nat) (I : List (List Int)) (w0 : World) (hb : Bod F w B K t zs ks n) (h : IsRN N w t zs ks n v) (hA : ArgR w0 a len cap I) (hw0 : Below w0.heap.size w0 w) (hK0 : w0.heap.size ≤ K) (hNl : ∀ k, N k → k < w.heap.size) (hNK : ¬ N K) (hn : n < 4611686018427387904) :
    Calls Try.prog 11 #[.pointer (some ⟨B, 0, none⟩), v, .slice a len cap] w (LFired F N w B K t zs n) := by
  obtain ⟨ok, hkeep, inr⟩ : okS t zs = true ∧ KeepOk t zs ks ∧ InR zs := by
    obtain ⟨a1, a2, a3, a4, c1, c2, c3, c4, hk⟩ := hb.kin
    exact ⟨hk.ok, hk.keep, hk.inr⟩
  have hsz := hA.size
  subst hsz
  obtain ⟨cd, O, ks1, hr⟩ : ∃ cd O ks', fireS t zs ks I = (cd, O, ks') := ⟨_, _, _, rfl⟩
  obtain ⟨n1, hn1⟩ : ∃ q, (if cd = 0 then n + 1 else n) = q := ⟨_, rfl⟩
  have hn2 : n1 ≤ n + 1 := by rw [← hn1]; split <;> omega
  obtain ⟨hsum, hO16, hO64⟩ := fire_sum tt ok hr
  have HSUM := hidden6 hsum
  have HO64 := hidden6 hO64
  have HA := hidden6 hA
  have HW0 := hidden6 hw0
  have sw0 := hw0.size
  have HBD := hidden6 hb
  have HNL := hidden6 hNl
  have HNK := hidden6 hNK
  have KL := hb.lt
  have hin := (ins_pos t tt zs ok).1
  have RF : Hid (∀ V, Below w.heap.size w V → Calls Try.prog 21 #[v, .slice a I.length cap] V (RFU N V t zs ks1 n1 O cd)) := fun V hv => by
    have hV := h.keeps (w' := V) fun k hk => hv.block k (hNl k hk)
    refine (rfire7_any t tt N V zs ks n v a I.length cap I hV (hA.below (hw0.trans (hv.mono hw0.size))).argL (by omega) ok hkeep inr (fun k hk => Nat.lt_of_lt_of_le (hNl k hk) hv.size) hn).mono fun e w' hf => ?_
    rw [← hn1]
    exact firedU hr hf hV (fun k hk => Nat.lt_of_lt_of_le (hNl k hk) hv.size)
  have BF : Hid (∀ V x c, Bod F V B K t zs ks n → ArgL V x I.length I → Calls Try.prog 18 #[.pointer (some ⟨B, 0, none⟩), .slice x I.length c] V (BFU F V B K t zs ks1 n1 O cd)) := fun V x c h1 h2 => by
    refine (bfire_any t tt F V B K zs ks n x I.length c I h1 h2 hn).mono fun e w' hf => ?_
    rw [← hn1]
    exact firedB hr hf
  obtain ⟨p, cp, iA, ci, oA, co, kA, ck, rfl, -⟩ := h
  obtain ⟨li, hli⟩ : ∃ q, (insS t zs).length = q := ⟨_, rfl⟩
  obtain ⟨lo, hlo⟩ : ∃ q, (outsS t zs).length = q := ⟨_, rfl⟩
  have HLI := hidden6 hli
  have HLO := hidden6 hlo
  rw [hli, hlo] at RF ⊢
  unfold RA at RF ⊢
  have hreach := hA.reach
  have hlI : (I.length : Int) ≤ 5864062014700 := by omega
  have hOI : (O.length : Int) ≤ 16 := by omega
  have e1 : (cd != cd) = false := by simp
  have e2 : ((O.length : Int) != (O.length : Int)) = false := by simp
  have e3 : ((I.length : Int) != (I.length : Int)) = false := by simp
  have hb0 := ((Below.refl w.heap.size w).alloc (Nat.le_refl _) (.cells #[.int .u8 (t : Int), .slice p zs.length cp, .slice iA li ci, .slice oA lo co, .slice kA ks.length ck, .int .i64 (n : Int)] 31)).alloc (by simp) (.cells #[.int .u8 0, .slice none 0 0, .slice none 0 0, .slice none 0 0, .slice none 0 0, .int .i64 0] 31)
  have g2 := (blkA_new 31 w #[.int .u8 (t : Int), .slice p zs.length cp, .slice iA li ci, .slice oA lo co, .slice kA ks.length ck, .int .i64 (n : Int)]).below ((Below.refl _ _).alloc (Nat.le_refl _) (.cells #[.int .u8 0, .slice none 0 0, .slice none 0 0, .slice none 0 0, .slice none 0 0, .int .i64 0] 31))
  have g4 : BlkA 31 (w.heap.size + 1) ((w.alloc (.cells #[.int .u8 (t : Int), .slice p zs.length cp, .slice iA li ci, .slice oA lo co, .slice kA ks.length ck, .int .i64 (n : Int)] 31)).alloc (.cells #[.int .u8 0, .slice none 0 0, .slice none 0 0, .slice none 0 0, .slice none 0 0, .int .i64 0] 31)) #[.int .u8 0, .slice none 0 0, .slice none 0 0, .slice none 0 0, .slice none 0 0, .int .i64 0] := by
    have h3 := blkA_new 31 (w.alloc (.cells #[.int .u8 (t : Int), .slice p zs.length cp, .slice iA li ci, .slice oA lo co, .slice kA ks.length ck, .int .i64 (n : Int)] 31)) #[.int .u8 0, .slice none 0 0, .slice none 0 0, .slice none 0 0, .slice none 0 0, .int .i64 0]
    rw [World.size_alloc] at h3
    exact h3
  have hsz0 : ((w.alloc (.cells #[.int .u8 (t : Int), .slice p zs.length cp, .slice iA li ci, .slice oA lo co, .slice kA ks.length ck, .int .i64 (n : Int)] 31)).alloc (.cells #[.int .u8 0, .slice none 0 0, .slice none 0 0, .slice none 0 0, .slice none 0 0, .int .i64 0] 31)).heap.size = w.heap.size + 2 := by simp
  have HB0 := hidden6 hb0
  have HG2 := hidden6 g2
  have HG4 := hidden6 g4
  obtain ⟨i1, hi1, hy0, hy1, hy2⟩ := info_parts Try.info22
  have HK := hidden6 hi1
  have HK0 := hidden6 hy0
  have HK1 := hidden6 hy1
  have HK2 := hidden6 hy2
  clear hb0 g2 g4 hA hb hw0 hNl hNK hr hn1 hsum hO64 ok hkeep inr hli hlo hin hi1 hy0 hy1 hy2
  go_enter Try.func11, Try.ntmps11
  go_upto_region 1 with fail
  generalize (w.alloc (.cells #[.int .u8 (t : Int), .slice p zs.length cp, .slice iA li ci, .slice oA lo co, .slice kA ks.length ck, .int .i64 (n : Int)] 31)).alloc (.cells #[.int .u8 0, .slice none 0 0, .slice none 0 0, .slice none 0 0, .slice none 0 0, .int .i64 0] 31) = W0 at *
  go_wp2
  go_loopg [8, 9] I.length (fun gk v u wr => ∃ (i : Nat) (A : Nat → Option Addr) (C : Nat → Nat), i ≤ I.length ∧ gk = I.length - i ∧ u = .int .i64 (i : Int) ∧ OwnL W0.heap.size wr v A C (I.take i) ∧ Below W0.heap.size W0 wr)
  case atStart => exact ⟨0, _, _, Nat.zero_le _, rfl, rfl, ownL_nil _ _, Below.refl _ _⟩
  case round =>
    obtain ⟨i, A, C, hi, rfl, rfl, hT, hB⟩ := hrel
    obtain ⟨vx, vc, rfl⟩ := tabG_shape hT.tab
    have hti : (I.take i).length = i := by rw [List.length_take]; omega
    rw [hti] at hT ⊢
    have HT := hidden6 hT
    have HB := hidden6 hB
    have hs1 := hB.size
    clear hT hB
    by_cases hlt : i < I.length
    · have hii : (i : Int) < (I.length : Int) := by omega
      have q0 := HB0.out.trans (HB.out.mono HB0.out.size)
      rcases (HA.out.below (HW0.out.trans (q0.mono HW0.out.size))).lies with h0 | ⟨b, off, ea, hc⟩
      · rw [h0] at hlt; simp at hlt
      obtain ⟨x, c, hc1, hx⟩ := hc i hlt
      subst ea
      have HTT := hidden6 (take_L hlt)
      have LE := hidden6 (lent_full x (nthL I i) (nthL I i).length c wr hx)
      generalize nthL I i = L at *
      clear hc hx q0
      go_wp2_with (first
        | (at_builtin; refine wpList_append_told _ rfl (.tmp 23) (.tmp 29) 37 rfl W0.heap.size 22 i1 (.slice none 0 0) 1 24 Try.underlying37 HK.out HK0.out HK1.out HK2.out rfl (by decide) (.slice vx i vc) i (tabC A C (I.take i)) rfl TR.out ⟨w1.heap.size, 0, none⟩ 1 1 (by decide) [.slice (some ⟨g, 0, none⟩) L.length (L.length + 4)] rfl rfl (one_new6 _ _ _) (one_cellS _ _ _) (by unfold maxLen; omega) (by omega) (by simp; omega) ?_; intro v' w2 ho ht; have HO := hidden6 ho; have HG := hidden6 ht; clear ho ht)
        | (go_at_call 5; (with_reducible refine LE.out.mono ?_); rintro e w1 ⟨g, rfl, hL1, b1, hw1⟩; have HL1 := hidden6 hL1; have HW1 := hidden6 hw1; have b1a := b1.alloc b1.size (.cells #[.slice (some ⟨g, 0, none⟩) L.length (L.length + 4)] 22); have hs2 := b1.size; have B1 := hidden6 b1; have BO := hidden6 b1a; have TR : Hid ((w1.alloc (.cells #[.slice (some ⟨g, 0, none⟩) L.length (L.length + 4)] 22)).ownsRow W0.heap.size 22 1 (.slice vx i vc) i (tabC A C (I.take i))) := (by have q := (HT.out.below b1a).tab.row; rw [hti] at q; exact q); clear hL1 hw1 b1 b1a))
      go_roundg (I.length - (i + 1))
      case measure => omega
      case rel =>
        have al := (Below.refl w1.heap.size w1).alloc (Nat.le_refl _) (.cells #[.slice (some ⟨g, 0, none⟩) L.length (L.length + 4)] 22)
        have cw : CapR wr.heap.size w1 (some ⟨g, 0, none⟩) (L.length + 4) L := HW1.out
        have r := HT.out.app hs1 BO.out (cw.later al) (HL1.out.below al) (v' := v') (w4 := w2) (by rw [hti]; exact HO.out) (by rw [hti]; exact HG.out)
        rw [← HTT.out] at r
        have hbf : Below W0.heap.size W0 w2 := by
          have q : Below W0.heap.size W0 (w1.alloc (.cells #[.slice (some ⟨g, 0, none⟩) L.length (L.length + 4)] 22)) := HB.out.trans (BO.out.mono hs1)
          rcases HG.out with ⟨g, cap, e, -, hg⟩ | ⟨cap, -, hg⟩
          · exact q.grown hg q.size (fun k hk => by cases hk; exact (rowG_lt TR.out (k := g) (by rw [e]; rfl)).1)
          · exact q.grown hg q.size (fun k hk => by cases hk)
        exact ⟨i + 1, _, _, by omega, rfl, by go_num, r, hbf⟩
    · have hii : ¬ (i : Int) < (I.length : Int) := by omega
      have ei : i = I.length := by omega
      subst ei
      rw [List.take_length] at HT
      clear hti hlt hi
      have G2 := hidden6 (HG2.out.below HB.out)
      have G4 := hidden6 (HG4.out.below HB.out)
      have BB1 := hidden6 (HB0.out.trans (HB.out.mono HB0.out.size))
      have L1 : w.heap.size + 2 ≤ wr.heap.size := by omega
      have HOWB : Hid ((∀ j x, j < I.length → A j = some x → w.heap.size + 2 ≤ x.block ∧ x.block < wr.heap.size) ∧ ∀ k, (Value.slice vx I.length vc).ownBlock = some k → w.heap.size + 2 ≤ k ∧ k < wr.heap.size) :=
        ⟨fun j x hj hx => by have q := (HT.out.tab.rows j hj).lt x hx; omega, fun k hk => by have q := rowG_lt HT.out.tab.row hk; omega⟩
      generalize wr = W1 at *
      have y0 : W1.cell? ⟨w.heap.size, 0, none⟩ = some (.int .u8 (t : Int)) := (G2.out).cell rfl
      have y1 : W1.cell? ⟨w.heap.size, 1, none⟩ = some (.slice p zs.length cp) := (G2.out).cell rfl
      have y2 : W1.cell? ⟨w.heap.size, 2, none⟩ = some (.slice iA li ci) := (G2.out).cell rfl
      have y3 : W1.cell? ⟨w.heap.size, 3, none⟩ = some (.slice oA lo co) := (G2.out).cell rfl
      have y4 : W1.cell? ⟨w.heap.size, 4, none⟩ = some (.slice kA ks.length ck) := (G2.out).cell rfl
      have y5 : W1.cell? ⟨w.heap.size, 5, none⟩ = some (.int .i64 (n : Int)) := (G2.out).cell rfl
      go_wp2_with (first
        | (refine wpList_store6 _ rfl 31 (.tmp 10) (.tmp 35) rfl rfl size_actor w2.heap.size 31 _ _ _ _ _ _ _ _ _ _ _ _ _ _ _ _ _ _ _ _ rfl rfl (blkA_new 31 w2 #[.int .u8 0, .slice none 0 0, .slice none 0 0, .slice none 0 0, .slice none 0 0, .int .i64 0]) ?_; intro w3 hN3 hU3; have NQ3 := hidden6 hN3; have U3 := hidden6 hU3; have s3 : (w2.alloc (.cells #[.int .u8 0, .slice none 0 0, .slice none 0 0, .slice none 0 0, .slice none 0 0, .int .i64 0] 31)).heap.size ≤ w3.heap.size := hU3.size; rw [World.size_alloc] at s3; have K3 : Hid (∀ k, k < w2.heap.size → w3.heap[k]? = w2.heap[k]?) := (fun k hk => (hU3.block k (by rw [World.size_alloc]; omega) (by omega)).trans (((Below.refl w2.heap.size w2).alloc (Nat.le_refl _) (.cells #[.int .u8 0, .slice none 0 0, .slice none 0 0, .slice none 0 0, .slice none 0 0, .int .i64 0] 31)).block k hk)); have BW3 := hidden6 (((Below.refl w2.heap.size w2).alloc (Nat.le_refl _) (.cells #[.int .u8 0, .slice none 0 0, .slice none 0 0, .slice none 0 0, .slice none 0 0, .int .i64 0] 31)).trans (hU3.below (Nat.le_refl _) (by simp))); clear hN3 hU3)
        | (go_at_call 18; (with_reducible refine (BF.out w3 vx vc (HBD.out.below (BB2.out.trans (BW3.out.mono BB2.out.size))) ⟨rfl, (((HT.out.below B2.out).below BW3.out).tab.out).at, HA.out.argL.fits⟩).mono ?_); rintro e w4 ⟨gx, gc, A4, C4, F4, rfl, hO4, hB4, hF4, b4⟩; have GO4 := hidden6 hO4; have BD4 := hidden6 hB4; have HF4 := hidden6 hF4; have B4 := hidden6 b4; clear hO4 hB4 hF4 b4)
        | (go_at_call 21; (with_reducible refine (RF.out W1 BB1.out).mono ?_); rintro e w2 ⟨v2, wx, wc, A2, C2, rfl, hO2, hI2, hb2⟩; have RN2 := hidden6 hI2; obtain ⟨p1, k1, p2, k2, p3, k3, p4, k4, hv2, -⟩ := hI2; rw [HLI.out, HLO.out] at hv2; subst hv2; unfold RA; have WO2 := hidden6 hO2; have B2 := hidden6 hb2; have s2 := hb2.size; have BB2 := hidden6 (BB1.out.trans (hb2.mono BB1.out.size)); clear hO2 hb2 y0 y1 y2 y3 y4 y5))
      have s4 := B4.out.size
      have J4 : Hid (∀ k, k < w2.heap.size → k ≠ K → w4.heap[k]? = w2.heap[k]?) := fun k h1 h2 => (B4.out.block k (by omega) h2).trans (K3.out k h1)
      have OW4 : Hid (OwnL W0.heap.size w4 (.slice vx I.length vc) A C I) := (HT.out.below B2.out).keep fun k h1 h2 => J4.out k h2 (by omega)
      have WO4 : Hid (OutT W1.heap.size w4 A2 C2 wx O) := WO2.out.keep (fun k h1 h2 => J4.out k h2 (by omega)) (by omega)
      have NQ4 : Hid (BlkA 31 w2.heap.size w4 #[.int .u8 (t : Int), .slice p1 zs.length k1, .slice p2 li k2, .slice p3 lo k3, .slice p4 ks1.length k4, .int .i64 (n1 : Int)]) := NQ3.out.keep (B4.out.block _ NQ3.out.lt (by omega))
      have NR4 : Hid (BlkA 31 (w.heap.size + 1) w4 #[.int .u8 0, .slice none 0 0, .slice none 0 0, .slice none 0 0, .slice none 0 0, .int .i64 0]) := (G4.out.below B2.out).keep (J4.out _ (by omega) (by omega))
      have RN4 : Hid (IsRN (Wid N W1 w2) w4 t zs ks1 n1 (RA t (.slice p1 zs.length k1) (.slice p2 li k2) (.slice p3 lo k3) (.slice p4 ks1.length k4) (n1 : Int))) := RN2.out.keeps fun k hk => J4.out k (by rcases hk with q | q; (have := HNL.out k q; omega); exact q.2) (fun e => by subst e; rcases hk with q | q; exact HNK.out q; (have := q.1; omega))
      have BB4 : Hid (But K w w4) := (But.of_below (BB2.out.trans (BW3.out.mono BB2.out.size))).trans B4.out
      clear HT WO2 NQ3 G2 G4 RN2 B4 U3 K3
      go_loopg [15] I.length (fun gk u wq => ∃ j : Nat, j ≤ I.length ∧ gk = I.length - j ∧ u = .int .i64 (j : Int) ∧ Below w4.heap.size w4 wq)
      case atStart => exact ⟨0, Nat.zero_le _, rfl, rfl, Below.refl _ _⟩
      case round =>
        obtain ⟨j, hj, rfl, rfl, hQ⟩ := hrel
        have HQ := hidden6 hQ
        clear hQ
        by_cases hlt : j < I.length
        · have hji : (j : Int) < (I.length : Int) := by omega
          obtain ⟨G, g, eG, cG, hLn⟩ := (OW4.out.below HQ.out).cells hlt
          subst eG
          have hAq : ArgR wr a I.length cap I := by
            have q1 := HW0.out.trans (BB4.out.below hK0 HW0.out.size)
            exact HA.out.below (q1.trans (HQ.out.mono q1.size))
          rcases hAq.lies with h0 | ⟨b, off, ea, hc⟩
          · rw [h0] at hlt; simp at hlt
          obtain ⟨x, c, hc1, hx⟩ := hc j hlt
          subst ea
          have KP : Hid (∀ q, Calls Try.prog 8 #[.slice (some ⟨g, 0, none⟩) (nthL I j).length ((nthL I j).length + 4), .slice x (nthL I j).length c] (wr.drewN q) fun e w' => e = .returned (.bool true) ∧ ∃ k, w' = (wr.drewN q).drewN k) := fun q => (kept_any g x (nthL I j) _ c W0.heap.size _ (hLn.below (bdrew (Below.refl _ _) q)) (hx.below (bdrew (Below.refl _ _) q))).mono fun _ _ ⟨m, he, hw⟩ => ⟨he, m, hw⟩
          generalize nthL I j = L at *
          clear hc hx hLn hAq
          go_wp2
          go_quiet (first | (go_at_call 8; (with_reducible refine Calls.quiet_of (KP.out _))))
          go_wp2
          go_roundg (I.length - (j + 1))
          case measure => omega
          case rel => exact ⟨j + 1, by omega, rfl, by go_num, bdrew HQ.out nq⟩
        · have hji : ¬ (j : Int) < (I.length : Int) := by omega
          go_wp2
          go_loopg [16] O.length (fun gk u wq => ∃ j : Nat, j ≤ O.length ∧ gk = O.length - j ∧ u = .int .i64 (j : Int) ∧ Below w4.heap.size w4 wq)
          case atStart => exact ⟨0, Nat.zero_le _, rfl, rfl, HQ.out⟩
          case round =>
            clear HQ hji hlt
            obtain ⟨j2, hj2, rfl, rfl, hQ⟩ := hrel
            have HQ := hidden6 hQ
            clear hQ
            by_cases hlt : j2 < O.length
            · have hji : (j2 : Int) < (O.length : Int) := by omega
              have o2 := WO4.out.later HQ.out
              have o3 := GO4.out.later HQ.out
              have R2 := hidden6 (o2.rows j2 hlt)
              have R3 := hidden6 (o3.rows j2 hlt)
              have hsm := HO64.out j2 hlt
              rcases o2.tab with h0 | ⟨g2, rfl, -, -, t2, -⟩
              · rw [h0] at hlt; simp at hlt
              rcases o3.tab with h0 | ⟨g3, rfl, -, -, t3, -⟩
              · rw [h0] at hlt; simp at hlt
              have u2 := t2 j2 hlt
              have u3 := t3 j2 hlt
              clear t2 t3 o2 o3
              generalize nthL O j2 = lj at R2 R3 u2 u3 hsm
              have SQj : Hid (∀ n, Calls Try.prog 17 #[.slice (A2 j2) lj.length (C2 j2), .slice (A4 j2) lj.length (C4 j2)] (wr.drewN n) fun e w' => e = .returned (.bool true) ∧ ∃ k, w' = (wr.drewN n).drewN k) := fun n => (same_any _ _ lj lj.length _ _ _ rfl (by omega) (R2.out.at.below (bdrew (Below.refl _ _) n)) (R3.out.at.below (bdrew (Below.refl _ _) n))).mono fun _ _ ⟨n, he, hw⟩ => ⟨he, n, hw⟩
              go_wp2
              go_quiet (first | (go_at_call 17; (with_reducible refine Calls.quiet_of (SQj.out _))))
              go_wp2
              go_roundg (O.length - (j2 + 1))
              case measure => omega
              case rel => exact ⟨j2 + 1, by omega, rfl, by go_num, bdrew HQ.out nq⟩
            · have hji : ¬ (j2 : Int) < (O.length : Int) := by omega
              have OW5 := hidden6 (OW4.out.below HQ.out)
              have GO5 := hidden6 (GO4.out.later HQ.out)
              have NQ5 := hidden6 (NQ4.out.below HQ.out)
              have NR5 := hidden6 (NR4.out.below HQ.out)
              have RN5 : Hid (IsRN (Wid N W1 w2) wr t zs ks1 n1 (RA t (.slice p1 zs.length k1) (.slice p2 li k2) (.slice p3 lo k3) (.slice p4 ks1.length k4) (n1 : Int))) := RN4.out.keeps fun k hk => HQ.out.block k (by rcases hk with q | q; (have := HNL.out k q; omega); (have := q.2; omega))
              have BD5 := hidden6 (BD4.out.below HQ.out)
              have BB5 : Hid (But K w wr) := BB4.out.trans (But.of_below HQ.out)
              have s5 := HQ.out.size
              have OWB : Hid ((∀ j x, j < I.length → A j = some x → w.heap.size + 2 ≤ x.block ∧ x.block < W1.heap.size) ∧ ∀ k, (Value.slice vx I.length vc).ownBlock = some k → w.heap.size + 2 ≤ k ∧ k < W1.heap.size) := HOWB.out
              have XB : Hid (∀ k, XL (.slice vx I.length vc) A A4 I.length O.length k → (w.heap.size + 2 ≤ k ∧ k < W1.heap.size) ∨ (∃ j x, j < O.length ∧ A4 j = some x ∧ x.block = k)) := fun k hk => by
                rcases hk with q | ⟨j, x, q1, q2, q3⟩ | q
                · exact .inl (OWB.out.2 k q)
                · exact .inl (q3 ▸ OWB.out.1 j x q1 q2)
                · exact .inr q
              clear OW4 WO4 GO4 NQ4 NR4 RN4 BD4 BB4 J4
              generalize wr = W5 at *
              go_upto_region 20 with fail
              have R4 : Hid (∀ j x, j < O.length → A4 j = some x → w3.heap.size ≤ x.block) := fun j x hj hx => ((GO5.out.rows j hj).lt x hx).1
              have NXQ : Hid (¬ (XL (.slice vx I.length vc) A A4 I.length O.length) w2.heap.size) := fun hX => by
                rcases XB.out _ hX with q | ⟨j, x, q1, q2, q3⟩
                · omega
                · have := R4.out j x q1 q2
                  omega
              have NXR : Hid (¬ (XL (.slice vx I.length vc) A A4 I.length O.length) (w.heap.size + 1)) := fun hX => by
                rcases XB.out _ hX with q | ⟨j, x, q1, q2, q3⟩
                · omega
                · have := R4.out j x q1 q2
                  omega
              have SEP : Hid (∀ j x, j < I.length → A j = some x → x.block < w3.heap.size) := fun j x hj hx => by
                have := (OWB.out.1 j x hj hx).2
                show _ < _
                omega
              have HV : Hid (∀ k, (Value.slice vx I.length vc).ownBlock = some k → k < w3.heap.size) := fun k hk => by
                have := (OWB.out.2 k hk).2
                show _ < _
                omega
              have HLEN : Hid ((I ++ O).length ≤ 5864062014805) := by
                show _ ≤ _
                rw [List.length_append]
                rcases HSUM.out with h0 | h0
                · rw [h0]; simp; omega
                · omega
              have HROW : Hid (∀ j, j < (I ++ O).length → (nthL (I ++ O) j).length * 8 ≤ 140737488351232) := fun j hj => by
                rw [List.length_append] at hj
                by_cases e : j < I.length
                · rw [nthL_appL e]
                  rcases HA.out.lies with h0 | ⟨b, off, -, hc⟩
                  · rw [h0] at e; simp at e
                  · obtain ⟨x, c, -, hx⟩ := hc j e
                    exact hx.reach
                · obtain ⟨q, rfl⟩ : ∃ q, j = I.length + q := ⟨j - I.length, by omega⟩
                  rw [nthL_appR]
                  have := HO64.out q (by omega)
                  omega
              refine wp_region_gen [3, 4, 5] (fun d i u z => match i with
                  | 0 => z = .agg #[.int .u8 (t : Int), .slice p1 zs.length k1, .slice p2 li k2, .slice p3 lo k3, .slice p4 ks1.length k4, .int .i64 (n1 : Int)]
                  | 1 => z = .slice vx I.length vc
                  | 2 => z = .slice gx O.length gc
                  | 3 => (d 3 = true ∧ (d 4 = false → TabX W0.heap.size (XL (.slice vx I.length vc) A A4 I.length O.length) u (I ++ O) z))
                  | 4 => z = .bool true
                  | 5 => True
                  | 6 => z = .bool true
                  | _ => True) (fun d u => CL w.heap.size W5 (XL (.slice vx I.length vc) A A4 I.length O.length) (w.heap.size + 1) w2.heap.size #[.int .u8 0, .slice none 0 0, .slice none 0 0, .slice none 0 0, .slice none 0 0, .int .i64 0] #[.int .u8 (t : Int), .slice p1 zs.length k1, .slice p2 li k2, .slice p3 lo k3, .slice p4 ks1.length k4, .int .i64 (n1 : Int)] (d 3) (d 5) u) (by kernel_rfl) (by kernel_rfl) (by kernel_rfl) ?_ ?_ ?_ ?_ ?_ ?_ (by kernel_rfl)
              · intro d i w v w' h hb
                match i, h with
                | 0, h => exact h
                | 1, h => exact h
                | 2, h => exact h
                | 3, h => exact ⟨h.1, fun e => TabX.later (h.2 e) hb⟩
                | 4, h => exact h
                | 5, h => exact h
                | 6, h => exact h
                | _ + 7, _ => trivial
              · intro d u u' h hb
                exact CL.later h hb
              · exact ⟨by omega, Below.refl _ _, fun _ _ _ _ => rfl, NQ5.out, fun _ => NR5.out, fun h => absurd h (by decide), fun _ _ _ _ => rfl⟩
              · intro d i o ρ w' hm ho hf hg hC hcs hfs hfr hdep
                match i, hm, ho, hf, hg, hfr, hdep with
                | 0, _, ho, hf, hg, hfr, hdep =>
                  simp only [gTA, gCZ, gSI] at ho
                  subst ho
                  refine ⟨fun _ => ?_, fun hw => absurd (show true = false from hw) (by decide)⟩
                  have tq : ρ (.tmp 10) = .pointer (some ⟨w2.heap.size, 0, none⟩) := hfr 10 (by kernel_rfl)
                  have c0 := hC.q.cell (k := 0) rfl
                  have c1 := hC.q.cell (k := 1) rfl
                  have c2 := hC.q.cell (k := 2) rfl
                  have c3 := hC.q.cell (k := 3) rfl
                  have c4 := hC.q.cell (k := 4) rfl
                  have c5 := hC.q.cell (k := 5) rfl
                  simp [go_sem, tq, c0, c1, c2, c3, c4, c5]
                  exact ⟨Below.refl _ _, rfl⟩
                | 1, _, ho, hf, hg, hfr, hdep =>
                  simp only [gTA, gCZ, gCS, gSI] at ho
                  subst ho
                  refine ⟨fun _ => ?_, fun hw => absurd (show true = false from hw) (by decide)⟩
                  have ts : ρ (.tmp 8) = .slice vx I.length vc := hfr 8 (by kernel_rfl)
                  simp [go_sem, ts]
                  exact ⟨Below.refl _ _, rfl⟩
                | 2, _, ho, hf, hg, hfr, hdep =>
                  simp only [gTA, gCZ, gCS, gSI] at ho
                  subst ho
                  refine ⟨fun _ => ?_, fun hw => absurd (show true = false from hw) (by decide)⟩
                  have ts : ρ (.tmp 13) = .slice gx O.length gc := hfr 13 (by kernel_rfl)
                  simp [go_sem, ts]
                  exact ⟨Below.refl _ _, rfl⟩
                | 3, hm, _, _, _, _, _ => exact absurd hm (by decide)
                | 4, hm, _, _, _, _, _ => exact absurd hm (by decide)
                | 5, hm, _, _, _, _, _ => exact absurd hm (by decide)
                | 6, _, ho, hf, hg, hfr, hdep =>
                  simp only [gTA, gCZ, gCS, gSI] at ho
                  subst ho
                  refine ⟨fun _ => ?_, fun hw => absurd (show true = false from hw) (by decide)⟩
                  have d0 : ρ (.tmp 100) = .bool true := hdep 4 100 (by kernel_rfl) (by kernel_rfl)
                  simp [go_sem, d0]
                  exact ⟨Below.refl _ _, rfl⟩
                | n + 7, _, ho, _, _, _, _ => simp at ho
              · intro d i o ρ w' hm ho h0 hf hg hC hcs hfs hfr hdep
                match i, hm, ho, h0, hf, hg, hfr, hdep with
                | 0, hm, _, _, _, _, _, _ => exact absurd hm (by decide)
                | 1, hm, _, _, _, _, _, _ => exact absurd hm (by decide)
                | 2, hm, _, _, _, _, _, _ => exact absurd hm (by decide)
                | 3, _, ho, h0, hf, hg, hfr, hdep =>
                  simp only [gTA, gCZ, gCS, gSI] at ho
                  subst ho
                  have t1 : ρ (.tmp 97) = .slice vx I.length vc := hdep 1 97 (by kernel_rfl) (by kernel_rfl)
                  have t2 : ρ (.tmp 98) = .slice gx O.length gc := hdep 2 98 (by kernel_rfl) (by kernel_rfl)
                  have hold := hC.old h0
                  have hsz := hC.bel.size
                  refine ⟨rfl, mark_appX (.tmp 97) (.tmp 98) rfl t1 t2 (OW5.out.tab.keep fun k k1 k2 => hold k k2 (by omega)) (GO5.out.keep (fun k k1 k2 => hold k k2 (by omega)) hsz) SEP.out HV.out (by omega) (by omega) HSUM.out ?_⟩
                  intro u9 v9 hX9 hb9 hk9
                  have nQ := NXQ.out
                  have nR := NXR.out
                  refine ⟨hC.change (hb9.mono (by omega)) hk9 nQ nR, fun _ => ⟨rfl, fun _ => hX9⟩, ?_⟩
                  intro j t _ hs
                  match j, hs with
                  | 0, hs => exact hs
                  | 1, hs => exact hs
                  | 2, hs => exact hs
                  | 3, hs => exact absurd hs.1 (by rw [h0]; decide)
                  | 4, hs => exact hs
                  | 5, hs => exact hs
                  | 6, hs => exact hs
                  | _ + 7, _ => trivial
                | 4, _, ho, h0, hf, hg, hfr, hdep =>
                  simp only [gTA, gCZ, gCS, gSI] at ho
                  subst ho
                  have t3 : d 3 = true ∧ (d 4 = false → TabX W0.heap.size (XL (.slice vx I.length vc) A A4 I.length O.length) w' (I ++ O) (ρ (.tmp 99))) := hdep 3 99 (by kernel_rfl) (by kernel_rfl)
                  have hsz := hC.bel.size
                  refine ⟨rfl, ?_⟩
                  simp [go_sem, hfs, markUpon]
                  refine (apartX (t3.2 h0) (by omega) HLEN.out HROW.out).mono ?_
                  rintro e u9 ⟨rfl, hb9, hk9⟩
                  have nQ := NXQ.out
                  have nR := NXR.out
                  have hq := hC.change (hb9.mono (by omega)) hk9 nQ nR
                  rw [← t3.1] at hq
                  refine ⟨_, rfl, hq, rfl, ?_⟩
                  intro j t _ hs
                  match j, hs with
                  | 0, hs => exact hs
                  | 1, hs => exact hs
                  | 2, hs => exact hs
                  | 3, hs => exact ⟨hs.1, fun e => absurd e (by simp [doneAt])⟩
                  | 4, hs => exact hs
                  | 5, hs => exact hs
                  | 6, hs => exact hs
                  | _ + 7, _ => trivial
                | 5, _, ho, h0, hf, hg, hfr, hdep =>
                  simp only [gTA, gCZ, gCS, gSI] at ho
                  subst ho
                  have tq : ρ (.tmp 6) = .pointer (some ⟨w.heap.size + 1, 0, none⟩) := hfr 6 (by kernel_rfl)
                  have t0 : ρ (.tmp 96) = .agg #[.int .u8 (t : Int), .slice p1 zs.length k1, .slice p2 li k2, .slice p3 lo k3, .slice p4 ks1.length k4, .int .i64 (n1 : Int)] := hdep 0 96 (by kernel_rfl) (by kernel_rfl)
                  refine ⟨rfl, mark_store6 w' 31 (.tmp 6) (.tmp 96) rfl size_actor (w.heap.size + 1) 31 _ _ _ _ _ _ _ _ _ _ _ _ _ _ _ _ _ _ _ _ tq t0 (hC.r0 h0) ?_⟩
                  intro u9 v9 hB9 hU9
                  refine ⟨hC.stored hU9 hB9 (Nat.le_succ _) (by omega), fun h => absurd rfl h, ?_⟩
                  intro j t _ hs
                  match j, hs with
                  | 0, hs => exact hs
                  | 1, hs => exact hs
                  | 2, hs => exact hs
                  | 3, hs => exact ⟨hs.1, fun e => TabX.but (hs.2 e) hU9 (by omega)⟩
                  | 4, hs => exact hs
                  | 5, hs => exact hs
                  | 6, hs => exact hs
                  | _ + 7, _ => trivial
                | 6, hm, _, _, _, _, _, _ => exact absurd hm (by decide)
                | n + 7, _, ho, _, _, _, _, _ => simp at ho
              · intro V w9 hC9 hS
                have e6 : V 6 = .bool true := hS 6 (by decide) (by intro h; cases h)
                simp only [puts, put_none, e6]
                simp only [Act.put, List.setIfInBounds_toArray, List.set_cons_zero, List.set_cons_succ]
                clear hS e6
                go_wp2
                have N9 := hidden6 (hC9.r1 rfl)
                have z0 : w9.cell? ⟨w.heap.size + 1, 0, none⟩ = some (.int .u8 (t : Int)) := (N9.out).cell rfl
                have z1 : w9.cell? ⟨w.heap.size + 1, 1, none⟩ = some (.slice p1 zs.length k1) := (N9.out).cell rfl
                have z2 : w9.cell? ⟨w.heap.size + 1, 2, none⟩ = some (.slice p2 li k2) := (N9.out).cell rfl
                have z3 : w9.cell? ⟨w.heap.size + 1, 3, none⟩ = some (.slice p3 lo k3) := (N9.out).cell rfl
                have z4 : w9.cell? ⟨w.heap.size + 1, 4, none⟩ = some (.slice p4 ks1.length k4) := (N9.out).cell rfl
                have z5 : w9.cell? ⟨w.heap.size + 1, 5, none⟩ = some (.int .i64 (n1 : Int)) := (N9.out).cell rfl
                refine bodyPost_ret (v := .tuple #[.agg #[.int .u8 (t : Int), .slice p1 zs.length k1, .slice p2 li k2, .slice p3 lo k3, .slice p4 ks1.length k4, .int .i64 (n1 : Int)], .bool true]) (by simp [results, Try.results11, go_sem, z0, z1, z2, z3, z4, z5]) rfl ?_
                have sz9 := hC9.bel.size
                have BDL : ∀ k, F4 k → k < W5.heap.size := BD5.out.kin.mem.2
                have hFX : ∀ k, F4 k → w9.heap[k]? = W5.heap[k]? := fun k hk => by
                  refine hC9.blk k (BDL k hk) (fun hX => ?_) (fun e => ?_)
                  · rcases XB.out _ hX with q | ⟨j, x, q1, q2, q3⟩
                    · rcases HF4.out k hk with q4 | q4
                      · have := HBD.out.kin.mem.2 k q4
                        omega
                      · have := q4.1
                        omega
                    · rcases HF4.out k hk with q4 | q4
                      · have := HBD.out.kin.mem.2 k q4
                        have := R4.out j x q1 q2
                        omega
                      · exact q4.2 j x q1 q2 q3
                  · rcases HF4.out k hk with q4 | q4
                    · have := HBD.out.kin.mem.2 k q4
                      omega
                    · have := q4.1
                      omega
                have hNX : ∀ k, Wid N W1 w2 k → w9.heap[k]? = W5.heap[k]? := fun k hk => by
                  have hk2 : k < w.heap.size ∨ (W1.heap.size ≤ k ∧ k < w2.heap.size) := hk.imp (HNL.out k) id
                  refine hC9.blk k (by omega) (fun hX => ?_) (by omega)
                  rcases XB.out _ hX with q | ⟨j, x, q1, q2, q3⟩
                  · omega
                  · have := R4.out j x q1 q2
                    omega
                have hbut : But K w w9 := ⟨hC9.bel.os.trans BB5.out.os, hC9.bel.tape.trans BB5.out.tape, hC9.bel.output.trans BB5.out.output, Nat.le_trans BB5.out.size sz9, fun k h1 h2 => (hC9.bel.block k h1).trans (BB5.out.block k h1 h2)⟩
                refine ⟨RA t (.slice p1 zs.length k1) (.slice p2 li k2) (.slice p3 lo k3) (.slice p4 ks1.length k4) (n1 : Int), F4, Wid N W1 w2, ks1, n1, rfl, BD5.out.keeps hFX, RN5.out.keeps hNX, fun k hk => ?_, fun hk => ?_, hn2, fun k hk => ?_, fun k hk => ?_, hbut⟩
                · rcases hk with q | q
                  · have := HNL.out k q
                    omega
                  · have := q.2
                    omega
                · rcases hk with q | q
                  · exact HNK.out q
                  · have := q.1
                    omega
                · rcases HF4.out k hk with q | q
                  · exact .inl q
                  · exact .inr (by have := q.1; omega)
                · rcases hk with q | q
                  · exact .inl q
                  · exact .inr (by have := q.1; omega)
def twoF {α : Type} (a b : α) : Nat → α := fun j => if j = 0 then a else b
theorem tabG_two {B : Nat} {w : World} {a b : Option Addr} {c1 c2 : Nat} {P Q : List Int} (ha : CapR B w a c1 P) (hb : CapR B w b c2 Q) (hab : ∀ x y, a = some x → b = some y → x.block ≠ y.block) (hB : B ≤ w.heap.size) :
    TabG B (w.alloc (.cells #[.slice a P.length c1, .slice b Q.length c2] 22)) (.slice (some ⟨w.heap.size, 0, none⟩) 2 2) (twoF a b) (twoF c1 c2) [P, Q] := by
  have bel := (Below.refl w.heap.size w).alloc (Nat.le_refl _) (.cells #[.slice a P.length c1, .slice b Q.length c2] 22)
  refine ⟨?_, fun j hj => ?_, fun j k x y hj hk hn hx hy => ?_, fun j x k hj hx hv => ?_⟩
  · exact ⟨rfl, .inr ⟨w.heap.size, 2, #[.slice a P.length c1, .slice b Q.length c2], rfl, hB, by show (w.heap.push _)[w.heap.size]? = _; simp, Nat.le_refl _, by unfold maxLen; omega, rfl, rfl⟩⟩
  · match j, hj with
    | 0, _ => exact ha.later bel
    | 1, _ => exact hb.later bel
  · match j, k, hj, hk, hn with
    | 0, 1, _, _, _ => exact hab x y hx hy
    | 1, 0, _, _, _ => exact (hab y x hy hx).symm
    | 0, 0, _, _, hn => exact absurd rfl hn
    | 1, 1, _, _, hn => exact absurd rfl hn
  · cases hv
    match j, hj with
    | 0, _ => have := (ha.lt x hx).2; show x.block ≠ w.heap.size; omega
    | 1, _ => have := (hb.lt x hx).2; show x.block ≠ w.heap.size; omega
theorem tabG_one {B : Nat} {w : World} {a : Option Addr} {c1 : Nat} {P : List Int} (ha : CapR B w a c1 P) (hB : B ≤ w.heap.size) :
    TabG B (w.alloc (.cells #[.slice a P.length c1] 22)) (.slice (some ⟨w.heap.size, 0, none⟩) 1 1) (fun _ => a) (fun _ => c1) [P] := by
  have bel := (Below.refl w.heap.size w).alloc (Nat.le_refl _) (.cells #[.slice a P.length c1] 22)
  refine ⟨?_, fun j hj => ?_, fun j k x y hj hk hn hx hy => ?_, fun j x k hj hx hv => ?_⟩
  · exact ⟨rfl, .inr ⟨w.heap.size, 1, #[.slice a P.length c1], rfl, hB, by show (w.heap.push _)[w.heap.size]? = _; simp, Nat.le_refl _, by unfold maxLen; omega, rfl, rfl⟩⟩
  · match j, hj with
    | 0, _ => exact ha.later bel
  · simp at hj hk; omega
  · cases hv
    have := (ha.lt x hx).2
    show x.block ≠ w.heap.size
    omega
theorem apart_two {B : Nat} {w : World} {a b : Option Addr} {c1 c2 : Nat} {P Q : List Int} (ha : CapR B w a c1 P) (hb : CapR B w b c2 Q) (hab : ∀ x y, a = some x → b = some y → x.block ≠ y.block) (hB : B ≤ w.heap.size) (h1 : P.length ≤ 1024) (h2 : Q.length ≤ 1024) :
    Calls Try.prog 10 #[.slice (some ⟨w.heap.size, 0, none⟩) 2 2] (w.alloc (.cells #[.slice a P.length c1, .slice b Q.length c2] 22)) fun e w' => e = .returned (.bool true) ∧ Below B (w.alloc (.cells #[.slice a P.length c1, .slice b Q.length c2] 22)) w' :=
  (apartX (X := fun _ => True) ⟨_, _, tabG_two ha hb hab hB, fun _ _ _ _ => trivial⟩ (by rw [World.size_alloc]; omega) (by show 2 ≤ _; omega) (fun j hj => by match j, hj with | 0, _ => (show P.length * 8 ≤ _; omega) | 1, _ => (show Q.length * 8 ≤ _; omega))).mono fun _ _ ⟨e1, e2, _⟩ => ⟨e1, e2⟩
theorem apart_one {B : Nat} {w : World} {a : Option Addr} {c1 : Nat} {P : List Int} (ha : CapR B w a c1 P) (hB : B ≤ w.heap.size) (h1 : P.length ≤ 17592186043904) :
    Calls Try.prog 10 #[.slice (some ⟨w.heap.size, 0, none⟩) 1 1] (w.alloc (.cells #[.slice a P.length c1] 22)) fun e w' => e = .returned (.bool true) ∧ Below B (w.alloc (.cells #[.slice a P.length c1] 22)) w' :=
  (apartX (X := fun _ => True) ⟨_, _, tabG_one ha hB, fun _ _ _ _ => trivial⟩ (by rw [World.size_alloc]; omega) (by show 1 ≤ _; omega) (fun j hj => by match j, hj with | 0, _ => (show P.length * 8 ≤ _; omega))).mono fun _ _ ⟨e1, e2, _⟩ => ⟨e1, e2⟩
/-- A row that a call gave, as a value. -/
def RowW (B : Nat) (u : World) (row : List Int) (z : Value) : Prop := ∃ a c, z = .slice a row.length c ∧ CapR B u a c row
theorem RowW.later {B : Nat} {u u' : World} {row : List Int} {z : Value} (h : RowW B u row z) (hb : Below u.heap.size u u') : RowW B u' row z := by
  obtain ⟨a, c, h1, h2⟩ := h
  exact ⟨a, c, h1, h2.later hb⟩
def AskEnd (w : World) (e : Ending) (w' : World) : Prop := e = .returned (.bool true) ∧ Below w.heap.size w w'
set_option maxRecDepth 100000 in
set_option maxHeartbeats 4000000 in
theorem lask7_1 (t : Nat) (tt : 1 ≤ t ∧ t ≤ 11) (F N : Nat → Prop) (w : World) (B K : Nat) (zs ks : List Int) (n : Nat) (v : Value) (hb : Bod F w B K t zs ks n) (h : IsRN N w t zs ks n v) :
    Calls Try.prog 12 #[.pointer (some ⟨B, 0, none⟩), v, .int .i64 1] w (AskEnd w) := by
  have ok : okS t zs = true := by
    obtain ⟨a1, a2, a3, a4, c1, c2, c3, c4, hk⟩ := hb.kin
    exact hk.ok
  have hin := (ins_pos t tt zs ok).1
  have hout := outs_len t tt zs ok
  have hsm := hb.small
  have SH : Hid (∀ V, Below w.heap.size w V → Calls Try.prog 22 #[.pointer (some ⟨B, 0, none⟩)] V (TwoEnd V (insS t zs) (outsS t zs))) := fun V hv => bshape_any t tt F V B K zs ks n (hb.below hv)
  have ST : Hid (∀ V, Below w.heap.size w V → Calls Try.prog 20 #[.pointer (some ⟨B, 0, none⟩)] V (RowEnd V ks)) := fun V hv => bstate_any t tt F V B K zs ks n (hb.below hv)
  have FD : Hid (∀ V, Below w.heap.size w V → Calls Try.prog 19 #[.pointer (some ⟨B, 0, none⟩)] V fun e w' => e = .returned (.int .i64 (n : Int)) ∧ w' = V) := fun V hv => bfired_any t tt F V B K zs ks n (hb.below hv)
  have SI : Hid (∀ V x c y d l, At V x l → At V y l → l.length ≤ 4611686018427387904 → Calls Try.prog 17 #[.slice x l.length c, .slice y l.length d] V fun e w' => e = .returned (.bool true) ∧ Below V.heap.size V w') := fun V x c y d l h1 h2 hm =>
    (same_any x y l l.length c d V rfl hm h1 h2).mono fun e w' ⟨n, h1, h2⟩ => ⟨h1, by rw [h2]; exact bdrew (Below.refl _ _) n⟩
  obtain ⟨p, cp, iA, ci, oA, co, kA, ck, rfl, hp, hi, ho, hk, -⟩ := h
  have AI := hidden6 hi
  have AO := hidden6 ho
  have AK := hidden6 hk
  obtain ⟨li, hli⟩ : ∃ q, (insS t zs).length = q := ⟨_, rfl⟩
  obtain ⟨lo, hlo⟩ : ∃ q, (outsS t zs).length = q := ⟨_, rfl⟩
  have HLI := hidden6 hli
  have HLO := hidden6 hlo
  rw [hli, hlo]
  unfold RA
  have hb0 := (Below.refl w.heap.size w).alloc (Nat.le_refl _) (.cells #[.int .u8 (t : Int), .slice p zs.length cp, .slice iA li ci, .slice oA lo co, .slice kA ks.length ck, .int .i64 (n : Int)] 31)
  have g2 := blkA_new 31 w #[.int .u8 (t : Int), .slice p zs.length cp, .slice iA li ci, .slice oA lo co, .slice kA ks.length ck, .int .i64 (n : Int)]
  have HB0 := hidden6 hb0
  have HG2 := hidden6 g2
  clear hb0 g2 hb hp hi ho hk hli hlo ok
  go_enter Try.func12, Try.ntmps12
  go_upto_region 1 with fail
  generalize w.alloc (.cells #[.int .u8 (t : Int), .slice p zs.length cp, .slice iA li ci, .slice oA lo co, .slice kA ks.length ck, .int .i64 (n : Int)] 31) = W0 at *
  have eI : li = (insS t zs).length := HLI.out.symm
  have eO : lo = (outsS t zs).length := HLO.out.symm
  subst eI
  subst eO
  go_wp2_with (first
    | (go_at_call 10; (with_reducible refine AP.out.mono ?_); rintro e w4 ⟨rfl, b4⟩)
    | (go_at_call 17; (with_reducible refine (SI.out w2 x2 c2 oA co (outsS t zs) (h2.out.at.below b2.out) (AO.out.below (HB0.out.trans (BB2.out.mono HB0.out.size))) (by omega)).mono ?_); rintro e w3 ⟨rfl, b3⟩; have BB3 := hidden6 (BB2.out.trans (b3.mono BB2.out.size)); have r1 := hidden6 ((h1.out.later b2.out).later b3); have r2 := hidden6 ((h2.out.later b2.out).later b3); have AP := hidden6 (apart_two r1.out r2.out (fun x y hx hy => Nat.ne_of_lt (hx1.out x y hx hy)) BB3.out.size (by omega) (by omega)); clear b3 y3)
    | (go_at_call 17; (with_reducible refine (SI.out w1 x1 c1 iA ci (insS t zs) h1.out.at (AI.out.below (HB0.out.trans (BB1.out.mono HB0.out.size))) (by omega)).mono ?_); rintro e w2 ⟨rfl, b2'⟩; have b2 := hidden6 b2'; have BB2 := hidden6 (BB1.out.trans (b2'.mono BB1.out.size)); clear b2'; clear y2; have y3 : w2.cell? ⟨w.heap.size, 3, none⟩ = some (.slice oA (outsS t zs).length co) := (HG2.out.below BB2.out).cell rfl)
    | (go_at_call 22; (with_reducible refine (SH.out W0 HB0.out).mono ?_); rintro e w1 ⟨x1, c1, x2, c2, rfl, h1', h2', hx', b1⟩; have h1 := hidden6 h1'; have h2 := hidden6 h2'; have hx1 := hidden6 hx'; have BB1 := hidden6 b1; clear h1' h2' hx' b1; have y2 : w1.cell? ⟨w.heap.size, 2, none⟩ = some (.slice iA (insS t zs).length ci) := (HG2.out.below BB1.out).cell rfl))
  go_ret
  have q3 := HB0.out.trans (BB3.out.mono HB0.out.size)
  exact ⟨rfl, (q3.alloc q3.size _).trans (b4.mono HB0.out.size)⟩
set_option maxRecDepth 100000 in
set_option maxHeartbeats 4000000 in
theorem lask7_2 (t : Nat) (tt : 1 ≤ t ∧ t ≤ 11) (F N : Nat → Prop) (w : World) (B K : Nat) (zs ks : List Int) (n : Nat) (v : Value) (hb : Bod F w B K t zs ks n) (h : IsRN N w t zs ks n v) :
    Calls Try.prog 12 #[.pointer (some ⟨B, 0, none⟩), v, .int .i64 2] w (AskEnd w) := by
  have ok : okS t zs = true := by
    obtain ⟨a1, a2, a3, a4, c1, c2, c3, c4, hk⟩ := hb.kin
    exact hk.ok
  have hin := (ins_pos t tt zs ok).1
  have hout := outs_len t tt zs ok
  have hsm := hb.small
  have SH : Hid (∀ V, Below w.heap.size w V → Calls Try.prog 22 #[.pointer (some ⟨B, 0, none⟩)] V (TwoEnd V (insS t zs) (outsS t zs))) := fun V hv => bshape_any t tt F V B K zs ks n (hb.below hv)
  have ST : Hid (∀ V, Below w.heap.size w V → Calls Try.prog 20 #[.pointer (some ⟨B, 0, none⟩)] V (RowEnd V ks)) := fun V hv => bstate_any t tt F V B K zs ks n (hb.below hv)
  have FD : Hid (∀ V, Below w.heap.size w V → Calls Try.prog 19 #[.pointer (some ⟨B, 0, none⟩)] V fun e w' => e = .returned (.int .i64 (n : Int)) ∧ w' = V) := fun V hv => bfired_any t tt F V B K zs ks n (hb.below hv)
  have SI : Hid (∀ V x c y d l, At V x l → At V y l → l.length ≤ 4611686018427387904 → Calls Try.prog 17 #[.slice x l.length c, .slice y l.length d] V fun e w' => e = .returned (.bool true) ∧ Below V.heap.size V w') := fun V x c y d l h1 h2 hm =>
    (same_any x y l l.length c d V rfl hm h1 h2).mono fun e w' ⟨n, h1, h2⟩ => ⟨h1, by rw [h2]; exact bdrew (Below.refl _ _) n⟩
  obtain ⟨p, cp, iA, ci, oA, co, kA, ck, rfl, hp, hi, ho, hk, -⟩ := h
  have AI := hidden6 hi
  have AO := hidden6 ho
  have AK := hidden6 hk
  obtain ⟨li, hli⟩ : ∃ q, (insS t zs).length = q := ⟨_, rfl⟩
  obtain ⟨lo, hlo⟩ : ∃ q, (outsS t zs).length = q := ⟨_, rfl⟩
  have HLI := hidden6 hli
  have HLO := hidden6 hlo
  rw [hli, hlo]
  unfold RA
  have hb0 := (Below.refl w.heap.size w).alloc (Nat.le_refl _) (.cells #[.int .u8 (t : Int), .slice p zs.length cp, .slice iA li ci, .slice oA lo co, .slice kA ks.length ck, .int .i64 (n : Int)] 31)
  have g2 := blkA_new 31 w #[.int .u8 (t : Int), .slice p zs.length cp, .slice iA li ci, .slice oA lo co, .slice kA ks.length ck, .int .i64 (n : Int)]
  have HB0 := hidden6 hb0
  have HG2 := hidden6 g2
  clear hb0 g2 hb hp hi ho hk hli hlo ok
  go_enter Try.func12, Try.ntmps12
  go_upto_region 1 with fail
  generalize w.alloc (.cells #[.int .u8 (t : Int), .slice p zs.length cp, .slice iA li ci, .slice oA lo co, .slice kA ks.length ck, .int .i64 (n : Int)] 31) = W0 at *
  go_wp2_with (first
    | (go_at_call 10; (with_reducible refine AP.out.mono ?_); rintro e w4 ⟨rfl, b4⟩)
    | (go_at_call 17; (with_reducible refine (SI.out w1 x1 c1 kA ck ks h1.out.at (AK.out.below (HB0.out.trans (BB1.out.mono HB0.out.size))) (by omega)).mono ?_); rintro e w3 ⟨rfl, b3⟩; have BB3 := hidden6 (BB1.out.trans (b3.mono BB1.out.size)); have r1 := hidden6 (h1.out.later b3); have AP := hidden6 (apart_one r1.out BB3.out.size (by omega)); clear b3 y4)
    | (go_at_call 20; (with_reducible refine (ST.out W0 HB0.out).mono ?_); rintro e w1 ⟨x1, c1, rfl, h1', b1⟩; have h1 := hidden6 h1'; have BB1 := hidden6 b1; clear h1' b1; have y4 : w1.cell? ⟨w.heap.size, 4, none⟩ = some (.slice kA ks.length ck) := (HG2.out.below BB1.out).cell rfl))
  go_ret
  have q3 := HB0.out.trans (BB3.out.mono HB0.out.size)
  exact ⟨rfl, (q3.alloc q3.size _).trans (b4.mono HB0.out.size)⟩
set_option maxRecDepth 100000 in
set_option maxHeartbeats 4000000 in
theorem lask7_3 (t : Nat) (tt : 1 ≤ t ∧ t ≤ 11) (F N : Nat → Prop) (w : World) (B K : Nat) (zs ks : List Int) (n : Nat) (v : Value) (hb : Bod F w B K t zs ks n) (h : IsRN N w t zs ks n v) :
    Calls Try.prog 12 #[.pointer (some ⟨B, 0, none⟩), v, .int .i64 3] w (AskEnd w) := by
  have ok : okS t zs = true := by
    obtain ⟨a1, a2, a3, a4, c1, c2, c3, c4, hk⟩ := hb.kin
    exact hk.ok
  have hin := (ins_pos t tt zs ok).1
  have hout := outs_len t tt zs ok
  have hsm := hb.small
  have SH : Hid (∀ V, Below w.heap.size w V → Calls Try.prog 22 #[.pointer (some ⟨B, 0, none⟩)] V (TwoEnd V (insS t zs) (outsS t zs))) := fun V hv => bshape_any t tt F V B K zs ks n (hb.below hv)
  have ST : Hid (∀ V, Below w.heap.size w V → Calls Try.prog 20 #[.pointer (some ⟨B, 0, none⟩)] V (RowEnd V ks)) := fun V hv => bstate_any t tt F V B K zs ks n (hb.below hv)
  have FD : Hid (∀ V, Below w.heap.size w V → Calls Try.prog 19 #[.pointer (some ⟨B, 0, none⟩)] V fun e w' => e = .returned (.int .i64 (n : Int)) ∧ w' = V) := fun V hv => bfired_any t tt F V B K zs ks n (hb.below hv)
  have SI : Hid (∀ V x c y d l, At V x l → At V y l → l.length ≤ 4611686018427387904 → Calls Try.prog 17 #[.slice x l.length c, .slice y l.length d] V fun e w' => e = .returned (.bool true) ∧ Below V.heap.size V w') := fun V x c y d l h1 h2 hm =>
    (same_any x y l l.length c d V rfl hm h1 h2).mono fun e w' ⟨n, h1, h2⟩ => ⟨h1, by rw [h2]; exact bdrew (Below.refl _ _) n⟩
  obtain ⟨p, cp, iA, ci, oA, co, kA, ck, rfl, hp, hi, ho, hk, -⟩ := h
  have AI := hidden6 hi
  have AO := hidden6 ho
  have AK := hidden6 hk
  obtain ⟨li, hli⟩ : ∃ q, (insS t zs).length = q := ⟨_, rfl⟩
  obtain ⟨lo, hlo⟩ : ∃ q, (outsS t zs).length = q := ⟨_, rfl⟩
  have HLI := hidden6 hli
  have HLO := hidden6 hlo
  rw [hli, hlo]
  unfold RA
  have hb0 := (Below.refl w.heap.size w).alloc (Nat.le_refl _) (.cells #[.int .u8 (t : Int), .slice p zs.length cp, .slice iA li ci, .slice oA lo co, .slice kA ks.length ck, .int .i64 (n : Int)] 31)
  have g2 := blkA_new 31 w #[.int .u8 (t : Int), .slice p zs.length cp, .slice iA li ci, .slice oA lo co, .slice kA ks.length ck, .int .i64 (n : Int)]
  have HB0 := hidden6 hb0
  have HG2 := hidden6 g2
  clear hb0 g2 hb hp hi ho hk hli hlo ok
  go_enter Try.func12, Try.ntmps12
  go_upto_region 1 with fail
  generalize w.alloc (.cells #[.int .u8 (t : Int), .slice p zs.length cp, .slice iA li ci, .slice oA lo co, .slice kA ks.length ck, .int .i64 (n : Int)] 31) = W0 at *
  have FQ : Hid (∀ q, Calls Try.prog 19 #[.pointer (some ⟨B, 0, none⟩)] (W0.drewN q) fun e w' => e = .returned (.int .i64 (n : Int)) ∧ w' = W0.drewN q) := fun q => FD.out _ (bdrew HB0.out q)
  have y5 : W0.cell? ⟨w.heap.size, 5, none⟩ = some (.int .i64 (n : Int)) := HG2.out.cell rfl
  have e1 : ((n : Int) == (n : Int)) = true := by simp
  go_wp2
  go_quiet (first | (go_at_call 19; (with_reducible refine Calls.quiet_of_same (FQ.out _))))
  go_wp2
  go_ret
  exact ⟨rfl, bdrew HB0.out nq⟩
set_option maxRecDepth 100000 in
set_option maxHeartbeats 4000000 in
theorem lask7_o (t : Nat) (tt : 1 ≤ t ∧ t ≤ 11) (F N : Nat → Prop) (w : World) (B K : Nat) (zs ks : List Int) (n : Nat) (v : Value) (m : Int) (m1 : m ≠ 1) (m2 : m ≠ 2) (m3 : m ≠ 3) (hb : Bod F w B K t zs ks n) (h : IsRN N w t zs ks n v) :
    Calls Try.prog 12 #[.pointer (some ⟨B, 0, none⟩), v, .int .i64 m] w (AskEnd w) := by
  have ok : okS t zs = true := by
    obtain ⟨a1, a2, a3, a4, c1, c2, c3, c4, hk⟩ := hb.kin
    exact hk.ok
  have hin := (ins_pos t tt zs ok).1
  have hout := outs_len t tt zs ok
  have hsm := hb.small
  have SH : Hid (∀ V, Below w.heap.size w V → Calls Try.prog 22 #[.pointer (some ⟨B, 0, none⟩)] V (TwoEnd V (insS t zs) (outsS t zs))) := fun V hv => bshape_any t tt F V B K zs ks n (hb.below hv)
  have ST : Hid (∀ V, Below w.heap.size w V → Calls Try.prog 20 #[.pointer (some ⟨B, 0, none⟩)] V (RowEnd V ks)) := fun V hv => bstate_any t tt F V B K zs ks n (hb.below hv)
  have FD : Hid (∀ V, Below w.heap.size w V → Calls Try.prog 19 #[.pointer (some ⟨B, 0, none⟩)] V fun e w' => e = .returned (.int .i64 (n : Int)) ∧ w' = V) := fun V hv => bfired_any t tt F V B K zs ks n (hb.below hv)
  have SI : Hid (∀ V x c y d l, At V x l → At V y l → l.length ≤ 4611686018427387904 → Calls Try.prog 17 #[.slice x l.length c, .slice y l.length d] V fun e w' => e = .returned (.bool true) ∧ Below V.heap.size V w') := fun V x c y d l h1 h2 hm =>
    (same_any x y l l.length c d V rfl hm h1 h2).mono fun e w' ⟨n, h1, h2⟩ => ⟨h1, by rw [h2]; exact bdrew (Below.refl _ _) n⟩
  obtain ⟨p, cp, iA, ci, oA, co, kA, ck, rfl, hp, hi, ho, hk, -⟩ := h
  have AI := hidden6 hi
  have AO := hidden6 ho
  have AK := hidden6 hk
  obtain ⟨li, hli⟩ : ∃ q, (insS t zs).length = q := ⟨_, rfl⟩
  obtain ⟨lo, hlo⟩ : ∃ q, (outsS t zs).length = q := ⟨_, rfl⟩
  have HLI := hidden6 hli
  have HLO := hidden6 hlo
  rw [hli, hlo]
  unfold RA
  have hb0 := (Below.refl w.heap.size w).alloc (Nat.le_refl _) (.cells #[.int .u8 (t : Int), .slice p zs.length cp, .slice iA li ci, .slice oA lo co, .slice kA ks.length ck, .int .i64 (n : Int)] 31)
  have g2 := blkA_new 31 w #[.int .u8 (t : Int), .slice p zs.length cp, .slice iA li ci, .slice oA lo co, .slice kA ks.length ck, .int .i64 (n : Int)]
  have HB0 := hidden6 hb0
  have HG2 := hidden6 g2
  clear hb0 g2 hb hp hi ho hk hli hlo ok
  go_enter Try.func12, Try.ntmps12
  go_upto_region 1 with fail
  generalize w.alloc (.cells #[.int .u8 (t : Int), .slice p zs.length cp, .slice iA li ci, .slice oA lo co, .slice kA ks.length ck, .int .i64 (n : Int)] 31) = W0 at *
  have e1 : (m == 1) = false := by simpa using m1
  have e2 : (m == 2) = false := by simpa using m2
  have e3 : (m == 3) = false := by simpa using m3
  have e4 : ((n : Int) == (n : Int)) = true := by simp
  go_upto_region 11 with fail
  refine wp_region_gen [] (fun d i u z => match i with
      | 0 => z = .pointer (some ⟨B, 0, none⟩)
      | 1 => z = .int .i64 (n : Int)
      | 2 => z = .pointer (some ⟨w.heap.size, 5, none⟩)
      | 3 => z = .int .i64 (n : Int)
      | 4 => z = .bool true
      | 5 => z = .bool true
      | 6 => z = .pointer (some ⟨B, 0, none⟩)
      | 7 => RowW W0.heap.size u ks z
      | 8 => z = .pointer (some ⟨w.heap.size, 4, none⟩)
      | 9 => z = .slice kA ks.length ck
      | 10 => z = .bool true
      | 11 => z = .bool true
      | 12 => z = .bool true
      | _ => True) (fun _ u => Below W0.heap.size W0 u) (by kernel_rfl) (by kernel_rfl) (by kernel_rfl) ?_ ?_ ?_ ?_ ?_ ?_ (by kernel_rfl)
  · intro d i w v w' h hb
    match i, h with
    | 0, h => exact h
    | 1, h => exact h
    | 2, h => exact h
    | 3, h => exact h
    | 4, h => exact h
    | 5, h => exact h
    | 6, h => exact h
    | 7, h => exact RowW.later h hb
    | 8, h => exact h
    | 9, h => exact h
    | 10, h => exact h
    | 11, h => exact h
    | 12, h => exact h
    | _ + 13, _ => trivial
  · intro d u u' h hb
    exact h.trans (hb.mono h.size)
  · exact Below.refl _ _
  · intro d i o ρ w' hm ho hf hg hC hcs hfs hfr hdep
    match i, hm, ho, hf, hg, hfr, hdep with
    | 0, _, ho, hf, hg, hfr, hdep =>
      simp only [gTA, gCZ, gSI] at ho
      subst ho
      refine ⟨fun _ => ?_, fun hw => absurd (show true = false from hw) (by decide)⟩
      have ts : ρ (.tmp 0) = .pointer (some ⟨B, 0, none⟩) := hfr 0 (by kernel_rfl)
      simp [go_sem, ts]
      exact ⟨Below.refl _ _, rfl⟩
    | 1, _, ho, hf, hg, hfr, hdep =>
      simp only [gTA, gCZ, gCS, gSI] at ho
      subst ho
      refine ⟨fun _ => ?_, fun hw => absurd (show true = false from hw) (by decide)⟩
      have d0 : ρ (.tmp 57) = .pointer (some ⟨B, 0, none⟩) := hdep 0 57 (by kernel_rfl) (by kernel_rfl)
      simp [go_sem, d0, hfs]
      refine ⟨rfl, (FD.out _ (HB0.out.trans (hC.mono HB0.out.size))).mono ?_⟩
      rintro e u ⟨rfl, rfl⟩
      exact ⟨_, rfl, Below.refl _ _, rfl⟩
    | 2, _, ho, hf, hg, hfr, hdep =>
      simp only [gTA, gCZ, gCS, gSI] at ho
      subst ho
      refine ⟨fun _ => ?_, fun hw => absurd (show true = false from hw) (by decide)⟩
      have tq : ρ (.tmp 4) = .pointer (some ⟨w.heap.size, 0, none⟩) := hfr 4 (by kernel_rfl)
      simp [go_sem, tq]
      exact ⟨Below.refl _ _, rfl⟩
    | 3, _, ho, hf, hg, hfr, hdep =>
      simp only [gTA, gCZ, gCS, gSI] at ho
      subst ho
      refine ⟨fun _ => ?_, fun hw => absurd (show true = false from hw) (by decide)⟩
      have cc : w'.cell? ⟨w.heap.size, 5, none⟩ = some (.int .i64 (n : Int)) := (HG2.out.below hC).cell rfl
      have d0 : ρ (.tmp 59) = .pointer (some ⟨w.heap.size, 5, none⟩) := hdep 2 59 (by kernel_rfl) (by kernel_rfl)
      simp [go_sem, d0, cc]
      exact ⟨Below.refl _ _, rfl⟩
    | 4, _, ho, hf, hg, hfr, hdep =>
      simp only [gTA, gCZ, gCS, gSI] at ho
      subst ho
      refine ⟨fun _ => ?_, fun hw => absurd (show true = false from hw) (by decide)⟩
      have d0 : ρ (.tmp 58) = .int .i64 (n : Int) := hdep 1 58 (by kernel_rfl) (by kernel_rfl)
      have d1 : ρ (.tmp 60) = .int .i64 (n : Int) := hdep 3 60 (by kernel_rfl) (by kernel_rfl)
      simp [go_sem, d0, d1]
      exact ⟨Below.refl _ _, rfl⟩
    | 5, _, ho, hf, hg, hfr, hdep =>
      simp only [gTA, gCZ, gCS, gSI] at ho
      subst ho
      refine ⟨fun _ => ?_, fun hw => absurd (show true = false from hw) (by decide)⟩
      have d0 : ρ (.tmp 61) = .bool true := hdep 4 61 (by kernel_rfl) (by kernel_rfl)
      simp [go_sem, d0]
      exact ⟨Below.refl _ _, rfl⟩
    | 6, _, ho, hf, hg, hfr, hdep =>
      simp only [gTA, gCZ, gCS, gSI] at ho
      subst ho
      have gd : ρ (.tmp 62) = .bool true := hdep 5 62 (by kernel_rfl) (by kernel_rfl)
      refine ⟨fun _ => ?_, fun hw => absurd (show (match ρ (.tmp 62) with | .bool c => c == true | _ => false) = false from hw) (by rw [gd]; decide)⟩
      clear gd
      have ts : ρ (.tmp 0) = .pointer (some ⟨B, 0, none⟩) := hfr 0 (by kernel_rfl)
      simp [go_sem, ts]
      exact ⟨Below.refl _ _, rfl⟩
    | 7, _, ho, hf, hg, hfr, hdep =>
      simp only [gTA, gCZ, gCS, gSI] at ho
      subst ho
      have gd : ρ (.tmp 62) = .bool true := hdep 5 62 (by kernel_rfl) (by kernel_rfl)
      refine ⟨fun _ => ?_, fun hw => absurd (show (match ρ (.tmp 62) with | .bool c => c == true | _ => false) = false from hw) (by rw [gd]; decide)⟩
      clear gd
      have d0 : ρ (.tmp 63) = .pointer (some ⟨B, 0, none⟩) := hdep 6 63 (by kernel_rfl) (by kernel_rfl)
      simp [go_sem, d0, hfs]
      refine ⟨rfl, (ST.out _ (HB0.out.trans (hC.mono HB0.out.size))).mono ?_⟩
      rintro e u ⟨x1, c1, rfl, h1, b1⟩
      exact ⟨_, rfl, b1, x1, c1, rfl, h1.mono hC.size⟩
    | 8, _, ho, hf, hg, hfr, hdep =>
      simp only [gTA, gCZ, gCS, gSI] at ho
      subst ho
      have gd : ρ (.tmp 62) = .bool true := hdep 5 62 (by kernel_rfl) (by kernel_rfl)
      refine ⟨fun _ => ?_, fun hw => absurd (show (match ρ (.tmp 62) with | .bool c => c == true | _ => false) = false from hw) (by rw [gd]; decide)⟩
      clear gd
      have tq : ρ (.tmp 4) = .pointer (some ⟨w.heap.size, 0, none⟩) := hfr 4 (by kernel_rfl)
      simp [go_sem, tq]
      exact ⟨Below.refl _ _, rfl⟩
    | 9, _, ho, hf, hg, hfr, hdep =>
      simp only [gTA, gCZ, gCS, gSI] at ho
      subst ho
      have gd : ρ (.tmp 62) = .bool true := hdep 5 62 (by kernel_rfl) (by kernel_rfl)
      refine ⟨fun _ => ?_, fun hw => absurd (show (match ρ (.tmp 62) with | .bool c => c == true | _ => false) = false from hw) (by rw [gd]; decide)⟩
      clear gd
      have cc : w'.cell? ⟨w.heap.size, 4, none⟩ = some (.slice kA ks.length ck) := (HG2.out.below hC).cell rfl
      have d0 : ρ (.tmp 65) = .pointer (some ⟨w.heap.size, 4, none⟩) := hdep 8 65 (by kernel_rfl) (by kernel_rfl)
      simp [go_sem, d0, cc]
      exact ⟨Below.refl _ _, rfl⟩
    | 10, _, ho, hf, hg, hfr, hdep =>
      simp only [gTA, gCZ, gCS, gSI] at ho
      subst ho
      have gd : ρ (.tmp 62) = .bool true := hdep 5 62 (by kernel_rfl) (by kernel_rfl)
      refine ⟨fun _ => ?_, fun hw => absurd (show (match ρ (.tmp 62) with | .bool c => c == true | _ => false) = false from hw) (by rw [gd]; decide)⟩
      clear gd
      obtain ⟨x1, c1, d0, h1⟩ : RowW W0.heap.size w' ks (ρ (.tmp 64)) := hdep 7 64 (by kernel_rfl) (by kernel_rfl)
      have d1 : ρ (.tmp 66) = .slice kA ks.length ck := hdep 9 66 (by kernel_rfl) (by kernel_rfl)
      simp [go_sem, d0, d1, hfs]
      refine ⟨rfl, (SI.out _ x1 c1 kA ck ks h1.at (AK.out.below (HB0.out.trans (hC.mono HB0.out.size))) (by omega)).mono ?_⟩
      rintro e u ⟨rfl, b1⟩
      exact ⟨_, rfl, b1, rfl⟩
    | 11, _, ho, hf, hg, hfr, hdep =>
      simp only [gTA, gCZ, gCS, gSI] at ho
      subst ho
      refine ⟨fun _ => ?_, fun hw => absurd (show true = false from hw) (by decide)⟩
      have d0 : ρ (.tmp 62) = .bool true := hdep 5 62 (by kernel_rfl) (by kernel_rfl)
      have d1 : ρ (.tmp 67) = .bool true := hdep 10 67 (by kernel_rfl) (by kernel_rfl)
      simp [go_sem, d0, d1]
      exact ⟨Below.refl _ _, rfl⟩
    | 12, _, ho, hf, hg, hfr, hdep =>
      simp only [gTA, gCZ, gCS, gSI] at ho
      subst ho
      refine ⟨fun _ => ?_, fun hw => absurd (show true = false from hw) (by decide)⟩
      have d0 : ρ (.tmp 68) = .bool true := hdep 11 68 (by kernel_rfl) (by kernel_rfl)
      simp [go_sem, d0]
      exact ⟨Below.refl _ _, rfl⟩
    | n + 13, _, ho, _, _, _, _ => simp at ho
  · intro d i o ρ w' hm ho h0 hf hg hC hcs hfs hfr hdep
    exact absurd hm (by simp)
  · intro V w9 hC9 hS
    have e12 : V 12 = .bool true := hS 12 (by decide) (by intro h; cases h)
    simp only [puts, e12]
    simp only [Act.put, List.setIfInBounds_toArray, List.set_cons_zero, List.set_cons_succ]
    clear hS e12
    go_wp2
    go_ret
    exact ⟨rfl, HB0.out.trans (hC9.mono HB0.out.size)⟩
theorem lask7_any (t : Nat) (tt : 1 ≤ t ∧ t ≤ 11) (F N : Nat → Prop) (w : World) (B K : Nat) (zs ks : List Int) (n : Nat) (v : Value) (m : Int) (hb : Bod F w B K t zs ks n) (h : IsRN N w t zs ks n v) :
    Calls Try.prog 12 #[.pointer (some ⟨B, 0, none⟩), v, .int .i64 m] w (AskEnd w) := by
  by_cases m1 : m = 1
  · subst m1; exact lask7_1 t tt F N w B K zs ks n v hb h
  by_cases m2 : m = 2
  · subst m2; exact lask7_2 t tt F N w B K zs ks n v hb h
  by_cases m3 : m = 3
  · subst m3; exact lask7_3 t tt F N w B K zs ks n v hb h
  exact lask7_o t tt F N w B K zs ks n v m m1 m2 m3 hb h
end Go.Proofs.Ytehgkgbijhobdaa

/- Texts of one chain, laid one behind the other. -/
import Derived.Test.YtimioiaoefhabaaGreatPartPackPlaces18
import Derived.Test.YtimioiaoefhabaaGreatPartPackPlaces17
namespace Go.Proofs.YtimioiaoefhabaaGreat
open Go.ChangeShapes Go.WideShapes Go.ChangeAt Go.RowKit
theorem wpList_app1I {w : World} {ops : Array Oper} {rest : List Oper} {o : Oper} {a : Act} {Q : Exit → Act → World → Prop} (hgd : o.guard = none) (s x : Operand) (ho : o.op = .call { callee := .builtin .append, args := #[s, x], argTypes := #[25, 25] })
    (B : Nat) (d0 : Option Addr) (c0 : Nat) (zs : List Int) (i : Nat) (hi : zs.length = i) (hs : a.eval s = .slice d0 i c0) (hown : CapR B w d0 c0 zs) (g : Nat) (y : Int) (hx : a.eval x = .slice (some ⟨g, 0, none⟩) 1 1) (hat : At w (some ⟨g, 0, none⟩) [y]) (hb : i ≤ 1000000) (hB : B ≤ w.heap.size)
    (h : ∀ d c' w', CapR B w' d c' (zs ++ [y]) → Below B w w' → wpList Tryz.prog ops Q rest (a.put o.dst (.slice d (i + 1) c')) w') : wpList Tryz.prog ops Q (o :: rest) a w := by
  subst hi
  exact wpList_appI hgd s x ho B d0 c0 zs hs hown (some ⟨g, 0, none⟩) 1 [y] hx (fun e => by cases e) hat (by simp; omega) hB (zs.length + 1) (zs ++ [y]) rfl rfl h
theorem drop_nthLV {R : List (List Int)} {k : Nat} (h : k < R.length) : R.drop k = nthLV R k :: R.drop (k + 1) := by
  rw [List.drop_eq_getElem_cons h]; unfold nthLV; rw [List.getD_eq_getElem?_getD, List.getElem?_eq_getElem h]; rfl
/-- The greatest numbers. -/
def mostM (n : NN) (zs : List Int) : List Int := (List.range n.arcs.length).map fun i => maxV (rowsV n (startT n) zs) i
theorem mostM_len (n : NN) (zs : List Int) : (mostM n zs).length = n.arcs.length := by simp [mostM]
theorem mostM_nth {n : NN} {zs : List Int} {i : Nat} (h : i < n.arcs.length) : nth (mostM n zs) i = maxV (rowsV n (startT n) zs) i := by
  unfold mostM nth; rw [List.getD_eq_getElem?_getD, List.getElem?_map, List.getElem?_range h]; rfl
theorem row_lenV {n : NN} {zs T : List Int} {k : Nat} (h : k ≤ zs.length) : (nthLV (rowsV n T zs) k).length = T.length := by
  unfold nthLV; rw [List.getD_eq_getElem?_getD, rows_get n zs T k h]; exact end_lenV n _ T
theorem start_nonneg {n : NN} (hS : SoundN n) {i : Nat} (h : i < n.arcs.length) : 0 ≤ nth (startT n) i := by
  have q := (hS.arcs i h).s.1
  unfold startT nth
  rw [List.getD_eq_getElem?_getD, List.getElem?_map, List.getElem?_eq_getElem h]
  unfold nthNa at q
  rw [List.getD_eq_getElem?_getD, List.getElem?_eq_getElem h] at q
  exact q
theorem start_len (n : NN) : (startT n).length = n.arcs.length := by unfold startT; rw [List.length_map]
theorem mostF_rows {n : NN} {zs : List Int} (hS : SoundN n) : mostF (rowsV n (startT n) zs) = mostM n zs := by
  obtain ⟨R, hR⟩ : ∃ R, rowsV n (startT n) zs = startT n :: R := by cases zs <;> exact ⟨_, rfl⟩
  refine eq_nthV ?_ fun i hi => ?_
  · rw [mostM_len, hR]; show (mxR _ _).length = _; rw [mxR_len, start_len]
  · have hl : i < n.arcs.length := by
      rw [hR] at hi
      have q : (mostF (startT n :: R)).length = n.arcs.length := by show (mxR _ _).length = _; rw [mxR_len, start_len]
      omega
    rw [mostM_nth hl, hR]
    exact mostF_nth (by rw [start_len]; exact hl) (start_nonneg hS hl)
/-- How Most ends. -/
def MstE (n : NN) (zs : List Int) (w : World) (e : Ending) (w' : World) : Prop :=
  (codeV n zs = 0 ∧ ∃ B a c, e = .returned (.tuple #[.slice a n.arcs.length c, .int .i64 0]) ∧ w.heap.size ≤ B ∧ B ≤ w'.heap.size ∧ CapR B w' a c (mostM n zs) ∧ Below w.heap.size w w') ∨ (¬ codeV n zs = 0 ∧ e = .returned (.tuple #[.slice none 0 0, .int .i64 (codeV n zs)]) ∧ Below w.heap.size w w')
theorem most_anyV (n : NN) (a : Option Addr) (c : Nat) (w : World) (h : AtN w a n.arcs) (hna : a = none → n.arcs.length = 0 ∧ c = 0) (al : Option Addr) (cl : Nat) (zs : List Int) (hz : At w al zs) (hzl : zs.length ≤ 4611686018427387904) (hs : n.arcs.length ≤ 4611686018427387904) :
    Calls Tryz.prog 52 #[.agg #[.int .i64 n.nodes, .slice a n.arcs.length c], .slice al zs.length cl] w (MstE n zs w) := (most_any1 n hs a c w h hna al cl zs hz hzl).mono fun e w' hh => by
  rcases hh with ⟨k1, B, v, e1, h1, h2, ⟨⟨-, a1, c1, e2, q1⟩, -⟩, q2⟩ | ⟨k1, e1, q⟩
  · rw [mostF_rows (check_sound (code_zero k1).1)] at e2 q1
    rw [mostM_len] at e2
    subst e2
    exact .inl ⟨k1, B, a1, c1, e1, h1, h2, q1, q2⟩
  · exact .inr ⟨k1, e1, q⟩
set_option maxRecDepth 100000 in
set_option maxHeartbeats 4000000 in
theorem rmost_any (n : NN) (a : Option Addr) (c : Nat) (w : World) (h : AtN w a n.arcs) (hroom : n.arcs.length ≤ 4611686018427387904) (al : Option Addr) (cl : Nat) (zs : List Int) (hz : At w al zs) (hzl : zs.length ≤ 4611686018427387904) :
    Calls Tryz.prog 35 #[.agg #[.int .i64 n.nodes, .slice a n.arcs.length c], .slice al zs.length cl] w (MstE n zs w) := by
  obtain ⟨ME, hME⟩ : ∃ R : Ending → World → Prop, MstE n zs w = R := ⟨_, rfl⟩
  rw [hME]
  have HME := hiddenN hME
  have b0 := (Below.refl w.heap.size w).alloc (Nat.le_refl _) (.cells #[.int .i64 n.nodes, .slice a n.arcs.length c] 24)
  have G0 := hiddenN (blkA_new 24 w #[.int .i64 n.nodes, .slice a n.arcs.length c])
  have B0 := hiddenN b0
  have M := hiddenN (ralong_any n a c _ (h.below b0) hroom al cl zs (hz.below b0) hzl)
  have z0 := G0.out.cell (k := 0) rfl
  have z1 := G0.out.cell (k := 1) rfl
  simp only [List.getElem_toArray, List.getElem_cons_zero, List.getElem_cons_succ] at z0 z1
  clear b0 h hz hME
  by_cases hc : codeV n zs = 0
  · have hl := (code_zero hc).2.1
    have hS := check_sound (code_zero hc).1
    have hmost := hS.most
    have MY : Hid (Calls Tryz.prog 23 #[.agg #[.int .i64 n.nodes, .slice a n.arcs.length c], .slice al zs.length cl] (w.alloc (.cells #[.int .i64 n.nodes, .slice a n.arcs.length c] 24)) fun e w' => ∃ b off rc, e = .returned (.tuple #[.slice (some ⟨b, off, none⟩) (rowsV n (startT n) zs).length rc, .int .i64 0]) ∧ (∀ k, k < (rowsV n (startT n) zs).length → ∃ y yc, w'.cell? ⟨b, off + k, none⟩ = some (.slice y n.arcs.length yc) ∧ At w' y (nthLV (rowsV n (startT n) zs) k)) ∧ Below (w.alloc (.cells #[.int .i64 n.nodes, .slice a n.arcs.length c] 24)).heap.size (w.alloc (.cells #[.int .i64 n.nodes, .slice a n.arcs.length c] 24)) w') := M.out.mono fun e w' hh => by
      rcases hh with ⟨-, B, v, e1, -, -, q1, q2⟩ | ⟨k1, -⟩
      · obtain ⟨x, rc, rfl, q3⟩ := q1.ls
        rcases q3 with q3 | ⟨b, off, rfl, q3⟩
        · exact absurd q3 (rows_ne _ _ _)
        · refine ⟨b, off, rc, e1, fun k hk => ?_, q2⟩
          obtain ⟨y, yc, r1, r2⟩ := q3 k hk
          rw [row_lenV (by rw [rows_len] at hk; omega), start_len] at r1
          exact ⟨y, yc, r1, r2⟩
      · exact absurd hc k1
    have HLR : Hid (∀ k, k < (rowsV n (startT n) zs).length → (nthLV (rowsV n (startT n) zs) k).length = n.arcs.length) := fun k hk => by rw [row_lenV (by rw [rows_len] at hk; omega), start_len]
    have HRl : Hid ((rowsV n (startT n) zs).length ≤ 2049) := by show _ ≤ _; rw [rows_len]; omega
    have HML := hiddenN (mostM_len n zs)
    have HMN : Hid (∀ i, i < n.arcs.length → nth (mostM n zs) i = maxV (rowsV n (startT n) zs) i) := fun i hi => mostM_nth hi
    have HC := hiddenN hc
    clear M hc hS hl
    obtain ⟨MM, hMM⟩ : ∃ q, mostM n zs = q := ⟨_, rfl⟩
    have HMM := hiddenN hMM
    rw [hMM] at HML HMN
    clear hMM
    generalize rowsV n (startT n) zs = R at *
    obtain ⟨K, hK⟩ : ∃ K, R.length = K := ⟨_, rfl⟩
    have HK := hiddenN hK
    rw [hK] at MY HRl
    have hKl := HRl.out
    clear hK
    obtain ⟨N, hN⟩ : ∃ N, n.arcs.length = N := ⟨_, rfl⟩
    have HN := hiddenN hN
    rw [hN] at MY HLR HML HMN hmost G0 B0 z0 z1 ⊢
    clear hN
    go_enter Tryz.func35, Tryz.ntmps35
    go_upto_region 1 with fail
    generalize w.alloc (.cells #[.int .i64 n.nodes, .slice a N c] 24) = W0 at *
    go_upto_region 4 with (go_at_call 23; (with_reducible refine MY.out.mono ?_); rintro e W1 ⟨b, off, rc, rfl, r1, b1⟩; have RR := hiddenN r1; have L1 := hiddenN (B0.out.trans (b1.mono B0.out.size)); have G1 := hiddenN (G0.out.below b1); clear r1 b1 z0 z1)
    go_wp2
    go_loopg [8, 9] N (fun gk u8 u9 wr => ∃ (i : Nat) (d : Option Addr) (dc : Nat), i ≤ N ∧ gk = N - i ∧ u9 = .int .i64 (i : Int) ∧ u8 = .slice d i dc ∧ CapR W1.heap.size wr d dc (MM.take i) ∧ Below W1.heap.size W1 wr)
    case atStart => exact ⟨0, none, 0, Nat.zero_le _, rfl, rfl, rfl, by simpa using CapR.nil _ _, Below.refl _ _⟩
    case round =>
      obtain ⟨i, d, dc, hi, rfl, rfl, rfl, hC, hB⟩ := hrel
      obtain ⟨wA, hwA⟩ : ∃ q : World, q = wr := ⟨_, rfl⟩
      subst hwA
      have HC1 := hiddenN hC
      have HB1 := hiddenN hB
      have z1 := (G1.out.below HB1.out).cell (k := 1) rfl
      simp only [List.getElem_toArray, List.getElem_cons_zero, List.getElem_cons_succ] at z1
      clear hC hB
      by_cases hlt : i < N
      · have hii : (i : Int) < (N : Int) := by omega
        have HTK := hiddenN (take_snoc (zs := MM) (j := i) (by rw [HML.out]; exact hlt))
        have HMi := hiddenN (HMN.out i hlt)
        go_wp2
        go_loopg [10, 11] K (fun gk u10 u11 wq => ∃ (k : Nat) (m : Int), k ≤ K ∧ gk = K - k ∧ u11 = .int .i64 (k : Int) ∧ u10 = .int .i64 m ∧ (R.drop k).foldl (fun m r => max m (nth r i)) m = maxV R i ∧ wA = wq)
        case atStart => exact ⟨0, 0, Nat.zero_le _, rfl, rfl, rfl, by rw [List.drop_zero]; rfl, rfl⟩
        case round =>
          obtain ⟨k, m, hk, rfl, rfl, rfl, hf, rfl⟩ := hrel
          have HF := hiddenN hf
          clear hf
          by_cases hlk : k < K
          · have hki : (k : Int) < (K : Int) := by omega
            obtain ⟨y, yc, c0, c1⟩ := RR.out k (by first | exact hlk | (rw [HK.out]; exact hlk))
            have c0' := cellN_later HB1.out c0
            have hL := HLR.out k (by rw [HK.out]; exact hlk)
            rcases c1.below HB1.out with e | ⟨yb, yo, rfl, hcy⟩
            · rw [e] at hL; simp at hL; omega
            have c2 := hcy i (by rw [hL]; exact hlt)
            have HD := HF.out
            rw [drop_nthLV (by rw [HK.out]; exact hlk), List.foldl_cons] at HD
            have HF2 := hiddenN HD
            clear c0 c1 hcy hL HD HF
            generalize nth (nthLV R k) i = y0 at *
            by_cases hm : m < y0
            · have q := HF2.out
              rw [Int.max_eq_right (by omega)] at q
              have HF3 := hiddenN q
              clear q HF2
              go_wp2
              go_roundg (K - (k + 1))
              case measure => omega
              case rel => exact ⟨k + 1, y0, by omega, rfl, by go_num, by first | rfl | simp, HF3.out, rfl⟩
            · have q := HF2.out
              rw [Int.max_eq_left (by omega)] at q
              have HF3 := hiddenN q
              clear q HF2
              go_wp2
              go_roundg (K - (k + 1))
              case measure => omega
              case rel => exact ⟨k + 1, m, by omega, rfl, by go_num, by first | rfl | simp, HF3.out, rfl⟩
          · have hki : ¬ (k : Int) < (K : Int) := by omega
            have hd : R.drop k = [] := List.drop_eq_nil_of_le (by rw [HK.out]; omega)
            have HM3 : Hid (m = nth MM i) := by
              show _ = _
              have q := HF.out
              rw [hd] at q
              rw [HMi.out, ← q]
              rfl
            clear HF hd
            have bA := (Below.refl wA.heap.size wA).alloc (Nat.le_refl _) (.cells #[.int .i64 m] 3)
            have BA := hiddenN bA
            have hs9 : W1.heap.size ≤ (wA.alloc (.cells #[.int .i64 m] 3)).heap.size := Nat.le_trans HB1.out.size bA.size
            have CA := hiddenN (HC1.out.later bA)
            have HLT : Hid ((MM.take i).length = i) := by show _ = _; rw [List.length_take, HML.out]; omega
            clear bA
            go_wp2_with (at_builtin; refine wpList_app1I rfl _ _ rfl W1.heap.size d dc (MM.take i) i HLT.out rfl CA.out wA.heap.size m rfl (at_alloc1 wA m) (by omega) hs9 ?_; intro d2 c2 W2 q1 q2; have Q1 := hiddenN q1; have Q2 := hiddenN (HB1.out.trans ((BA.out.mono HB1.out.size).trans q2)); clear q1 q2)
            go_roundg (N - (i + 1))
            case measure => omega
            case rel => exact ⟨i + 1, d2, c2, by omega, rfl, by go_num, rfl, by rw [HTK.out, ← HM3.out]; exact Q1.out, Q2.out⟩
      · have ei : N = i := by omega
        have hii : ¬ (i : Int) < (N : Int) := by omega
        have q := HC1.out
        rw [List.take_of_length_le (by rw [HML.out]; omega)] at q
        have HC2 := hiddenN q
        have HEi := hiddenN ei
        clear q HC1 ei
        go_wp2
        rw [← HME.out]
        exact .inl ⟨HC.out, W1.heap.size, d, dc, by (rw [HN.out, HEi.out]; try rfl), L1.out.size, HB1.out.size, by rw [HMM.out]; exact HC2.out, L1.out.trans (HB1.out.mono L1.out.size)⟩
  · have MN : Hid (Calls Tryz.prog 23 #[.agg #[.int .i64 n.nodes, .slice a n.arcs.length c], .slice al zs.length cl] (w.alloc (.cells #[.int .i64 n.nodes, .slice a n.arcs.length c] 24)) fun e w' => e = .returned (.tuple #[.slice none 0 0, .int .i64 (codeV n zs)]) ∧ Below (w.alloc (.cells #[.int .i64 n.nodes, .slice a n.arcs.length c] 24)).heap.size (w.alloc (.cells #[.int .i64 n.nodes, .slice a n.arcs.length c] 24)) w') := M.out.mono fun e w' hh => by
      rcases hh with ⟨k1, -⟩ | ⟨-, e1, q⟩
      · exact absurd k1 hc
      · exact ⟨e1, q⟩
    have HC := hiddenN hc
    have hcb : (codeV n zs != 0) = true := by simpa using hc
    have HCD : Hid (∃ q, codeV n zs = q) := ⟨_, rfl⟩
    obtain ⟨cd, hcd⟩ := HCD.out
    have HD := hiddenN hcd
    rw [hcd] at MN hcb
    clear M hc hcd HCD
    go_enter Tryz.func35, Tryz.ntmps35
    go_upto_region 1 with fail
    generalize w.alloc (.cells #[.int .i64 n.nodes, .slice a n.arcs.length c] 24) = W0 at *
    go_wp2_with (go_at_call 23; (with_reducible refine MN.out.mono ?_); rintro e W1 ⟨rfl, b1⟩; have L1 := hiddenN (B0.out.trans (b1.mono B0.out.size)); clear b1 z0 z1)
    rw [← HME.out]
    exact .inr ⟨HC.out, by (rw [HD.out]; try rfl), L1.out⟩
theorem at_allocV3 (U : World) (p0 p1 p2 : Int) : At (U.alloc (.cells #[.int .i64 p0, .int .i64 p1, .int .i64 p2] 3)) (some ⟨U.heap.size, 0, none⟩) [p0, p1, p2] := by
  refine .inr ⟨U.heap.size, 0, rfl, fun k hk => ?_⟩
  have b := blkA_new 3 U #[.int .i64 p0, .int .i64 p1, .int .i64 p2]
  match k, hk with
  | 0, _ => exact b.cell rfl
  | 1, _ => exact b.cell rfl
  | 2, _ => exact b.cell rfl
/-- What stands of a walk of law18: the net's box, the lent net and its box, the lent list. -/
structure HdV (w W : World) (n : NN) (a : Option Addr) (c g gc gl mb Q : Nat) (zs : List Int) : Prop where
  net : BlkA 24 w.heap.size W #[.int .i64 n.nodes, .slice a n.arcs.length c]
  box : BlkA 24 mb W #[.int .i64 n.nodes, .slice (some ⟨g, 0, none⟩) n.arcs.length gc]
  ldn : LdN w.heap.size W g gc n
  lst : Lend w.heap.size W gl zs.length zs
  bel : Below w.heap.size w W
  low : w.heap.size < Q ∧ mb < Q ∧ g < Q ∧ gl < Q ∧ Q ≤ W.heap.size
theorem HdV.keep {w W W' : World} {n : NN} {a : Option Addr} {c g gc gl mb Q : Nat} {zs : List Int} (h : HdV w W n a c g gc gl mb Q zs) (hb : Below Q W W') : HdV w W' n a c g gc gl mb Q zs := by
  obtain ⟨l1, l2, l3, l4, l5⟩ := h.low
  exact ⟨h.net.keep (hb.block _ l1), h.box.keep (hb.block _ l2), h.ldn.keep (hb.block _ l3) hb.size, h.lst.keepN (hb.block _ l4), h.bel.trans (hb.mono (by omega)), l1, l2, l3, l4, Nat.le_trans l5 hb.size⟩
theorem HdV.below {w W W' : World} {n : NN} {a : Option Addr} {c g gc gl mb Q : Nat} {zs : List Int} (h : HdV w W n a c g gc gl mb Q zs) (hb : Below W.heap.size W W') : HdV w W' n a c g gc gl mb Q zs := h.keep (hb.mono h.low.2.2.2.2)
/-- A row of rows of a call's own, whatever it holds. -/
def TblV (B : Nat) (w : World) (v : Value) (m : Nat) : Prop := ∃ cells, w.ownsRow B 25 1 v m cells
theorem TblV.lt {B : Nat} {w : World} {v : Value} {m : Nat} (h : TblV B w v m) {k : Nat} (hk : v.ownBlock = some k) : B ≤ k ∧ k < w.heap.size := by
  obtain ⟨cells, h⟩ := h
  exact rowG_ltV h hk
theorem TblV.keep {B : Nat} {w w' : World} {v : Value} {m : Nat} (h : TblV B w v m) (hk : ∀ k, v.ownBlock = some k → w'.heap[k]? = w.heap[k]?) : TblV B w' v m := by
  obtain ⟨cells, h⟩ := h
  exact ⟨cells, rowG_laterV h hk⟩
theorem TblV.cell {B : Nat} {w : World} {g c m k : Nat} (h : TblV B w (.slice (some ⟨g, 0, none⟩) m c) m) (hk : k < m) : (∃ u, w.cell? ⟨g, k, none⟩ = some u) ∧ w.frozen? ⟨g, k, none⟩ = false ∧ (∀ u, TblV B (w.setCell ⟨g, k, none⟩ u) (.slice (some ⟨g, 0, none⟩) m c) m) := by
  obtain ⟨cells, h⟩ := h
  refine ⟨?_, World.ownsRow.frozenAt h k, fun u => ⟨_, (World.ownsRow.stored h k u).1⟩⟩
  rw [World.ownsRow.cellAt h k (by omega)]
  exact ⟨_, List.getElem?_eq_getElem (by rw [h.1]; omega)⟩
theorem TblV.some {B m : Nat} {w : World} {x : Option Addr} {c : Nat} (h : TblV B w (.slice x m c) m) (h0 : 0 < m) : ∃ g, x = Option.some ⟨g, 0, none⟩ := by
  obtain ⟨cells, h⟩ := h
  rcases h.2 with ⟨-, h2⟩ | ⟨g, cap, cur, hv, -⟩
  · omega
  · cases hv; exact ⟨g, rfl⟩
theorem TabGV.ls {B : Nat} {w : World} {v : Value} {A : Nat → Option Addr} {C : Nat → Nat} {R : List (List Int)} (h : TabGV B w v A C R) : LsV w v R := PAl.ls ⟨A, C, h⟩
theorem nthLV_rows {n : NN} {zs T : List Int} {k : Nat} (h : k ≤ zs.length) : nthLV (rowsV n T zs) k = endV n T (zs.take k) := by
  unfold nthLV; rw [List.getD_eq_getElem?_getD, rows_get n zs T k h]; rfl
theorem end_fewV {n : NN} {zs : List Int} (hc : codeV n zs = 0) (k : Nat) : FewN n 1000000 (endV n (startT n) (zs.take k)) := by
  obtain ⟨h1, h2, h3⟩ := code_zero hc
  have hS := check_sound h1
  have hl : (zs.take k).length ≤ 2048 := Nat.le_trans (by rw [List.length_take]; omega) h2
  exact (end_few hS (zs.take k) (startT n) 256 (start_few hS rfl) (by omega) (err_take n zs _ k h3)).more (by omega)
/-- A copied list; a row of counts. -/
def InS (E : Nat) (u : World) (zs : List Int) (z : Value) : Prop := ∃ p pc, z = .slice p zs.length pc ∧ At u p zs ∧ ∀ x, p = some x → E ≤ x.block
theorem InS.later {E : Nat} {u u' : World} {zs : List Int} {z : Value} (h : InS E u zs z) (hb : Below u.heap.size u u') : InS E u' zs z := by
  obtain ⟨p, pc, k1, k2, k3⟩ := h
  exact ⟨p, pc, k1, k2.below hb, k3⟩
def CnS (N : Nat) (u : World) (T : List Int) (z : Value) : Prop := ∃ q qc, z = .slice q N qc ∧ At u q T
theorem CnS.later {N : Nat} {u u' : World} {T : List Int} {z : Value} (h : CnS N u T z) (hb : Below u.heap.size u u') : CnS N u' T z := by
  obtain ⟨p, pc, k1, k2⟩ := h
  exact ⟨p, pc, k1, k2.below hb⟩
theorem row_few {n : NN} {zs : List Int} (hc : codeV n zs = 0) {k i : Nat} (hk : k ≤ zs.length) (hi : i < n.arcs.length) : 0 ≤ nth (nthLV (rowsV n (startT n) zs) k) i ∧ nth (nthLV (rowsV n (startT n) zs) k) i ≤ 1000000 := by
  rw [nthLV_rows hk]
  exact (end_fewV hc k).few i hi
end Go.Proofs.YtimioiaoefhabaaGreat

/- Texts of one chain, laid one behind the other. -/
import Derived.Test.YtkgekladndkhkaaPartPeaksMost17
import Derived.Test.YtkgekladndkhkaaPartPeaksMost16
namespace Go.Proofs.Ytkgekladndkhkaa
open Go.ChangeShapes Go.WideShapes Go.ChangeAt Go.RowKit
theorem wpList_app1I {w : World} {ops : Array Oper} {rest : List Oper} {o : Oper} {a : Act} {Q : Exit → Act → World → Prop} (hgd : o.guard = none) (s x : Operand) (ho : o.op = .call { callee := .builtin .append, args := #[s, x], argTypes := #[25, 25] })
    (B : Nat) (d0 : Option Addr) (c0 : Nat) (zs : List Int) (i : Nat) (hi : zs.length = i) (hs : a.eval s = .slice d0 i c0) (hown : CapR B w d0 c0 zs) (g : Nat) (y : Int) (hx : a.eval x = .slice (some ⟨g, 0, none⟩) 1 1) (hat : At w (some ⟨g, 0, none⟩) [y]) (hb : i ≤ 1000000) (hB : B ≤ w.heap.size)
    (h : ∀ d c' w', CapR B w' d c' (zs ++ [y]) → Below B w w' → wpList Try.prog ops Q rest (a.put o.dst (.slice d (i + 1) c')) w') : wpList Try.prog ops Q (o :: rest) a w := by
  subst hi
  exact wpList_appI hgd s x ho B d0 c0 zs hs hown (some ⟨g, 0, none⟩) 1 [y] hx (fun e => by cases e) hat (by simp; omega) hB (zs.length + 1) (zs ++ [y]) rfl rfl h
theorem drop_nthLV {R : List (List Int)} {k : Nat} (h : k < R.length) : R.drop k = nthLV R k :: R.drop (k + 1) := by
  rw [List.drop_eq_getElem_cons h]; unfold nthLV; rw [List.getD_eq_getElem?_getD, List.getElem?_eq_getElem h]; rfl
/-- The greatest numbers. -/
def mostM (n : NN) (zs : List Int) : List Int := (List.range n.arcs.length).map fun i => maxV (rowsV n (startT n) zs) i
theorem mostM_len (n : NN) (zs : List Int) : (mostM n zs).length = n.arcs.length := by simp [mostM]
theorem mostM_nth {n : NN} {zs : List Int} {i : Nat} (h : i < n.arcs.length) : nth (mostM n zs) i = maxV (rowsV n (startT n) zs) i := by
  unfold mostM nth; rw [List.getD_eq_getElem?_getD, List.getElem?_map, List.getElem?_range h]; rfl
theorem row_lenV {n : NN} {zs T : List Int} {k : Nat} (h : k ≤ zs.length) : (nthLV (rowsV n T zs) k).length = T.length := by
  unfold nthLV; rw [List.getD_eq_getElem?_getD, rows_get n zs T k h]; exact end_lenV n _ T
theorem start_nonneg {n : NN} (hS : SoundN n) {i : Nat} (h : i < n.arcs.length) : 0 ≤ nth (startT n) i := by
  have q := (hS.arcs i h).s.1
  unfold startT nth
  rw [List.getD_eq_getElem?_getD, List.getElem?_map, List.getElem?_eq_getElem h]
  unfold nthNa at q
  rw [List.getD_eq_getElem?_getD, List.getElem?_eq_getElem h] at q
  exact q
theorem start_len (n : NN) : (startT n).length = n.arcs.length := by unfold startT; rw [List.length_map]
theorem mostF_rows {n : NN} {zs : List Int} (hS : SoundN n) : mostF (rowsV n (startT n) zs) = mostM n zs := by
  obtain ⟨R, hR⟩ : ∃ R, rowsV n (startT n) zs = startT n :: R := by cases zs <;> exact ⟨_, rfl⟩
  refine eq_nthV ?_ fun i hi => ?_
  · rw [mostM_len, hR]; show (mxR _ _).length = _; rw [mxR_len, start_len]
  · have hl : i < n.arcs.length := by
      rw [hR] at hi
      have q : (mostF (startT n :: R)).length = n.arcs.length := by show (mxR _ _).length = _; rw [mxR_len, start_len]
      omega
    rw [mostM_nth hl, hR]
    exact mostF_nth (by rw [start_len]; exact hl) (start_nonneg hS hl)
/-- How Most ends. -/
def MstE (n : NN) (zs : List Int) (w : World) (e : Ending) (w' : World) : Prop :=
  (codeV n zs = 0 ∧ ∃ B a c, e = .returned (.tuple #[.slice a n.arcs.length c, .int .i64 0]) ∧ w.heap.size ≤ B ∧ B ≤ w'.heap.size ∧ CapR B w' a c (mostM n zs) ∧ Below w.heap.size w w') ∨ (¬ codeV n zs = 0 ∧ e = .returned (.tuple #[.slice none 0 0, .int .i64 (codeV n zs)]) ∧ Below w.heap.size w w')
theorem most_anyV (n : NN) (a : Option Addr) (c : Nat) (w : World) (h : AtN w a n.arcs) (hna : a = none → n.arcs.length = 0 ∧ c = 0) (al : Option Addr) (cl : Nat) (zs : List Int) (hz : At w al zs) (hzl : zs.length ≤ 4611686018427387904) (hs : n.arcs.length ≤ 4611686018427387904) :
    Calls Try.prog 18 #[.agg #[.int .i64 n.nodes, .slice a n.arcs.length c], .slice al zs.length cl] w (MstE n zs w) := (most_any1 n hs a c w h hna al cl zs hz hzl).mono fun e w' hh => by
  rcases hh with ⟨k1, B, v, e1, h1, h2, ⟨⟨-, a1, c1, e2, q1⟩, -⟩, q2⟩ | ⟨k1, e1, q⟩
  · rw [mostF_rows (check_sound (code_zero k1).1)] at e2 q1
    rw [mostM_len] at e2
    subst e2
    exact .inl ⟨k1, B, a1, c1, e1, h1, h2, q1, q2⟩
  · exact .inr ⟨k1, e1, q⟩
set_option maxRecDepth 100000 in
set_option maxHeartbeats 4000000 in
theorem rmost_any (n : NN) (a : Option Addr) (c : Nat) (w : World) (h : AtN w a n.arcs) (hroom : n.arcs.length ≤ 4611686018427387904) (al : Option Addr) (cl : Nat) (zs : List Int) (hz : At w al zs) (hzl : zs.length ≤ 4611686018427387904) :
    Calls Try.prog 19 #[.agg #[.int .i64 n.nodes, .slice a n.arcs.length c], .slice al zs.length cl] w (MstE n zs w) := by
  obtain ⟨ME, hME⟩ : ∃ R : Ending → World → Prop, MstE n zs w = R := ⟨_, rfl⟩
  rw [hME]
  have HME := hiddenN hME
  have b0 := (Below.refl w.heap.size w).alloc (Nat.le_refl _) (.cells #[.int .i64 n.nodes, .slice a n.arcs.length c] 24)
  have G0 := hiddenN (blkA_new 24 w #[.int .i64 n.nodes, .slice a n.arcs.length c])
  have B0 := hiddenN b0
  have M := hiddenN (ralong_any n a c _ (h.below b0) hroom al cl zs (hz.below b0) hzl)
  have z0 := G0.out.cell (k := 0) rfl
  have z1 := G0.out.cell (k := 1) rfl
  simp only [List.getElem_toArray, List.getElem_cons_zero, List.getElem_cons_succ] at z0 z1
  clear b0 h hz hME
  by_cases hc : codeV n zs = 0
  · have hl := (code_zero hc).2.1
    have hS := check_sound (code_zero hc).1
    have hmost := hS.most
    have MY : Hid (Calls Try.prog 12 #[.agg #[.int .i64 n.nodes, .slice a n.arcs.length c], .slice al zs.length cl] (w.alloc (.cells #[.int .i64 n.nodes, .slice a n.arcs.length c] 24)) fun e w' => ∃ b off rc, e = .returned (.tuple #[.slice (some ⟨b, off, none⟩) (rowsV n (startT n) zs).length rc, .int .i64 0]) ∧ (∀ k, k < (rowsV n (startT n) zs).length → ∃ y yc, w'.cell? ⟨b, off + k, none⟩ = some (.slice y n.arcs.length yc) ∧ At w' y (nthLV (rowsV n (startT n) zs) k)) ∧ Below (w.alloc (.cells #[.int .i64 n.nodes, .slice a n.arcs.length c] 24)).heap.size (w.alloc (.cells #[.int .i64 n.nodes, .slice a n.arcs.length c] 24)) w') := M.out.mono fun e w' hh => by
      rcases hh with ⟨-, B, v, e1, -, -, q1, q2⟩ | ⟨k1, -⟩
      · obtain ⟨x, rc, rfl, q3⟩ := q1.ls
        rcases q3 with q3 | ⟨b, off, rfl, q3⟩
        · exact absurd q3 (rows_ne _ _ _)
        · refine ⟨b, off, rc, e1, fun k hk => ?_, q2⟩
          obtain ⟨y, yc, r1, r2⟩ := q3 k hk
          rw [row_lenV (by rw [rows_len] at hk; omega), start_len] at r1
          exact ⟨y, yc, r1, r2⟩
      · exact absurd hc k1
    have HLR : Hid (∀ k, k < (rowsV n (startT n) zs).length → (nthLV (rowsV n (startT n) zs) k).length = n.arcs.length) := fun k hk => by rw [row_lenV (by rw [rows_len] at hk; omega), start_len]
    have HRl : Hid ((rowsV n (startT n) zs).length ≤ 2049) := by show _ ≤ _; rw [rows_len]; omega
    have HML := hiddenN (mostM_len n zs)
    have HMN : Hid (∀ i, i < n.arcs.length → nth (mostM n zs) i = maxV (rowsV n (startT n) zs) i) := fun i hi => mostM_nth hi
    have HC := hiddenN hc
    clear M hc hS hl
    obtain ⟨MM, hMM⟩ : ∃ q, mostM n zs = q := ⟨_, rfl⟩
    have HMM := hiddenN hMM
    rw [hMM] at HML HMN
    clear hMM
    generalize rowsV n (startT n) zs = R at *
    obtain ⟨K, hK⟩ : ∃ K, R.length = K := ⟨_, rfl⟩
    have HK := hiddenN hK
    rw [hK] at MY HRl
    have hKl := HRl.out
    clear hK
    obtain ⟨N, hN⟩ : ∃ N, n.arcs.length = N := ⟨_, rfl⟩
    have HN := hiddenN hN
    rw [hN] at MY HLR HML HMN hmost G0 B0 z0 z1 ⊢
    clear hN
    go_enter Try.func19, Try.ntmps19
    go_upto_region 1 with fail
    generalize w.alloc (.cells #[.int .i64 n.nodes, .slice a N c] 24) = W0 at *
    go_upto_region 4 with (go_at_call 12; (with_reducible refine MY.out.mono ?_); rintro e W1 ⟨b, off, rc, rfl, r1, b1⟩; have RR := hiddenN r1; have L1 := hiddenN (B0.out.trans (b1.mono B0.out.size)); have G1 := hiddenN (G0.out.below b1); clear r1 b1 z0 z1)
    go_wp2
    go_loopg [8, 9] N (fun gk u8 u9 wr => ∃ (i : Nat) (d : Option Addr) (dc : Nat), i ≤ N ∧ gk = N - i ∧ u9 = .int .i64 (i : Int) ∧ u8 = .slice d i dc ∧ CapR W1.heap.size wr d dc (MM.take i) ∧ Below W1.heap.size W1 wr)
    case atStart => exact ⟨0, none, 0, Nat.zero_le _, rfl, rfl, rfl, by simpa using CapR.nil _ _, Below.refl _ _⟩
    case round =>
      obtain ⟨i, d, dc, hi, rfl, rfl, rfl, hC, hB⟩ := hrel
      obtain ⟨wA, hwA⟩ : ∃ q : World, q = wr := ⟨_, rfl⟩
      subst hwA
      have HC1 := hiddenN hC
      have HB1 := hiddenN hB
      have z1 := (G1.out.below HB1.out).cell (k := 1) rfl
      simp only [List.getElem_toArray, List.getElem_cons_zero, List.getElem_cons_succ] at z1
      clear hC hB
      by_cases hlt : i < N
      · have hii : (i : Int) < (N : Int) := by omega
        have HTK := hiddenN (take_snoc (zs := MM) (j := i) (by rw [HML.out]; exact hlt))
        have HMi := hiddenN (HMN.out i hlt)
        go_wp2
        go_loopg [10, 11] K (fun gk u10 u11 wq => ∃ (k : Nat) (m : Int), k ≤ K ∧ gk = K - k ∧ u11 = .int .i64 (k : Int) ∧ u10 = .int .i64 m ∧ (R.drop k).foldl (fun m r => max m (nth r i)) m = maxV R i ∧ wA = wq)
        case atStart => exact ⟨0, 0, Nat.zero_le _, rfl, rfl, rfl, by rw [List.drop_zero]; rfl, rfl⟩
        case round =>
          obtain ⟨k, m, hk, rfl, rfl, rfl, hf, rfl⟩ := hrel
          have HF := hiddenN hf
          clear hf
          by_cases hlk : k < K
          · have hki : (k : Int) < (K : Int) := by omega
            obtain ⟨y, yc, c0, c1⟩ := RR.out k (by first | exact hlk | (rw [HK.out]; exact hlk))
            have c0' := cellN_later HB1.out c0
            have hL := HLR.out k (by rw [HK.out]; exact hlk)
            rcases c1.below HB1.out with e | ⟨yb, yo, rfl, hcy⟩
            · rw [e] at hL; simp at hL; omega
            have c2 := hcy i (by rw [hL]; exact hlt)
            have HD := HF.out
            rw [drop_nthLV (by rw [HK.out]; exact hlk), List.foldl_cons] at HD
            have HF2 := hiddenN HD
            clear c0 c1 hcy hL HD HF
            generalize nth (nthLV R k) i = y0 at *
            by_cases hm : m < y0
            · have q := HF2.out
              rw [Int.max_eq_right (by omega)] at q
              have HF3 := hiddenN q
              clear q HF2
              go_wp2
              go_roundg (K - (k + 1))
              case measure => omega
              case rel => exact ⟨k + 1, y0, by omega, rfl, by go_num, by first | rfl | simp, HF3.out, rfl⟩
            · have q := HF2.out
              rw [Int.max_eq_left (by omega)] at q
              have HF3 := hiddenN q
              clear q HF2
              go_wp2
              go_roundg (K - (k + 1))
              case measure => omega
              case rel => exact ⟨k + 1, m, by omega, rfl, by go_num, by first | rfl | simp, HF3.out, rfl⟩
          · have hki : ¬ (k : Int) < (K : Int) := by omega
            have hd : R.drop k = [] := List.drop_eq_nil_of_le (by rw [HK.out]; omega)
            have HM3 : Hid (m = nth MM i) := by
              show _ = _
              have q := HF.out
              rw [hd] at q
              rw [HMi.out, ← q]
              rfl
            clear HF hd
            have bA := (Below.refl wA.heap.size wA).alloc (Nat.le_refl _) (.cells #[.int .i64 m] 3)
            have BA := hiddenN bA
            have hs9 : W1.heap.size ≤ (wA.alloc (.cells #[.int .i64 m] 3)).heap.size := Nat.le_trans HB1.out.size bA.size
            have CA := hiddenN (HC1.out.later bA)
            have HLT : Hid ((MM.take i).length = i) := by show _ = _; rw [List.length_take, HML.out]; omega
            clear bA
            go_wp2_with (at_builtin; refine wpList_app1I rfl _ _ rfl W1.heap.size d dc (MM.take i) i HLT.out rfl CA.out wA.heap.size m rfl (at_alloc1 wA m) (by omega) hs9 ?_; intro d2 c2 W2 q1 q2; have Q1 := hiddenN q1; have Q2 := hiddenN (HB1.out.trans ((BA.out.mono HB1.out.size).trans q2)); clear q1 q2)
            go_roundg (N - (i + 1))
            case measure => omega
            case rel => exact ⟨i + 1, d2, c2, by omega, rfl, by go_num, rfl, by rw [HTK.out, ← HM3.out]; exact Q1.out, Q2.out⟩
      · have ei : N = i := by omega
        have hii : ¬ (i : Int) < (N : Int) := by omega
        have q := HC1.out
        rw [List.take_of_length_le (by rw [HML.out]; omega)] at q
        have HC2 := hiddenN q
        have HEi := hiddenN ei
        clear q HC1 ei
        go_wp2
        rw [← HME.out]
        exact .inl ⟨HC.out, W1.heap.size, d, dc, by (rw [HN.out, HEi.out]; try rfl), L1.out.size, HB1.out.size, by rw [HMM.out]; exact HC2.out, L1.out.trans (HB1.out.mono L1.out.size)⟩
  · have MN : Hid (Calls Try.prog 12 #[.agg #[.int .i64 n.nodes, .slice a n.arcs.length c], .slice al zs.length cl] (w.alloc (.cells #[.int .i64 n.nodes, .slice a n.arcs.length c] 24)) fun e w' => e = .returned (.tuple #[.slice none 0 0, .int .i64 (codeV n zs)]) ∧ Below (w.alloc (.cells #[.int .i64 n.nodes, .slice a n.arcs.length c] 24)).heap.size (w.alloc (.cells #[.int .i64 n.nodes, .slice a n.arcs.length c] 24)) w') := M.out.mono fun e w' hh => by
      rcases hh with ⟨k1, -⟩ | ⟨-, e1, q⟩
      · exact absurd k1 hc
      · exact ⟨e1, q⟩
    have HC := hiddenN hc
    have hcb : (codeV n zs != 0) = true := by simpa using hc
    have HCD : Hid (∃ q, codeV n zs = q) := ⟨_, rfl⟩
    obtain ⟨cd, hcd⟩ := HCD.out
    have HD := hiddenN hcd
    rw [hcd] at MN hcb
    clear M hc hcd HCD
    go_enter Try.func19, Try.ntmps19
    go_upto_region 1 with fail
    generalize w.alloc (.cells #[.int .i64 n.nodes, .slice a n.arcs.length c] 24) = W0 at *
    go_wp2_with (go_at_call 12; (with_reducible refine MN.out.mono ?_); rintro e W1 ⟨rfl, b1⟩; have L1 := hiddenN (B0.out.trans (b1.mono B0.out.size)); clear b1 z0 z1)
    rw [← HME.out]
    exact .inr ⟨HC.out, by (rw [HD.out]; try rfl), L1.out⟩
def netV : NN := ⟨2, [⟨0, 1, 2, 3, 0⟩, ⟨1, 0, 3, 2, 4⟩]⟩
theorem wakeV1 : codeV netV [0, 0, 1] = 0 ∧ rowsV netV (startT netV) [0, 0, 1] = [[0, 4], [2, 2], [4, 0], [1, 3]] ∧ mostM netV [0, 0, 1] = [4, 4] ∧ homeB netV [0, 0, 1] = false := by decide +kernel
theorem wakeV2 : codeV netV [0, 0, 1, 0, 1] = 0 ∧ homeB netV [0, 0, 1, 0, 1] = true ∧ codeV netV [1] = 180 := by decide +kernel
theorem at_allocV3 (U : World) (p0 p1 p2 : Int) : At (U.alloc (.cells #[.int .i64 p0, .int .i64 p1, .int .i64 p2] 3)) (some ⟨U.heap.size, 0, none⟩) [p0, p1, p2] := by
  refine .inr ⟨U.heap.size, 0, rfl, fun k hk => ?_⟩
  have b := blkA_new 3 U #[.int .i64 p0, .int .i64 p1, .int .i64 p2]
  match k, hk with
  | 0, _ => exact b.cell rfl
  | 1, _ => exact b.cell rfl
  | 2, _ => exact b.cell rfl
theorem at_allocV5 (U : World) (p0 p1 p2 p3 p4 : Int) : At (U.alloc (.cells #[.int .i64 p0, .int .i64 p1, .int .i64 p2, .int .i64 p3, .int .i64 p4] 3)) (some ⟨U.heap.size, 0, none⟩) [p0, p1, p2, p3, p4] := by
  refine .inr ⟨U.heap.size, 0, rfl, fun k hk => ?_⟩
  have b := blkA_new 3 U #[.int .i64 p0, .int .i64 p1, .int .i64 p2, .int .i64 p3, .int .i64 p4]
  match k, hk with
  | 0, _ => exact b.cell rfl
  | 1, _ => exact b.cell rfl
  | 2, _ => exact b.cell rfl
  | 3, _ => exact b.cell rfl
  | 4, _ => exact b.cell rfl
theorem alongW1 (w : World) (x y : Addr) (h : AtN w (some x) netV.arcs) (hz : At w (some y) [0, 0, 1]) : Calls Try.prog 11 #[.agg #[.int .i64 2, .slice (some x) 2 2], .slice (some y) 3 3] w fun e w' => ∃ v, e = .returned (.tuple #[v, .int .i64 0]) ∧ LsV w' v [[0, 4], [2, 2], [4, 0], [1, 3]] ∧ Below w.heap.size w w' :=
  (along_any netV (some x) 2 w h (by decide) (fun e => by cases e) (some y) 3 [0, 0, 1] hz (by decide)).mono fun e w' hh => by
    rcases hh with ⟨-, B, v, e1, -, -, q1, q2⟩ | ⟨k1, -⟩
    · refine ⟨v, e1, ?_, q2⟩
      have q := q1.ls
      rw [wakeV1.2.1] at q
      exact q
    · exact absurd wakeV1.1 k1
theorem mostW1 (w : World) (x y : Addr) (h : AtN w (some x) netV.arcs) (hz : At w (some y) [0, 0, 1]) : Calls Try.prog 18 #[.agg #[.int .i64 2, .slice (some x) 2 2], .slice (some y) 3 3] w fun e w' => ∃ a c, e = .returned (.tuple #[.slice a 2 c, .int .i64 0]) ∧ At w' a [4, 4] ∧ Below w.heap.size w w' :=
  (most_anyV netV (some x) 2 w h (fun e => by cases e) (some y) 3 [0, 0, 1] hz (by decide) (by decide)).mono fun e w' hh => by
    rcases hh with ⟨-, B, a, c, e1, -, -, q1, q2⟩ | ⟨k1, -⟩
    · refine ⟨a, c, e1, ?_, q2⟩
      have q := q1.at
      rw [wakeV1.2.2.1] at q
      exact q
    · exact absurd wakeV1.1 k1
theorem homeW1 (w : World) (x y : Addr) (h : AtN w (some x) netV.arcs) (hz : At w (some y) [0, 0, 1]) : Calls Try.prog 21 #[.agg #[.int .i64 2, .slice (some x) 2 2], .slice (some y) 3 3] w fun e w' => e = .returned (.tuple #[.bool false, .int .i64 0]) ∧ Below w.heap.size w w' :=
  (home_anyV netV (some x) 2 w h (by decide) (fun e => by cases e) (some y) 3 [0, 0, 1] hz (by decide)).mono fun e w' ⟨e1, e2⟩ => by
    rw [wakeV1.2.2.2, wakeV1.1] at e1
    exact ⟨e1, e2⟩
theorem homeW2 (w : World) (x y : Addr) (h : AtN w (some x) netV.arcs) (hz : At w (some y) [0, 0, 1, 0, 1]) : Calls Try.prog 21 #[.agg #[.int .i64 2, .slice (some x) 2 2], .slice (some y) 5 5] w fun e w' => e = .returned (.tuple #[.bool true, .int .i64 0]) ∧ Below w.heap.size w w' :=
  (home_anyV netV (some x) 2 w h (by decide) (fun e => by cases e) (some y) 5 [0, 0, 1, 0, 1] hz (by decide)).mono fun e w' ⟨e1, e2⟩ => by
    rw [wakeV2.2.1, wakeV2.1] at e1
    exact ⟨e1, e2⟩
theorem alongW2 (w : World) (x y : Addr) (h : AtN w (some x) netV.arcs) (hz : At w (some y) [1]) : Calls Try.prog 11 #[.agg #[.int .i64 2, .slice (some x) 2 2], .slice (some y) 1 1] w fun e w' => e = .returned (.tuple #[.slice none 0 0, .int .i64 180]) ∧ Below w.heap.size w w' :=
  (along_any netV (some x) 2 w h (by decide) (fun e => by cases e) (some y) 1 [1] hz (by decide)).mono fun e w' hh => by
    rcases hh with ⟨k1, -⟩ | ⟨-, e1, q2⟩
    · rw [wakeV2.2.2] at k1; cases k1
    · rw [wakeV2.2.2] at e1; exact ⟨e1, q2⟩
theorem atN_alloc2V (U : World) : AtN (U.alloc (.cells #[.int .i64 0, .int .i64 1, .int .i64 2, .int .i64 3, .int .i64 0, .int .i64 1, .int .i64 0, .int .i64 3, .int .i64 2, .int .i64 4] 50)) (some ⟨U.heap.size, 0, none⟩) netV.arcs := by
  refine .inr ⟨U.heap.size, 0, rfl, fun k hk => ?_⟩
  have b := blkA_new 50 U #[.int .i64 0, .int .i64 1, .int .i64 2, .int .i64 3, .int .i64 0, .int .i64 1, .int .i64 0, .int .i64 3, .int .i64 2, .int .i64 4]
  match k, hk with
  | 0, _ => exact ⟨b.cell rfl, b.cell rfl, b.cell rfl, b.cell rfl, b.cell rfl⟩
  | 1, _ => exact ⟨b.cell rfl, b.cell rfl, b.cell rfl, b.cell rfl, b.cell rfl⟩
set_option maxRecDepth 100000 in
set_option maxHeartbeats 4000000 in
theorem two_any (w : World) : Calls Try.prog 35 #[] w fun e w' => ∃ x, e = .returned (.agg #[.int .i64 2, .slice (some x) 2 2]) ∧ AtN w' (some x) netV.arcs ∧ Below w.heap.size w w' := by
  have b0 := (Below.refl w.heap.size w).alloc (Nat.le_refl _) (.cells #[.int .i64 0, .slice none 0 0] 24)
  have G0 := hiddenN (blkA_new 24 w #[.int .i64 0, .slice none 0 0])
  have B0 := hiddenN b0
  clear b0
  go_enter Try.func35, Try.ntmps35
  go_upto_region 1 with fail
  generalize w.alloc (.cells #[.int .i64 0, .slice none 0 0] 24) = W0 at *
  have a1 := (Below.refl W0.heap.size W0).alloc (Nat.le_refl _) (.cells #[.int .i64 0, .int .i64 1, .int .i64 2, .int .i64 3, .int .i64 0, .int .i64 1, .int .i64 0, .int .i64 3, .int .i64 2, .int .i64 4] 50)
  have H1 := hiddenN (atN_alloc2V W0)
  have A1 := hiddenN a1
  have G1 := hiddenN (G0.out.below a1)
  clear a1
  have hlt := G0.out.lt
  go_wp2_with (refine wpList_storeW _ rfl 24 (.tmp 0) (.tmp 4) rfl rfl w.heap.size 24 _ _ rfl rfl G1.out sizNet rfl rfl ?_; intro w8 hN hU; have N8 := hiddenN hN; have U8 := hiddenN hU; clear hN hU)
  have t0 : w8.cell? ⟨w.heap.size, 0, none⟩ = some (.int .i64 2) := N8.out.cell rfl
  have t1 : w8.cell? ⟨w.heap.size, 1, none⟩ = some (.slice (some ⟨W0.heap.size, 0, none⟩) 2 2) := N8.out.cell rfl
  refine bodyPost_ret (v := .agg #[.int .i64 2, .slice (some ⟨W0.heap.size, 0, none⟩) 2 2]) (by simp [results, Try.results35, go_sem, t0, t1]) rfl ?_
  have hs1 : (W0.alloc (.cells #[.int .i64 0, .int .i64 1, .int .i64 2, .int .i64 3, .int .i64 0, .int .i64 1, .int .i64 0, .int .i64 3, .int .i64 2, .int .i64 4] 50)).heap.size = W0.heap.size + 1 := World.size_alloc _ _
  exact ⟨_, rfl, H1.out.keep fun x hx => by cases hx; exact U8.out.block _ (by show W0.heap.size < _; omega) (by show W0.heap.size ≠ w.heap.size; omega), B0.out.trans ((A1.out.mono B0.out.size).trans (U8.out.below (Nat.le_refl _) (Nat.le_trans B0.out.size A1.out.size)))⟩
theorem want_ls (W : World) : LsV ((((((W).alloc (.cells #[.int .i64 0, .int .i64 4] 3)).alloc (.cells #[.int .i64 2, .int .i64 2] 3)).alloc (.cells #[.int .i64 4, .int .i64 0] 3)).alloc (.cells #[.int .i64 1, .int .i64 3] 3)).alloc (.cells #[.slice (some ⟨W.heap.size, 0, none⟩) 2 2, .slice (some ⟨W.heap.size + 1, 0, none⟩) 2 2, .slice (some ⟨W.heap.size + 2, 0, none⟩) 2 2, .slice (some ⟨W.heap.size + 3, 0, none⟩) 2 2] 25)) (.slice (some ⟨W.heap.size + 4, 0, none⟩) 4 4) [[0, 4], [2, 2], [4, 0], [1, 3]] ∧ Below W.heap.size W ((((((W).alloc (.cells #[.int .i64 0, .int .i64 4] 3)).alloc (.cells #[.int .i64 2, .int .i64 2] 3)).alloc (.cells #[.int .i64 4, .int .i64 0] 3)).alloc (.cells #[.int .i64 1, .int .i64 3] 3)).alloc (.cells #[.slice (some ⟨W.heap.size, 0, none⟩) 2 2, .slice (some ⟨W.heap.size + 1, 0, none⟩) 2 2, .slice (some ⟨W.heap.size + 2, 0, none⟩) 2 2, .slice (some ⟨W.heap.size + 3, 0, none⟩) 2 2] 25)) := by
  have b1 := (Below.refl W.heap.size W).alloc (Nat.le_refl _) (.cells #[.int .i64 0, .int .i64 4] 3)
  have b2 := (Below.refl _ _).alloc (Nat.le_refl _) (.cells #[.int .i64 2, .int .i64 2] 3) (w := (W).alloc (.cells #[.int .i64 0, .int .i64 4] 3))
  have b3 := (Below.refl _ _).alloc (Nat.le_refl _) (.cells #[.int .i64 4, .int .i64 0] 3) (w := ((W).alloc (.cells #[.int .i64 0, .int .i64 4] 3)).alloc (.cells #[.int .i64 2, .int .i64 2] 3))
  have b4 := (Below.refl _ _).alloc (Nat.le_refl _) (.cells #[.int .i64 1, .int .i64 3] 3) (w := (((W).alloc (.cells #[.int .i64 0, .int .i64 4] 3)).alloc (.cells #[.int .i64 2, .int .i64 2] 3)).alloc (.cells #[.int .i64 4, .int .i64 0] 3))
  have b5 := (Below.refl _ _).alloc (Nat.le_refl _) (.cells #[.slice (some ⟨W.heap.size, 0, none⟩) 2 2, .slice (some ⟨W.heap.size + 1, 0, none⟩) 2 2, .slice (some ⟨W.heap.size + 2, 0, none⟩) 2 2, .slice (some ⟨W.heap.size + 3, 0, none⟩) 2 2] 25) (w := ((((W).alloc (.cells #[.int .i64 0, .int .i64 4] 3)).alloc (.cells #[.int .i64 2, .int .i64 2] 3)).alloc (.cells #[.int .i64 4, .int .i64 0] 3)).alloc (.cells #[.int .i64 1, .int .i64 3] 3))
  have h0 := at_alloc2 (W) 0 4
  have h1 := at_alloc2 ((W).alloc (.cells #[.int .i64 0, .int .i64 4] 3)) 2 2
  have h2 := at_alloc2 (((W).alloc (.cells #[.int .i64 0, .int .i64 4] 3)).alloc (.cells #[.int .i64 2, .int .i64 2] 3)) 4 0
  have h3 := at_alloc2 ((((W).alloc (.cells #[.int .i64 0, .int .i64 4] 3)).alloc (.cells #[.int .i64 2, .int .i64 2] 3)).alloc (.cells #[.int .i64 4, .int .i64 0] 3)) 1 3
  have g := blkA_new 25 (((((W).alloc (.cells #[.int .i64 0, .int .i64 4] 3)).alloc (.cells #[.int .i64 2, .int .i64 2] 3)).alloc (.cells #[.int .i64 4, .int .i64 0] 3)).alloc (.cells #[.int .i64 1, .int .i64 3] 3)) #[.slice (some ⟨W.heap.size, 0, none⟩) 2 2, .slice (some ⟨W.heap.size + 1, 0, none⟩) 2 2, .slice (some ⟨W.heap.size + 2, 0, none⟩) 2 2, .slice (some ⟨W.heap.size + 3, 0, none⟩) 2 2]
  have s1 : ((W).alloc (.cells #[.int .i64 0, .int .i64 4] 3)).heap.size = W.heap.size + 1 := World.size_alloc _ _
  have s2 : (((W).alloc (.cells #[.int .i64 0, .int .i64 4] 3)).alloc (.cells #[.int .i64 2, .int .i64 2] 3)).heap.size = W.heap.size + 2 := by rw [World.size_alloc, s1]
  have s3 : ((((W).alloc (.cells #[.int .i64 0, .int .i64 4] 3)).alloc (.cells #[.int .i64 2, .int .i64 2] 3)).alloc (.cells #[.int .i64 4, .int .i64 0] 3)).heap.size = W.heap.size + 3 := by rw [World.size_alloc, s2]
  have s4 : (((((W).alloc (.cells #[.int .i64 0, .int .i64 4] 3)).alloc (.cells #[.int .i64 2, .int .i64 2] 3)).alloc (.cells #[.int .i64 4, .int .i64 0] 3)).alloc (.cells #[.int .i64 1, .int .i64 3] 3)).heap.size = W.heap.size + 4 := by rw [World.size_alloc, s3]
  rw [s1] at h1
  rw [s2] at h2
  rw [s3] at h3
  rw [s4] at g
  have k0 := (((h0.below b2).below b3).below b4).below b5
  have k1 := ((h1.below b3).below b4).below b5
  have k2 := (h2.below b4).below b5
  have k3 := h3.below b5
  refine ⟨⟨_, _, rfl, .inr ⟨W.heap.size + 4, 0, rfl, fun k hk => ?_⟩⟩, b1.trans ((b2.mono (by omega)).trans ((b3.mono (by omega)).trans ((b4.mono (by omega)).trans (b5.mono (by omega)))))⟩
  match k, hk with
  | 0, _ => exact ⟨_, _, g.cell rfl, k0⟩
  | 1, _ => exact ⟨_, _, g.cell rfl, k1⟩
  | 2, _ => exact ⟨_, _, g.cell rfl, k2⟩
  | 3, _ => exact ⟨_, _, g.cell rfl, k3⟩
set_option maxRecDepth 100000 in
set_option maxHeartbeats 16000000 in
theorem awakeP (w : World) : Calls Try.prog 15 #[] w fun e w' => e = .returned (.bool true) ∧ Below w.heap.size w w' := by
  have L0 := hiddenN (Below.refl w.heap.size w)
  go_enter Try.func15, Try.ntmps15
  go_upto_region 2 with (first
    | (go_at_call 35; (with_reducible refine (two_any w).mono ?_); rintro e X1 ⟨x1, rfl, h, b⟩; have aA := (Below.refl X1.heap.size X1).alloc (Nat.le_refl _) (.cells #[.int .i64 0, .int .i64 0, .int .i64 1] 3); have CC := hiddenN (alongW1 (X1.alloc (.cells #[.int .i64 0, .int .i64 0, .int .i64 1] 3)) x1 ⟨X1.heap.size, 0, none⟩ (h.below aA) (at_allocV3 X1 0 0 1)); have LL := hiddenN (b.trans (aA.mono b.size)); clear h b aA)
    | (go_at_call 11; (with_reducible refine CC.out.mono ?_); rintro e W1 ⟨v1, rfl, q1, b⟩; have L1 := hiddenN (L0.out.trans ((LL.out.trans (b.mono LL.out.size)).mono L0.out.size)); have M1 := hiddenN (LL.out.trans (b.mono LL.out.size)); have R1 := hiddenN q1; clear q1; clear b; clear CC LL))
  go_upto_region 3 with (first
    | (go_at_call 35; (with_reducible refine (two_any W1).mono ?_); rintro e X2 ⟨x2, rfl, h, b⟩; have aA := (Below.refl X2.heap.size X2).alloc (Nat.le_refl _) (.cells #[.int .i64 0, .int .i64 0, .int .i64 1] 3); have CC := hiddenN (mostW1 (X2.alloc (.cells #[.int .i64 0, .int .i64 0, .int .i64 1] 3)) x2 ⟨X2.heap.size, 0, none⟩ (h.below aA) (at_allocV3 X2 0 0 1)); have LL := hiddenN (b.trans (aA.mono b.size)); clear h b aA)
    | (go_at_call 18; (with_reducible refine CC.out.mono ?_); rintro e W2 ⟨a2, c2, rfl, q1, b⟩; have L2 := hiddenN (L1.out.trans ((LL.out.trans (b.mono LL.out.size)).mono L1.out.size)); have M2 := hiddenN (LL.out.trans (b.mono LL.out.size)); have R2 := hiddenN (R1.out.below M2.out); have T2 := hiddenN q1; clear q1; clear b; clear CC LL))
  go_upto_region 4 with (first
    | (go_at_call 35; (with_reducible refine (two_any W2).mono ?_); rintro e X3 ⟨x3, rfl, h, b⟩; have aA := (Below.refl X3.heap.size X3).alloc (Nat.le_refl _) (.cells #[.int .i64 0, .int .i64 0, .int .i64 1] 3); have CC := hiddenN (homeW1 (X3.alloc (.cells #[.int .i64 0, .int .i64 0, .int .i64 1] 3)) x3 ⟨X3.heap.size, 0, none⟩ (h.below aA) (at_allocV3 X3 0 0 1)); have LL := hiddenN (b.trans (aA.mono b.size)); clear h b aA)
    | (go_at_call 21; (with_reducible refine CC.out.mono ?_); rintro e W3 ⟨rfl, b⟩; have L3 := hiddenN (L2.out.trans ((LL.out.trans (b.mono LL.out.size)).mono L2.out.size)); have M3 := hiddenN (LL.out.trans (b.mono LL.out.size)); have R3 := hiddenN (R2.out.below M3.out); have T3 := hiddenN (T2.out.below M3.out); clear b; clear CC LL))
  go_upto_region 5 with (first
    | (go_at_call 35; (with_reducible refine (two_any W3).mono ?_); rintro e X4 ⟨x4, rfl, h, b⟩; have aA := (Below.refl X4.heap.size X4).alloc (Nat.le_refl _) (.cells #[.int .i64 0, .int .i64 0, .int .i64 1, .int .i64 0, .int .i64 1] 3); have CC := hiddenN (homeW2 (X4.alloc (.cells #[.int .i64 0, .int .i64 0, .int .i64 1, .int .i64 0, .int .i64 1] 3)) x4 ⟨X4.heap.size, 0, none⟩ (h.below aA) (at_allocV5 X4 0 0 1 0 1)); have LL := hiddenN (b.trans (aA.mono b.size)); clear h b aA)
    | (go_at_call 21; (with_reducible refine CC.out.mono ?_); rintro e W4 ⟨rfl, b⟩; have L4 := hiddenN (L3.out.trans ((LL.out.trans (b.mono LL.out.size)).mono L3.out.size)); have M4 := hiddenN (LL.out.trans (b.mono LL.out.size)); have R4 := hiddenN (R3.out.below M4.out); have T4 := hiddenN (T3.out.below M4.out); clear b; clear CC LL))
  go_upto_region 6 with (first
    | (go_at_call 35; (with_reducible refine (two_any W4).mono ?_); rintro e X5 ⟨x5, rfl, h, b⟩; have aA := (Below.refl X5.heap.size X5).alloc (Nat.le_refl _) (.cells #[.int .i64 1] 3); have CC := hiddenN (alongW2 (X5.alloc (.cells #[.int .i64 1] 3)) x5 ⟨X5.heap.size, 0, none⟩ (h.below aA) (at_alloc1 X5 1)); have LL := hiddenN (b.trans (aA.mono b.size)); clear h b aA)
    | (go_at_call 11; (with_reducible refine CC.out.mono ?_); rintro e W5 ⟨rfl, b⟩; have L5 := hiddenN (L4.out.trans ((LL.out.trans (b.mono LL.out.size)).mono L4.out.size)); have M5 := hiddenN (LL.out.trans (b.mono LL.out.size)); have R5 := hiddenN (R4.out.below M5.out); have T5 := hiddenN (T4.out.below M5.out); clear b; clear CC LL))
  clear L0 L1 L2 L3 L4 R1 R2 R3 R4 T2 T3 T4 M1 M2 M3 M4 M5
  go_upto_region 7 with fail
  have WL := hiddenN (want_ls W5)
  generalize ((((W5.alloc (.cells #[.int .i64 0, .int .i64 4] 3)).alloc (.cells #[.int .i64 2, .int .i64 2] 3)).alloc (.cells #[.int .i64 4, .int .i64 0] 3)).alloc (.cells #[.int .i64 1, .int .i64 3] 3)).alloc (.cells #[.slice (some ⟨W5.heap.size, 0, none⟩) 2 2, .slice (some ⟨W5.heap.size + 1, 0, none⟩) 2 2, .slice (some ⟨W5.heap.size + 2, 0, none⟩) 2 2, .slice (some ⟨W5.heap.size + 3, 0, none⟩) 2 2] 25) = W6 at *
  obtain ⟨y1, yc1, ev, -⟩ := R5.out
  have ev4 : v1 = .slice y1 4 yc1 := ev
  subst ev4
  have SL := hiddenN (sameLists_any (.slice y1 4 yc1) (.slice (some ⟨W5.heap.size + 4, 0, none⟩) 4 4) _ W6 (R5.out.below WL.out.2) WL.out.1 (by decide) (fun k hk => by
    match k, hk with
    | 0, _ => decide
    | 1, _ => decide
    | 2, _ => decide
    | 3, _ => decide))
  have T6 := hiddenN (T5.out.below WL.out.2)
  have L6 := hiddenN (L5.out.trans (WL.out.2.mono L5.out.size))
  have SLB : Hid (Calls Try.prog 13 #[.slice y1 4 yc1, .slice (some ⟨W5.heap.size + 4, 0, none⟩) 4 4] W6 fun e w' => e = .returned (.bool true) ∧ Below W6.heap.size W6 w') := SL.out.mono fun e w' ⟨e1, m, e2⟩ => ⟨e1, by rw [e2]; exact drewB (Below.refl _ _) m⟩
  clear ev SL R5 T5 L5 WL
  go_wp2_with (first
    | (go_at_call 13; (with_reducible refine SLB.out.mono ?_); rintro e W7 ⟨rfl, a7⟩; have a8 := (Below.refl W7.heap.size W7).alloc (Nat.le_refl _) (.cells #[.int .i64 4, .int .i64 4] 3); have L8 := hiddenN (L6.out.trans ((a7.trans (a8.mono a7.size)).mono L6.out.size)); have SI := hiddenN (same_any a2 (some ⟨W7.heap.size, 0, none⟩) [4, 4] 2 c2 2 (W7.alloc (.cells #[.int .i64 4, .int .i64 4] 3)) rfl (by decide) ((T6.out.below a7).below a8) (at_alloc2 _ 4 4)); clear a7 a8)
    | (go_at_call 20; (with_reducible refine SI.out.mono ?_); rintro e W9 ⟨m9, rfl, rfl⟩))
  go_ret
  exact ⟨by first | rfl | simp, drewB L8.out _⟩
/-- What stands of a walk of law18: the net's box, the lent net and its box, the lent list. -/
structure HdV (w W : World) (n : NN) (a : Option Addr) (c g gc gl mb Q : Nat) (zs : List Int) : Prop where
  net : BlkA 24 w.heap.size W #[.int .i64 n.nodes, .slice a n.arcs.length c]
  box : BlkA 24 mb W #[.int .i64 n.nodes, .slice (some ⟨g, 0, none⟩) n.arcs.length gc]
  ldn : LdN w.heap.size W g gc n
  lst : Lend w.heap.size W gl zs.length zs
  bel : Below w.heap.size w W
  low : w.heap.size < Q ∧ mb < Q ∧ g < Q ∧ gl < Q ∧ Q ≤ W.heap.size
theorem HdV.keep {w W W' : World} {n : NN} {a : Option Addr} {c g gc gl mb Q : Nat} {zs : List Int} (h : HdV w W n a c g gc gl mb Q zs) (hb : Below Q W W') : HdV w W' n a c g gc gl mb Q zs := by
  obtain ⟨l1, l2, l3, l4, l5⟩ := h.low
  exact ⟨h.net.keep (hb.block _ l1), h.box.keep (hb.block _ l2), h.ldn.keep (hb.block _ l3) hb.size, h.lst.keepN (hb.block _ l4), h.bel.trans (hb.mono (by omega)), l1, l2, l3, l4, Nat.le_trans l5 hb.size⟩
theorem HdV.below {w W W' : World} {n : NN} {a : Option Addr} {c g gc gl mb Q : Nat} {zs : List Int} (h : HdV w W n a c g gc gl mb Q zs) (hb : Below W.heap.size W W') : HdV w W' n a c g gc gl mb Q zs := h.keep (hb.mono h.low.2.2.2.2)
theorem apartV2 {B N : Nat} {w : World} {a b : Option Addr} {c1 c2 : Nat} {P : List Int} (ha : CapR B w a c1 P) (hb : CapR B w b c2 P) (hab : ∀ x y, a = some x → b = some y → x.block ≠ y.block) (hB : B ≤ w.heap.size) (h1 : P.length = N) (h2 : N ≤ 1000) :
    Calls Try.prog 14 #[.slice (some ⟨w.heap.size, 0, none⟩) 2 2] (w.alloc (.cells #[.slice a N c1, .slice b N c2] 25)) fun e w' => e = .returned (.bool true) ∧ Below B (w.alloc (.cells #[.slice a N c1, .slice b N c2] 25)) w' := by
  subst h1
  exact apart_twoV ha hb hab hB (by omega) (by omega)
set_option maxRecDepth 100000 in
set_option maxHeartbeats 16000000 in
theorem peaksMost_walk (n : NN) (a : Option Addr) (c : Nat) (a1 : Option Addr) (len1 cap1 : Nat) (zs : List Int) (w : World) (h : ArgN w a c n) (h1 : Arg w a1 len1 cap1 zs) : Calls Try.prog 4 #[.agg #[.int .i64 n.nodes, .slice a n.arcs.length c], .slice a1 len1 cap1] w fun e w' => e = .returned (.bool true) ∧ Below w.heap.size w w' := by
  obtain rfl := h1.size
  have b0 := (Below.refl w.heap.size w).alloc (Nat.le_refl _) (.cells #[.int .i64 n.nodes, .slice a n.arcs.length c] 24)
  have G0 := hiddenN (blkA_new 24 w #[.int .i64 n.nodes, .slice a n.arcs.length c])
  have B0 := hiddenN b0
  have HA := hiddenN h
  have H1 := hiddenN h1
  have hroom : n.arcs.length ≤ 4611686018427387904 := by have := h.room; omega
  have hzl : zs.length ≤ 4611686018427387904 := by have := h1.reach; omega
  have LN : Hid (∀ U, Below w.heap.size w U → Calls Try.prog 9 #[.agg #[.int .i64 n.nodes, .slice a n.arcs.length c]] U (LentE n U)) := fun U hb => lentNet_any n a c U (HA.out.below hb)
  have AW : Hid (∀ U, Calls Try.prog 15 #[] U fun e w' => e = .returned (.bool true) ∧ Below U.heap.size U w') := fun U => awakeP U
  have z0 := G0.out.cell (k := 0) rfl
  have z1 := G0.out.cell (k := 1) rfl
  simp only [List.getElem_toArray, List.getElem_cons_zero, List.getElem_cons_succ] at z0 z1
  clear b0 h h1
  by_cases hc : codeV n zs = 0
  · have hs : n.arcs.length ≤ 1000 := Nat.le_trans (check_sound (code_zero hc).1).most (by decide)
    have PM : Hid (∀ U x y cx cy, AtN U (some x) n.arcs → At U (some y) zs → Calls Try.prog 18 #[.agg #[.int .i64 n.nodes, .slice (some x) n.arcs.length cx], .slice (some y) zs.length cy] U fun e w' => ∃ B ar cr, e = .returned (.tuple #[.slice ar n.arcs.length cr, .int .i64 0]) ∧ U.heap.size ≤ B ∧ B ≤ w'.heap.size ∧ CapR B w' ar cr (mostM n zs) ∧ Below U.heap.size U w') := fun U x y cx cy q1 q2 => (most_anyV n (some x) cx U q1 (fun e => by cases e) (some y) cy zs q2 hzl hroom).mono fun e w' hh => by
      rcases hh with ⟨-, q⟩ | ⟨k1, -⟩
      · exact q
      · exact absurd hc k1
    have RM : Hid (∀ U, Below w.heap.size w U → Calls Try.prog 19 #[.agg #[.int .i64 n.nodes, .slice a n.arcs.length c], .slice a1 zs.length cap1] U fun e w' => ∃ ar cr, e = .returned (.tuple #[.slice ar n.arcs.length cr, .int .i64 0]) ∧ At w' ar (mostM n zs) ∧ Below U.heap.size U w') := fun U hb => (rmost_any n a c U (HA.out.below hb).lies hroom a1 cap1 zs (H1.out.below hb).lies hzl).mono fun e w' hh => by
      rcases hh with ⟨-, B, ar, cr, e1, -, -, q1, q2⟩ | ⟨k1, -⟩
      · exact ⟨ar, cr, e1, q1.at, q2⟩
      · exact absurd hc k1
    have HML := hiddenN (mostM_len n zs)
    clear hc
    generalize mostM n zs = MM at *
    have LD : Hid (∀ U, Below w.heap.size w U → Calls Try.prog 10 #[.slice a1 zs.length cap1] U fun e w' => ∃ gl, e = .returned (.slice (some ⟨gl, 0, none⟩) zs.length (zs.length + 4)) ∧ Lend U.heap.size w' gl zs.length zs ∧ Below U.heap.size U w') := fun U hb => lent_any a1 zs zs.length cap1 U (H1.out.below hb)
    go_enter Try.func4, Try.ntmps4
    go_upto_region 1 with fail
    generalize w.alloc (.cells #[.int .i64 n.nodes, .slice a n.arcs.length c] 24) = W0 at *
    go_upto_region 2 with (go_at_call 9; (with_reducible refine (LN.out _ B0.out).mono ?_); rintro e W1 ⟨g, gc, rfl, q1, q2⟩; have E1 := hiddenN q1; have L1 := hiddenN (B0.out.trans (q2.mono B0.out.size)); have G1 := hiddenN (G0.out.below q2); have h01 := hiddenN q2.size; clear q1 q2 z0 z1)
    have bM := (Below.refl W1.heap.size W1).alloc (Nat.le_refl _) (.cells #[.int .i64 n.nodes, .slice (some ⟨g, 0, none⟩) n.arcs.length gc] 24)
    have XM := hiddenN (blkA_new 24 W1 #[.int .i64 n.nodes, .slice (some ⟨g, 0, none⟩) n.arcs.length gc])
    have E2 := hiddenN (E1.out.below bM)
    have L2 := hiddenN (L1.out.trans (bM.mono L1.out.size))
    have G2 := hiddenN (G1.out.below bM)
    have hsM := hiddenN bM.size
    generalize W1.alloc (.cells #[.int .i64 n.nodes, .slice (some ⟨g, 0, none⟩) n.arcs.length gc] 24) = W2 at *
    clear bM
    go_upto_region 3 with (go_at_call 10; (with_reducible refine (LD.out _ L2.out).mono ?_); rintro e W3 ⟨gl, rfl, q1, q2⟩; have D3 := hiddenN q1; have HD0 := hiddenN (show HdV w W3 n a c g gc gl W1.heap.size W3.heap.size zs from ⟨G2.out.below q2, XM.out.below q2, ⟨Nat.le_trans B0.out.size E1.out.low, (E2.out.below q2).lt, E2.out.cap, (E2.out.below q2).all⟩, ⟨Nat.le_trans L2.out.size q1.1, q1.2⟩, L2.out.trans (q2.mono L2.out.size), (G2.out.below q2).lt, (XM.out.below q2).lt, (E2.out.below q2).lt, q1.lt.2, Nat.le_refl _⟩); clear q1 q2)
    obtain ⟨mb, hmb⟩ : ∃ q, W1.heap.size = q := ⟨_, rfl⟩
    obtain ⟨Q, hQ⟩ : ∃ q, W3.heap.size = q := ⟨_, rfl⟩
    have HD3 := HD0
    rw [hQ] at HD3
    have HQ := hiddenN hQ
    clear LD LN G0 G1 E1 L1 h01 XM E2 L2 G2 hsM D3 HD0 hQ hmb
    have m0 := HD3.out.box.cell (k := 0) rfl; have m1 := HD3.out.box.cell (k := 1) rfl; simp only [List.getElem_toArray, List.getElem_cons_zero, List.getElem_cons_succ] at m0 m1
    have PM3 := hiddenN (PM.out W3 ⟨g, 0, none⟩ ⟨gl, 0, none⟩ gc (zs.length + 4) HD3.out.ldn.at HD3.out.lst.at)
    go_upto_region 4 with (go_at_call 18; (with_reducible refine (PM3.out).mono ?_); rintro e W4 ⟨B4, a4, c4, rfl, hb1, hb2, r4, q2⟩; have HD4 := hiddenN (HD3.out.below q2); have R4 := hiddenN r4; have hB4 := hiddenN hb2; have hQB : Hid (Q ≤ B4) := (by have := HQ.out; show _ ≤ _; omega); clear r4 hb1 hb2; clear q2 m0 m1)
    have m0 := HD4.out.box.cell (k := 0) rfl; have m1 := HD4.out.box.cell (k := 1) rfl; simp only [List.getElem_toArray, List.getElem_cons_zero, List.getElem_cons_succ] at m0 m1
    have z0 := HD4.out.net.cell (k := 0) rfl; have z1 := HD4.out.net.cell (k := 1) rfl; simp only [List.getElem_toArray, List.getElem_cons_zero, List.getElem_cons_succ] at z0 z1
    clear HD3
    have PM4 := hiddenN (PM.out W4 ⟨g, 0, none⟩ ⟨gl, 0, none⟩ gc (zs.length + 4) HD4.out.ldn.at HD4.out.lst.at)
    go_upto_region 5 with (go_at_call 18; (with_reducible refine (PM4.out).mono ?_); rintro e W5 ⟨B5, a5, c5, rfl, hb1, hb2, r5, q2⟩; have HD5 := hiddenN (HD4.out.below q2); have R5 := hiddenN r5; have hB45 := hiddenN hb1; have S5 := hiddenN (R4.out.later q2); have hB5 := hiddenN (Nat.le_trans hB4.out q2.size); clear r5 hb1 hb2; clear q2 m0 m1 z0 z1 PM3)
    have m0 := HD5.out.box.cell (k := 0) rfl; have m1 := HD5.out.box.cell (k := 1) rfl; simp only [List.getElem_toArray, List.getElem_cons_zero, List.getElem_cons_succ] at m0 m1
    have z0 := HD5.out.net.cell (k := 0) rfl; have z1 := HD5.out.net.cell (k := 1) rfl; simp only [List.getElem_toArray, List.getElem_cons_zero, List.getElem_cons_succ] at z0 z1
    clear HD4
    go_upto_region 6 with (go_at_call 19; (with_reducible refine (RM.out _ HD5.out.bel).mono ?_); rintro e W6 ⟨a6, c6, rfl, r6, q2⟩; have HD6 := hiddenN (HD5.out.below q2); have T6 := hiddenN r6; have R6 := hiddenN (R5.out.later q2); have S6 := hiddenN (S5.out.later q2); have hB6 := hiddenN (Nat.le_trans hB5.out q2.size); clear r6; clear q2 m0 m1 z0 z1 PM4)
    have m0 := HD6.out.box.cell (k := 0) rfl; have m1 := HD6.out.box.cell (k := 1) rfl; simp only [List.getElem_toArray, List.getElem_cons_zero, List.getElem_cons_succ] at m0 m1
    have z0 := HD6.out.net.cell (k := 0) rfl; have z1 := HD6.out.net.cell (k := 1) rfl; simp only [List.getElem_toArray, List.getElem_cons_zero, List.getElem_cons_succ] at z0 z1
    clear HD5
    have HN4 : Hid (∀ x y, a4 = some x → a5 = some y → x.block ≠ y.block) := fun x y hx hy => by
      have q1 := (R4.out.lt x hx).2
      have q2 := (R6.out.lt y hy).1
      have := hB45.out
      omega
    have hB44 : Hid (B4 ≤ B5) := Nat.le_trans hB4.out hB45.out
    have SI1 := hiddenN (same_any a4 a6 MM n.arcs.length c4 c6 W6 HML.out hroom S6.out.at T6.out)
    clear PM RM R5 S5 hB5 m0 m1 z0 z1 R4 hB45 hB4
    go_upto_region 8 with (first
      | (go_at_call 20; (with_reducible refine SI1.out.mono ?_); rintro e V1 ⟨nq1, rfl, ev⟩; have q2 := drewB (Below.refl W6.heap.size W6) nq1; rw [← ev] at q2; have HD7 := hiddenN (HD6.out.below q2); have S7 := hiddenN (S6.out.later q2); have R7 := hiddenN (R6.out.later q2); have hB7 := hiddenN (Nat.le_trans hB6.out q2.size); have SI2 := hiddenN (same_any a5 a6 MM n.arcs.length c5 c6 V1 HML.out hroom R7.out.at (T6.out.below q2)); clear q2 ev SI1)
      | (go_at_call 20; (with_reducible refine SI2.out.mono ?_); rintro e V2 ⟨nq2, rfl, ev⟩; have q2 := drewB (Below.refl V1.heap.size V1) nq2; rw [← ev] at q2; have HD8 := hiddenN (HD7.out.below q2); have S8 := hiddenN (S7.out.later q2); have R8 := hiddenN (R7.out.later q2); have hB8 := hiddenN (Nat.le_trans hB7.out q2.size); clear q2 ev SI2))
    clear HD6 HD7 S6 S7 R6 R7 hB6 hB7 T6
    go_wp2_with (first
      | (go_at_call 15; (with_reducible refine (AW.out _).mono ?_); rintro e VV ⟨rfl, q2⟩; have HDA := hiddenN (HD8.out.below q2); have z0 := HDA.out.net.cell (k := 0) rfl; have z1 := HDA.out.net.cell (k := 1) rfl; simp only [List.getElem_toArray, List.getElem_cons_zero, List.getElem_cons_succ] at z0 z1; have m0 := HDA.out.box.cell (k := 0) rfl; have m1 := HDA.out.box.cell (k := 1) rfl; simp only [List.getElem_toArray, List.getElem_cons_zero, List.getElem_cons_succ] at m0 m1; have bA := hiddenN ((Below.refl VV.heap.size VV).alloc (Nat.le_refl _) (.cells #[.slice a4 n.arcs.length c4, .slice a5 n.arcs.length c5] 25)); have AP := hiddenN (apartV2 (S8.out.later q2) ((R8.out.later q2).mono hB44.out) HN4.out (Nat.le_trans hB8.out q2.size) HML.out hs); have KN0 := hiddenN (keptNet_any n g gc a c VV HDA.out.ldn (HA.out.below HDA.out.bel)); clear q2)
      | (go_at_call 14; (with_reducible refine AP.out.mono ?_); rintro e VP ⟨rfl, q2⟩; have HDP := hiddenN ((HDA.out.below bA.out).keep (q2.mono hQB.out)); have z0 := HDP.out.net.cell (k := 0) rfl; have z1 := HDP.out.net.cell (k := 1) rfl; simp only [List.getElem_toArray, List.getElem_cons_zero, List.getElem_cons_succ] at z0 z1; have m0 := HDP.out.box.cell (k := 0) rfl; have m1 := HDP.out.box.cell (k := 1) rfl; simp only [List.getElem_toArray, List.getElem_cons_zero, List.getElem_cons_succ] at m0 m1; have KN := hiddenN (keptNet_any n g gc a c VP HDP.out.ldn (HA.out.below HDP.out.bel)); clear q2 AP)
      | (go_at_call 16; (with_reducible refine KN.out.mono ?_); rintro e VK ⟨rfl, q2⟩; have HDK := hiddenN (HDP.out.below q2); have KP := hiddenN (kept_any gl a1 zs zs.length cap1 _ VK HDK.out.lst (H1.out.below HDK.out.bel)); clear q2)
      | (go_at_call 17; (with_reducible refine KP.out.mono ?_); rintro e VL ⟨m8, rfl, rfl⟩))
    go_ret
    exact ⟨by first | rfl | simp, drewB HDK.out.bel _⟩
  · have PN : Hid (∀ U x y cx cy, AtN U (some x) n.arcs → At U (some y) zs → Calls Try.prog 18 #[.agg #[.int .i64 n.nodes, .slice (some x) n.arcs.length cx], .slice (some y) zs.length cy] U fun e w' => e = .returned (.tuple #[.slice none 0 0, .int .i64 (codeV n zs)]) ∧ Below U.heap.size U w') := fun U x y cx cy q1 q2 => (most_anyV n (some x) cx U q1 (fun e => by cases e) (some y) cy zs q2 hzl hroom).mono fun e w' hh => by
      rcases hh with ⟨k1, -⟩ | ⟨-, e1, q⟩
      · exact absurd k1 hc
      · exact ⟨e1, q⟩
    have PM : Hid (∀ U x y cx cy, AtN U (some x) n.arcs → At U (some y) zs → Calls Try.prog 18 #[.agg #[.int .i64 n.nodes, .slice (some x) n.arcs.length cx], .slice (some y) zs.length cy] U fun e w' => e = .returned (.tuple #[.slice none 0 0, .int .i64 (codeV n zs)]) ∧ Below U.heap.size U w') := fun U x y cx cy q1 q2 => PN.out U x y cx cy q1 q2
    have RM : Hid (∀ U, Below w.heap.size w U → Calls Try.prog 19 #[.agg #[.int .i64 n.nodes, .slice a n.arcs.length c], .slice a1 zs.length cap1] U fun e w' => e = .returned (.tuple #[.slice none 0 0, .int .i64 (codeV n zs)]) ∧ Below U.heap.size U w') := fun U hb => (rmost_any n a c U (HA.out.below hb).lies hroom a1 cap1 zs (H1.out.below hb).lies hzl).mono fun e w' hh => by
      rcases hh with ⟨k1, -⟩ | ⟨-, e1, q2⟩
      · exact absurd k1 hc
      · exact ⟨e1, q2⟩
    have ec : (codeV n zs != codeV n zs) = false := by simp
    clear hc PN
    generalize codeV n zs = cd at *
    have LD : Hid (∀ U, Below w.heap.size w U → Calls Try.prog 10 #[.slice a1 zs.length cap1] U fun e w' => ∃ gl, e = .returned (.slice (some ⟨gl, 0, none⟩) zs.length (zs.length + 4)) ∧ Lend U.heap.size w' gl zs.length zs ∧ Below U.heap.size U w') := fun U hb => lent_any a1 zs zs.length cap1 U (H1.out.below hb)
    go_enter Try.func4, Try.ntmps4
    go_upto_region 1 with fail
    generalize w.alloc (.cells #[.int .i64 n.nodes, .slice a n.arcs.length c] 24) = W0 at *
    go_upto_region 2 with (go_at_call 9; (with_reducible refine (LN.out _ B0.out).mono ?_); rintro e W1 ⟨g, gc, rfl, q1, q2⟩; have E1 := hiddenN q1; have L1 := hiddenN (B0.out.trans (q2.mono B0.out.size)); have G1 := hiddenN (G0.out.below q2); have h01 := hiddenN q2.size; clear q1 q2 z0 z1)
    have bM := (Below.refl W1.heap.size W1).alloc (Nat.le_refl _) (.cells #[.int .i64 n.nodes, .slice (some ⟨g, 0, none⟩) n.arcs.length gc] 24)
    have XM := hiddenN (blkA_new 24 W1 #[.int .i64 n.nodes, .slice (some ⟨g, 0, none⟩) n.arcs.length gc])
    have E2 := hiddenN (E1.out.below bM)
    have L2 := hiddenN (L1.out.trans (bM.mono L1.out.size))
    have G2 := hiddenN (G1.out.below bM)
    have hsM := hiddenN bM.size
    generalize W1.alloc (.cells #[.int .i64 n.nodes, .slice (some ⟨g, 0, none⟩) n.arcs.length gc] 24) = W2 at *
    clear bM
    go_upto_region 3 with (go_at_call 10; (with_reducible refine (LD.out _ L2.out).mono ?_); rintro e W3 ⟨gl, rfl, q1, q2⟩; have D3 := hiddenN q1; have HD0 := hiddenN (show HdV w W3 n a c g gc gl W1.heap.size W3.heap.size zs from ⟨G2.out.below q2, XM.out.below q2, ⟨Nat.le_trans B0.out.size E1.out.low, (E2.out.below q2).lt, E2.out.cap, (E2.out.below q2).all⟩, ⟨Nat.le_trans L2.out.size q1.1, q1.2⟩, L2.out.trans (q2.mono L2.out.size), (G2.out.below q2).lt, (XM.out.below q2).lt, (E2.out.below q2).lt, q1.lt.2, Nat.le_refl _⟩); clear q1 q2)
    obtain ⟨mb, hmb⟩ : ∃ q, W1.heap.size = q := ⟨_, rfl⟩
    obtain ⟨Q, hQ⟩ : ∃ q, W3.heap.size = q := ⟨_, rfl⟩
    have HD3 := HD0
    rw [hQ] at HD3
    have HQ := hiddenN hQ
    clear LD LN G0 G1 E1 L1 h01 XM E2 L2 G2 hsM D3 HD0 hQ hmb
    have m0 := HD3.out.box.cell (k := 0) rfl; have m1 := HD3.out.box.cell (k := 1) rfl; simp only [List.getElem_toArray, List.getElem_cons_zero, List.getElem_cons_succ] at m0 m1
    have PM3 := hiddenN (PM.out W3 ⟨g, 0, none⟩ ⟨gl, 0, none⟩ gc (zs.length + 4) HD3.out.ldn.at HD3.out.lst.at)
    go_upto_region 4 with (go_at_call 18; (with_reducible refine (PM3.out).mono ?_); rintro e W4 ⟨rfl, q2⟩; have HD4 := hiddenN (HD3.out.below q2); clear q2 m0 m1)
    have m0 := HD4.out.box.cell (k := 0) rfl; have m1 := HD4.out.box.cell (k := 1) rfl; simp only [List.getElem_toArray, List.getElem_cons_zero, List.getElem_cons_succ] at m0 m1
    have z0 := HD4.out.net.cell (k := 0) rfl; have z1 := HD4.out.net.cell (k := 1) rfl; simp only [List.getElem_toArray, List.getElem_cons_zero, List.getElem_cons_succ] at z0 z1
    clear HD3
    have PM4 := hiddenN (PM.out W4 ⟨g, 0, none⟩ ⟨gl, 0, none⟩ gc (zs.length + 4) HD4.out.ldn.at HD4.out.lst.at)
    go_upto_region 5 with (go_at_call 18; (with_reducible refine (PM4.out).mono ?_); rintro e W5 ⟨rfl, q2⟩; have HD5 := hiddenN (HD4.out.below q2); clear q2 m0 m1 z0 z1 PM3)
    have m0 := HD5.out.box.cell (k := 0) rfl; have m1 := HD5.out.box.cell (k := 1) rfl; simp only [List.getElem_toArray, List.getElem_cons_zero, List.getElem_cons_succ] at m0 m1
    have z0 := HD5.out.net.cell (k := 0) rfl; have z1 := HD5.out.net.cell (k := 1) rfl; simp only [List.getElem_toArray, List.getElem_cons_zero, List.getElem_cons_succ] at z0 z1
    clear HD4
    go_upto_region 6 with (go_at_call 19; (with_reducible refine (RM.out _ HD5.out.bel).mono ?_); rintro e W6 ⟨rfl, q2⟩; have HD6 := hiddenN (HD5.out.below q2); clear q2 m0 m1 z0 z1 PM4)
    have m0 := HD6.out.box.cell (k := 0) rfl; have m1 := HD6.out.box.cell (k := 1) rfl; simp only [List.getElem_toArray, List.getElem_cons_zero, List.getElem_cons_succ] at m0 m1
    have z0 := HD6.out.net.cell (k := 0) rfl; have z1 := HD6.out.net.cell (k := 1) rfl; simp only [List.getElem_toArray, List.getElem_cons_zero, List.getElem_cons_succ] at z0 z1
    clear HD5
    have SI1 : Hid (∀ q, Calls Try.prog 20 #[.slice none 0 0, .slice none 0 0] q fun e w' => e = .returned (.bool true) ∧ ∃ m, w' = q.drewN m) := fun q => (same_any none none [] 0 0 0 q rfl (by decide) (.inl rfl) (.inl rfl)).mono fun e w' hh => by
      obtain ⟨m, e1, e2⟩ := hh
      exact ⟨e1, m, e2⟩
    clear PM RM m0 m1 z0 z1
    go_upto_region 8 with (first
      | (go_at_call 20; (with_reducible refine (SI1.out W6).mono ?_); rintro e V1 ⟨rfl, nq1, ev⟩; have q2 := drewB (Below.refl W6.heap.size W6) nq1; rw [← ev] at q2; have HD7 := hiddenN (HD6.out.below q2); clear q2 ev)
      | (go_at_call 20; (with_reducible refine (SI1.out V1).mono ?_); rintro e V2 ⟨rfl, nq2, ev⟩; have q2 := drewB (Below.refl V1.heap.size V1) nq2; rw [← ev] at q2; have HD8 := hiddenN (HD7.out.below q2); clear q2 ev))
    clear HD6 HD7
    go_wp2_with (first
      | (go_at_call 15; (with_reducible refine (AW.out _).mono ?_); rintro e VV ⟨rfl, q2⟩; have HDA := hiddenN (HD8.out.below q2); have z0 := HDA.out.net.cell (k := 0) rfl; have z1 := HDA.out.net.cell (k := 1) rfl; simp only [List.getElem_toArray, List.getElem_cons_zero, List.getElem_cons_succ] at z0 z1; have m0 := HDA.out.box.cell (k := 0) rfl; have m1 := HDA.out.box.cell (k := 1) rfl; simp only [List.getElem_toArray, List.getElem_cons_zero, List.getElem_cons_succ] at m0 m1; have bA := hiddenN ((Below.refl VV.heap.size VV).alloc (Nat.le_refl _) (.cells #[.slice none 0 0, .slice none 0 0] 25)); have AP := hiddenN (apartV2 (N := 0) (CapR.nil VV.heap.size VV) (CapR.nil VV.heap.size VV) (fun x y hx _ => by cases hx) (Nat.le_refl _) rfl (by decide)); have KN0 := hiddenN (keptNet_any n g gc a c VV HDA.out.ldn (HA.out.below HDA.out.bel)); clear q2)
      | (go_at_call 14; (with_reducible refine AP.out.mono ?_); rintro e VP ⟨rfl, q2⟩; have HDP := hiddenN ((HDA.out.below bA.out).keep (q2.mono HDA.out.low.2.2.2.2)); have z0 := HDP.out.net.cell (k := 0) rfl; have z1 := HDP.out.net.cell (k := 1) rfl; simp only [List.getElem_toArray, List.getElem_cons_zero, List.getElem_cons_succ] at z0 z1; have m0 := HDP.out.box.cell (k := 0) rfl; have m1 := HDP.out.box.cell (k := 1) rfl; simp only [List.getElem_toArray, List.getElem_cons_zero, List.getElem_cons_succ] at m0 m1; have KN := hiddenN (keptNet_any n g gc a c VP HDP.out.ldn (HA.out.below HDP.out.bel)); clear q2 AP)
      | (go_at_call 16; (with_reducible refine KN.out.mono ?_); rintro e VK ⟨rfl, q2⟩; have HDK := hiddenN (HDP.out.below q2); have KP := hiddenN (kept_any gl a1 zs zs.length cap1 _ VK HDK.out.lst (H1.out.below HDK.out.bel)); clear q2)
      | (go_at_call 17; (with_reducible refine KP.out.mono ?_); rintro e VL ⟨m8, rfl, rfl⟩))
    go_ret
    exact ⟨by first | rfl | simp, drewB HDK.out.bel _⟩
end Go.Proofs.Ytkgekladndkhkaa

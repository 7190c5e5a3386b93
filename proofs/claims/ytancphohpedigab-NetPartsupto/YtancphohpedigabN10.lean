/- Rows appended to a row of one's own; the walk of NetParts. (Written by tmpl/mkN10.py.) -/
import Derived.Test.YtancphohpedigabN9
import Derived.Test.YtancphohpedigabNQ
import Derived.Test.YtancphohpedigabNOpen
import Derived.Laws.AppendOwnNone
namespace Go.Proofs.Ytancphohpedigab
open Go.ChangeShapes Go.WideShapes Go.ChangeAt Go.RowKit

theorem wpList_appI {w : World} {ops : Array Oper} {rest : List Oper} {o : Oper} {a : Act} {Q : Exit → Act → World → Prop} (hgd : o.guard = none) (s x : Operand) (ho : o.op = .call { callee := .builtin .append, args := #[s, x], argTypes := #[25, 25] })
    (B : Nat) (d0 : Option Addr) (c0 : Nat) (zs : List Int) (hs : a.eval s = .slice d0 zs.length c0) (hown : CapR B w d0 c0 zs) (ad : Option Addr) (c : Nat) (ys : List Int) (hx : a.eval x = .slice ad ys.length c) (hna : ad = none → ys.length = 0 ∧ c = 0) (hat : At w ad ys) (hb : (zs.length + ys.length) * 8 ≤ 140737488355328) (hB : B ≤ w.heap.size) (m : Nat) (R : List Int) (hm : zs.length + ys.length = m) (hR : zs ++ ys = R)
    (h : ∀ d c' w', CapR B w' d c' R → Below B w w' → wpList Try.prog ops Q rest (a.put o.dst (.slice d m c')) w') : wpList Try.prog ops Q (o :: rest) a w := by
  subst hm
  subst hR
  obtain ⟨i0, hi, hz0, hz1, hz2⟩ := info_parts Try.info3
  cases ad with
  | none =>
    obtain ⟨h1, rfl⟩ := hna rfl
    have e : ys = [] := List.eq_nil_of_length_eq_zero h1
    subst e
    refine wpList_append_own_none hgd s x 25 ho B 3 i0 1 Try.underlying25 hi _ zs.length (zs.map (Value.int .i64)) hs hown hx ?_
    have := h d0 c0 w (by rw [List.append_nil]; exact hown) (Below.refl _ _)
    simpa using this
  | some ad =>
    refine wpList_append_own _ hgd s x 25 ho B 3 i0 (.int .i64 0) 1 8 Try.underlying25 hi hz0 hz1 hz2 rfl (by decide) _ zs.length (zs.map (Value.int .i64)) hs hown ad ys.length c (ys.map (Value.int .i64)) hx (by simp) (lies_new hat) (ints_oneCell _ _) (by unfold maxLen; omega) (by omega) hB ?_
    intro v' w1 hown1 hgrow _
    have hown' : w1.ownsRow B 3 1 v' (zs.length + ys.length) ((zs ++ ys).map (Value.int .i64)) := by simpa using hown1
    obtain ⟨a', cap', hv, -, -, -, -, -⟩ := owns_at (n := zs.length + ys.length) (zs := zs ++ ys) hown'
    rw [hv]
    refine h a' cap' w1 ?_ ((Below.refl _ _).grown hgrow hB (fun k hk => (hown.lt ⟨k, 0, none⟩ (by
      cases d0 with
      | none => cases hk
      | some y =>
        rcases hown.2 with ⟨e1, -⟩ | ⟨g, cap, cur, e1, -⟩
        · cases e1
        · cases e1; cases hk; rfl)).1))
    unfold CapR
    rw [List.length_append, ← hv]
    exact hown'
/-- New, of a net that came in, in a later world. -/
theorem new_yes (n : NN) (a : Option Addr) (c : Nat) (w : World) (h : ArgN w a c n) (hc : checkN n = 0) (U : World) (hb : Below w.heap.size w U) : Calls Try.prog 5 #[.agg #[.int .i64 n.nodes, .slice a n.arcs.length c]] U fun e w' => ∃ K E, e = .returned (.tuple #[.pointer (some ⟨K, 0, none⟩), .int .i64 0]) ∧ StE U.heap.size E w' K n (startT n) (List.replicate n.nodes.toNat 0) ∧ Below U.heap.size U w' := by
  refine (new_any n a c U (h.lies.below hb) (by have := h.room; omega) h.none).mono ?_
  intro e w' hh
  unfold NewE at hh
  rw [if_pos hc] at hh
  exact hh
theorem new_no (n : NN) (a : Option Addr) (c : Nat) (w : World) (h : ArgN w a c n) (hc : ¬ checkN n = 0) (U : World) (hb : Below w.heap.size w U) : Calls Try.prog 5 #[.agg #[.int .i64 n.nodes, .slice a n.arcs.length c]] U fun e w' => e = .returned (.tuple #[.pointer none, .int .i64 (checkN n)]) ∧ Below U.heap.size U w' := by
  refine (new_any n a c U (h.lies.below hb) (by have := h.room; omega) h.none).mono ?_
  intro e w' hh
  unfold NewE at hh
  rw [if_neg hc] at hh
  exact hh
/-- Rows of two answers are the same. -/
theorem sameN (U : World) (a1 a2 : Option Addr) (zs : List Int) (c1 c2 : Nat) (hl : zs.length ≤ 4611686018427387904) (h1 : At U a1 zs) (h2 : At U a2 zs) : Calls Try.prog 8 #[.slice a1 zs.length c1, .slice a2 zs.length c2] U fun e w' => e = .returned (.bool true) ∧ Below U.heap.size U w' :=
  (same_any a1 a2 zs zs.length c1 c2 U rfl hl h1 h2).mono fun e w' hh => by
    obtain ⟨n, h1, rfl⟩ := hh
    exact ⟨h1, drewB (Below.refl _ _) n⟩
theorem StE.mid {B E B' E' : Nat} {w w' : World} {K : Nat} {n : NN} {T F : List Int} (h : StE B E w K n T F) (hm : Mid B' E' w w') (hd : E ≤ B' ∨ E' ≤ B) : StE B E w' K n T F :=
  h.keep (fun k h1 h2 => hm.block k (Nat.lt_of_lt_of_le h2 h.low.2) (by omega)) hm.size
theorem StE.lens {B E : Nat} {w : World} {K : Nat} {n : NN} {T F : List Int} (h : StE B E w K n T F) : T.length ≤ 96 ∧ F.length ≤ 32 := by
  obtain ⟨aA, cA, H1, H2, D1, D2, E1, E2, aT, cT, gF, h⟩ := h
  have := h.lT; have := h.lF; have := h.sound.most; have := h.sound.nodes
  exact ⟨by omega, by omega⟩

set_option maxRecDepth 100000 in
set_option maxHeartbeats 16000000 in
theorem netParts_walk (n : NN) (a : Option Addr) (c : Nat) (a1 : Option Addr) (len1 cap1 : Nat) (xs : List Int) (a2 : Option Addr) (len2 cap2 : Nat) (ys : List Int) (w : World) (h : ArgN w a c n) (h1 : Arg w a1 len1 cap1 xs) (h2 : Arg w a2 len2 cap2 ys) (hlen : len1 + len2 ≤ 2097152) : Calls Try.prog 3 #[.agg #[.int .i64 n.nodes, .slice a n.arcs.length c], .slice a1 len1 cap1, .slice a2 len2 cap2] w fun e w' => e = .returned (.bool true) ∧ Below w.heap.size w w' := by
  have b0 := (Below.refl w.heap.size w).alloc (Nat.le_refl _) (.cells #[.int .i64 n.nodes, .slice a n.arcs.length c] 24)
  have G0 := hiddenN (blkA_new 24 w #[.int .i64 n.nodes, .slice a n.arcs.length c])
  have B0 := hiddenN b0
  have AW : Hid (∀ U, Calls Try.prog 6 #[] U fun e w' => e = .returned (.bool true) ∧ Below U.heap.size U w') := fun U => awakeN U
  have z0 := G0.out.cell (k := 0) rfl
  have z1 := G0.out.cell (k := 1) rfl
  simp only [List.getElem_toArray, List.getElem_cons_zero, List.getElem_cons_succ] at z0 z1
  clear b0
  obtain rfl := h1.size
  obtain rfl := h2.size
  by_cases hc0 : checkN n = 0
  · have NY : Hid (∀ U, Below w.heap.size w U → Calls Try.prog 5 #[.agg #[.int .i64 n.nodes, .slice a n.arcs.length c]] U fun e w' => ∃ K E, e = .returned (.tuple #[.pointer (some ⟨K, 0, none⟩), .int .i64 0]) ∧ StE U.heap.size E w' K n (startT n) (List.replicate n.nodes.toNat 0) ∧ Below U.heap.size U w') := fun U hb => new_yes n a c w h hc0 U hb
    have H1 := hiddenN h1
    have H2 := hiddenN h2
    clear h1 h2 h
    generalize startT n = T0 at *
    generalize List.replicate n.nodes.toNat (0 : Int) = F0 at *
    go_enter Try.func3, Try.ntmps3
    go_upto_region 1 with fail
    generalize w.alloc (.cells #[.int .i64 n.nodes, .slice a n.arcs.length c] 24) = W0 at *
    go_upto_region 2 with (go_at_call 5; (with_reducible refine (NY.out _ B0.out).mono ?_); rintro e W1 ⟨K1, E1, rfl, s1, b1⟩; have S1 := hiddenN s1; have L1 := hiddenN (B0.out.trans (b1.mono B0.out.size)); have G1 := hiddenN (G0.out.below b1); clear s1 b1 z0 z1)
    have z0 := G1.out.cell (k := 0) rfl
    have z1 := G1.out.cell (k := 1) rfl
    simp only [List.getElem_toArray, List.getElem_cons_zero, List.getElem_cons_succ] at z0 z1
    go_upto_region 8 with (go_at_call 5; (with_reducible refine (NY.out _ L1.out).mono ?_); rintro e W2 ⟨K2, E2, rfl, s2, b2⟩; have S2 := hiddenN s2; have S1' := hiddenN (S1.out.below b2); have L2 := hiddenN (L1.out.trans (b2.mono L1.out.size)); have X1 := hiddenN S1.out.low.2; have Y12 := hiddenN b2.size; clear s2 b2 z0 z1)
    have hw0 := B0.out.size
    have hw1 := L1.out.size
    have hw2 := L2.out.size
    have a1w := hiddenN (H1.out.below L2.out)
    have hc1 := hiddenN (CapR.nil W2.heap.size W2)
    go_upto_region 9 with (at_builtin; refine wpList_appI rfl _ _ rfl W2.heap.size none 0 [] rfl hc1.out a1 cap1 xs rfl H1.out.none a1w.out.lies (by simp; omega) (Nat.le_refl _) xs.length xs (by simp) rfl ?_; intro d3 c3 W3 hd3 b3; have D3 := hiddenN hd3; have BB3 := hiddenN b3; have L3 := hiddenN (L2.out.trans (b3.mono L2.out.size)); clear hd3 b3)
    have hw3 := BB3.out.size
    have a2w := hiddenN (H2.out.below L3.out)
    go_upto_region 10 with (at_builtin; refine wpList_appI rfl _ _ rfl W2.heap.size d3 c3 xs rfl D3.out a2 cap2 ys rfl H2.out.none a2w.out.lies (by omega) hw3 (xs.length + ys.length) (xs ++ ys) rfl rfl ?_; intro d4 c4 W4 hd4 b4; have D4 := hiddenN hd4; have BB4 := hiddenN (BB3.out.trans b4); have L4 := hiddenN (L3.out.trans (b4.mono L2.out.size)); clear hd4 b4)
    have hw4 := BB4.out.size
    have x1 := X1.out
    have y12 := Y12.out
    have y01 := S1.out.low.1
    obtain ⟨B1, hB1⟩ : ∃ B1, W0.heap.size = B1 := ⟨_, rfl⟩
    obtain ⟨B2, hB2⟩ : ∃ B2, W1.heap.size = B2 := ⟨_, rfl⟩
    rw [hB1] at S1'
    rw [hB2] at S2 x1
    have hBB : w.heap.size ≤ B1 := by rw [← hB1]; exact hw0
    have hBC : B1 ≤ B2 := by have := S1.out.low.1; omega
    have F1 := hiddenN (fires_any W4 K1 n T0 F0 (S1'.out.below BB4.out) d4 c4 (xs ++ ys) D4.out.at (by rw [List.length_append]; omega) (fun x hx _ => .inr (by have := (D4.out.lt x hx).1; omega)))
    have S2' := hiddenN (S2.out.below BB4.out)
    have FA := hiddenN (fires_append n xs ys T0 F0)
    obtain ⟨r, hr⟩ : ∃ r, firesN n (xs ++ ys) T0 F0 = r := ⟨_, rfl⟩
    rw [hr, List.length_append] at F1
    rw [hr] at FA
    have hr1 : r.1 ≤ xs.length + ys.length := by rw [← hr, ← List.length_append]; exact fires_le _ _ _ _
    have h54 : B1 ≤ W4.heap.size := by omega
    clear hr S1 S1' S2 D3 D4 BB3 BB4 X1 a1w a2w G0 G1 NY B0 hc1 L1 L2 L3
    go_upto_region 11 with (go_at_call 7; (with_reducible refine F1.out.mono ?_); rintro e W5 ⟨rfl, s5, m5⟩; have S5 := hiddenN s5; have R5 := hiddenN (S2'.out.mid m5 (.inr x1)); have L5 := hiddenN (L4.out.trans ((m5.below h54).mono hBB)); clear s5 m5)
    have F2 := hiddenN (fires_any W5 K2 n T0 F0 R5.out a1 cap1 xs (H1.out.lies.below L5.out) (by omega) (fun x hx hne => .inl (by have := at_lt H1.out.lies hne hx; omega)))
    obtain ⟨q, hq⟩ : ∃ q, firesN n xs T0 F0 = q := ⟨_, rfl⟩
    rw [hq] at F2 FA
    have hq1 : q.1 ≤ xs.length := by rw [← hq]; exact fires_le _ _ _ _
    have HQ := hiddenN hq
    have hl5 : B2 ≤ W5.heap.size := R5.out.low.1
    clear hq F1 S2'
    go_upto_region 13 with (go_at_call 7; (with_reducible refine F2.out.mono ?_); rintro e W6 ⟨rfl, s6, m6⟩; have S6 := hiddenN s6; have R6 := hiddenN (S5.out.mid m6 (.inl x1)); have L6 := hiddenN (L5.out.trans ((m6.below hl5).mono (by omega))); clear s6 m6)
    clear F2 S5 R5
    by_cases hqx : q.1 = xs.length
    · rw [if_pos hqx] at FA
      have F3 := hiddenN (fires_any W6 K2 n q.2.1 q.2.2 S6.out a2 cap2 ys (H2.out.lies.below L6.out) (by omega) (fun x hx hne => .inl (by have := at_lt H2.out.lies hne hx; omega)))
      obtain ⟨p, hp⟩ : ∃ p, firesN n ys q.2.1 q.2.2 = p := ⟨_, rfl⟩
      rw [hp] at F3 FA
      have hp1 : p.1 ≤ ys.length := by rw [← hp]; exact fires_le _ _ _ _
      have hl6 : B2 ≤ W6.heap.size := S6.out.low.1
      have er : r.1 = q.1 + p.1 := by rw [FA.out]
      have er2 : r.2 = p.2 := by rw [FA.out]
      rw [er2] at R6
      obtain ⟨Tz, hTz⟩ : ∃ T, p.2.1 = T := ⟨_, rfl⟩
      obtain ⟨Fz, hFz⟩ : ∃ F, p.2.2 = F := ⟨_, rfl⟩
      rw [hTz, hFz] at F3 R6
      generalize q.1 = qn at *
      generalize p.1 = pn at *
      generalize r.1 = rn at *
      have hqi : (qn : Int) = (xs.length : Int) := by omega
      have hri : (rn : Int) = (qn : Int) + (pn : Int) := by omega
      have hwr : IntKind.i64.wrap ((qn : Int) + (pn : Int)) = (qn : Int) + (pn : Int) := by rw [IntKind.wrap_i64]; omega
      clear hp FA er er2 hTz hFz HQ
      go_upto_region 15 with (go_at_call 7; (with_reducible refine F3.out.mono ?_); rintro e W7 ⟨rfl, s7, m7⟩; have S7 := hiddenN s7; have R7 := hiddenN (R6.out.mid m7 (.inl x1)); have L7 := hiddenN (L6.out.trans ((m7.below hl6).mono (by omega))); clear s7 m7)
      clear F3 S6 R6
      have hTl := S7.out.lens
      have CS := hiddenN (counts_any W7 K1 n Tz Fz R7.out)
      go_wp2_with (first
        | (go_at_call 9; (with_reducible refine CS.out.mono ?_); rintro e W8 ⟨a8, c8, rfl, h8, b8⟩; have A8 := hiddenN h8.at; have S8 := hiddenN (S7.out.below b8); have R8 := hiddenN (R7.out.below b8); have L8 := hiddenN (L7.out.trans (b8.mono L7.out.size)); clear h8 b8 S7 R7 CS; have CT := hiddenN (counts_any _ K2 n Tz Fz S8.out))
        | (go_at_call 9; (with_reducible refine CT.out.mono ?_); rintro e W9 ⟨a9, c9, rfl, h9, b9⟩; have A9 := hiddenN h9.at; have A8' := hiddenN (A8.out.below b9); have S9 := hiddenN (S8.out.below b9); have R9 := hiddenN (R8.out.below b9); have LL9 := hiddenN (L8.out.trans (b9.mono L8.out.size)); clear h9 b9 S8 R8 CT A8; have SM := hiddenN (sameN _ a8 a9 Tz c8 c9 (by omega) A8'.out A9.out))
        | (go_at_call 8; (with_reducible refine SM.out.mono ?_); rintro e W10 ⟨rfl, b10⟩; have S10 := hiddenN (S9.out.below b10); have R10 := hiddenN (R9.out.below b10); have L10 := hiddenN (LL9.out.trans (b10.mono LL9.out.size)); clear b10 S9 R9 SM A9 A8'; have DS := hiddenN (fired_any _ K1 n Tz Fz R10.out))
        | (go_at_call 10; (with_reducible refine DS.out.mono ?_); rintro e W11 ⟨a11, c11, rfl, h11, b11⟩; have A11 := hiddenN h11.at; have S11 := hiddenN (S10.out.below b11); have L11 := hiddenN (L10.out.trans (b11.mono L10.out.size)); clear h11 b11 S10 R10 DS; have DT := hiddenN (fired_any _ K2 n Tz Fz S11.out))
        | (go_at_call 10; (with_reducible refine DT.out.mono ?_); rintro e W12 ⟨a12, c12, rfl, h12, b12⟩; have A12 := hiddenN h12.at; have A11' := hiddenN (A11.out.below b12); have L12 := hiddenN (L11.out.trans (b12.mono L11.out.size)); clear h12 b12 S11 DT A11; have SN := hiddenN (sameN _ a11 a12 Fz c11 c12 (by omega) A11'.out A12.out))
        | (go_at_call 8; (with_reducible refine SN.out.mono ?_); rintro e W13 ⟨rfl, b13⟩; have LZ := hiddenN (L12.out.trans (b13.mono L12.out.size)); clear b13 SN A12 A11')
        | (go_at_call 6; (with_reducible refine (AW.out _).mono ?_); rintro e w9 ⟨rfl, b9⟩; have L9 := hiddenN (LZ.out.trans (b9.mono LZ.out.size)); clear b9))
      go_ret
      exact ⟨by first | rfl | simp, L9.out⟩
    · rw [if_neg hqx] at FA
      have er2 : r.2 = q.2 := by rw [FA.out]
      have er : r.1 = q.1 := by rw [FA.out]
      rw [er2] at R6
      obtain ⟨Tz, hTz⟩ : ∃ T, q.2.1 = T := ⟨_, rfl⟩
      obtain ⟨Fz, hFz⟩ : ∃ F, q.2.2 = F := ⟨_, rfl⟩
      rw [hTz, hFz] at S6 R6
      have S7 := S6
      have R7 := R6
      have L7 := L6
      generalize q.1 = qn at *
      generalize r.1 = rn at *
      have hqi : ¬ (qn : Int) = (xs.length : Int) := by omega
      have hqb : ((qn : Int) == (xs.length : Int)) = false := by rw [beq_eq_false_iff_ne]; exact hqi
      have hri : (rn : Int) = (qn : Int) := by omega
      have hwr : IntKind.i64.wrap (qn : Int) = (qn : Int) := by rw [IntKind.wrap_i64]; omega
      clear FA er er2 hTz hFz HQ S6 R6
      have hTl := S7.out.lens
      have CS := hiddenN (counts_any W6 K1 n Tz Fz R7.out)
      go_wp2_with (first
        | (go_at_call 9; (with_reducible refine CS.out.mono ?_); rintro e W8 ⟨a8, c8, rfl, h8, b8⟩; have A8 := hiddenN h8.at; have S8 := hiddenN (S7.out.below b8); have R8 := hiddenN (R7.out.below b8); have L8 := hiddenN (L7.out.trans (b8.mono L7.out.size)); clear h8 b8 S7 R7 CS; have CT := hiddenN (counts_any _ K2 n Tz Fz S8.out))
        | (go_at_call 9; (with_reducible refine CT.out.mono ?_); rintro e W9 ⟨a9, c9, rfl, h9, b9⟩; have A9 := hiddenN h9.at; have A8' := hiddenN (A8.out.below b9); have S9 := hiddenN (S8.out.below b9); have R9 := hiddenN (R8.out.below b9); have LL9 := hiddenN (L8.out.trans (b9.mono L8.out.size)); clear h9 b9 S8 R8 CT A8; have SM := hiddenN (sameN _ a8 a9 Tz c8 c9 (by omega) A8'.out A9.out))
        | (go_at_call 8; (with_reducible refine SM.out.mono ?_); rintro e W10 ⟨rfl, b10⟩; have S10 := hiddenN (S9.out.below b10); have R10 := hiddenN (R9.out.below b10); have L10 := hiddenN (LL9.out.trans (b10.mono LL9.out.size)); clear b10 S9 R9 SM A9 A8'; have DS := hiddenN (fired_any _ K1 n Tz Fz R10.out))
        | (go_at_call 10; (with_reducible refine DS.out.mono ?_); rintro e W11 ⟨a11, c11, rfl, h11, b11⟩; have A11 := hiddenN h11.at; have S11 := hiddenN (S10.out.below b11); have L11 := hiddenN (L10.out.trans (b11.mono L10.out.size)); clear h11 b11 S10 R10 DS; have DT := hiddenN (fired_any _ K2 n Tz Fz S11.out))
        | (go_at_call 10; (with_reducible refine DT.out.mono ?_); rintro e W12 ⟨a12, c12, rfl, h12, b12⟩; have A12 := hiddenN h12.at; have A11' := hiddenN (A11.out.below b12); have L12 := hiddenN (L11.out.trans (b12.mono L11.out.size)); clear h12 b12 S11 DT A11; have SN := hiddenN (sameN _ a11 a12 Fz c11 c12 (by omega) A11'.out A12.out))
        | (go_at_call 8; (with_reducible refine SN.out.mono ?_); rintro e W13 ⟨rfl, b13⟩; have LZ := hiddenN (L12.out.trans (b13.mono L12.out.size)); clear b13 SN A12 A11')
        | (go_at_call 6; (with_reducible refine (AW.out _).mono ?_); rintro e w9 ⟨rfl, b9⟩; have L9 := hiddenN (LZ.out.trans (b9.mono LZ.out.size)); clear b9))
      go_ret
      exact ⟨by first | rfl | simp, L9.out⟩
  · have NO : Hid (∀ U, Below w.heap.size w U → Calls Try.prog 5 #[.agg #[.int .i64 n.nodes, .slice a n.arcs.length c]] U fun e w' => e = .returned (.tuple #[.pointer none, .int .i64 (checkN n)]) ∧ Below U.heap.size U w') := fun U hb => new_no n a c w h hc0 U hb
    generalize checkN n = cd at *
    clear h1 h2 h
    go_enter Try.func3, Try.ntmps3
    go_upto_region 1 with fail
    generalize w.alloc (.cells #[.int .i64 n.nodes, .slice a n.arcs.length c] 24) = W0 at *
    go_upto_region 2 with (go_at_call 5; (with_reducible refine (NO.out _ B0.out).mono ?_); rintro e W1 ⟨rfl, b1⟩; have L1 := hiddenN (B0.out.trans (b1.mono B0.out.size)); have G1 := hiddenN (G0.out.below b1); clear b1 z0 z1)
    have z0 := G1.out.cell (k := 0) rfl
    have z1 := G1.out.cell (k := 1) rfl
    simp only [List.getElem_toArray, List.getElem_cons_zero, List.getElem_cons_succ] at z0 z1
    go_wp2_with (first | (go_at_call 5; (with_reducible refine (NO.out _ L1.out).mono ?_); rintro e W2 ⟨rfl, b2⟩; have LZ := hiddenN (L1.out.trans (b2.mono L1.out.size)); clear b2) | (go_at_call 6; (with_reducible refine (AW.out _).mono ?_); rintro e w9 ⟨rfl, b9⟩; have L9 := hiddenN (LZ.out.trans (b9.mono LZ.out.size)); clear b9))
    go_ret
    exact ⟨by first | rfl | simp, L9.out⟩
end Go.Proofs.Ytancphohpedigab

/- The walk through the statement ActorsWeaves. -/
import Derived.Test.YtoenbiigamegoaaActD
import Derived.Test.YtoenbiigamegoaaActB4
import Derived.Test.YtoenbiigamegoaaActB5
namespace Go.Proofs.Ytoenbiigamegoaa
open Go.ChangeShapes Go.WideShapes Go.ChangeAt Go.RowKit

theorem inR_two {x y : Int} (hx : -9223372036854775808 ≤ x ∧ x ≤ 9223372036854775807) (hy : -9223372036854775808 ≤ y ∧ y ≤ 9223372036854775807) : InR [x, y] := fun k => by
  match k with
  | 0 => exact hx
  | 1 => exact hy
  | k + 2 => rw [nth_none (by simp)]; decide
theorem new_two (t : Nat) (x y : Int) (V : World) (ht : t ≤ 255) (hx : -9223372036854775808 ≤ x ∧ x ≤ 9223372036854775807) (hy : -9223372036854775808 ≤ y ∧ y ≤ 9223372036854775807) : Calls Try.prog 8 #[.int .u8 (t : Int), .slice (some ⟨V.heap.size, 0, none⟩) 2 2] (V.alloc (.cells #[.int .i64 x, .int .i64 y] 3)) (NewEnd V t [x, y]) :=
  (new_any t _ [x, y] 2 2 _ ht rfl (inR_two hx hy) (fun e => by cases e) (at2n rfl)).mono fun _ _ h => new_later h ((Below.refl _ _).alloc (Nat.le_refl _) _)
theorem woven_yes {n m : Int} (h : (1 ≤ n ∧ n ≤ 16) ∧ (1 ≤ m ∧ m ≤ 64) ∧ n * m ≤ 64) : wovenB n m = true := by
  unfold wovenB wB
  rw [decide_eq_true h.1.1, decide_eq_true h.1.2, decide_eq_true h.2.1.1, decide_eq_true h.2.1.2, decide_eq_true h.2.2]; rfl
theorem woven_no {n m : Int} (h : ¬ ((1 ≤ n ∧ n ≤ 16) ∧ (1 ≤ m ∧ m ≤ 64) ∧ n * m ≤ 64)) : ¬ wovenB n m = true := by
  intro h2
  unfold wovenB at h2
  rw [Bool.and_eq_true, Bool.and_eq_true, decide_eq_true_iff] at h2
  exact h ⟨wB_bound h2.1, wB_bound h2.2.1, h2.2.2⟩
theorem of_two_yes {t : Nat} {x y : Int} (ht : 1 ≤ t ∧ t ≤ 11) (hk : okS t [x, y] = (decide (([x, y] : List Int).length = 2) && wovenB (nth [x, y] 0) (nth [x, y] 1))) (h : (1 ≤ x ∧ x ≤ 16) ∧ (1 ≤ y ∧ y ≤ 64) ∧ x * y ≤ 64) : (ofS t [x, y]).2.2 = 0 := by
  have h1 : okS t [x, y] = true := by
    rw [hk]; show (decide (2 = 2) && wovenB x y) = true
    rw [woven_yes h]; rfl
  unfold ofS
  rw [if_pos ht, if_pos h1]
theorem of_two_no {t : Nat} {x y : Int} (ht : 1 ≤ t ∧ t ≤ 11) (hk : okS t [x, y] = (decide (([x, y] : List Int).length = 2) && wovenB (nth [x, y] 0) (nth [x, y] 1))) (h : ¬ ((1 ≤ x ∧ x ≤ 16) ∧ (1 ≤ y ∧ y ≤ 64) ∧ x * y ≤ 64)) : (ofS t [x, y]).2.2 = 61 := by
  have h1 : ¬ okS t [x, y] = true := by
    rw [hk]; show ¬ (decide (2 = 2) && wovenB x y) = true
    intro h2
    rw [Bool.and_eq_true] at h2
    exact woven_no h h2.2
  unfold ofS
  rw [if_pos ht, if_neg h1]
/-- A firing that gives these rows. -/
def ManyV (F : Nat → Prop) (V : World) (B K t : Nat) (zs ks : List Int) (m : Nat) (O : List (List Int)) (e : Ending) (w' : World) : Prop :=
  ∃ x c A C F', e = .returned (.tuple #[.slice x O.length c, .int .i64 0]) ∧ OutT V.heap.size w' A C x O ∧ Bod F' w' B K t zs ks m ∧ (∀ k, F' k → F k ∨ V.heap.size ≤ k) ∧ But K V w'
theorem manyV_of {F : Nat → Prop} {V W : World} {B K t : Nat} {zs ks ks' : List Int} {n : Nat} {I O : List (List Int)} {e : Ending} {w' : World} (h : FireEnd F W B K t zs ks n I e w') (hr : fireS t zs ks I = (0, O, ks')) (hV : Below V.heap.size V W) : ManyV F V B K t zs ks' (n + 1) O e w' := by
  unfold FireEnd at h
  rw [hr] at h
  obtain ⟨x, c, A, C, F', he, hO, hB, hF, hb⟩ := h
  refine ⟨x, c, A, C, F', he, hO.mono hV.size, hB, fun k hk => ?_, (But.of_below hV).trans hb⟩
  rcases hF k hk with h | h
  · exact .inl h
  · exact .inr (Nat.le_trans hV.size h.1)
theorem fire_part {n m : Int} {N M : Nat} (hN : n = (N : Int)) (hM : m = (M : Int)) {L : List Int} (hL : L.length = N * M) : fireS 5 [n, m] [] [L] = (0, partS N M L, []) := by
  have h : takesS 5 [n, m] [L] = true := by
    refine decide_eq_true ?_
    show [(L.length : Int)] = [n * m]
    rw [hL, hN, hM, Int.natCast_mul]
  unfold fireS
  rw [if_pos h]
  subst hN hM
  rfl
theorem fire_weave {n m : Int} {N M : Nat} (hN : n = (N : Int)) (hM : m = (M : Int)) {L : List Int} (hL : L.length = N * M) : fireS 4 [n, m] [] (partS N M L) = (0, [L], []) := by
  have h : takesS 4 [n, m] (partS N M L) = true := by
    refine decide_eq_true ?_
    subst hN hM
    show (partS N M L).map (fun l => (l.length : Int)) = List.replicate N (M : Int)
    refine list_nth (by simp [part_len]) fun k hk => ?_
    have hk' : k < N := by simpa [part_len] using hk
    rw [map_nth (by rw [part_len]; exact hk'), nth_rep hk', part_part hk']
  unfold fireS
  rw [if_pos h]
  subst hN hM
  show (0, [weaveS N M (partS N M L)], []) = _
  rw [weave_part hL]
theorem inR_part {N M : Nat} {L : List Int} (h : InR L) : ∀ k, InR (nthL (partS N M L) k) := fun k j => by
  by_cases hk : k < N
  · rw [part_nth hk]
    by_cases hj : j < M
    · rw [nth_map hj]; exact h _
    · rw [nth_none (by simp; omega)]; decide
  · have e : nthL (partS N M L) k = [] := by unfold nthL; rw [List.getD_eq_getElem?_getD, List.getElem?_eq_none (by rw [part_len]; omega)]; rfl
    rw [e]; exact inR0 j
theorem CapR.put {base : Nat} {w : World} {g cap : Nat} {zs : List Int} (h : CapR base w (some ⟨g, 0, none⟩) cap zs) (k : Nat) (x : Int) : CapR base (w.setCell ⟨g, k, none⟩ (.int .i64 x)) (some ⟨g, 0, none⟩) cap (zs.set k x) := by
  have h1 := (World.ownsRow.stored h k (.int .i64 x)).1
  unfold CapR
  rw [List.length_set, List.map_set]
  exact h1
theorem inR_set {zs : List Int} {k : Nat} {x : Int} (h : InR zs) (hx : -9223372036854775808 ≤ x ∧ x ≤ 9223372036854775807) : InR (zs.set k x) := fun j => by
  by_cases e : k = j
  · subst e
    by_cases hk : k < zs.length
    · rw [nth_set_eq hk]; exact hx
    · rw [nth_none (by simp; omega)]; decide
  · rw [nth_set_ne e]; exact h j
theorem OutT.but {B K : Nat} {w w' : World} {A : Nat → Option Addr} {C : Nat → Nat} {x : Option Addr} {O : List (List Int)} (h : OutT B w A C x O) (hb : But K w w') (hK : K < B) : OutT B w' A C x O := h.keep (fun k h1 h2 => hb.block k h2 (by omega)) hb.size
theorem CapR.but {B K : Nat} {w w' : World} {a : Option Addr} {cap : Nat} {zs : List Int} (h : CapR B w a cap zs) (hb : But K w w') (hK : K < B) : CapR B w' a cap zs := h.keep fun x hx => hb.block _ (h.lt x hx).2 (by have := (h.lt x hx).1; omega)
set_option maxRecDepth 100000 in
set_option maxHeartbeats 8000000 in
theorem weaves_good (N M Q : Nat) (a : Option Addr) (len cap : Nat) (xs : List Int) (w : World) (hb : (1 ≤ (N : Int) ∧ (N : Int) ≤ 16) ∧ (1 ≤ (M : Int) ∧ (M : Int) ≤ 64) ∧ (N : Int) * (M : Int) ≤ 64) (hQ : N * M = Q) (hA : Arg w a len cap xs) : Calls Try.prog 6 #[.int .i64 (N : Int), .int .i64 (M : Int), .slice a len cap] w fun e w' => e = .returned (.bool true) ∧ Below w.heap.size w w' := by
  have hn : -9223372036854775808 ≤ (N : Int) ∧ (N : Int) ≤ 9223372036854775807 := by omega
  have hm : -9223372036854775808 ≤ (M : Int) ∧ (M : Int) ≤ 9223372036854775807 := by omega
  have hQI : (N : Int) * (M : Int) = (Q : Int) := by rw [← hQ, Int.natCast_mul]
  have hQb : 1 ≤ Q ∧ Q ≤ 64 := by
    have h1 := mul_bound hb.1 hb.2.1
    have h2 := hb.2.2
    rw [hQI] at h1 h2
    omega
  have N4 : Hid (Calls Try.prog 8 #[.int .u8 4, .slice (some ⟨w.heap.size, 0, none⟩) 2 2] (w.alloc (.cells #[.int .i64 (N : Int), .int .i64 (M : Int)] 3)) (Fresh w 4 [(N : Int), (M : Int)] [])) := (new_two 4 _ _ w (by decide) hn hm).mono fun _ _ h => fresh_of h (of_two_yes (by decide) rfl hb) rfl
  have N5 : Hid (∀ V, Calls Try.prog 8 #[.int .u8 5, .slice (some ⟨V.heap.size, 0, none⟩) 2 2] (V.alloc (.cells #[.int .i64 (N : Int), .int .i64 (M : Int)] 3)) (Fresh V 5 [(N : Int), (M : Int)] [])) := fun V => (new_two 5 _ _ V (by decide) hn hm).mono fun _ _ h => fresh_of h (of_two_yes (by decide) rfl hb) rfl
  have F5 : Hid (∀ F V B K k r c L, Bod F V B K 5 [(N : Int), (M : Int)] [] k → At V r L → InR L → L.length = Q → k < 4611686018427387904 → Calls Try.prog 15 #[.pointer (some ⟨B, 0, none⟩), .slice (some ⟨V.heap.size, 0, none⟩) 1 1] (V.alloc (.cells #[.slice r Q c] 22)) (ManyV F V B K 5 [(N : Int), (M : Int)] [] (k + 1) (partS N M L))) := fun F V B K k r c L h hr hi hl hk => by
    have hb2 := (Below.refl V.heap.size V).alloc (Nat.le_refl _) (.cells #[.slice r Q c] 22)
    have h1 := arg_tab V r c L hr hi
    rw [hl] at h1
    exact (bfire_5 F _ B K _ [] k _ 1 1 [L] (h.below hb2) h1 hk).mono fun _ _ h => manyV_of h (fire_part rfl rfl (by omega)) hb2
  have F4 : Hid (∀ F V B K r c L, Bod F V B K 4 [(N : Int), (M : Int)] [] 0 → AtL V r (partS N M L) → InR L → L.length = Q → Calls Try.prog 15 #[.pointer (some ⟨B, 0, none⟩), .slice r N c] V (OneR F V B K 4 [(N : Int), (M : Int)] [] 1 L)) := fun F V B K r c L h hr hi hl =>
    (bfire_4 F V B K _ [] 0 r N c (partS N M L) h ⟨part_len _ _ _, hr, inR_part hi⟩ (by decide)).mono fun _ _ h => one_of h (fire_weave rfl rfl (by omega)) (Below.refl _ _)
  have AW : Hid (∀ V, Calls Try.prog 11 #[] V fun e w' => e = .returned (.bool true) ∧ Below V.heap.size V w') := fun V => awake7 V
  have SM : Hid (∀ a b c1 c2 L W, L.length = Q → At W a L → At W b L → Calls Try.prog 19 #[.slice a Q c1, .slice b Q c2] W (fun e w' => e = .returned (.bool true) ∧ Below W.heap.size W w')) := fun a b c1 c2 L W hl h1 h2 => by rw [← hl]; exact same6 L a b c1 c2 W (by omega) h1 h2
  have SQ : Hid (∀ a b c1 c2 L W, L.length = M → At W a L → At W b L → Calls Try.prog 19 #[.slice a M c1, .slice b M c2] W (fun e w' => e = .returned (.bool true) ∧ ∃ k, w' = W.drewN k)) := fun a b c1 c2 L W hl h1 h2 => (same_any a b L M c1 c2 W hl (by omega) h1 h2).mono fun _ _ ⟨n, he, hw⟩ => ⟨he, n, hw⟩
  have hr := hA.reach
  have HA := hidden6 hA
  have g1 := hb.1
  have g2 := hb.2.1
  have g3 : (Q : Int) ≤ 64 := by omega
  have g4 : IntKind.i64.wrap (Q : Int) = (Q : Int) := by rw [IntKind.wrap_i64]; omega
  have hM1 : 1 ≤ M ∧ M ≤ 64 := by omega
  have hN1 : 1 ≤ N ∧ N ≤ 16 := by omega
  have q1 : ((N : Int) != (N : Int)) = false := by simp
  have q2 : ((M : Int) != (M : Int)) = false := by simp
  obtain ⟨i0, hi, hz0, hz1, hz2⟩ := info_parts Try.info3
  have HQ := hidden6 hQ
  clear hA hn hm hb hQ
  obtain ⟨g11, g12⟩ := g1
  obtain ⟨g21, g22⟩ := g2
  go_enter Try.func6, Try.ntmps6
  go_wp2_with (first
    | (at_make; refine wpList_make_full _ rfl _ _ 22 rfl w2.heap.size 3 i0 (.int .i64 0) 1 Try.underlying22 hi hz0 hz1 _ _ _ _ Q rfl rfl rfl rfl (by rw [hz2]; omega) (by unfold maxLen; omega) (Nat.le_refl _) ?_; intro w0 hown0 hgrow0; have B0 := hidden6 ((Below.refl w2.heap.size w2).grown hgrow0 (Nat.le_refl _) (fun k h => by cases h)); have C0 := hidden6 (made_zero hown0); clear hown0 hgrow0)
    | (go_at_call 8; (with_reducible refine (N5.out w1).mono ?_); rintro e w2 ⟨B2, K2, G, rfl, h2, hG, b2⟩; have D2 := hidden6 (duo_start h1 hF h2 hG b2); have BB2 := hidden6 (b1.trans (b2.mono b1.size)))
    | (go_at_call 8; (with_reducible refine N4.out.mono ?_); rintro e w1 ⟨B1, K1, F, rfl, h1, hF, b1⟩))
  have L1 : K1 < w2.heap.size := D2.out.one.kin.mem.2 K1 D2.out.one.kin.mem.1
  have L2 : K2 < w2.heap.size := D2.out.two.kin.mem.2 K2 D2.out.two.kin.mem.1
  clear h1 hF b1 h2 hG b2 N4 N5
  go_loopg [12] Q (fun gk v wr => ∃ (k : Nat) (Z : List Int), k ≤ Q ∧ k ≤ len ∧ gk = Q - k ∧ v = .int .i64 (k : Int) ∧ Z.length = Q ∧ InR Z ∧ CapR w2.heap.size wr (some ⟨w2.heap.size, 0, none⟩) Q Z ∧ Below w2.heap.size w2 wr)
  case atStart => exact ⟨0, List.replicate Q 0, Nat.zero_le _, Nat.zero_le _, rfl, rfl, by simp, (fun k => by
      by_cases h : k < Q
      · rw [nth_rep h]; decide
      · rw [nth_none (by simp; omega)]; decide), C0.out, B0.out⟩
  case round =>
    clear C0 B0
    obtain ⟨k, Z, hk, hk2, rfl, rfl, hZl, hZi, hC, hB⟩ := hrel
    have HC := hidden6 hC
    have HB := hidden6 hB
    have HZ := hidden6 hZi
    clear hC hB hZi
    by_cases hlt : k < Q ∧ k < len
    · obtain ⟨hlt, hlt2⟩ := hlt
      have hki : (k : Int) < (Q : Int) := by omega
      have hkj : (k : Int) < (len : Int) := by omega
      rcases HA.out.lies with h0 | ⟨b, off, rfl, hc⟩
      · have := HA.out.size; rw [h0] at this; simp at this; omega
      have hx := HA.out.fits k
      have cx := cell_keep6 HB.out (cell_keep6 BB2.out (hc k (by have := HA.out.size; omega)))
      have cr := HC.out.nthCell (k := k) (by omega)
      have fr := HC.out.fz k
      clear hc
      generalize nth xs k = x at *
      have HC2 := hidden6 (HC.out.put k x)
      have HB2 := hidden6 (HB.out.setCell (p := ⟨w2.heap.size, k, none⟩) (Nat.le_refl _) (.int .i64 x))
      have HZ2 := hidden6 (inR_set (k := k) HZ.out hx)
      generalize nth Z k = old at *
      go_wp2
      go_roundg (Q - (k + 1))
      case measure => omega
      case rel => exact ⟨k + 1, _, by omega, by omega, rfl, by go_num, by simpa using hZl, HZ2.out, HC2.out, HB2.out⟩
    · have D3 := hidden6 (D2.out.below HB.out)
      have BW := hidden6 (BB2.out.trans (HB.out.mono BB2.out.size))
      have LW := HB.out.size
      have hst : ∀ {P : Prop}, (k < Q → ¬ (k : Int) < (len : Int) → P) → (¬ (k : Int) < (Q : Int) → P) → P := fun f1 f2 => by
        by_cases h : k < Q
        · exact f1 h (by omega)
        · exact f2 (by omega)
      have U1 := hidden6 (F5.out G wr B2 K2 0 (some ⟨w2.heap.size, 0, none⟩) Q Z D3.out.two HC.out.at HZ.out hZl (by decide))
      have main : ∀ (_ : k < Q → ¬ (k : Int) < (len : Int)), True := fun _ => trivial
      clear main
      have tail : (k < Q ∧ ¬ (k : Int) < (len : Int)) ∨ ¬ (k : Int) < (Q : Int) := by
        by_cases h : k < Q
        · exact .inl ⟨h, by omega⟩
        · exact .inr (by omega)
      clear hst
      rcases tail with ⟨t1, t2⟩ | t1
      · have t3 : (k : Int) < (Q : Int) := by omega
        clear t1
        go_wp2_with (first
          | (go_at_call 15; (with_reducible refine (F5.out G' w5 B2 K2 1 r c4 Z (D4.out.two.below b5) (hr4.below b5) HZ.out hZl (by decide)).mono ?_); rintro e w6 ⟨x6, c6, A6, C6, G6, rfl, hO6, hB6, hG6, b6⟩; rw [part_len])
          | (go_at_call 19; (with_reducible refine (SM.out r (some ⟨w2.heap.size, 0, none⟩) c4 Q Z w4 hZl hr4 (RW.out.but b4 L1).at).mono ?_); rintro e w5 ⟨rfl, b5⟩; have hg5 := cell_keep6 b5 hg4)
          | (go_at_call 15; (with_reducible refine (F4.out F w3 B1 K1 x3 c3 Z D3'.out.one hO3.at HZ.out hZl).mono ?_); rintro e w4 ⟨g4', c4', r, c4, F4', rfl, hg4, hr4, hB4, hF4, b4⟩; rw [hZl] at hg4; have D4 := hidden6 (D3'.out.fire1 hB4 hF4 b4))
          | (go_at_call 15; (with_reducible refine U1.out.mono ?_); rintro e w3 ⟨x3, c3, A3, C3, G', rfl, hO3, hB3, hG3, b3⟩; rw [part_len]; have D3' := hidden6 (D3.out.swap.fire1 hB3 hG3 b3).swap; have RW := hidden6 (HC.out.but b3 L2)))
        have P6 := hidden6 (((hO3.but b4 (by omega)).keep (fun q _ h2 => b5.block q h2) b5.size).but b6 (by omega))
        have R6 := hidden6 (((RW.out.but b4 L1).later b5).but b6 L2)
        have O6 := hidden6 hO6
        have BF : Hid (Below w.heap.size w w6) := by
          have p3 := but_below b3 BW.out D3.out.l2
          have p4 := but_below b4 p3 D3'.out.l1
          have p5 := p4.trans (b5.mono p4.size)
          exact but_below b6 p5 D3.out.l2
        have hNQ : N ≤ Q := by rw [← HQ.out]; exact Nat.le_mul_of_pos_right N (by omega)
        clear b3 b4 b5 b6 hO3 hO6 hB3 hG3 hB4 hF4 hB6 hG6 hr4 hg4 hg5 U1 D3' D4 RW
        rcases O6.out.tab with h0 | ⟨g6, rfl, -, -, gc6, -⟩
        · have := congrArg List.length h0; rw [part_len] at this; simp at this; omega
        rcases P6.out.tab with h0 | ⟨g3', rfl, -, -, gc3, -⟩
        · have := congrArg List.length h0; rw [part_len] at this; simp at this; omega
        have T6 : Hid (∀ j, j < N → w6.cell? ⟨g6, j, none⟩ = some (.slice (A6 j) M (C6 j))) := fun j hj => by
          have := gc6 j (by rw [part_len]; exact hj)
          rw [part_part hj] at this; exact this
        have T3 : Hid (∀ j, j < N → w6.cell? ⟨g3', j, none⟩ = some (.slice (A3 j) M (C3 j))) := fun j hj => by
          have := gc3 j (by rw [part_len]; exact hj)
          rw [part_part hj] at this; exact this
        clear gc6 gc3
        go_loopg [19] N (fun gk v wr' => ∃ (j : Nat), j ≤ N ∧ gk = N - j ∧ v = .int .i64 (j : Int) ∧ Below w6.heap.size w6 wr')
        case atStart => exact ⟨0, Nat.zero_le _, rfl, rfl, Below.refl _ _⟩
        case round =>
          obtain ⟨j, hj, rfl, rfl, hSm⟩ := hrel
          have HSm := hidden6 hSm
          clear hSm
          by_cases hjl : j < N
          · have hji : (j : Int) < (N : Int) := by omega
            have t6 := cell_keep6 HSm.out (T6.out j hjl)
            have t7 := cell_keep6 HSm.out (T3.out j hjl)
            have ha6 := (O6.out.rows j (by rw [part_len]; exact hjl)).at
            have ha3 := (P6.out.rows j (by rw [part_len]; exact hjl)).at
            have SQj : Hid (∀ n, Calls Try.prog 19 #[.slice (A6 j) M (C6 j), .slice (A3 j) M (C3 j)] (wr.drewN n) fun e w' => e = .returned (.bool true) ∧ ∃ k, w' = (wr.drewN n).drewN k) := fun n => SQ.out _ _ _ _ _ _ (part_part hjl) (ha6.below (bdrew HSm.out n)) (ha3.below (bdrew HSm.out n))
            have e0 : nth (nthL (partS N M Z) j) 0 = nth Z j := by rw [part_nth hjl, nth_map (by omega), Nat.zero_mul, Nat.zero_add]
            obtain ⟨ab, ao, ea, ca⟩ : ∃ b o, A6 j = some ⟨b, o, none⟩ ∧ w6.cell? ⟨b, o, none⟩ = some (.int .i64 (nth Z j)) := by
              rcases ha6 with h0 | ⟨b, o, hb, hc⟩
              · have := congrArg List.length h0; rw [part_part hjl] at this; simp at this; omega
              · refine ⟨b, o, hb, ?_⟩
                have := hc 0 (by rw [part_part hjl]; omega)
                rw [e0] at this; exact this
            rw [ea] at t6 SQj
            have ca := cell_keep6 HSm.out ca
            have cz := cell_keep6 HSm.out (R6.out.nthCell (k := j) (by omega))
            have hjQ : (j : Int) < (Q : Int) := by omega
            have q5 : (nth Z j != nth Z j) = false := by simp
            have m0 : (0 : Int) < (M : Int) := by omega
            have m1 : 0 < M := by omega
            clear ha6 ha3 e0 ea
            generalize nth Z j = z at *
            go_wp2
            go_quiet (first | (go_at_call 19; (with_reducible refine Calls.quiet_of (SQj.out _))))
            go_wp2
            go_roundg (N - (j + 1))
            case measure => omega
            case rel => exact ⟨j + 1, by omega, rfl, by go_num, bdrew HSm.out nq⟩
          · have hji : ¬ (j : Int) < (N : Int) := by omega
            go_wp2_with (go_at_call 11; (with_reducible refine (AW.out _).mono ?_); rintro e w7 ⟨rfl, b7⟩)
            go_ret
            have p7 := BF.out.trans (HSm.out.mono BF.out.size)
            exact ⟨rfl, p7.trans (b7.mono p7.size)⟩
      · clear hlt
        go_wp2_with (first
          | (go_at_call 15; (with_reducible refine (F5.out G' w5 B2 K2 1 r c4 Z (D4.out.two.below b5) (hr4.below b5) HZ.out hZl (by decide)).mono ?_); rintro e w6 ⟨x6, c6, A6, C6, G6, rfl, hO6, hB6, hG6, b6⟩; rw [part_len])
          | (go_at_call 19; (with_reducible refine (SM.out r (some ⟨w2.heap.size, 0, none⟩) c4 Q Z w4 hZl hr4 (RW.out.but b4 L1).at).mono ?_); rintro e w5 ⟨rfl, b5⟩; have hg5 := cell_keep6 b5 hg4)
          | (go_at_call 15; (with_reducible refine (F4.out F w3 B1 K1 x3 c3 Z D3'.out.one hO3.at HZ.out hZl).mono ?_); rintro e w4 ⟨g4', c4', r, c4, F4', rfl, hg4, hr4, hB4, hF4, b4⟩; rw [hZl] at hg4; have D4 := hidden6 (D3'.out.fire1 hB4 hF4 b4))
          | (go_at_call 15; (with_reducible refine U1.out.mono ?_); rintro e w3 ⟨x3, c3, A3, C3, G', rfl, hO3, hB3, hG3, b3⟩; rw [part_len]; have D3' := hidden6 (D3.out.swap.fire1 hB3 hG3 b3).swap; have RW := hidden6 (HC.out.but b3 L2)))
        have P6 := hidden6 (((hO3.but b4 (by omega)).keep (fun q _ h2 => b5.block q h2) b5.size).but b6 (by omega))
        have R6 := hidden6 (((RW.out.but b4 L1).later b5).but b6 L2)
        have O6 := hidden6 hO6
        have BF : Hid (Below w.heap.size w w6) := by
          have p3 := but_below b3 BW.out D3.out.l2
          have p4 := but_below b4 p3 D3'.out.l1
          have p5 := p4.trans (b5.mono p4.size)
          exact but_below b6 p5 D3.out.l2
        have hNQ : N ≤ Q := by rw [← HQ.out]; exact Nat.le_mul_of_pos_right N (by omega)
        clear b3 b4 b5 b6 hO3 hO6 hB3 hG3 hB4 hF4 hB6 hG6 hr4 hg4 hg5 U1 D3' D4 RW
        rcases O6.out.tab with h0 | ⟨g6, rfl, -, -, gc6, -⟩
        · have := congrArg List.length h0; rw [part_len] at this; simp at this; omega
        rcases P6.out.tab with h0 | ⟨g3', rfl, -, -, gc3, -⟩
        · have := congrArg List.length h0; rw [part_len] at this; simp at this; omega
        have T6 : Hid (∀ j, j < N → w6.cell? ⟨g6, j, none⟩ = some (.slice (A6 j) M (C6 j))) := fun j hj => by
          have := gc6 j (by rw [part_len]; exact hj)
          rw [part_part hj] at this; exact this
        have T3 : Hid (∀ j, j < N → w6.cell? ⟨g3', j, none⟩ = some (.slice (A3 j) M (C3 j))) := fun j hj => by
          have := gc3 j (by rw [part_len]; exact hj)
          rw [part_part hj] at this; exact this
        clear gc6 gc3
        go_loopg [19] N (fun gk v wr' => ∃ (j : Nat), j ≤ N ∧ gk = N - j ∧ v = .int .i64 (j : Int) ∧ Below w6.heap.size w6 wr')
        case atStart => exact ⟨0, Nat.zero_le _, rfl, rfl, Below.refl _ _⟩
        case round =>
          obtain ⟨j, hj, rfl, rfl, hSm⟩ := hrel
          have HSm := hidden6 hSm
          clear hSm
          by_cases hjl : j < N
          · have hji : (j : Int) < (N : Int) := by omega
            have t6 := cell_keep6 HSm.out (T6.out j hjl)
            have t7 := cell_keep6 HSm.out (T3.out j hjl)
            have ha6 := (O6.out.rows j (by rw [part_len]; exact hjl)).at
            have ha3 := (P6.out.rows j (by rw [part_len]; exact hjl)).at
            have SQj : Hid (∀ n, Calls Try.prog 19 #[.slice (A6 j) M (C6 j), .slice (A3 j) M (C3 j)] (wr.drewN n) fun e w' => e = .returned (.bool true) ∧ ∃ k, w' = (wr.drewN n).drewN k) := fun n => SQ.out _ _ _ _ _ _ (part_part hjl) (ha6.below (bdrew HSm.out n)) (ha3.below (bdrew HSm.out n))
            have e0 : nth (nthL (partS N M Z) j) 0 = nth Z j := by rw [part_nth hjl, nth_map (by omega), Nat.zero_mul, Nat.zero_add]
            obtain ⟨ab, ao, ea, ca⟩ : ∃ b o, A6 j = some ⟨b, o, none⟩ ∧ w6.cell? ⟨b, o, none⟩ = some (.int .i64 (nth Z j)) := by
              rcases ha6 with h0 | ⟨b, o, hb, hc⟩
              · have := congrArg List.length h0; rw [part_part hjl] at this; simp at this; omega
              · refine ⟨b, o, hb, ?_⟩
                have := hc 0 (by rw [part_part hjl]; omega)
                rw [e0] at this; exact this
            rw [ea] at t6 SQj
            have ca := cell_keep6 HSm.out ca
            have cz := cell_keep6 HSm.out (R6.out.nthCell (k := j) (by omega))
            have hjQ : (j : Int) < (Q : Int) := by omega
            have q5 : (nth Z j != nth Z j) = false := by simp
            have m0 : (0 : Int) < (M : Int) := by omega
            have m1 : 0 < M := by omega
            clear ha6 ha3 e0 ea
            generalize nth Z j = z at *
            go_wp2
            go_quiet (first | (go_at_call 19; (with_reducible refine Calls.quiet_of (SQj.out _))))
            go_wp2
            go_roundg (N - (j + 1))
            case measure => omega
            case rel => exact ⟨j + 1, by omega, rfl, by go_num, bdrew HSm.out nq⟩
          · have hji : ¬ (j : Int) < (N : Int) := by omega
            go_wp2_with (go_at_call 11; (with_reducible refine (AW.out _).mono ?_); rintro e w7 ⟨rfl, b7⟩)
            go_ret
            have p7 := BF.out.trans (HSm.out.mono BF.out.size)
            exact ⟨rfl, p7.trans (b7.mono p7.size)⟩
set_option maxRecDepth 100000 in
set_option maxHeartbeats 4000000 in
theorem weaves_bad (n m : Int) (a : Option Addr) (len cap : Nat) (w : World) (hn : -9223372036854775808 ≤ n ∧ n ≤ 9223372036854775807) (hm : -9223372036854775808 ≤ m ∧ m ≤ 9223372036854775807) (hb : ¬ ((1 ≤ n ∧ n ≤ 16) ∧ (1 ≤ m ∧ m ≤ 64) ∧ n * m ≤ 64)) : Calls Try.prog 6 #[.int .i64 n, .int .i64 m, .slice a len cap] w fun e w' => e = .returned (.bool true) ∧ Below w.heap.size w w' := by
  have N4 : Hid (Calls Try.prog 8 #[.int .u8 4, .slice (some ⟨w.heap.size, 0, none⟩) 2 2] (w.alloc (.cells #[.int .i64 n, .int .i64 m] 3)) (Refused w 61)) := (new_two 4 _ _ w (by decide) hn hm).mono fun _ _ h => refused_of h (of_two_no (by decide) rfl hb) (by decide)
  have N5 : Hid (∀ V, Calls Try.prog 8 #[.int .u8 5, .slice (some ⟨V.heap.size, 0, none⟩) 2 2] (V.alloc (.cells #[.int .i64 n, .int .i64 m] 3)) (Refused V 61)) := fun V => (new_two 5 _ _ V (by decide) hn hm).mono fun _ _ h => refused_of h (of_two_no (by decide) rfl hb) (by decide)
  have AW : Hid (∀ V, Calls Try.prog 11 #[] V fun e w' => e = .returned (.bool true) ∧ Below V.heap.size V w') := fun V => awake7 V
  have HB := hidden6 hb
  clear hb
  by_cases h1 : n < 1
  · clear hn hm
    go_enter Try.func6, Try.ntmps6
    go_wp2_with (first
      | (go_at_call 11; (with_reducible refine (AW.out _).mono ?_); rintro e w6 ⟨rfl, b6⟩)
      | (go_at_call 8; (with_reducible refine (N5.out w1).mono ?_); rintro e w2 ⟨rfl, b2⟩)
      | (go_at_call 8; (with_reducible refine N4.out.mono ?_); rintro e w1 ⟨rfl, b1⟩))
    go_ret
    have q2 := b1.trans (b2.mono b1.size)
    exact ⟨rfl, q2.trans (b6.mono q2.size)⟩
  by_cases h2 : n > 16
  · clear hn hm
    go_enter Try.func6, Try.ntmps6
    go_wp2_with (first
      | (go_at_call 11; (with_reducible refine (AW.out _).mono ?_); rintro e w6 ⟨rfl, b6⟩)
      | (go_at_call 8; (with_reducible refine (N5.out w1).mono ?_); rintro e w2 ⟨rfl, b2⟩)
      | (go_at_call 8; (with_reducible refine N4.out.mono ?_); rintro e w1 ⟨rfl, b1⟩))
    go_ret
    have q2 := b1.trans (b2.mono b1.size)
    exact ⟨rfl, q2.trans (b6.mono q2.size)⟩
  by_cases h3 : m < 1
  · clear hn hm
    go_enter Try.func6, Try.ntmps6
    go_wp2_with (first
      | (go_at_call 11; (with_reducible refine (AW.out _).mono ?_); rintro e w6 ⟨rfl, b6⟩)
      | (go_at_call 8; (with_reducible refine (N5.out w1).mono ?_); rintro e w2 ⟨rfl, b2⟩)
      | (go_at_call 8; (with_reducible refine N4.out.mono ?_); rintro e w1 ⟨rfl, b1⟩))
    go_ret
    have q2 := b1.trans (b2.mono b1.size)
    exact ⟨rfl, q2.trans (b6.mono q2.size)⟩
  by_cases h4 : m > 64
  · clear hn hm
    go_enter Try.func6, Try.ntmps6
    go_wp2_with (first
      | (go_at_call 11; (with_reducible refine (AW.out _).mono ?_); rintro e w6 ⟨rfl, b6⟩)
      | (go_at_call 8; (with_reducible refine (N5.out w1).mono ?_); rintro e w2 ⟨rfl, b2⟩)
      | (go_at_call 8; (with_reducible refine N4.out.mono ?_); rintro e w1 ⟨rfl, b1⟩))
    go_ret
    have q2 := b1.trans (b2.mono b1.size)
    exact ⟨rfl, q2.trans (b6.mono q2.size)⟩
  have h5 : n * m > 64 := by
    have := HB.out
    by_cases h : n * m ≤ 64
    · exact absurd ⟨⟨by omega, by omega⟩, ⟨by omega, by omega⟩, h⟩ this
    · omega
  have h6 := mul_bound (n := n) (m := m) ⟨by omega, by omega⟩ ⟨by omega, by omega⟩
  clear HB
  obtain ⟨x, hx⟩ : ∃ x, n * m = x := ⟨_, rfl⟩
  rw [hx] at h5 h6
  have h7 : IntKind.i64.wrap x = x := by rw [IntKind.wrap_i64]; omega
  have h8 := h6.2
  go_enter Try.func6, Try.ntmps6
  go_wp2_with (first
    | (go_at_call 11; (with_reducible refine (AW.out _).mono ?_); rintro e w6 ⟨rfl, b6⟩)
    | (go_at_call 8; (with_reducible refine (N5.out w1).mono ?_); rintro e w2 ⟨rfl, b2⟩)
    | (go_at_call 8; (with_reducible refine N4.out.mono ?_); rintro e w1 ⟨rfl, b1⟩))
  go_ret
  have q2 := b1.trans (b2.mono b1.size)
  exact ⟨rfl, q2.trans (b6.mono q2.size)⟩
theorem actorsWeaves_walk (n m : Int) (a : Option Addr) (len cap : Nat) (xs : List Int) (w : World) (hn : -9223372036854775808 ≤ n ∧ n ≤ 9223372036854775807) (hm : -9223372036854775808 ≤ m ∧ m ≤ 9223372036854775807) (hA : Arg w a len cap xs) : Calls Try.prog 6 #[.int .i64 n, .int .i64 m, .slice a len cap] w fun e w' => e = .returned (.bool true) ∧ Below w.heap.size w w' := by
  by_cases hb : (1 ≤ n ∧ n ≤ 16) ∧ (1 ≤ m ∧ m ≤ 64) ∧ n * m ≤ 64
  · obtain ⟨N, rfl⟩ : ∃ N : Nat, n = (N : Int) := ⟨n.toNat, by omega⟩
    obtain ⟨M, rfl⟩ : ∃ M : Nat, m = (M : Int) := ⟨m.toNat, by omega⟩
    exact weaves_good N M (N * M) a len cap xs w hb rfl hA
  · exact weaves_bad n m a len cap w hn hm hb
end Go.Proofs.Ytoenbiigamegoaa

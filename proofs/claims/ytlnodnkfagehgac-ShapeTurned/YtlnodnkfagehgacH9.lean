/- The walks through the statements ShapeSmall and ShapeTurned. -/
import Derived.Test.YtlnodnkfagehgacH6
namespace Go.Proofs.Ytlnodnkfagehgac
open Go.ChangeShapes Go.WideShapes Go.ChangeAt Go.RowKit

def tot : List Int → Int
  | [] => 0
  | x :: r => x + tot r
theorem tot_app : ∀ (a b : List Int), tot (a ++ b) = tot a + tot b
  | [], b => by show tot b = 0 + tot b; omega
  | x :: a, b => by
    show x + tot (a ++ b) = x + tot a + tot b
    rw [tot_app a b]; omega
theorem tot_rep (x : Int) : ∀ n : Nat, tot (List.replicate n x) = (n : Int) * x
  | 0 => by show (0 : Int) = ((0 : Nat) : Int) * x; simp
  | n + 1 => by
    show x + tot (List.replicate n x) = ((n + 1 : Nat) : Int) * x
    rw [tot_rep x n, Int.natCast_add, Int.add_mul]
    omega
structure SmallR (P : List Int) : Prop where
  len : P.length ≤ 16
  each : ∀ x ∈ P, 1 ≤ x ∧ x ≤ 64
  sum : 0 ≤ tot P ∧ tot P ≤ 64
theorem small_nil : SmallR [] := ⟨by decide, (fun x h => by cases h), ⟨by decide, by decide⟩⟩
theorem small_one {x : Int} (h : 1 ≤ x ∧ x ≤ 64) : SmallR [x] := ⟨by simp, (fun y hy => by simp at hy; subst hy; exact h), by show 0 ≤ x + 0 ∧ x + 0 ≤ 64; omega⟩
theorem small_rep {n x : Int} (h : 1 ≤ n ∧ n ≤ 16) (h2 : 1 ≤ x ∧ x ≤ 64) (h3 : n * x ≤ 64) : SmallR (rep n x) := by
  have hp := (mul_bound h h2).1
  unfold rep
  refine ⟨by rw [List.length_replicate]; omega, fun y hy => by rw [List.eq_of_mem_replicate hy]; exact h2, ?_⟩
  rw [tot_rep, show ((n.toNat : Nat) : Int) = n by omega]
  omega
theorem tot_rep_pos {n x : Int} (h : 1 ≤ n ∧ n ≤ 16) (h2 : 1 ≤ x ∧ x ≤ 64) : 0 < tot (rep n x) := by
  have hp := (mul_bound h h2).1
  unfold rep
  rw [tot_rep, show ((n.toNat : Nat) : Int) = n by omega]
  omega
theorem ok_prod {zs : List Int} (h : (decide (zs.length = 2) && wovenB (nth zs 0) (nth zs 1)) = true) : nth zs 0 * nth zs 1 ≤ 64 := by
  unfold wovenB at h
  rw [Bool.and_eq_true, Bool.and_eq_true, Bool.and_eq_true, decide_eq_true_iff, decide_eq_true_iff] at h
  exact h.2.2.2
def FineR (P Q : List Int) : Prop := SmallR P ∧ SmallR Q ∧ 0 < tot P + tot Q
theorem one_ok : SmallR [1] := small_one (by decide)
theorem two_ones : SmallR [1, 1] := ⟨by decide, by decide, ⟨by decide, by decide⟩⟩
theorem add_pos6 {P Q : List Int} (h1 : SmallR P) (h2 : SmallR Q) (h : 0 < tot P ∨ 0 < tot Q) : FineR P Q := ⟨h1, h2, by have := h1.sum; have := h2.sum; omega⟩
theorem pos_one : 0 < tot [1] := by decide
theorem rates_small : ∀ t, 1 ≤ t ∧ t ≤ 11 → ∀ zs, okS t zs = true → FineR (insS t zs) (outsS t zs) := by
  refine eleven ?_ ?_ ?_ ?_ ?_ ?_ ?_ ?_ ?_ ?_ ?_
  · exact fun zs _ => add_pos6 one_ok one_ok (.inl pos_one)
  · exact fun zs h => add_pos6 one_ok (small_one (ok_one rfl h).2) (.inl pos_one)
  · exact fun zs h => add_pos6 (small_one (ok_one rfl h).2) one_ok (.inr pos_one)
  · intro zs h
    have h2 := (ok_two rfl h).2
    exact add_pos6 (small_rep h2.1 h2.2 (ok_prod h)) (small_one ⟨(mul_bound h2.1 h2.2).1, ok_prod h⟩) (.inl (tot_rep_pos h2.1 h2.2))
  · intro zs h
    have h2 := (ok_two rfl h).2
    exact add_pos6 (small_one ⟨(mul_bound h2.1 h2.2).1, ok_prod h⟩) (small_rep h2.1 h2.2 (ok_prod h)) (.inr (tot_rep_pos h2.1 h2.2))
  · intro zs h
    have h2 := (ok_one rfl h).2
    exact add_pos6 (small_rep h2 (by decide) (by omega)) one_ok (.inr pos_one)
  · exact fun zs _ => add_pos6 two_ones one_ok (.inr pos_one)
  · exact fun zs _ => add_pos6 one_ok one_ok (.inl pos_one)
  · intro zs h
    have h2 := (ok_one rfl h).2
    exact add_pos6 one_ok (small_rep h2 (by decide) (by omega)) (.inl pos_one)
  · exact fun zs _ => add_pos6 small_nil one_ok (.inr pos_one)
  · intro zs h
    have h2 := (ok_one rfl h).2
    exact add_pos6 (small_one h2) small_nil (.inl (by show 0 < nth zs 0 + 0; omega))
theorem take_tot {zs : List Int} {k : Nat} (h : k < zs.length) : tot (zs.take (k + 1)) = tot (zs.take k) + nth zs k := by
  rw [List.take_add_one, List.getElem?_eq_getElem h, tot_app]
  show tot (zs.take k) + (zs[k] + 0) = _
  rw [nth, List.getD_eq_getElem?_getD, List.getElem?_eq_getElem h]
  show _ + (zs[k] + 0) = _ + zs[k]
  omega
theorem take_bound {zs : List Int} (h : ∀ x ∈ zs, 1 ≤ x ∧ x ≤ 64) : ∀ k, k ≤ zs.length → 0 ≤ tot (zs.take k) ∧ tot (zs.take k) ≤ 64 * (k : Int)
  | 0, _ => by rw [List.take_zero]; decide
  | k + 1, hk => by
    have ih := take_bound h k (by omega)
    have h2 : nth zs k = zs[k] := by rw [nth, List.getD_eq_getElem?_getD, List.getElem?_eq_getElem (by omega)]; rfl
    have h3 := h zs[k] (List.getElem_mem _)
    rw [take_tot (by omega), h2]
    omega
set_option maxHeartbeats 1000000 in
theorem total_any (a : Option Addr) (zs : List Int) (cap : Nat) (w : World) (hs : SmallR zs) (h : At w a zs) :
    Calls Try.prog 7 #[.slice a zs.length cap] w fun e w' => e = .returned (.int .i64 (tot zs)) ∧ Below w.heap.size w w' := by
  obtain ⟨len, hl⟩ : ∃ n, zs.length = n := ⟨_, rfl⟩
  have hn : len ≤ 16 := by have := hs.len; omega
  have h16 : ¬ ((len : Int) > 16) := by omega
  have HT := hidden6 (take_bound hs.each)
  have HE := hidden6 hs.each
  have HH := hidden6 h
  rw [hl]
  clear hs h
  go_enter Try.func7, Try.ntmps7
  go_wp2
  go_loopg [3, 4] len (fun gk n v wr => ∃ k : Nat, k ≤ len ∧ gk = len - k ∧ v = .int .i64 (k : Int) ∧ n = .int .i64 (tot (zs.take k)) ∧ wr = w)
  case atStart => exact ⟨0, Nat.zero_le _, rfl, rfl, rfl, rfl⟩
  case round =>
    obtain ⟨k, hk, rfl, rfl, rfl, rfl⟩ := hrel
    by_cases hlt : k < len
    · have hki : (k : Int) < (len : Int) := by omega
      rcases HH.out with h0 | ⟨b, off, rfl, hc⟩
      · rw [h0] at hl; simp at hl; omega
      have c0 := hc k (by omega)
      have e1 : nth zs k = zs[k]'(by omega) := by rw [nth, List.getD_eq_getElem?_getD, List.getElem?_eq_getElem (by omega)]; rfl
      have b1 := HE.out (nth zs k) (by rw [e1]; exact List.getElem_mem _)
      have b2 := HT.out k (by omega)
      have HN := hidden6 (take_tot (zs := zs) (k := k) (by omega))
      have g1 : ¬ (nth zs k < 1) := by omega
      have g2 : ¬ (nth zs k > 64) := by omega
      clear e1 hc
      generalize nth zs k = x at *
      generalize tot (zs.take k) = s at *
      go_wp2
      go_roundg (len - (k + 1))
      case measure => omega
      case rel => exact ⟨k + 1, by omega, rfl, by go_num, by rw [HN.out], rfl⟩
    · have ek : k = len := by omega
      subst ek
      have hki : ¬ (k : Int) < (k : Int) := by omega
      have e1 : zs.take k = zs := by rw [← hl, List.take_length]
      rw [e1]
      go_wp2
      go_ret
      exact ⟨rfl, Below.refl _ _⟩
theorem of_cases (t : Nat) (zs : List Int) : ((¬ (1 ≤ t ∧ t ≤ 11)) ∧ ofS t zs = ([], [], 60)) ∨ ((1 ≤ t ∧ t ≤ 11) ∧ ofS t zs = ([], [], 61)) ∨ ((1 ≤ t ∧ t ≤ 11) ∧ ∃ P Q, FineR P Q ∧ ofS t zs = (P, Q, 0)) := by
  unfold ofS
  by_cases h1 : 1 ≤ t ∧ t ≤ 11
  · rw [if_pos h1]
    by_cases h2 : okS t zs = true
    · rw [if_pos h2]
      exact .inr (.inr ⟨h1, _, _, rates_small t h1 zs h2, rfl⟩)
    · rw [if_neg h2]
      exact .inr (.inl ⟨h1, rfl⟩)
  · rw [if_neg h1]
    exact .inl ⟨h1, rfl⟩
set_option maxRecDepth 100000 in
set_option maxHeartbeats 1000000 in
theorem shapeSmall_walk (t : Nat) (a : Option Addr) (len cap : Nat) (zs : List Int) (w : World) (ht : t ≤ 255) (hA : Arg w a len cap zs) : Calls Try.prog 3 #[.int .u8 (t : Int), .slice a len cap] w fun e w' => e = .returned (.bool true) ∧ Below w.heap.size w w' := by
  have O1 := hidden6 (of_any t a zs len cap w ht hA.size hA.lies)
  unfold OfEnd at O1
  clear hA
  rcases of_cases t zs with ⟨h1, e1⟩ | ⟨h1, e1⟩ | ⟨h1, P, Q, hf, e1⟩
  · rw [e1] at O1
    simp only [List.length_nil] at O1
    by_cases g1 : (t : Int) < 1
    · clear h1 e1
      go_enter Try.func3, Try.ntmps3
      go_wp2_with (first
        | (go_at_call 6; (with_reducible refine (awake6 _).mono ?_); rintro e w2 ⟨rfl, b2⟩)
        | (go_at_call 5; (with_reducible refine O1.out.mono ?_); rintro e w1 ⟨x, c1, y, c2, rfl, m1, m2, -, b1⟩))
      go_ret
      exact ⟨rfl, b1.trans (b2.mono b1.size)⟩
    · have g2 : (t : Int) > 11 := by omega
      clear h1 e1
      go_enter Try.func3, Try.ntmps3
      go_wp2_with (first
        | (go_at_call 6; (with_reducible refine (awake6 _).mono ?_); rintro e w2 ⟨rfl, b2⟩)
        | (go_at_call 5; (with_reducible refine O1.out.mono ?_); rintro e w1 ⟨x, c1, y, c2, rfl, m1, m2, -, b1⟩))
      go_ret
      exact ⟨rfl, b1.trans (b2.mono b1.size)⟩
  · rw [e1] at O1
    simp only [List.length_nil] at O1
    have g1 : ¬ ((t : Int) < 1) := by omega
    have g2 : ¬ ((t : Int) > 11) := by omega
    clear h1 e1
    go_enter Try.func3, Try.ntmps3
    go_wp2_with (first
      | (go_at_call 6; (with_reducible refine (awake6 _).mono ?_); rintro e w2 ⟨rfl, b2⟩)
      | (go_at_call 5; (with_reducible refine O1.out.mono ?_); rintro e w1 ⟨x, c1, y, c2, rfl, m1, m2, -, b1⟩))
    go_ret
    exact ⟨by simp; omega, b1.trans (b2.mono b1.size)⟩
  · rw [e1] at O1
    simp only at O1
    have g1 : (1 : Int) ≤ (t : Int) := by omega
    have g2 : (t : Int) ≤ 11 := by omega
    have T1 : Hid (∀ b c V, At V b P → Calls Try.prog 7 #[.slice b P.length c] V fun e w' => e = .returned (.int .i64 (tot P)) ∧ Below V.heap.size V w') := fun b c V h => total_any b P c V hf.1 h
    have T2 : Hid (∀ b c V, At V b Q → Calls Try.prog 7 #[.slice b Q.length c] V fun e w' => e = .returned (.int .i64 (tot Q)) ∧ Below V.heap.size V w') := fun b c V h => total_any b Q c V hf.2.1 h
    have s1 := hf.1.sum
    have s2 := hf.2.1.sum
    have s3 := hf.2.2
    obtain ⟨u1, u2⟩ := s1
    obtain ⟨u3, u4⟩ := s2
    clear h1 e1 hf
    generalize tot P = p at *
    generalize tot Q = q at *
    have s4 : p + q > 0 := s3
    go_enter Try.func3, Try.ntmps3
    go_wp2_with (first
      | (go_at_call 6; (with_reducible refine (awake6 _).mono ?_); rintro e w4 ⟨rfl, b4⟩)
      | (go_at_call 7; (with_reducible refine (T2.out _ _ w2 (m2.at.below b2)).mono ?_); rintro e w3 ⟨rfl, b3⟩)
      | (go_at_call 7; (with_reducible refine (T1.out _ _ w1 m1.at).mono ?_); rintro e w2 ⟨rfl, b2⟩)
      | (go_at_call 5; (with_reducible refine O1.out.mono ?_); rintro e w1 ⟨x, c1, y, c2, rfl, m1, m2, -, b1⟩))
    go_ret
    have q2 := b1.trans (b2.mono b1.size)
    have q3 := q2.trans (b3.mono q2.size)
    exact ⟨by first | rfl | simp, q3.trans (b4.mono q3.size)⟩
/-! ### Turned about -/
theorem of_turn4 (n m : Int) : ∃ P Q f, P.length ≤ 1024 ∧ Q.length ≤ 1024 ∧ ofS 4 [n, m] = (P, Q, f) ∧ ofS 5 [n, m] = (Q, P, f) := by
  have e4 : ofS 4 [n, m] = (if okS 4 [n, m] = true then (insS 4 [n, m], outsS 4 [n, m], 0) else ([], [], 61)) := rfl
  have e5 : ofS 5 [n, m] = (if okS 4 [n, m] = true then (outsS 4 [n, m], insS 4 [n, m], 0) else ([], [], 61)) := rfl
  by_cases h : okS 4 [n, m] = true
  · rw [if_pos h] at e4 e5
    have hs := rates_small 4 (by decide) _ h
    have k1 := hs.1.len
    have k2 := hs.2.1.len
    exact ⟨_, _, _, by omega, by omega, e4, e5⟩
  · rw [if_neg h] at e4 e5
    exact ⟨_, _, _, by decide, by decide, e4, e5⟩
theorem of_turn2 (n : Int) : ∃ P Q f, P.length ≤ 1024 ∧ Q.length ≤ 1024 ∧ ofS 2 [n] = (P, Q, f) ∧ ofS 3 [n] = (Q, P, f) := by
  have e4 : ofS 2 [n] = (if okS 2 [n] = true then (insS 2 [n], outsS 2 [n], 0) else ([], [], 61)) := rfl
  have e5 : ofS 3 [n] = (if okS 2 [n] = true then (outsS 2 [n], insS 2 [n], 0) else ([], [], 61)) := rfl
  by_cases h : okS 2 [n] = true
  · rw [if_pos h] at e4 e5
    have hs := rates_small 2 (by decide) _ h
    have k1 := hs.1.len
    have k2 := hs.2.1.len
    exact ⟨_, _, _, by omega, by omega, e4, e5⟩
  · rw [if_neg h] at e4 e5
    exact ⟨_, _, _, by decide, by decide, e4, e5⟩
set_option maxRecDepth 100000 in
set_option maxHeartbeats 1000000 in
theorem shapeTurned_walk (n m : Int) (w : World) (_hn : -9223372036854775808 ≤ n ∧ n ≤ 9223372036854775807) (_hm : -9223372036854775808 ≤ m ∧ m ≤ 9223372036854775807) : Calls Try.prog 4 #[.int .i64 n, .int .i64 m] w fun e w' => e = .returned (.bool true) ∧ Below w.heap.size w w' := by
  have O4 := hidden6 (fun V ty => of_two 4 n m V ty (by decide))
  have O5 := hidden6 (fun V ty => of_two 5 n m V ty (by decide))
  have O2 := hidden6 (fun V ty => of_one 2 n V ty (by decide))
  have O3 := hidden6 (fun V ty => of_one 3 n V ty (by decide))
  obtain ⟨P, Q, f, l1, l2, e4, e5⟩ := of_turn4 n m
  obtain ⟨R, T, g, l3, l4, e2, e3⟩ := of_turn2 n
  rw [e4] at O4
  rw [e5] at O5
  rw [e2] at O2
  rw [e3] at O3
  unfold OfEnd at O4 O5 O2 O3
  simp only at O4 O5 O2 O3
  have c4 : ((4 : Nat) : Int) = 4 := rfl
  have c5 : ((5 : Nat) : Int) = 5 := rfl
  have c2 : ((2 : Nat) : Int) = 2 := rfl
  have c3 : ((3 : Nat) : Int) = 3 := rfl
  rw [c4] at O4
  rw [c5] at O5
  rw [c2] at O2
  rw [c3] at O3
  have q1 : (f == f) = true := by simp
  have q2 : (g == g) = true := by simp
  have SP := hidden6 (fun a b c1 c2 W => same6 P a b c1 c2 W l1)
  have SQ := hidden6 (fun a b c1 c2 W => same6 Q a b c1 c2 W l2)
  have SR := hidden6 (fun a b c1 c2 W => same6 R a b c1 c2 W l3)
  have ST := hidden6 (fun a b c1 c2 W => same6 T a b c1 c2 W l4)
  clear e4 e5 e2 e3 c4 c5 c2 c3 l1 l2 l3 l4
  go_enter Try.func4, Try.ntmps4
  go_wp2_with (first
    | (go_at_call 6; (with_reducible refine (awake6 _).mono ?_); rintro e w9 ⟨rfl, b9⟩)
    | (go_at_call 8; (with_reducible refine (ST.out z3 y4 _ _ w7 (nz3.at.below r7) (ny4.at.below s7)).mono ?_); rintro e w8 ⟨rfl, b8⟩)
    | (go_at_call 8; (with_reducible refine (SR.out y3 z4 _ _ w6 (ny3.at.below (b4.trans (s6.mono b4.size))) (nz4.at.below s6)).mono ?_); rintro e w7 ⟨rfl, b7⟩; have s7 := s6.trans (b7.mono s6.size); have r7 := b4.trans (s7.mono b4.size))
    | (go_at_call 8; (with_reducible refine (SQ.out z1 y2 _ _ w5 (nz1.at.below (r4.trans (b5.mono r4.size))) (ny2.at.below (t4.trans (b5.mono t4.size)))).mono ?_); rintro e w6 ⟨rfl, b6⟩; have s6 := b5.trans (b6.mono b5.size))
    | (go_at_call 8; (with_reducible refine (SP.out y1 z2 _ _ w4 (ny1.at.below r4) (nz2.at.below t4)).mono ?_); rintro e w5 ⟨rfl, b5⟩)
    | (go_at_call 5; (with_reducible refine (O3.out w3 _).mono ?_); rintro e w4 ⟨y4, c4, z4, d4, rfl, ny4, nz4, -, b4⟩; have t4 := b3.trans (b4.mono b3.size); have r4 := b2.trans (t4.mono b2.size))
    | (go_at_call 5; (with_reducible refine (O2.out w2 _).mono ?_); rintro e w3 ⟨y3, c3, z3, d3, rfl, ny3, nz3, -, b3⟩)
    | (go_at_call 5; (with_reducible refine (O5.out w1 _).mono ?_); rintro e w2 ⟨y2, c2, z2, d2, rfl, ny2, nz2, -, b2⟩)
    | (go_at_call 5; (with_reducible refine (O4.out w _).mono ?_); rintro e w1 ⟨y1, c1, z1, d1, rfl, ny1, nz1, -, b1⟩))
  go_ret
  have p4 := b1.trans (r4.mono b1.size)
  have p7 := p4.trans (s7.mono p4.size)
  have p8 := p7.trans (b8.mono p7.size)
  exact ⟨rfl, p8.trans (b9.mono p8.size)⟩
end Go.Proofs.Ytlnodnkfagehgac

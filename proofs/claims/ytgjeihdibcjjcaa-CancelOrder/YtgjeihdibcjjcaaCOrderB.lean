/- The walk through the statement CancelOrder, lists that are not too long. (Written by tmpl/mkCOrderB.py.) -/
import Derived.Test.YtgjeihdibcjjcaaCOrder
import Derived.Deep.LoopGhost
import Derived.Deep.DeepCutAuto
namespace Go.Proofs.Ytgjeihdibcjjcaa
open Go.ChangeShapes Go.WideShapes Go.ChangeAt Go.RowKit

theorem in_append {xs ys : List Int} (h1 : InR xs) (h2 : InR ys) : InR (xs ++ ys) := fun k => by
  by_cases hk : k < xs.length
  · rw [nth_append_left hk]; exact h1 k
  · have : nth (xs ++ ys) k = nth ys (k - xs.length) := by
      unfold nth
      rw [List.getD_eq_getElem?_getD, List.getD_eq_getElem?_getD, List.getElem?_append_right (by omega)]
    rw [this]; exact h2 _
theorem in_reverse {xs : List Int} (h : InR xs) : InR xs.reverse := by
  induction xs with
  | nil => exact h
  | cons x xs ih =>
    rw [List.reverse_cons]
    refine in_append (ih fun k => h (k + 1)) fun k => ?_
    cases k with
    | zero => exact h 0
    | succ k => exact (by decide : (-9223372036854775808 : Int) ≤ 0 ∧ (0 : Int) ≤ 9223372036854775807)

set_option maxRecDepth 100000 in
set_option maxHeartbeats 2000000 in
theorem corder_short (a1 : Option Addr) (len1 cap1 : Nat) (xs : List Int) (a2 : Option Addr) (len2 cap2 : Nat) (ys : List Int) (a3 : Option Addr) (len3 cap3 : Nat) (ms : List Int) (w : World) (hA1 : Arg w a1 len1 cap1 xs) (hA2 : Arg w a2 len2 cap2 ys) (hA3 : Arg w a3 len3 cap3 ms) (hs1 : len1 + len3 ≤ 1024) (hs2 : len2 + len3 ≤ 1024) :
    Calls Try.prog 8 #[.slice a1 len1 cap1, .slice a2 len2 cap2, .slice a3 len3 cap3] w fun e w' => e = .returned (.bool true) ∧ Below w.heap.size w w' := by
  have z1 := hA1.size
  have z2 := hA2.size
  have z3 := hA3.size
  have hd1 : decide ((1024 : Int) < (len1 : Int) + (len3 : Int)) = false := decide_eq_false (by omega)
  have hd2 : decide ((1024 : Int) < (len2 : Int) + (len3 : Int)) = false := decide_eq_false (by omega)
  obtain ⟨f1, f2, f3, f4, f5⟩ := order_facts (xs := xs) (ys := ys) (ms := ms) (by omega) (by omega)
  have hpos : cE xs ys = 0 → cE xs xs.reverse = 0 := fun h => by
    obtain ⟨p1, p2, p3, p4⟩ := cE_zero h
    exact cE_ok p1 (by rw [List.length_reverse]; exact p1) (by rw [posB_reverse, p3]; rfl)
  have I1 : Hid (∀ W, Arg W a1 len1 cap1 xs → Calls Try.prog 20 #[.slice a1 len1 cap1] W (Copied W len1 xs)) := fun W h => ints_any a1 xs len1 cap1 W h
  have I2 : Hid (∀ W, Arg W a2 len2 cap2 ys → Calls Try.prog 20 #[.slice a2 len2 cap2] W (Copied W len2 ys)) := fun W h => ints_any a2 ys len2 cap2 W h
  have I3 : Hid (∀ W, Arg W a3 len3 cap3 ms → Calls Try.prog 20 #[.slice a3 len3 cap3] W (Copied W len3 ms)) := fun W h => ints_any a3 ms len3 cap3 W h
  have Q10 : Hid (∀ b1 b2 c1 c2 W, At W b1 xs → At W b2 ys → Calls Try.prog 16 #[.slice b1 len1 c1, .slice b2 len2 c2] W (EqEnd W xs ys)) := fun b1 b2 c1 c2 W k1 k2 => equal_any b1 b2 xs ys len1 c1 len2 c2 W z1 z2 (by omega) (by omega) hA1.fits hA2.fits k1 k2
  have Q20 : Hid (∀ b1 b2 c1 c2 W, At W b1 xs.reverse → At W b2 ys → Calls Try.prog 16 #[.slice b1 len1 c1, .slice b2 len2 c2] W (EqEnd W xs.reverse ys)) := fun b1 b2 c1 c2 W k1 k2 => equal_any b1 b2 xs.reverse ys len1 c1 len2 c2 W (by rw [List.length_reverse]; exact z1) z2 (by omega) (by omega) (in_reverse hA1.fits) hA2.fits k1 k2
  have Q30 : Hid (∀ b1 b2 c1 c2 W, At W b1 (ms ++ xs) → At W b2 (ms.reverse ++ ys) → Calls Try.prog 16 #[.slice b1 (len3 + len1) c1, .slice b2 (len3 + len2) c2] W (EqEnd W (ms ++ xs) (ms.reverse ++ ys))) := fun b1 b2 c1 c2 W k1 k2 => equal_any b1 b2 (ms ++ xs) (ms.reverse ++ ys) (len3 + len1) c1 (len3 + len2) c2 W (by rw [List.length_append, z3, z1]) (by rw [List.length_append, List.length_reverse, z3, z2]) (by omega) (by omega) (in_append hA3.fits hA1.fits) (in_append (in_reverse hA3.fits) hA2.fits) k1 k2
  have Q40 : Hid (∀ b1 c1 W, At W b1 ms → Calls Try.prog 16 #[.slice b1 len3 c1, .slice none 0 0] W (EqEnd W ms [])) := fun b1 c1 W k1 => equal_any b1 none ms [] len3 c1 0 0 W z3 rfl (by omega) (by decide) hA3.fits inR0 k1 (Or.inl rfl)
  have Q50 : Hid (∀ b1 b2 c1 c2 W, At W b1 xs → At W b2 xs.reverse → Calls Try.prog 16 #[.slice b1 len1 c1, .slice b2 len1 c2] W (EqEnd W xs xs.reverse)) := fun b1 b2 c1 c2 W k1 k2 => equal_any b1 b2 xs xs.reverse len1 c1 len1 c2 W z1 (by rw [List.length_reverse]; exact z1) (by omega) (by omega) hA1.fits (in_reverse hA1.fits) k1 k2
  have HRI : Hid (InR xs.reverse) := in_reverse hA1.fits
  unfold EqEnd at Q10 Q20 Q30 Q40 Q50
  rw [f1, f2] at Q20
  have hS : cE xs xs.reverse ≠ 0 → eqB xs xs.reverse = false := fun h => eqB_bad h
  have HF : Hid (∃ (v V3 S vb : Bool) (E G3 H Eb : Int), eqB xs ys = v ∧ cE xs ys = E ∧ eqB (ms ++ xs) (ms.reverse ++ ys) = V3 ∧ cE (ms ++ xs) (ms.reverse ++ ys) = G3 ∧ eqB xs xs.reverse = S ∧ cE xs xs.reverse = H ∧ eqB ms [] = vb ∧ cE ms [] = Eb ∧
      ((E ≠ 0 ∧ G3 = 1 ∧ V3 = false ∧ H = 0 ∧ S = true) ∨ (E ≠ 0 ∧ G3 = 1 ∧ V3 = false ∧ H ≠ 0) ∨ (E = 0 ∧ Eb ≠ 0 ∧ G3 = 1 ∧ V3 = false ∧ H = 0 ∧ S = true) ∨ (E = 0 ∧ Eb = 0 ∧ G3 = 0 ∧ V3 = v ∧ H = 0 ∧ S = true))) := by
    refine ⟨_, _, _, _, _, _, _, _, rfl, rfl, rfl, rfl, rfl, rfl, rfl, rfl, ?_⟩
    by_cases hE : cE xs ys = 0
    · have hH := hpos hE
      by_cases hB : cE ms [] = 0
      · exact .inr (.inr (.inr ⟨hE, hB, (f5 hE hB).1, (f5 hE hB).2, hH, f3 hH⟩))
      · exact .inr (.inr (.inl ⟨hE, hB, (f4 (.inr hB)).1, (f4 (.inr hB)).2, hH, f3 hH⟩))
    · by_cases hH : cE xs xs.reverse = 0
      · exact .inl ⟨hE, (f4 (.inl hE)).1, (f4 (.inl hE)).2, hH, f3 hH⟩
      · exact .inr (.inl ⟨hE, (f4 (.inl hE)).1, (f4 (.inl hE)).2, hH⟩)
  have HA1 : Hid (Arg w a1 len1 cap1 xs) := hA1
  have HA2 : Hid (Arg w a2 len2 cap2 ys) := hA2
  have HA3 : Hid (Arg w a3 len3 cap3 ms) := hA3
  clear hA1 hA2 hA3 f1 f2 f3 f4 f5 hpos hS
  go_enter Try.func8, Try.ntmps8
  go_wp2_with (first
    | (at_builtin; refine append_any rfl (.tmp 39) (.tmp 40) rfl w.heap.size v1 len3 ms rfl hown1 a1 len1 cap1 xs rfl HA1.out.size HA1.out.none (HA1.out.lies.below B1) (by omega) B1.size ?_; intro v2 w2 hown2 hgrow2; have B2 := B1.grown hgrow2 B1.size (own_block hown1))
    | (at_builtin; refine append_any rfl (.tmp 36) (.tmp 37) rfl w.heap.size (.slice none 0 0) 0 [] rfl (World.ownsRow_nil _ _ _ _) a3 len3 cap3 ms rfl HA3.out.size HA3.out.none HA3.out.lies (by omega) (Nat.le_refl _) ?_; intro v1 w1 hown1' hgrow1; have B1 := (Below.refl w.heap.size w).grown hgrow1 (Nat.le_refl _) (fun k h => by cases h); rw [Nat.zero_add, List.nil_append] at hown1'; have hown1 := hown1'))
  obtain ⟨aa, ca, hv2, -, hAa, -, -, -⟩ := owns_at hown2
  subst hv2
  have HAa : Hid (At w2 aa (ms ++ xs)) := hAa
  have HB2 : Hid (Below w.heap.size w w2) := B2
  clear hown1 hown1' hgrow1 hgrow2 hown2 hAa B1 B2
  go_loopg [8, 10] len3 (fun gk v i wr => ∃ (k : Nat) (z : Int), k ≤ len3 ∧ k = gk ∧ z = (k : Int) - 1 ∧ i = .int .i64 z ∧ wr.ownsRow w2.heap.size 3 1 v (len3 - k) (((ms.drop k).reverse).map (Value.int .i64)) ∧ Below w2.heap.size w2 wr)
  case atStart =>
    refine ⟨len3, (len3 : Int) - 1, Nat.le_refl _, rfl, rfl, by go_num, ?_, Below.refl _ _⟩
    rw [Nat.sub_self, List.drop_eq_nil_of_le (by omega)]
    exact World.ownsRow_nil _ _ _ _
  case round =>
    obtain ⟨k, z, hk, rfl, hz, rfl, hown, hbel⟩ := hrel
    cases k with
    | succ j =>
      obtain rfl : z = (j : Int) := by omega
      obtain ⟨b, off, rfl, hc⟩ := HA3.out.lies.resolve_left (fun e => by rw [e] at z3; simp at z3; omega)
      have q1 := hc j (by omega)
      have q2 : wr.cell? ⟨b, off + j, none⟩ = some (.int .i64 (nth ms j)) := by rw [(HB2.out.trans (hbel.mono HB2.out.size)).cell (p := ⟨b, off + j, none⟩) (block_lt_of_cell q1)]; exact q1
      have HD : Hid ((ms.drop (j + 1)).reverse ++ [nth ms j] = (ms.drop j).reverse) := down_step (by omega)
      have hlen : Hid (len3 - (j + 1) + 1 = len3 - j) := by show _ = _; omega
      obtain ⟨i0, hi, hz0, hz1, hz2⟩ := info_parts Try.info3
      have hj0 : decide ((0 : Int) ≤ (j : Int)) = true := decide_eq_true (by omega)
      have hji : (j : Int) < (len3 : Int) := by omega
      clear q1 hc hz
      generalize nth ms j = t at *
      obtain ⟨O, hO⟩ : ∃ O, O = (ms.drop (j + 1)).reverse := ⟨_, rfl⟩
      rw [← hO] at hown
      have HO : Hid (O = (ms.drop (j + 1)).reverse) := hO
      clear hO
      go_wp2_with (at_builtin; refine wpList_append_own _ rfl (.tmp 49) (.tmp 54) 22 rfl w2.heap.size 3 i0 (.int .i64 0) 1 8 Try.underlying22 hi hz0 hz1 hz2 rfl (by decide) u8 (len3 - (j + 1)) _ rfl (hown.alloc _) ⟨wr.heap.size, 0, none⟩ 1 1 [.int .i64 t] rfl rfl (one_new _ _ _) (one_cell _) (by unfold maxLen; omega) (by omega) (by have := hbel.size; simp; omega) ?_; intro v' w4 hown' hgrow _)
      obtain ⟨R1, R2⟩ := grown_row hown' hgrow hown hbel
      go_roundg j
      case measure => omega
      case rel =>
        refine ⟨j, (j : Int) - 1, by omega, rfl, rfl, by go_num, ?_, R2⟩
        rw [← HD.out, ← HO.out, ← hlen.out]
        exact R1
    | zero =>
      obtain rfl : z = -1 := by omega
      clear hz hk
      rw [Nat.sub_zero, down_all] at hown
      have BW := HB2.out.trans (hbel.mono HB2.out.size)
      go_wp2_with (at_builtin; refine append_any rfl (.tmp 56) (.tmp 57) rfl w2.heap.size u8 len3 ms.reverse rfl hown a2 len2 cap2 ys rfl HA2.out.size HA2.out.none (HA2.out.lies.below BW) (by omega) hbel.size ?_; intro v5 w5 hown5 hgrow5; have B5 := hbel.grown hgrow5 hbel.size (own_block hown))
      obtain ⟨ab, cb5, hv5, -, hAb, -, -, -⟩ := owns_at hown5
      subst hv5
      have HAb : Hid (At w5 ab (ms.reverse ++ ys)) := hAb
      have HAa5 : Hid (At w5 aa (ms ++ xs)) := HAa.out.below B5
      have HB5 : Hid (Below w.heap.size w w5) := HB2.out.trans (B5.mono HB2.out.size)
      clear hown hown5 hgrow5 hAb B5 BW hbel
      go_loopg [9, 11] len1 (fun gk v i wr => ∃ (k : Nat) (z : Int), k ≤ len1 ∧ k = gk ∧ z = (k : Int) - 1 ∧ i = .int .i64 z ∧ wr.ownsRow w5.heap.size 3 1 v (len1 - k) (((xs.drop k).reverse).map (Value.int .i64)) ∧ Below w5.heap.size w5 wr)
      case atStart =>
        refine ⟨len1, (len1 : Int) - 1, Nat.le_refl _, rfl, rfl, by go_num, ?_, Below.refl _ _⟩
        rw [Nat.sub_self, List.drop_eq_nil_of_le (by omega)]
        exact World.ownsRow_nil _ _ _ _
      case round =>
        obtain ⟨k, z, hk, rfl, hz, rfl, hown, hbel⟩ := hrel
        cases k with
        | succ j =>
          obtain rfl : z = (j : Int) := by omega
          obtain ⟨b, off, rfl, hc⟩ := HA1.out.lies.resolve_left (fun e => by rw [e] at z1; simp at z1; omega)
          have q1 := hc j (by omega)
          have q2 : wr.cell? ⟨b, off + j, none⟩ = some (.int .i64 (nth xs j)) := by rw [(HB5.out.trans (hbel.mono HB5.out.size)).cell (p := ⟨b, off + j, none⟩) (block_lt_of_cell q1)]; exact q1
          have HD : Hid ((xs.drop (j + 1)).reverse ++ [nth xs j] = (xs.drop j).reverse) := down_step (by omega)
          have hlen : Hid (len1 - (j + 1) + 1 = len1 - j) := by show _ = _; omega
          obtain ⟨i0, hi, hz0, hz1, hz2⟩ := info_parts Try.info3
          have hj0' : decide ((0 : Int) ≤ (j : Int)) = true := decide_eq_true (by omega)
          have hji : (j : Int) < (len1 : Int) := by omega
          clear q1 hc hz
          generalize nth xs j = t at *
          obtain ⟨O, hO⟩ : ∃ O, O = (xs.drop (j + 1)).reverse := ⟨_, rfl⟩
          rw [← hO] at hown
          have HO : Hid (O = (xs.drop (j + 1)).reverse) := hO
          clear hO
          go_wp2_with (at_builtin; refine wpList_append_own _ rfl (.tmp 66) (.tmp 71) 22 rfl w5.heap.size 3 i0 (.int .i64 0) 1 8 Try.underlying22 hi hz0 hz1 hz2 rfl (by decide) u9 (len1 - (j + 1)) _ rfl (hown.alloc _) ⟨wr.heap.size, 0, none⟩ 1 1 [.int .i64 t] rfl rfl (one_new _ _ _) (one_cell _) (by unfold maxLen; omega) (by omega) (by have := hbel.size; simp; omega) ?_; intro v' w4 hown' hgrow _)
          obtain ⟨R1, R2⟩ := grown_row hown' hgrow hown hbel
          go_roundg j
          case measure => omega
          case rel =>
            refine ⟨j, (j : Int) - 1, by omega, rfl, rfl, by go_num, ?_, R2⟩
            rw [← HD.out, ← HO.out, ← hlen.out]
            exact R1
        | zero =>
          obtain rfl : z = -1 := by omega
          clear hz hk
          rw [Nat.sub_zero, down_all] at hown
          obtain ⟨ar, cr, hvr, hlr, hAr, hcr, hnr, -⟩ := owns_at hown
          subst hvr
          have HT : Hid (At wr aa (ms ++ xs) ∧ At wr ab (ms.reverse ++ ys) ∧ At wr ar xs.reverse) := ⟨HAa5.out.below hbel, HAb.out.below hbel, hAr⟩
          have HR : Hid (Arg wr ar len1 cr xs.reverse) := ⟨hlr, by omega, hnr, HRI.out, hAr, hcr⟩
          have I4 : Hid (∀ W, Arg W ar len1 cr xs.reverse → Calls Try.prog 20 #[.slice ar len1 cr] W (Copied W len1 xs.reverse)) := fun W h => ints_any ar xs.reverse len1 cr W h
          have HB9 : Hid (Below w.heap.size w wr) := HB5.out.trans (hbel.mono HB5.out.size)
          clear hown hAr hcr hnr hlr hbel HAa5 HAb HAa
          generalize wr = w9 at *
          obtain ⟨v, V3, S, vb, E, G3, H, Eb, e1, e2, e3, e4, e5, e6, e7, e8, hcases⟩ := HF.out
          have Q1 := Q10
          have Q2 := Q20
          have Q3 := Q30
          have Q4 := Q40
          have Q5 := Q50
          rw [e1, e2] at Q1 Q2
          rw [e3, e4] at Q3
          rw [e7, e8] at Q4
          rw [e5, e6] at Q5
          clear Q10 Q20 Q30 Q40 Q50 e1 e2 e3 e4 e5 e6 e7 e8 HF
          have q1 : (v != v) = false := by simp
          have q2 : (E != E) = false := by simp
          rcases hcases with ⟨hE, rfl, rfl, rfl, rfl⟩ | ⟨hE, rfl, rfl, hH⟩ | ⟨rfl, hEb, rfl, rfl, rfl, rfl⟩ | ⟨rfl, rfl, rfl, rfl, rfl, rfl⟩
          · have q3 : (E != 0) = true := by simpa using hE
            clear hE
            go_wp2_with (first
              | (go_at_call 14; (with_reducible refine (awake3 _).mono ?_); rintro e w21 ⟨rfl, b12⟩; have F21 := F20.trans (b12.mono F20.size))
              | (go_at_call 16; (with_reducible refine (Q5.out _ _ _ _ w19 k9b k10).mono ?_); rintro e w20 ⟨rfl, b11⟩; have F20 := F19.trans (b11.mono F19.size))
              | (go_at_call 20; (with_reducible refine (I4.out w18 (HR.out.below M18)).mono ?_); rintro e w19 ⟨x10, cp10, rfl, k10, b10, -⟩; have k9b := k9.below b10; have F19 := F18.trans (b10.mono F18.size))
              | (go_at_call 20; (with_reducible refine (I1.out w17 (HA1.out.below F17)).mono ?_); rintro e w18 ⟨x9, cp9, rfl, k9, b9, -⟩; have F18 := F17.trans (b9.mono F17.size); have M18 := M17.trans (b9.mono M17.size))
              | (go_at_call 16; (with_reducible refine (Q4.out _ _ w16 k7).mono ?_); rintro e w17 ⟨rfl, b8⟩; have F17 := F16.trans (b8.mono F16.size); have M17 := M16.trans (b8.mono M16.size))
              | (go_at_call 20; (with_reducible refine (I3.out w15 (HA3.out.below F15)).mono ?_); rintro e w16 ⟨x7, cp7, rfl, k7, b7, -⟩; have F16 := F15.trans (b7.mono F15.size); have M16 := M15.trans (b7.mono M15.size))
              | (go_at_call 16; (with_reducible refine (Q3.out _ _ _ _ w14 (HT.out.1.below M14) (HT.out.2.1.below M14)).mono ?_); rintro e w15 ⟨rfl, b6⟩; have F15 := F14.trans (b6.mono F14.size); have M15 := M14.trans (b6.mono M14.size))
              | (go_at_call 16; (with_reducible refine (Q2.out _ _ _ _ w13 (HT.out.2.2.below M13) k4).mono ?_); rintro e w14 ⟨rfl, b5⟩; have F14 := F13.trans (b5.mono F13.size); have M14 := M13.trans (b5.mono M13.size))
              | (go_at_call 20; (with_reducible refine (I2.out w12 (HA2.out.below F12)).mono ?_); rintro e w13 ⟨x4, cp4, rfl, k4, b4, -⟩; have F13 := F12.trans (b4.mono F12.size); have M13 := M12.trans (b4.mono M12.size))
              | (go_at_call 16; (with_reducible refine (Q1.out _ _ _ _ w11 k1b k2).mono ?_); rintro e w12 ⟨rfl, b3⟩; have F12 := F11.trans (b3.mono F11.size); have M12 := M11.trans (b3.mono M11.size))
              | (go_at_call 20; (with_reducible refine (I2.out w10 (HA2.out.below F10)).mono ?_); rintro e w11 ⟨x2, cp2, rfl, k2, b2, -⟩; have k1b := k1.below b2; have F11 := F10.trans (b2.mono F10.size); have M11 := b1.trans (b2.mono b1.size))
              | (go_at_call 20; (with_reducible refine (I1.out w9 (HA1.out.below HB9.out)).mono ?_); rintro e w10 ⟨x1, cp1, rfl, k1, b1, -⟩; have F10 := HB9.out.trans (b1.mono HB9.out.size)))
            go_ret
            exact ⟨rfl, F21⟩
          · have q3 : (E != 0) = true := by simpa using hE
            have q4 : (H == 0) = false := by simpa using hH
            clear hE hH
            go_wp2_with (first
              | (go_at_call 14; (with_reducible refine (awake3 _).mono ?_); rintro e w21 ⟨rfl, b12⟩; have F21 := F20.trans (b12.mono F20.size))
              | (go_at_call 16; (with_reducible refine (Q5.out _ _ _ _ w19 k9b k10).mono ?_); rintro e w20 ⟨rfl, b11⟩; have F20 := F19.trans (b11.mono F19.size))
              | (go_at_call 20; (with_reducible refine (I4.out w18 (HR.out.below M18)).mono ?_); rintro e w19 ⟨x10, cp10, rfl, k10, b10, -⟩; have k9b := k9.below b10; have F19 := F18.trans (b10.mono F18.size))
              | (go_at_call 20; (with_reducible refine (I1.out w17 (HA1.out.below F17)).mono ?_); rintro e w18 ⟨x9, cp9, rfl, k9, b9, -⟩; have F18 := F17.trans (b9.mono F17.size); have M18 := M17.trans (b9.mono M17.size))
              | (go_at_call 16; (with_reducible refine (Q4.out _ _ w16 k7).mono ?_); rintro e w17 ⟨rfl, b8⟩; have F17 := F16.trans (b8.mono F16.size); have M17 := M16.trans (b8.mono M16.size))
              | (go_at_call 20; (with_reducible refine (I3.out w15 (HA3.out.below F15)).mono ?_); rintro e w16 ⟨x7, cp7, rfl, k7, b7, -⟩; have F16 := F15.trans (b7.mono F15.size); have M16 := M15.trans (b7.mono M15.size))
              | (go_at_call 16; (with_reducible refine (Q3.out _ _ _ _ w14 (HT.out.1.below M14) (HT.out.2.1.below M14)).mono ?_); rintro e w15 ⟨rfl, b6⟩; have F15 := F14.trans (b6.mono F14.size); have M15 := M14.trans (b6.mono M14.size))
              | (go_at_call 16; (with_reducible refine (Q2.out _ _ _ _ w13 (HT.out.2.2.below M13) k4).mono ?_); rintro e w14 ⟨rfl, b5⟩; have F14 := F13.trans (b5.mono F13.size); have M14 := M13.trans (b5.mono M13.size))
              | (go_at_call 20; (with_reducible refine (I2.out w12 (HA2.out.below F12)).mono ?_); rintro e w13 ⟨x4, cp4, rfl, k4, b4, -⟩; have F13 := F12.trans (b4.mono F12.size); have M13 := M12.trans (b4.mono M12.size))
              | (go_at_call 16; (with_reducible refine (Q1.out _ _ _ _ w11 k1b k2).mono ?_); rintro e w12 ⟨rfl, b3⟩; have F12 := F11.trans (b3.mono F11.size); have M12 := M11.trans (b3.mono M11.size))
              | (go_at_call 20; (with_reducible refine (I2.out w10 (HA2.out.below F10)).mono ?_); rintro e w11 ⟨x2, cp2, rfl, k2, b2, -⟩; have k1b := k1.below b2; have F11 := F10.trans (b2.mono F10.size); have M11 := b1.trans (b2.mono b1.size))
              | (go_at_call 20; (with_reducible refine (I1.out w9 (HA1.out.below HB9.out)).mono ?_); rintro e w10 ⟨x1, cp1, rfl, k1, b1, -⟩; have F10 := HB9.out.trans (b1.mono HB9.out.size)))
            go_ret
            exact ⟨rfl, F21⟩
          · have q3 : (Eb != 0) = true := by simpa using hEb
            clear hEb
            go_wp2_with (first
              | (go_at_call 14; (with_reducible refine (awake3 _).mono ?_); rintro e w21 ⟨rfl, b12⟩; have F21 := F20.trans (b12.mono F20.size))
              | (go_at_call 16; (with_reducible refine (Q5.out _ _ _ _ w19 k9b k10).mono ?_); rintro e w20 ⟨rfl, b11⟩; have F20 := F19.trans (b11.mono F19.size))
              | (go_at_call 20; (with_reducible refine (I4.out w18 (HR.out.below M18)).mono ?_); rintro e w19 ⟨x10, cp10, rfl, k10, b10, -⟩; have k9b := k9.below b10; have F19 := F18.trans (b10.mono F18.size))
              | (go_at_call 20; (with_reducible refine (I1.out w17 (HA1.out.below F17)).mono ?_); rintro e w18 ⟨x9, cp9, rfl, k9, b9, -⟩; have F18 := F17.trans (b9.mono F17.size); have M18 := M17.trans (b9.mono M17.size))
              | (go_at_call 16; (with_reducible refine (Q4.out _ _ w16 k7).mono ?_); rintro e w17 ⟨rfl, b8⟩; have F17 := F16.trans (b8.mono F16.size); have M17 := M16.trans (b8.mono M16.size))
              | (go_at_call 20; (with_reducible refine (I3.out w15 (HA3.out.below F15)).mono ?_); rintro e w16 ⟨x7, cp7, rfl, k7, b7, -⟩; have F16 := F15.trans (b7.mono F15.size); have M16 := M15.trans (b7.mono M15.size))
              | (go_at_call 16; (with_reducible refine (Q3.out _ _ _ _ w14 (HT.out.1.below M14) (HT.out.2.1.below M14)).mono ?_); rintro e w15 ⟨rfl, b6⟩; have F15 := F14.trans (b6.mono F14.size); have M15 := M14.trans (b6.mono M14.size))
              | (go_at_call 16; (with_reducible refine (Q2.out _ _ _ _ w13 (HT.out.2.2.below M13) k4).mono ?_); rintro e w14 ⟨rfl, b5⟩; have F14 := F13.trans (b5.mono F13.size); have M14 := M13.trans (b5.mono M13.size))
              | (go_at_call 20; (with_reducible refine (I2.out w12 (HA2.out.below F12)).mono ?_); rintro e w13 ⟨x4, cp4, rfl, k4, b4, -⟩; have F13 := F12.trans (b4.mono F12.size); have M13 := M12.trans (b4.mono M12.size))
              | (go_at_call 16; (with_reducible refine (Q1.out _ _ _ _ w11 k1b k2).mono ?_); rintro e w12 ⟨rfl, b3⟩; have F12 := F11.trans (b3.mono F11.size); have M12 := M11.trans (b3.mono M11.size))
              | (go_at_call 20; (with_reducible refine (I2.out w10 (HA2.out.below F10)).mono ?_); rintro e w11 ⟨x2, cp2, rfl, k2, b2, -⟩; have k1b := k1.below b2; have F11 := F10.trans (b2.mono F10.size); have M11 := b1.trans (b2.mono b1.size))
              | (go_at_call 20; (with_reducible refine (I1.out w9 (HA1.out.below HB9.out)).mono ?_); rintro e w10 ⟨x1, cp1, rfl, k1, b1, -⟩; have F10 := HB9.out.trans (b1.mono HB9.out.size)))
            go_ret
            exact ⟨rfl, F21⟩
          · have q3 : (V3 == V3) = true := by simp
            go_wp2_with (first
              | (go_at_call 14; (with_reducible refine (awake3 _).mono ?_); rintro e w21 ⟨rfl, b12⟩; have F21 := F20.trans (b12.mono F20.size))
              | (go_at_call 16; (with_reducible refine (Q5.out _ _ _ _ w19 k9b k10).mono ?_); rintro e w20 ⟨rfl, b11⟩; have F20 := F19.trans (b11.mono F19.size))
              | (go_at_call 20; (with_reducible refine (I4.out w18 (HR.out.below M18)).mono ?_); rintro e w19 ⟨x10, cp10, rfl, k10, b10, -⟩; have k9b := k9.below b10; have F19 := F18.trans (b10.mono F18.size))
              | (go_at_call 20; (with_reducible refine (I1.out w17 (HA1.out.below F17)).mono ?_); rintro e w18 ⟨x9, cp9, rfl, k9, b9, -⟩; have F18 := F17.trans (b9.mono F17.size); have M18 := M17.trans (b9.mono M17.size))
              | (go_at_call 16; (with_reducible refine (Q4.out _ _ w16 k7).mono ?_); rintro e w17 ⟨rfl, b8⟩; have F17 := F16.trans (b8.mono F16.size); have M17 := M16.trans (b8.mono M16.size))
              | (go_at_call 20; (with_reducible refine (I3.out w15 (HA3.out.below F15)).mono ?_); rintro e w16 ⟨x7, cp7, rfl, k7, b7, -⟩; have F16 := F15.trans (b7.mono F15.size); have M16 := M15.trans (b7.mono M15.size))
              | (go_at_call 16; (with_reducible refine (Q3.out _ _ _ _ w14 (HT.out.1.below M14) (HT.out.2.1.below M14)).mono ?_); rintro e w15 ⟨rfl, b6⟩; have F15 := F14.trans (b6.mono F14.size); have M15 := M14.trans (b6.mono M14.size))
              | (go_at_call 16; (with_reducible refine (Q2.out _ _ _ _ w13 (HT.out.2.2.below M13) k4).mono ?_); rintro e w14 ⟨rfl, b5⟩; have F14 := F13.trans (b5.mono F13.size); have M14 := M13.trans (b5.mono M13.size))
              | (go_at_call 20; (with_reducible refine (I2.out w12 (HA2.out.below F12)).mono ?_); rintro e w13 ⟨x4, cp4, rfl, k4, b4, -⟩; have F13 := F12.trans (b4.mono F12.size); have M13 := M12.trans (b4.mono M12.size))
              | (go_at_call 16; (with_reducible refine (Q1.out _ _ _ _ w11 k1b k2).mono ?_); rintro e w12 ⟨rfl, b3⟩; have F12 := F11.trans (b3.mono F11.size); have M12 := M11.trans (b3.mono M11.size))
              | (go_at_call 20; (with_reducible refine (I2.out w10 (HA2.out.below F10)).mono ?_); rintro e w11 ⟨x2, cp2, rfl, k2, b2, -⟩; have k1b := k1.below b2; have F11 := F10.trans (b2.mono F10.size); have M11 := b1.trans (b2.mono b1.size))
              | (go_at_call 20; (with_reducible refine (I1.out w9 (HA1.out.below HB9.out)).mono ?_); rintro e w10 ⟨x1, cp1, rfl, k1, b1, -⟩; have F10 := HB9.out.trans (b1.mono HB9.out.size)))
            go_ret
            exact ⟨rfl, F21⟩

theorem corder_any (a1 : Option Addr) (len1 cap1 : Nat) (xs : List Int) (a2 : Option Addr) (len2 cap2 : Nat) (ys : List Int) (a3 : Option Addr) (len3 cap3 : Nat) (ms : List Int) (w : World) (hA1 : Arg w a1 len1 cap1 xs) (hA2 : Arg w a2 len2 cap2 ys) (hA3 : Arg w a3 len3 cap3 ms) :
    Calls Try.prog 8 #[.slice a1 len1 cap1, .slice a2 len2 cap2, .slice a3 len3 cap3] w fun e w' => e = .returned (.bool true) ∧ Below w.heap.size w w' := by
  by_cases h : 1024 < len1 + len3 ∨ 1024 < len2 + len3
  · exact corder_long a1 len1 cap1 xs a2 len2 cap2 ys a3 len3 cap3 ms w hA1 hA2 hA3 h
  · exact corder_short a1 len1 cap1 xs a2 len2 cap2 ys a3 len3 cap3 ms w hA1 hA2 hA3 (by omega) (by omega)
end Go.Proofs.Ytgjeihdibcjjcaa

/- What the document's numbers of any length do over rows of digits: less (pianolaref00). -/
import Derived.Test.YtoenbiigamegoabBigGrow
namespace Go.Proofs.Ytoenbiigamegoab
open Go.ChangeShapes Go.WideShapes Go.ChangeAt Go.RowKit

theorem lessL_step (b : Int) (xs ys : List Int) (i : Nat) (h : i < xs.length) :
    lessL b (xs.drop i) (ys.drop i) = (if nth xs i - b - nth ys i < 0 then nth xs i - b - nth ys i + 1073741824 else nth xs i - b - nth ys i) :: lessL (if nth xs i - b - nth ys i < 0 then 1 else 0) (xs.drop (i + 1)) (ys.drop (i + 1)) := by
  have e : nth (ys.drop i) 0 = nth ys i := by
    unfold nth
    rw [List.getD_eq_getElem?_getD, List.getD_eq_getElem?_getD, List.getElem?_drop, Nat.add_zero]
  rw [drop_nth xs i h, lessL, e, List.tail_drop]

set_option maxRecDepth 100000 in
set_option maxHeartbeats 2000000 in
theorem lessRow_any (a1 a2 : Option Addr) (len1 len2 cap1 cap2 : Nat) (xs ys : List Int) (w : World) (h1 : Row w a1 len1 cap1 xs) (h2 : Row w a2 len2 cap2 ys) (hle : val ys ≤ val xs) :
    Calls Try.prog 28 #[.slice a1 len1 cap1, .slice a2 len2 cap2] w (MadeRow w (val xs - val ys) len1) := by
  obtain ⟨i0, hi, hz0, hz1, hz2⟩ := info_parts Try.info3
  have z1 := h1.size
  have z2 := h2.size
  have s1 := h1.short
  have s2 := h2.short
  have HV : Hid (val (lessL 0 xs ys) = val xs - val ys ∧ Dig (lessL 0 xs ys)) := by
    have := lessL_val h1.dig h2.dig (b := 0) (by decide) (by omega)
    exact ⟨by rw [this.1]; omega, this.2⟩
  have HR1 : Hid (Row w a1 len1 cap1 xs) := h1
  have HR2 : Hid (Row w a2 len2 cap2 ys) := h2
  clear h1 h2 hle
  go_enter Try.func28, Try.ntmps28
  go_wp2
  go_loopg [5, 6, 7, 8] len1 (fun gk v co io _ wr => ∃ (i : Nat) (c : Int) (os : List Int), i ≤ len1 ∧ gk = len1 - i ∧ io = .int .i64 i ∧ co = .int .i64 c ∧ 0 ≤ c ∧ c ≤ 1 ∧ os.length = i ∧
    wr.ownsRow w.heap.size 3 1 v i (os.map (Value.int .i64)) ∧ os ++ lessL c (xs.drop i) (ys.drop i) = lessL 0 xs ys ∧ Below w.heap.size w wr)
  case atStart => exact ⟨0, 0, [], Nat.zero_le _, rfl, rfl, rfl, by decide, by decide, rfl, World.ownsRow_nil _ _ _ _, rfl, Below.refl _ _⟩
  case round =>
    obtain ⟨i, c, os, hiT, rfl, rfl, rfl, hc0, hc1, hos, hown, heq, hbel⟩ := hrel
    have HEQ : Hid (os ++ lessL c (xs.drop i) (ys.drop i) = lessL 0 xs ys) := heq
    have HOS : Hid (os.length = i) := hos
    clear heq hos
    by_cases l1 : i < len1
    · have hx := HR1.out.dig.nth i
      have hy := HR2.out.dig.nth i
      obtain ⟨b1, off1, ha1, hcc1⟩ := (HR1.out.lies.below hbel).resolve_left (by rintro rfl; simp at z1; omega)
      have g1 := hcc1 i (by omega)
      subst ha1
      clear hcc1
      have heq := HEQ.out
      rw [lessL_step c xs ys i (by omega)] at heq
      by_cases l2 : i < len2
      · obtain ⟨b2, off2, ha2, hcc2⟩ := (HR2.out.lies.below hbel).resolve_left (by rintro rfl; simp at z2; omega)
        have g2 := hcc2 i (by omega)
        subst ha2
        clear hcc2
        by_cases hs : nth xs i - c - nth ys i < 0
        · rw [if_pos hs, if_pos hs] at heq
          have HEQ' : Hid (os ++ (nth xs i - c - nth ys i + 1073741824) :: lessL 1 (xs.drop (i + 1)) (ys.drop (i + 1)) = lessL 0 xs ys) := heq
          clear heq HEQ
          generalize nth xs i = x at *
          generalize nth ys i = y at *
          go_wp2_with (at_builtin; refine wpList_append_own _ rfl (.tmp 35) (.tmp 37) 31 rfl w.heap.size 3 i0 (.int .i64 0) 1 8 Try.underlying31 hi hz0 hz1 hz2 rfl (by decide) u5 i _ rfl (hown.alloc _) ⟨wr.heap.size, 0, none⟩ 1 1 [.int .i64 _] rfl rfl (one_new _ _ _) (one_cell _) (by unfold maxLen; omega) (by omega) (by have := hbel.size; simp; omega) ?_; intro v' w1 hown' hgrow _)
          obtain ⟨R1, R2⟩ := grown_row hown' hgrow hown hbel
          go_roundg (len1 - (i + 1))
          case measure => omega
          case rel => exact ⟨i + 1, _, os ++ [_], by omega, rfl, by go_num, rfl, by decide, by decide, by simp [HOS.out], R1, by rw [List.append_assoc]; exact HEQ'.out, R2⟩
        · rw [if_neg hs, if_neg hs] at heq
          have HEQ' : Hid (os ++ (nth xs i - c - nth ys i) :: lessL 0 (xs.drop (i + 1)) (ys.drop (i + 1)) = lessL 0 xs ys) := heq
          clear heq HEQ
          generalize nth xs i = x at *
          generalize nth ys i = y at *
          go_wp2_with (at_builtin; refine wpList_append_own _ rfl (.tmp 35) (.tmp 37) 31 rfl w.heap.size 3 i0 (.int .i64 0) 1 8 Try.underlying31 hi hz0 hz1 hz2 rfl (by decide) u5 i _ rfl (hown.alloc _) ⟨wr.heap.size, 0, none⟩ 1 1 [.int .i64 _] rfl rfl (one_new _ _ _) (one_cell _) (by unfold maxLen; omega) (by omega) (by have := hbel.size; simp; omega) ?_; intro v' w1 hown' hgrow _)
          obtain ⟨R1, R2⟩ := grown_row hown' hgrow hown hbel
          go_roundg (len1 - (i + 1))
          case measure => omega
          case rel => exact ⟨i + 1, _, os ++ [_], by omega, rfl, by go_num, rfl, by decide, by decide, by simp [HOS.out], R1, by rw [List.append_assoc]; exact HEQ'.out, R2⟩
      · have e0 : nth ys i = 0 := nth_over (by omega)
        rw [e0, Int.sub_zero] at heq
        by_cases hs : nth xs i - c < 0
        · rw [if_pos hs, if_pos hs] at heq
          have HEQ' : Hid (os ++ (nth xs i - c + 1073741824) :: lessL 1 (xs.drop (i + 1)) (ys.drop (i + 1)) = lessL 0 xs ys) := heq
          clear heq HEQ e0 hy
          generalize nth xs i = x at *
          go_wp2_with (at_builtin; refine wpList_append_own _ rfl (.tmp 35) (.tmp 37) 31 rfl w.heap.size 3 i0 (.int .i64 0) 1 8 Try.underlying31 hi hz0 hz1 hz2 rfl (by decide) u5 i _ rfl (hown.alloc _) ⟨wr.heap.size, 0, none⟩ 1 1 [.int .i64 _] rfl rfl (one_new _ _ _) (one_cell _) (by unfold maxLen; omega) (by omega) (by have := hbel.size; simp; omega) ?_; intro v' w1 hown' hgrow _)
          obtain ⟨R1, R2⟩ := grown_row hown' hgrow hown hbel
          go_roundg (len1 - (i + 1))
          case measure => omega
          case rel => exact ⟨i + 1, _, os ++ [_], by omega, rfl, by go_num, rfl, by decide, by decide, by simp [HOS.out], R1, by rw [List.append_assoc]; exact HEQ'.out, R2⟩
        · rw [if_neg hs, if_neg hs] at heq
          have HEQ' : Hid (os ++ (nth xs i - c) :: lessL 0 (xs.drop (i + 1)) (ys.drop (i + 1)) = lessL 0 xs ys) := heq
          clear heq HEQ e0 hy
          generalize nth xs i = x at *
          go_wp2_with (at_builtin; refine wpList_append_own _ rfl (.tmp 35) (.tmp 37) 31 rfl w.heap.size 3 i0 (.int .i64 0) 1 8 Try.underlying31 hi hz0 hz1 hz2 rfl (by decide) u5 i _ rfl (hown.alloc _) ⟨wr.heap.size, 0, none⟩ 1 1 [.int .i64 _] rfl rfl (one_new _ _ _) (one_cell _) (by unfold maxLen; omega) (by omega) (by have := hbel.size; simp; omega) ?_; intro v' w1 hown' hgrow _)
          obtain ⟨R1, R2⟩ := grown_row hown' hgrow hown hbel
          go_roundg (len1 - (i + 1))
          case measure => omega
          case rel => exact ⟨i + 1, _, os ++ [_], by omega, rfl, by go_num, rfl, by decide, by decide, by simp [HOS.out], R1, by rw [List.append_assoc]; exact HEQ'.out, R2⟩
    · have e1 : xs.drop i = [] := drop_end xs i (by omega)
      have heq := HEQ.out
      rw [e1, lessL, List.append_nil] at heq
      subst heq
      have hvv := HV.out
      obtain ⟨a', cap', hv, hl', hat', hcp', hn', -⟩ := owns_at hown
      have hrow : Row wr a' i cap' (lessL 0 xs ys) := ⟨hl', hat', hn', hcp', by omega, hvv.2⟩
      subst hv
      clear e1 HEQ hown
      go_wp2_with (go_at_call 29; refine (trim_any _ _ _ _ _ hrow).mono ?_; rintro e w' ⟨n, rfl, rfl, r1, r2, r3⟩)
      go_ret
      exact ⟨a', n, cap', _, rfl, r1, r3, r2.trans hvv.1, hbel, by have := r1.size; rw [List.length_take] at this; omega⟩
end Go.Proofs.Ytoenbiigamegoab

/- What the document's numbers of any length do over rows of digits: add (pianolaref00). -/
import Derived.Test.YtoenbiigamegoabBigGrow
namespace Go.Proofs.Ytoenbiigamegoab
open Go.ChangeShapes Go.WideShapes Go.ChangeAt Go.RowKit

set_option maxRecDepth 100000 in
set_option maxHeartbeats 2000000 in
theorem addRow_any (a1 a2 : Option Addr) (len1 len2 cap1 cap2 : Nat) (xs ys : List Int) (w : World) (h1 : Row w a1 len1 cap1 xs) (h2 : Row w a2 len2 cap2 ys) (hsum : len1 + len2 < 1000000000) :
    Calls Try.prog 26 #[.slice a1 len1 cap1, .slice a2 len2 cap2] w (MadeRow w (val xs + val ys) (len1 + len2 + 1)) := by
  obtain ⟨i0, hi, hz0, hz1, hz2⟩ := info_parts Try.info3
  have z1 := h1.size
  have z2 := h2.size
  have hT : (addL 0 xs ys).length ≤ len1 + len2 + 1 := by have := addL_len (xs := xs) (ys := ys) (c := 0); omega
  have HV : Hid (val (addL 0 xs ys) = val xs + val ys ∧ Dig (addL 0 xs ys)) := by
    have := addL_val h1.dig h2.dig (c := 0) (by decide)
    exact ⟨by rw [this.1]; omega, this.2⟩
  have HR1 : Hid (Row w a1 len1 cap1 xs) := h1
  have HR2 : Hid (Row w a2 len2 cap2 ys) := h2
  obtain ⟨T, hTe⟩ : ∃ T, (addL 0 xs ys).length = T := ⟨_, rfl⟩
  rw [hTe] at hT
  have HT : Hid ((addL 0 xs ys).length = T) := hTe
  clear h1 h2 hTe
  go_enter Try.func26, Try.ntmps26
  go_wp2
  go_loopg [5, 6, 7, 8] T (fun gk v co io _ wr => ∃ (i : Nat) (c : Int) (os : List Int), i ≤ T ∧ gk = T - i ∧ io = .int .i64 i ∧ co = .int .i64 c ∧ 0 ≤ c ∧ c ≤ 1 ∧ os.length = i ∧
    wr.ownsRow w.heap.size 3 1 v i (os.map (Value.int .i64)) ∧ os ++ addL c (xs.drop i) (ys.drop i) = addL 0 xs ys ∧ Below w.heap.size w wr)
  case atStart => exact ⟨0, 0, [], Nat.zero_le _, rfl, rfl, rfl, by decide, by decide, rfl, World.ownsRow_nil _ _ _ _, rfl, Below.refl _ _⟩
  case round =>
    obtain ⟨i, c, os, hiT, rfl, rfl, rfl, hc0, hc1, hos, hown, heq, hbel⟩ := hrel
    have HEQ : Hid (os ++ addL c (xs.drop i) (ys.drop i) = addL 0 xs ys) := heq
    have HOS : Hid (os.length = i) := hos
    have HB : Hid (Below w.heap.size w wr) := hbel
    clear heq hos
    by_cases l1 : i < len1
    · have hx := HR1.out.dig.nth i
      have e1 : xs.drop i = nth xs i :: xs.drop (i + 1) := drop_nth xs i (by omega)
      obtain ⟨b1, off1, ha1, hcc1⟩ := (HR1.out.lies.below hbel).resolve_left (by rintro rfl; simp at z1; omega)
      have g1 := hcc1 i (by omega)
      subst ha1
      clear hcc1
      by_cases l2 : i < len2
      · have hy := HR2.out.dig.nth i
        have e2 : ys.drop i = nth ys i :: ys.drop (i + 1) := drop_nth ys i (by omega)
        obtain ⟨b2, off2, ha2, hcc2⟩ := (HR2.out.lies.below hbel).resolve_left (by rintro rfl; simp at z2; omega)
        have g2 := hcc2 i (by omega)
        subst ha2
        have heq := HEQ.out
        rw [e1, e2, addL] at heq
        have hlt : i < T := by have := congrArg List.length heq; rw [HT.out, List.length_append, List.length_cons, HOS.out] at this; omega
        have HEQ' : Hid (os ++ (c + nth xs i + nth ys i) % 1073741824 :: addL ((c + nth xs i + nth ys i) / 1073741824) (xs.drop (i + 1)) (ys.drop (i + 1)) = addL 0 xs ys) := heq
        clear e1 e2 heq hcc2 HEQ
        generalize nth xs i = x at *
        generalize nth ys i = y at *
        go_wp2_with (at_builtin; refine wpList_append_own _ rfl (.tmp 46) (.tmp 49) 31 rfl w.heap.size 3 i0 (.int .i64 0) 1 8 Try.underlying31 hi hz0 hz1 hz2 rfl (by decide) u5 i _ rfl (hown.alloc _) ⟨wr.heap.size, 0, none⟩ 1 1 [.int .i64 _] rfl rfl (one_new _ _ _) (one_cell _) (by unfold maxLen; omega) (by omega) (by have := hbel.size; simp; omega) ?_; intro v' w1 hown' hgrow _)
        obtain ⟨R1, R2⟩ := grown_row hown' hgrow hown hbel
        go_roundg (T - (i + 1))
        case measure => omega
        case rel => exact ⟨i + 1, _, os ++ [_], by omega, rfl, by go_num, rfl, by omega, by omega, by simp [HOS.out], R1, by rw [List.append_assoc]; exact HEQ'.out, R2⟩
      · have e2 : ys.drop i = [] := drop_end ys i (by omega)
        have e3 : ys.drop (i + 1) = [] := drop_end ys (i + 1) (by omega)
        have heq := HEQ.out
        rw [e1, e2, addL] at heq
        have hlt : i < T := by have := congrArg List.length heq; rw [HT.out, List.length_append, List.length_cons, HOS.out] at this; omega
        have HEQ' : Hid (os ++ (c + nth xs i) % 1073741824 :: addL ((c + nth xs i) / 1073741824) (xs.drop (i + 1)) (ys.drop (i + 1)) = addL 0 xs ys) := by rw [e3]; exact heq
        clear e1 e2 e3 heq HEQ
        generalize nth xs i = x at *
        go_wp2_with (at_builtin; refine wpList_append_own _ rfl (.tmp 46) (.tmp 49) 31 rfl w.heap.size 3 i0 (.int .i64 0) 1 8 Try.underlying31 hi hz0 hz1 hz2 rfl (by decide) u5 i _ rfl (hown.alloc _) ⟨wr.heap.size, 0, none⟩ 1 1 [.int .i64 _] rfl rfl (one_new _ _ _) (one_cell _) (by unfold maxLen; omega) (by omega) (by have := hbel.size; simp; omega) ?_; intro v' w1 hown' hgrow _)
        obtain ⟨R1, R2⟩ := grown_row hown' hgrow hown hbel
        go_roundg (T - (i + 1))
        case measure => omega
        case rel => exact ⟨i + 1, _, os ++ [_], by omega, rfl, by go_num, rfl, by omega, by omega, by simp [HOS.out], R1, by rw [List.append_assoc]; exact HEQ'.out, R2⟩
    · have e1 : xs.drop i = [] := drop_end xs i (by omega)
      have e4 : xs.drop (i + 1) = [] := drop_end xs (i + 1) (by omega)
      by_cases l2 : i < len2
      · have hy := HR2.out.dig.nth i
        have e2 : ys.drop i = nth ys i :: ys.drop (i + 1) := drop_nth ys i (by omega)
        obtain ⟨b2, off2, ha2, hcc2⟩ := (HR2.out.lies.below hbel).resolve_left (by rintro rfl; simp at z2; omega)
        have g2 := hcc2 i (by omega)
        subst ha2
        have heq := HEQ.out
        rw [e1, e2, addL] at heq
        have hlt : i < T := by have := congrArg List.length heq; rw [HT.out, List.length_append, List.length_cons, HOS.out] at this; omega
        have HEQ' : Hid (os ++ (c + nth ys i) % 1073741824 :: addL ((c + nth ys i) / 1073741824) (xs.drop (i + 1)) (ys.drop (i + 1)) = addL 0 xs ys) := by rw [e4]; exact heq
        clear e1 e2 e4 heq hcc2 HEQ
        generalize nth ys i = y at *
        go_wp2_with (at_builtin; refine wpList_append_own _ rfl (.tmp 46) (.tmp 49) 31 rfl w.heap.size 3 i0 (.int .i64 0) 1 8 Try.underlying31 hi hz0 hz1 hz2 rfl (by decide) u5 i _ rfl (hown.alloc _) ⟨wr.heap.size, 0, none⟩ 1 1 [.int .i64 _] rfl rfl (one_new _ _ _) (one_cell _) (by unfold maxLen; omega) (by omega) (by have := hbel.size; simp; omega) ?_; intro v' w1 hown' hgrow _)
        obtain ⟨R1, R2⟩ := grown_row hown' hgrow hown hbel
        go_roundg (T - (i + 1))
        case measure => omega
        case rel => exact ⟨i + 1, _, os ++ [_], by omega, rfl, by go_num, rfl, by omega, by omega, by simp [HOS.out], R1, by rw [List.append_assoc]; exact HEQ'.out, R2⟩
      · have e2 : ys.drop i = [] := drop_end ys i (by omega)
        have e3 : ys.drop (i + 1) = [] := drop_end ys (i + 1) (by omega)
        by_cases hcp : 0 < c
        · have ec : c = 1 := by omega
          subst ec
          have heq := HEQ.out
          rw [e1, e2, addL, if_pos (by decide)] at heq
          have hlt : i < T := by have := congrArg List.length heq; rw [HT.out, List.length_append, List.length_cons, HOS.out] at this; omega
          have HEQ' : Hid (os ++ 1 :: addL 0 (xs.drop (i + 1)) (ys.drop (i + 1)) = addL 0 xs ys) := by
            have k0 : addL 0 [] [] = [] := by rw [addL, if_neg (by decide)]
            rw [e3, e4, k0]; exact heq
          clear e1 e2 e3 e4 heq HEQ
          go_wp2_with (at_builtin; refine wpList_append_own _ rfl (.tmp 46) (.tmp 49) 31 rfl w.heap.size 3 i0 (.int .i64 0) 1 8 Try.underlying31 hi hz0 hz1 hz2 rfl (by decide) u5 i _ rfl (hown.alloc _) ⟨wr.heap.size, 0, none⟩ 1 1 [.int .i64 _] rfl rfl (one_new _ _ _) (one_cell _) (by unfold maxLen; omega) (by omega) (by have := hbel.size; simp; omega) ?_; intro v' w1 hown' hgrow _)
          obtain ⟨R1, R2⟩ := grown_row hown' hgrow hown hbel
          go_roundg (T - (i + 1))
          case measure => omega
          case rel => exact ⟨i + 1, _, os ++ [_], by omega, rfl, by go_num, rfl, by omega, by omega, by simp [HOS.out], R1, by rw [List.append_assoc]; exact HEQ'.out, R2⟩
        · have ec : c = 0 := by omega
          subst ec
          have heq := HEQ.out
          rw [e1, e2, addL, if_neg (by decide), List.append_nil] at heq
          subst heq
          have hvv := HV.out
          obtain ⟨a', cap', hv, hl', hat', hcp', hn', -⟩ := owns_at hown
          have hrow : Row wr a' i cap' (addL 0 xs ys) := ⟨hl', hat', hn', hcp', by omega, hvv.2⟩
          subst hv
          clear e1 e2 e3 e4 HEQ hown
          go_wp2_with (go_at_call 29; refine (trim_any _ _ _ _ _ hrow).mono ?_; rintro e w' ⟨n, rfl, rfl, r1, r2, r3⟩)
          go_ret
          exact ⟨a', n, cap', _, rfl, r1, r3, r2.trans hvv.1, hbel, by have := r1.size; rw [List.length_take] at this; omega⟩
end Go.Proofs.Ytoenbiigamegoab

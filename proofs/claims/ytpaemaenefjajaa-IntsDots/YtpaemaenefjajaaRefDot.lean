/- The document's Dot (pianolaref01): the same plain function. -/
import Derived.Test.YtpaemaenefjajaaRefMul
import Derived.Test.YtpaemaenefjajaaRefSum
namespace Go.Proofs.Ytpaemaenefjajaa
open Go.ChangeShapes Go.WideShapes Go.ChangeAt Go.RowKit

set_option maxRecDepth 100000 in
set_option maxHeartbeats 1000000 in
theorem rdot_any (a1 a2 : Option Addr) (xs ys : List Int) (len1 cap1 len2 cap2 : Nat) (w : World) (hl1 : xs.length = len1) (hl2 : ys.length = len2) (hm1 : len1 ≤ 4611686018427387904) (hm2 : len2 ≤ 4611686018427387904) (hx : InR xs) (hy : InR ys) (h1 : At w a1 xs) (h2 : At w a2 ys) :
    Calls Try.prog 25 #[.slice a1 len1 cap1, .slice a2 len2 cap2] w (Answers w (dotV xs ys) (dotB xs ys)) := by
  by_cases hne : len1 = len2
  · subst hne
    have HV : Hid (dotV xs ys = (dotO 0 xs ys).getD 0) := by show dotV xs ys = _; unfold dotV; rw [if_pos (by omega)]
    have HB : Hid (dotB xs ys = (dotO 0 xs ys).isSome) := by show dotB xs ys = _; unfold dotB; rw [decide_eq_true (by omega)]; rfl
    have hee : ((len1 : Int) != (len1 : Int)) = false := by simp
    by_cases h0 : len1 = 0
    · subst h0
      have e1 : xs = [] := List.eq_nil_of_length_eq_zero hl1
      subst e1
      clear hl1 hl2 h1 h2
      go_enter Try.func25, Try.ntmps25
      go_wp2
      go_loop [6, 7, 8, 9, 10, 11] (fun s i _ _ _ _ => s = .int .i64 0 ∧ i = .int .i64 0) (fun _ _ _ _ _ _ => 0)
      case atStart => exact ⟨rfl, rfl⟩
      case round =>
        obtain ⟨rfl, rfl⟩ := hrel
        go_wp2
        go_ret2
        exact ⟨ret_two (by rw [HV.out, dotO_nil_left]; rfl) (by rw [HB.out, dotO_nil_left]; rfl), Below.refl _ _⟩
    · obtain ⟨b1, off1, rfl, hc1⟩ := h1.resolve_left (by rintro rfl; simp at hl1; omega)
      obtain ⟨b2, off2, rfl, hc2⟩ := h2.resolve_left (by rintro rfl; simp at hl2; omega)
      have HC1 : Hid (∀ k, k < xs.length → w.cell? ⟨b1, off1 + k, none⟩ = some (.int .i64 (nth xs k))) := hc1
      have HC2 : Hid (∀ k, k < ys.length → w.cell? ⟨b2, off2 + k, none⟩ = some (.int .i64 (nth ys k))) := hc2
      clear hc1 hc2 h1 h2
      go_enter Try.func25, Try.ntmps25
      go_wp2
      go_loopg [6, 7, 8, 9, 10, 11] len1 (fun gk s i _ _ _ _ wr => ∃ (k : Nat) (x : Int), k ≤ len1 ∧ gk = len1 - k ∧ i = .int .i64 k ∧ s = .int .i64 x ∧ (-9223372036854775808 ≤ x ∧ x ≤ 9223372036854775807) ∧ dotO x (xs.drop k) (ys.drop k) = dotO 0 xs ys ∧ Below w.heap.size w wr)
      case atStart => exact ⟨0, 0, Nat.zero_le _, rfl, rfl, rfl, by decide, rfl, Below.refl _ _⟩
      case round =>
        obtain ⟨k, x, hk, rfl, rfl, rfl, hx0, hs, hbel⟩ := hrel
        have HS : Hid (dotO x (xs.drop k) (ys.drop k) = dotO 0 xs ys) := hs
        clear hs
        by_cases hlt : k < len1
        · have hck1 : wr.cell? ⟨b1, off1 + k, none⟩ = some (.int .i64 (nth xs k)) := by rw [hbel.cell (block_lt_of_cell (HC1.out k (by omega)))]; exact HC1.out k (by omega)
          have hck2 : wr.cell? ⟨b2, off2 + k, none⟩ = some (.int .i64 (nth ys k)) := by rw [hbel.cell (block_lt_of_cell (HC2.out k (by omega)))]; exact HC2.out k (by omega)
          have hzk1 := hx k
          have hzk2 := hy k
          have HD1 : Hid (xs.drop k = nth xs k :: xs.drop (k + 1)) := drop_nth xs k (by omega)
          have HD2 : Hid (ys.drop k = nth ys k :: ys.drop (k + 1)) := drop_nth ys k (by omega)
          have HM : Hid (∀ W, Calls Try.prog 14 #[.int .i64 (nth xs k), .int .i64 (nth ys k)] W (Told W (nth xs k * nth ys k))) := fun W => rmul_any _ _ W hzk1 hzk2
          generalize hp : nth xs k * nth ys k = p at *
          have HP : Hid (nth xs k * nth ys k = p) := hp
          clear hp
          have hki : (k : Int) < (len1 : Int) := by omega
          go_upto_region 7 with fail
          go_cut [8, 9] (fun s8 s9 wx => s8 = .int .i64 (fitV p) ∧ s9 = .bool (fitB p) ∧ Below w.heap.size w wx)
          case first =>
            go_region_with (go_at_call 14; refine (HM.out _).mono ?_; rintro e w' ⟨rfl, hb1⟩)
            all_goals
              go_wp2_with fail
              go_meet
              exact ⟨rfl, rfl, hbel.drew.trans (hb1.mono hbel.size)⟩
          case rest =>
            obtain ⟨rfl, rfl, hbc⟩ := hcut
            clear hck1 hck2 hbel
            by_cases hf : -9223372036854775808 ≤ p ∧ p ≤ 9223372036854775807
            · have hfb := fitB_yes hf
              have hfv := fitV_yes hf
              have HA : Hid (∀ W, Calls Try.prog 12 #[.int .i64 x, .int .i64 p] W (Told W (x + p))) := fun W => radd_any _ _ W hx0 hf
              have HF : Hid (fitB p = true) := hfb
              by_cases hg : -9223372036854775808 ≤ x + p ∧ x + p ≤ 9223372036854775807
              · have hgb := fitB_yes hg
                have hgv := fitV_yes hg
                have HGB : Hid (fitB (x + p) = true) := hgb
                go_wp2_with (go_at_call 12; refine (HA.out _).mono ?_; rintro e w' ⟨rfl, hb1⟩)
                go_roundg (len1 - (k + 1))
                case measure => omega
                case rel => exact ⟨k + 1, x + p, by omega, rfl, by go_num, rfl, hg, by rw [← HS.out, HD1.out, HD2.out, dotO, HP.out, HF.out, HGB.out]; rfl, hbc.trans (hb1.mono hbc.size)⟩
              · have hgb := fitB_no hg
                have hgv := fitV_no hg
                have HGB : Hid (fitB (x + p) = false) := hgb
                go_wp2_with (go_at_call 12; refine (HA.out _).mono ?_; rintro e w' ⟨rfl, hb1⟩)
                go_ret2
                have e : dotO 0 xs ys = none := by rw [← HS.out, HD1.out, HD2.out, dotO, HP.out, HF.out, HGB.out]; rfl
                exact ⟨ret_two (by rw [HV.out, e]; rfl) (by rw [HB.out, e]; rfl), hbc.trans (hb1.mono hbc.size)⟩
            · have hfb := fitB_no hf
              have hfv := fitV_no hf
              have HF : Hid (fitB p = false) := hfb
              go_wp2
              go_ret2
              have e : dotO 0 xs ys = none := by rw [← HS.out, HD1.out, HD2.out, dotO, HP.out, HF.out]; rfl
              exact ⟨ret_two (by rw [HV.out, e]; rfl) (by rw [HB.out, e]; rfl), hbc⟩
        · have HD1 : Hid (xs.drop k = []) := drop_end xs k (by omega)
          go_wp2
          go_ret2
          have e : dotO 0 xs ys = some x := by rw [← HS.out, HD1.out, dotO_nil_left]
          exact ⟨ret_two (by rw [HV.out, e]; rfl) (by rw [HB.out, e]; rfl), hbel⟩
  · have HV : Hid (dotV xs ys = 0) := by show dotV xs ys = _; unfold dotV; rw [if_neg (by omega)]
    have HB : Hid (dotB xs ys = false) := by show dotB xs ys = _; unfold dotB; rw [decide_eq_false (by omega)]; rfl
    have hne3 : ((len1 : Int) != (len2 : Int)) = true := by simp; omega
    clear hl1 hl2
    go_enter Try.func25, Try.ntmps25
    go_wp2
    go_ret2
    exact ⟨ret_two HV.out.symm HB.out.symm, Below.refl _ _⟩
end Go.Proofs.Ytpaemaenefjajaa

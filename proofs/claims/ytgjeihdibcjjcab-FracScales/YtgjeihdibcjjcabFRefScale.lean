/- The document's Scale (pianolaref02). -/
import Derived.Test.YtgjeihdibcjjcabFRefMul
import Derived.Test.YtgjeihdibcjjcabFrScaleB
import Derived.Test.YtgjeihdibcjjcabRefLcm
import Derived.Test.YtgjeihdibcjjcabBigGrow
namespace Go.Proofs.Ytgjeihdibcjjcab
open Go.ChangeShapes Go.WideShapes Go.ChangeAt Go.RowKit

theorem scE_bigR {fs : List (Int × Int)} (h : allB fs = true) (h2 : lcOK fs = none) : scK fs = 0 ∧ scE fs = 4 ∧ scR fs = [] := ⟨by unfold scK scOK; rw [h, if_pos rfl, h2]; rfl, by unfold scE scOK; rw [h, if_pos rfl, if_pos rfl, h2]; rfl, by unfold scR scOK; rw [h, if_pos rfl, h2]⟩

theorem scE_okR {fs : List (Int × Int)} {K : Nat} (h : allB fs = true) (h2 : lcOK fs = some K) : scK fs = (K : Int) ∧ scE fs = 0 ∧ scR fs = scL K fs := ⟨by unfold scK scOK; rw [h, if_pos rfl, h2]; rfl, by unfold scE scOK; rw [h, if_pos rfl, if_pos rfl, h2]; rfl, by unfold scR scOK; rw [h, if_pos rfl, h2]⟩

theorem owns_below {w w' : World} {base n : Nat} {v : Value} {xs : List Value} (h : w.ownsRow base 3 1 v n xs) (hb : Below w.heap.size w w') : w'.ownsRow base 3 1 v n xs := by
  refine ⟨h.1, ?_⟩
  rcases h.2 with h2 | ⟨g, cap, cur, hv, hg, hh, r⟩
  · exact .inl h2
  · refine .inr ⟨g, cap, cur, hv, hg, ?_, r⟩
    obtain ⟨hlt, -⟩ := Array.getElem?_eq_some_iff.1 hh
    rw [hb.block g hlt]; exact hh

/-- How the document's Scale ends. -/
def RScEnd (w : World) (fs : List (Int × Int)) (e : Ending) (w' : World) : Prop :=
  Below w.heap.size w w' ∧ ∃ v, e = .returned (.tuple #[.int .i64 (scK fs), v, .int .i64 (scE fs)]) ∧ w'.ownsRow w.heap.size 3 1 v (scR fs).length ((scR fs).map (Value.int .i64))

set_option maxRecDepth 100000 in
set_option maxHeartbeats 1000000 in
theorem rscale_no (a : Option Addr) (fs : List (Int × Int)) (len cap : Nat) (w : World) (hl : fs.length = len) (hm : len ≤ 4611686018427387904) (hz : InRP fs) (h : AtP w a fs) (hall : allB fs = false) :
    Calls Try.prog 19 #[.slice a len cap] w (RScEnd w fs) := by
  have hv := rall_any a fs len cap w hl hm hz h
  have K : Hid (scK fs = 0 ∧ scE fs = 1 ∧ scR fs = []) := ⟨by unfold scK scOK; rw [hall]; rfl, by unfold scE; rw [hall]; rfl, by unfold scR scOK; rw [hall]; rfl⟩
  rw [hall] at hv
  clear hall h hz
  go_enter Try.func19, Try.ntmps19
  go_wp2_with (go_at_call 38; refine hv.mono ?_; rintro e w1 ⟨rfl, hb1⟩)
  refine bodyPost_ret (v := .tuple #[.int .i64 0, .slice none 0 0, .int .i64 1]) (by simp [results, Try.results19, go_sem]) rfl ⟨hb1, _, by rw [K.out.1, K.out.2.1], ?_⟩
  rw [K.out.2.2]
  exact World.ownsRow_nil _ _ _ _

set_option maxRecDepth 100000 in
set_option maxHeartbeats 1000000 in
theorem rscale_yes (a : Option Addr) (fs : List (Int × Int)) (len cap : Nat) (w : World) (hl : fs.length = len) (hr : len * 16 ≤ 140737488351232) (hz : InRP fs) (h : AtP w a fs) (hall : allB fs = true) (h0 : fs ≠ []) :
    Calls Try.prog 19 #[.slice a len cap] w (RScEnd w fs) := by
  have HA : Hid (allB fs = true) := hall
  have hv := rall_any a fs len cap w hl (by omega) hz h
  rw [hall] at hv
  obtain ⟨i0, hi, hz0, hz1, hz2⟩ := info_parts Try.info3
  obtain ⟨b, off, rfl, hc⟩ := h.resolve_left h0
  have HC : Hid (∀ k, k < fs.length → w.cell? ⟨b, off + k * 2, none⟩ = some (.int .i64 (nthN fs k)) ∧ w.cell? ⟨b, off + k * 2 + 1, none⟩ = some (.int .i64 (nthD fs k))) := hc
  clear hc h h0 hall
  go_enter Try.func19, Try.ntmps19
  go_wp2_with (go_at_call 38; refine hv.mono ?_; rintro e w1 ⟨rfl, hb1⟩)
  clear hv
  go_loopg [5, 6] len (fun gk d i wr => ∃ (k : Nat) (os : List Int), k ≤ len ∧ gk = len - k ∧ i = .int .i64 k ∧ os.length = k ∧ os ++ densOf (fs.drop k) = densOf fs ∧ wr.ownsRow w.heap.size 3 1 d k (os.map (Value.int .i64)) ∧ Below w.heap.size w wr)
  case atStart => exact ⟨0, [], Nat.zero_le _, rfl, rfl, rfl, rfl, World.ownsRow_nil _ _ _ _, hb1⟩
  case round =>
    clear hb1
    obtain ⟨k, os, hk, rfl, rfl, hos, heq, hown, hbel⟩ := hrel
    have HOS : Hid (os.length = k) := hos
    have HEQ : Hid (os ++ densOf (fs.drop k) = densOf fs) := heq
    clear hos heq
    by_cases hlt : k < len
    · obtain ⟨q1, q2⟩ := HC.out k (by omega)
      have hlt' := block_lt_of_cell q1
      have hck2 : wr.cell? ⟨b, off + k * 2 + 1, none⟩ = some (.int .i64 (nthD fs k)) := by rw [hbel.cell (p := ⟨b, off + k * 2 + 1, none⟩) hlt']; exact q2
      have HEQ' : Hid ((os ++ [nthD fs k]) ++ densOf (fs.drop (k + 1)) = densOf fs) := by
        have := HEQ.out
        rw [dropP (by omega)] at this
        show _ = _
        rw [List.append_assoc]
        exact this
      clear q1 q2 HEQ
      generalize nthD fs k = v at *
      go_wp2_with (at_builtin; refine wpList_append_own _ rfl (.tmp 22) (.tmp 28) 22 rfl w.heap.size 3 i0 (.int .i64 0) 1 8 Try.underlying22 hi hz0 hz1 hz2 rfl (by decide) u5 k _ rfl (hown.alloc _) ⟨wr.heap.size, 0, none⟩ 1 1 [.int .i64 _] rfl rfl (one_new _ _ _) (one_cell _) (by unfold maxLen; omega) (by omega) (by have := hbel.size; simp; omega) ?_; intro v' w2 hown' hgrow _)
      obtain ⟨R1, R2⟩ := grown_row hown' hgrow hown hbel
      go_roundg (len - (k + 1))
      case measure => omega
      case rel => exact ⟨k + 1, os ++ [v], by omega, rfl, by go_num, by simp [HOS.out], HEQ'.out, R1, R2⟩
    · have ek : len = k := by omega
      subst ek
      have hkk : ¬ (len : Int) < (len : Int) := by omega
      have e1 : os = densOf fs := by
        have := HEQ.out
        rw [dropP_end (by omega)] at this
        simpa [densOf] using this
      subst e1
      obtain ⟨a', cap', hv, -, hat', hc', hn', hb'⟩ := owns_at hown
      have hlc := rlcm_any a' (densOf fs) len cap' wr (by rw [dens_len]; exact hl) (by omega) (dens_in hz) hat'
      have hv1 : lcmV (densOf fs) = ((lcmO 1 (densOf fs)).getD 0 : Nat) := by unfold lcmV; rw [dens_zero HA.out]; rfl
      have hb1 : lcmB (densOf fs) = (lcmO 1 (densOf fs)).isSome := by unfold lcmB; rw [dens_zero HA.out]; rfl
      rw [hv1, hb1] at hlc
      subst hv
      clear hv1 hb1 hat' hc' hn' hb' hown HEQ HOS hlt hk
      cases hL : lcmO 1 (densOf fs) with
      | none =>
        have K : Hid (scK fs = 0 ∧ scE fs = 4 ∧ scR fs = []) := scE_bigR HA.out (lcOK_none fun K hK => by rw [hL] at hK; cases hK)
        rw [hL] at hlc
        clear hL
        have hlc' : Calls Try.prog 39 #[.slice a' len cap'] wr (Answers wr 0 false) := hlc
        clear hlc
        go_wp2_with (go_at_call 39; refine hlc'.mono ?_; rintro e w2 ⟨rfl, hb2⟩)
        refine bodyPost_ret (v := .tuple #[.int .i64 0, .slice none 0 0, .int .i64 4]) (by simp [results, Try.results19, go_sem]) rfl ⟨hbel.trans (hb2.mono hbel.size), _, by rw [K.out.1, K.out.2.1], ?_⟩
        rw [K.out.2.2]
        exact World.ownsRow_nil _ _ _ _
      | some K =>
        have HL : Hid (lcmO 1 (densOf fs) = some K) := hL
        rw [hL] at hlc
        have hK := lcmO_pos (m := 1) (by omega) (by omega) (dens_zero HA.out) hL
        clear hL
        have hlc' : Calls Try.prog 39 #[.slice a' len cap'] wr (Answers wr (K : Int) true) := hlc
        clear hlc
        go_wp2_with (go_at_call 39; refine hlc'.mono ?_; rintro e w2 ⟨rfl, hb2⟩)
        have B2 := hbel.trans (hb2.mono hbel.size)
        clear hlc' hbel hb2 hkk
        go_loopg [9, 10] len (fun gk d i wr => ∃ (k : Nat) (os : List Int), k ≤ len ∧ gk = len - k ∧ i = .int .i64 k ∧ os.length = k ∧ os ++ scL K (fs.drop k) = scL K fs ∧ scB K (fs.drop k) = scB K fs ∧ wr.ownsRow w.heap.size 3 1 d k (os.map (Value.int .i64)) ∧ Below w.heap.size w wr)
        case atStart => exact ⟨0, [], Nat.zero_le _, rfl, rfl, rfl, rfl, rfl, World.ownsRow_nil _ _ _ _, B2⟩
        case round =>
          clear B2
          obtain ⟨k, os, hk, rfl, rfl, hos, heq, hsb, hown, hbel⟩ := hrel
          have HOS : Hid (os.length = k) := hos
          have HEQ : Hid (os ++ scL K (fs.drop k) = scL K fs) := heq
          have HSB : Hid (scB K (fs.drop k) = scB K fs) := hsb
          clear hos heq hsb
          by_cases hlt : k < len
          · obtain ⟨q1, q2⟩ := HC.out k (by omega)
            have H1 : Hid (∀ W', Below wr.heap.size wr W' → W'.cell? ⟨b, off + k * 2, none⟩ = some (.int .i64 (nthN fs k))) := fun W' h => by rw [(hbel.trans (h.mono hbel.size)).cell (p := ⟨b, off + k * 2, none⟩) (block_lt_of_cell q1)]; exact q1
            have H2 : Hid (∀ W', Below wr.heap.size wr W' → W'.cell? ⟨b, off + k * 2 + 1, none⟩ = some (.int .i64 (nthD fs k))) := fun W' h => by rw [(hbel.trans (h.mono hbel.size)).cell (p := ⟨b, off + k * 2 + 1, none⟩) (block_lt_of_cell q2)]; exact q2
            have HD : Hid (fs.drop k = (nthN fs k, nthD fs k) :: fs.drop (k + 1)) := dropP (by omega)
            have hv0 := valid_pos (allB_nth HA.out (k := k) (by omega))
            have hki : (k : Int) < (len : Int) := by omega
            obtain ⟨z1, z2⟩ := hz k
            clear q1 q2
            generalize nthN fs k = u at *
            generalize nthD fs k = v at *
            obtain ⟨q, hq⟩ : ∃ q, (K : Int) / v = q := ⟨_, rfl⟩
            have hq2 : (K : Int).tdiv v = q := by rw [Int.tdiv_eq_ediv_of_nonneg (by omega)]; exact hq
            have hq3 : -9223372036854775808 ≤ q ∧ q ≤ 9223372036854775807 := by
              have h1 : 0 ≤ q := by rw [← hq]; exact Int.ediv_nonneg (by omega) (by omega)
              have h2 : q ≤ K := by rw [← hq]; exact Int.ediv_le_self _ (by omega)
              omega
            have hv1 : ¬ v = 0 := by omega
            have hq4 : wrap64 q = q := by unfold wrap64; omega
            have hq5 : IntKind.i64.wrap q = q := by rw [IntKind.wrap_i64]; omega
            have HM0 := fun W => rmul_any u q W z1 hq3
            have HD2 : Hid (scL K (fs.drop k) = u * q :: scL K (fs.drop (k + 1)) ∧ scB K (fs.drop k) = (fitB (u * q) && scB K (fs.drop (k + 1)))) := by
              refine ⟨?_, ?_⟩
              · rw [HD.out, ← hq]; rfl
              · rw [HD.out, ← hq]; rfl
            clear hq hv0 z1 z2 hq3
            have hne : Nonempty (Later wr) := ⟨⟨wr, Below.refl _ _⟩⟩
            have l0 := fun x : Later wr => H1.out x.w x.bel
            have l1 := fun x : Later wr => H2.out x.w x.bel
            cases hF : fitB (u * q)
            · have HF : Hid (fitB (u * q) = false) := hF
              have HM : Hid (∀ W, Calls Try.prog 40 #[.int .i64 u, .int .i64 q] W fun e w' => e = .returned (.tuple #[.int .i64 (fitV (u * q)), .bool false]) ∧ Below W.heap.size W w') := fun W => by have := HM0 W; unfold Told at this; rw [hF] at this; exact this
              have KE : Hid (scK fs = 0 ∧ scE fs = 4 ∧ scR fs = []) := scE_bigR HA.out (lcOK_none fun K' hK' => by
                rw [HL.out] at hK'; cases hK'
                rw [← HSB.out, HD2.out.2, HF.out]; rfl)
              clear hF HM0
              generalize fitV (u * q) = t at *
              go_wp2
              refine wp_region_later (by kernel_rfl) (by kernel_rfl) ?_
              repeat (go_big_quiet_step (first | (rename_i x; go_at_call 40; (with_reducible refine (HM.out _).mono ?_); rintro e w' ⟨rfl, hq⟩; exact ⟨rfl, ⟨w', x.bel.trans (hq.mono x.bel.size)⟩, rfl⟩)))
              refine wpQuiet_nil ?_
              rintro w3 ⟨x, rfl⟩
              go_wp2
              refine bodyPost_ret (v := .tuple #[.int .i64 0, .slice none 0 0, .int .i64 4]) (by simp [results, Try.results19, go_sem]) rfl ⟨hbel.trans (x.bel.mono hbel.size), _, by rw [KE.out.1, KE.out.2.1], ?_⟩
              rw [KE.out.2.2]
              exact World.ownsRow_nil _ _ _ _
            · have HF : Hid (fitB (u * q) = true) := hF
              have HM : Hid (∀ W, Calls Try.prog 40 #[.int .i64 u, .int .i64 q] W fun e w' => e = .returned (.tuple #[.int .i64 (u * q), .bool true]) ∧ Below W.heap.size W w') := fun W => by have := HM0 W; unfold Told at this; rw [hF, fitV_yes (fitB_true.1 hF)] at this; exact this
              have HEQ' : Hid ((os ++ [u * q]) ++ scL K (fs.drop (k + 1)) = scL K fs) := by
                have := HEQ.out
                rw [HD2.out.1] at this
                show _ = _
                rw [List.append_assoc]
                exact this
              have HSB' : Hid (scB K (fs.drop (k + 1)) = scB K fs) := by
                have := HSB.out
                rw [HD2.out.2, HF.out] at this
                exact this
              clear hF HM0 HEQ HSB HD2 HF
              generalize u * q = t at *
              go_wp2
              refine wp_region_later (by kernel_rfl) (by kernel_rfl) ?_
              repeat (go_big_quiet_step (first | (rename_i x; go_at_call 40; (with_reducible refine (HM.out _).mono ?_); rintro e w' ⟨rfl, hq⟩; exact ⟨rfl, ⟨w', x.bel.trans (hq.mono x.bel.size)⟩, rfl⟩)))
              refine wpQuiet_nil ?_
              rintro w3 ⟨x, rfl⟩
              have hown3 := owns_below hown x.bel
              have hbel3 := hbel.trans (x.bel.mono hbel.size)
              clear hown hbel l0 l1 hne H1 H2 HM
              generalize x.w = W3 at *
              go_wp2_with (at_builtin; refine wpList_append_own _ rfl (.tmp 61) (.tmp 63) 22 rfl w.heap.size 3 i0 (.int .i64 0) 1 8 Try.underlying22 hi hz0 hz1 hz2 rfl (by decide) u9 k _ rfl (hown3.alloc _) ⟨W3.heap.size, 0, none⟩ 1 1 [.int .i64 _] rfl rfl (one_new _ _ _) (one_cell _) (by unfold maxLen; omega) (by omega) (by have := hbel3.size; simp; omega) ?_; intro v' w4 hown' hgrow _)
              obtain ⟨R1, R2⟩ := grown_row hown' hgrow hown3 hbel3
              go_roundg (len - (k + 1))
              case measure => omega
              case rel => exact ⟨k + 1, os ++ [t], by omega, rfl, by go_num, by simp [HOS.out], HEQ'.out, HSB'.out, R1, R2⟩
          · have ek : len = k := by omega
            subst ek
            have hkk : ¬ (len : Int) < (len : Int) := by omega
            have e1 : os = scL K fs := by
              have := HEQ.out
              rw [dropP_end (by omega)] at this
              simpa [scL] using this
            have e2 : scB K fs = true := by
              have := HSB.out
              rw [dropP_end (by omega)] at this
              exact this.symm
            have KE : Hid (scK fs = (K : Int) ∧ scE fs = 0 ∧ scR fs = scL K fs) := scE_okR HA.out (lcOK_some HL.out e2)
            subst e1
            clear e2 HEQ HSB hlt hk
            go_wp2
            refine bodyPost_ret (v := .tuple #[.int .i64 (K : Int), u9, .int .i64 0]) (by simp [results, Try.results19, go_sem]) rfl ⟨hbel, _, by rw [KE.out.1, KE.out.2.1], ?_⟩
            rw [KE.out.2.2, scL_len, hl]
            exact hown
end Go.Proofs.Ytgjeihdibcjjcab

/- The document's whole numbers of any length: Times (pianolaref00): the walk. -/
import Derived.Test.YtoenbiigamegoabBigTimes
namespace Go.Proofs.Ytoenbiigamegoab
open Go.ChangeShapes Go.WideShapes Go.ChangeAt Go.RowKit

theorem nth_mid {lo dn rest : List Int} {o : Int} {i k : Nat} (h1 : lo.length = i) (h2 : dn.length = k) : nth (lo ++ (dn ++ o :: rest)) (i + k) = o := by
  rw [nth_at h1]
  have := nth_at (hi := o :: rest) h2 0
  rwa [Nat.add_zero, nth_zero] at this
theorem set_mid {lo dn rest : List Int} {o s : Int} {i k : Nat} (h1 : lo.length = i) (h2 : dn.length = k) : (lo ++ (dn ++ o :: rest)).set (i + k) s = lo ++ ((dn ++ [s]) ++ rest) := by
  rw [← List.append_assoc, set_at (by simp [h1, h2])]
  simp

set_option maxRecDepth 100000 in
set_option maxHeartbeats 2000000 in
theorem times_some (neg1 neg2 : Bool) (b1 off1 b2 off2 : Nat) (len1 len2 cap1 cap2 : Nat) (xs ys : List Int) (x y : Int) (w : World) (h1 : Wh w neg1 (some ⟨b1, off1, none⟩) len1 cap1 xs x) (h2 : Wh w neg2 (some ⟨b2, off2, none⟩) len2 cap2 ys y) (hp1 : 0 < len1) (hp2 : 0 < len2) (hsum : len1 + len2 < 1000000000)
    (hc1 : ∀ k, k < len1 → w.cell? ⟨b1, off1 + k, none⟩ = some (.int .i64 (nth xs k))) (hc2 : ∀ k, k < len2 → w.cell? ⟨b2, off2 + k, none⟩ = some (.int .i64 (nth ys k))) :
    Calls Try.prog 16 #[.agg #[.bool neg1, .slice (some ⟨b1, off1, none⟩) len1 cap1], .agg #[.bool neg2, .slice (some ⟨b2, off2, none⟩) len2 cap2]] w (MadeWh w (x * y) (len1 + len2)) := by
  obtain ⟨i0, hi, hz0, hz1, hz2⟩ := info_parts Try.info3
  have HB := boxes_first w (.bool neg1) (.slice (some ⟨b1, off1, none⟩) len1 cap1) (.bool neg2) (.slice (some ⟨b2, off2, none⟩) len2 cap2) (.bool false) (.slice none 0 0) 38 38 38
  have HH1 : Hid (Wh w neg1 (some ⟨b1, off1, none⟩) len1 cap1 xs x) := h1
  have HH2 : Hid (Wh w neg2 (some ⟨b2, off2, none⟩) len2 cap2 ys y) := h2
  have HC1 : Hid (∀ k, k < len1 → w.cell? ⟨b1, off1 + k, none⟩ = some (.int .i64 (nth xs k))) := hc1
  have HC2 : Hid (∀ k, k < len2 → w.cell? ⟨b2, off2 + k, none⟩ = some (.int .i64 (nth ys k))) := hc2
  have z1 := h1.row.size
  have z2 := h2.row.size
  have q1 : ((len1 : Int) == 0) = false := by simp; omega
  have q2 : ((len2 : Int) == 0) = false := by simp; omega
  clear h1 h2 hc1 hc2
  go_enter Try.func16, Try.ntmps16
  go_wp2_with (at_make; refine wpList_make_full _ rfl _ _ 31 rfl (w.heap.size + 1 + 1 + 1) 3 i0 (.int .i64 0) 1 Try.underlying31 hi hz0 hz1 _ _ _ _ (len1 + len2) rfl rfl (by omega) (by omega) (by rw [hz2]; omega) (by unfold maxLen; omega) (by simp) ?_; intro w0 hown0 hgrow0)
  have T0 := tst_first (g := w.heap.size + 1 + 1 + 1) HB (by simp) hown0 hgrow0
  clear hown0 hgrow0 HB
  go_loopg [6, 7, 8, 9] len1 (fun gk io _ _ _ wr => ∃ (i : Nat) (lo hi : List Int), i ≤ len1 ∧ gk = len1 - i ∧ io = .int .i64 i ∧ Outer xs ys lo hi i (len1 + len2) ∧
    TSt w wr (w.heap.size + 1 + 1 + 1) (len1 + len2) (.bool neg1) (.slice (some ⟨b1, off1, none⟩) len1 cap1) (.bool neg2) (.slice (some ⟨b2, off2, none⟩) len2 cap2) (lo ++ hi))
  case atStart => exact ⟨0, [], List.replicate (len1 + len2) 0, Nat.zero_le _, rfl, rfl, ⟨rfl, by simp, dig_noughts _, fun k _ => nth_noughts _ k, rfl⟩, T0⟩
  case round =>
    obtain ⟨i, lo, hi, hil, rfl, rfl, hou, hst⟩ := hrel
    clear T0
    have HOU : Hid (Outer xs ys lo hi i (len1 + len2)) := hou
    have HST : Hid (TSt w wr (w.heap.size + 1 + 1 + 1) (len1 + len2) (.bool neg1) (.slice (some ⟨b1, off1, none⟩) len1 cap1) (.bool neg2) (.slice (some ⟨b2, off2, none⟩) len2 cap2) (lo ++ hi)) := hst
    have c11 := hst.box.c11
    have c21 := hst.box.c21
    have c10 := hst.box.c10
    have c20 := hst.box.c20
    clear hou hst
    by_cases hlt : i < len1
    · go_wp2
      go_loopg [7, 8, 9] len2 (fun gk co ko _ wr2 => ∃ (k : Nat) (c : Int) (dn rest : List Int), k ≤ len2 ∧ gk = len2 - k ∧ ko = .int .i64 k ∧ co = .int .i64 c ∧ Inner (nth xs i) ys hi dn rest k c ∧
        TSt w wr2 (w.heap.size + 1 + 1 + 1) (len1 + len2) (.bool neg1) (.slice (some ⟨b1, off1, none⟩) len1 cap1) (.bool neg2) (.slice (some ⟨b2, off2, none⟩) len2 cap2) (lo ++ (dn ++ rest)))
      case atStart => exact ⟨0, 0, [], hi, Nat.zero_le _, rfl, rfl, rfl, ⟨rfl, by simp, by decide, by decide, HOU.out.dig.right, HOU.out.noughts _ (by omega), rfl⟩, HST.out⟩
      case round =>
        obtain ⟨k, c, dn, rest, hkl, rfl, rfl, rfl, hin, hst2⟩ := hrel
        have e11 := hst2.box.c11
        have e21 := hst2.box.c21
        by_cases hk : k < len2
        · have hhl : ys.length < hi.length := by have := HOU.out.hlen; omega
          have hdx := HH1.out.row.dig.nth i
          have hdy := HH2.out.row.dig.nth k
          have hp := prod_le hdx hdy
          have hlow := hin.low
          have hhigh := hin.high
          have hdl := hin.dlen
          obtain ⟨o, rest', rfl, ho, hin'⟩ := hin.step hdx HH2.out.row.dig (by omega) hhl
          have HIN : Hid (Inner (nth xs i) ys hi (dn ++ [(o + nth xs i * nth ys k + c) % 1073741824]) rest' (k + 1) ((o + nth xs i * nth ys k + c) / 1073741824)) := hin'
          have HST2 : Hid (TSt w wr (w.heap.size + 1 + 1 + 1) (len1 + len2) (.bool neg1) (.slice (some ⟨b1, off1, none⟩) len1 cap1) (.bool neg2) (.slice (some ⟨b2, off2, none⟩) len2 cap2) (lo ++ (dn ++ o :: rest'))) := hst2
          have f1 : wr.cell? ⟨w.heap.size + 1 + 1 + 1, i + k, none⟩ = some (.int .i64 o) := by
            have := hst2.cell (i + k) (by omega)
            rwa [nth_mid HOU.out.llen hdl] at this
          have f2 := hst2.free (i + k)
          have f3 : wr.cell? ⟨b1, off1 + i, none⟩ = some (.int .i64 (nth xs i)) := by rw [hst2.box.old.cell (block_lt_of_cell (HC1.out i hlt))]; exact HC1.out i hlt
          have f4 : wr.cell? ⟨b2, off2 + k, none⟩ = some (.int .i64 (nth ys k)) := by rw [hst2.box.old.cell (block_lt_of_cell (HC2.out k hk))]; exact HC2.out k hk
          clear hin hin' hst2
          generalize nth xs i = dx at *
          generalize nth ys k = dy at *
          have hii : (i : Int) < (len1 : Int) := by omega
          have hkk : (k : Int) < (len2 : Int) := by omega
          have r1 : IntKind.i64.wrap ((i : Int) + (k : Int)) = (i : Int) + (k : Int) := by rw [IntKind.wrap_i64]; omega
          have r2 : IntKind.i64.wrap (dx * dy) = dx * dy := by rw [IntKind.wrap_i64]; omega
          have r3 : IntKind.i64.wrap (o + dx * dy) = o + dx * dy := by rw [IntKind.wrap_i64]; omega
          have r4 : IntKind.i64.wrap (o + dx * dy + c) = o + dx * dy + c := by rw [IntKind.wrap_i64]; omega
          have hik : (i : Int) + (k : Int) < (len1 : Int) + (len2 : Int) := by omega
          have hik0 : 0 ≤ (i : Int) + (k : Int) := by omega
          have htn : ((i : Int) + (k : Int)).toNat = i + k := by omega
          go_wp2
          go_quiet (fail)
          go_wp2
          go_roundg (len2 - (k + 1))
          case measure => omega
          case rel =>
            have hs := (HST2.out.drewN nq).store (i + k) ((o + dx * dy + c) % 1073741824)
            rw [set_mid HOU.out.llen hdl] at hs
            exact ⟨k + 1, _, _, rest', by omega, rfl, by go_num, rfl, HIN.out, hs⟩
        · have ek : k = len2 := by omega
          subst ek
          have hhl : ys.length < hi.length := by have := HOU.out.hlen; omega
          have hlow := hin.low
          have hhigh := hin.high
          have hdl := hin.dlen
          obtain ⟨rest', rfl, heq⟩ := hin.last z2.symm hhl
          rw [Int.zero_add] at heq
          obtain ⟨h0, ht, hrow, hou'⟩ := HOU.out.step HH2.out.row.dig HH1.out.row.dig (by omega) (by omega)
          rw [hrow] at heq
          have HOU2 : Hid (Outer xs ys (lo ++ [h0]) ht (i + 1) (len1 + k)) := hou'
          have HEQ : Hid (dn ++ c :: rest' = h0 :: ht) := heq
          have HST2 : Hid (TSt w wr (w.heap.size + 1 + 1 + 1) (len1 + k) (.bool neg1) (.slice (some ⟨b1, off1, none⟩) len1 cap1) (.bool neg2) (.slice (some ⟨b2, off2, none⟩) k cap2) (lo ++ (dn ++ 0 :: rest'))) := hst2
          have f1 : wr.cell? ⟨w.heap.size + 1 + 1 + 1, i + k, none⟩ = some (.int .i64 0) := by
            have := hst2.cell (i + k) (by omega)
            rwa [nth_mid HOU.out.llen hdl] at this
          have f2 := hst2.free (i + k)
          clear hin hou' hst2 heq hrow
          have r1 : IntKind.i64.wrap ((i : Int) + (k : Int)) = (i : Int) + (k : Int) := by rw [IntKind.wrap_i64]; omega
          have r2 : IntKind.i64.wrap c = c := by rw [IntKind.wrap_i64]; omega
          have hik : (i : Int) + (k : Int) < (len1 : Int) + (k : Int) := by omega
          have hik0 : 0 ≤ (i : Int) + (k : Int) := by omega
          have htn : ((i : Int) + (k : Int)).toNat = i + k := by omega
          go_wp2
          go_region
          go_wp2
          go_roundg (len1 - (i + 1))
          case measure => omega
          case rel =>
            have hs := (HST2.out.store (i + k) c).drew
            have e : lo ++ ((dn ++ [c]) ++ rest') = (lo ++ [h0]) ++ ht := by
              rw [List.append_assoc dn, List.append_assoc lo]
              show lo ++ (dn ++ c :: rest') = lo ++ (h0 :: ht)
              rw [HEQ.out]
            rw [set_mid HOU.out.llen hdl, e] at hs
            exact ⟨i + 1, lo ++ [h0], ht, by omega, rfl, by go_num, HOU2.out, hs⟩
    · have ei : i = len1 := by omega
      subst ei
      have hg := HOU.out.goal
      rw [drop_end xs i (by omega), timesL] at hg
      have hv : val (lo ++ hi) = val xs * val ys := by
        rw [hg, timesL_val (by simp; omega), val_noughts, Int.zero_add]
      have hrow : Row wr (some ⟨w.heap.size + 1 + 1 + 1, 0, none⟩) (i + len2) (i + len2) (lo ++ hi) := by
        refine ⟨HST.out.len, Or.inr ⟨_, _, rfl, fun k hk => ?_⟩, (fun e => by cases e), Nat.le_refl _, by omega, HOU.out.dig⟩
        rw [Nat.zero_add]
        exact HST.out.cell k (by have := HST.out.len; omega)
      have HR : Hid (Row wr (some ⟨w.heap.size + 1 + 1 + 1, 0, none⟩) (i + len2) (i + len2) (lo ++ hi)) := hrow
      have HV : Hid (val (lo ++ hi) = val xs * val ys) := hv
      have HW : Hid (∀ ds, val ds = val xs * val ys → (x * y = if (neg1 != neg2) then -val ds else val ds) ∧ ((neg1 != neg2) = true → ds ≠ [])) := by
        intro ds hds
        have p1 := norm_pos HH1.out.row.dig HH1.out.norm (by rintro rfl; simp at z1; omega)
        have p2 := norm_pos HH2.out.row.dig HH2.out.norm (by rintro rfl; simp at z2; omega)
        have p3 := Int.mul_pos p1 p2
        have k1 := HH1.out.worth
        have k2 := HH2.out.worth
        refine ⟨?_, fun _ e => by subst e; simp only [val] at hds; omega⟩
        rw [k1, k2, hds]
        cases neg1 <;> cases neg2 <;> simp [Int.mul_neg, Int.neg_mul]
      have d30 := HST.out.box.c30
      have d31 := HST.out.box.c31
      have e30 := HST.out.box.f30
      have e31 := HST.out.box.f31
      clear hg hv hrow
      go_wp2
      go_region_with (go_at_call 29; refine (trim_any _ _ _ _ _ (HR.out.below (Below.refl _ _).drew)).mono ?_; rintro e w' ⟨n', rfl, rfl, r1, r2, r3⟩)
      all_goals
        have HF := wh_end HST.out.box.drew r1 r3 (HW.out _ (r2.trans HV.out)).1 (HW.out _ (r2.trans HV.out)).2
        go_wp2
        exact bodyPost_ret (v := .agg #[.bool (neg1 != neg2), .slice (some ⟨w.heap.size + 1 + 1 + 1, 0, none⟩) n' (i + len2)]) (by simp [results, Try.results16, go_sem, d30, d31]; cases neg1 <;> cases neg2 <;> rfl) rfl ⟨_, _, n', _, _, rfl, HF.1, HF.2, by have := r1.room; omega⟩

/-- A product of two numbers of any length. -/
theorem times_any (neg1 neg2 : Bool) (a1 a2 : Option Addr) (len1 len2 cap1 cap2 : Nat) (xs ys : List Int) (x y : Int) (w : World) (h1 : Wh w neg1 a1 len1 cap1 xs x) (h2 : Wh w neg2 a2 len2 cap2 ys y) (hsum : len1 + len2 < 1000000000) :
    Calls Try.prog 16 #[.agg #[.bool neg1, .slice a1 len1 cap1], .agg #[.bool neg2, .slice a2 len2 cap2]] w (MadeWh w (x * y) (len1 + len2)) := by
  have z1 := h1.row.size
  have z2 := h2.row.size
  by_cases h0 : len1 = 0 ∨ len2 = 0
  · exact times_zero neg1 neg2 a1 a2 len1 len2 cap1 cap2 xs ys x y w h1 h2 h0
  · obtain ⟨b1, off1, rfl, hc1⟩ := h1.row.lies.resolve_left (by rintro rfl; simp at z1; omega)
    obtain ⟨b2, off2, rfl, hc2⟩ := h2.row.lies.resolve_left (by rintro rfl; simp at z2; omega)
    rw [z1] at hc1
    rw [z2] at hc2
    exact times_some neg1 neg2 b1 off1 b2 off2 len1 len2 cap1 cap2 xs ys x y w h1 h2 (by omega) (by omega) hsum hc1 hc2
end Go.Proofs.Ytoenbiigamegoab

/- Texts of one chain, laid one behind the other. -/
import Derived.Test.YtmeogapffdgjlaaPartNestRanges17
import Derived.Test.YtmeogapffdgjlaaPartNestRanges12
import Derived.Test.YtmeogapffdgjlaaPartNestRanges27
import Derived.Test.YtmeogapffdgjlaaPartNestRanges19
namespace Go.Proofs.Ytmeogapffdgjlaa
open Go.ChangeShapes Go.WideShapes Go.ChangeAt Go.RowKit
theorem dropY {R : List (Int × Int)} {k : Nat} (h : k < R.length) : R = R.take k ++ nthY R k :: R.drop (k + 1) := by
  unfold nthY
  rw [List.getD_eq_getElem?_getD, List.getElem?_eq_getElem h]
  show R = R.take k ++ R[k] :: R.drop (k + 1)
  rw [← List.drop_eq_getElem_cons h, List.take_append_drop]
theorem takeY {R : List (Int × Int)} {k : Nat} (h : k < R.length) : R.take (k + 1) = R.take k ++ [nthY R k] := by
  unfold nthY
  rw [List.getD_eq_getElem?_getD, List.getElem?_eq_getElem h, List.take_add_one, List.getElem?_eq_getElem h]
  rfl
theorem flaw_at {R : List (Int × Int)} {k : Nat} (h : k < R.length) (h0 : flawY (R.take k) = 0) : flawY R = if ¬ (0 ≤ (nthY R k).1 ∧ (nthY R k).1 < 32) then 100 else if (nthY R k).2 < 1 then 160 else flawY (R.drop (k + 1)) := by
  have e := dropY h
  rw [e, flaw_app, ← e, h0, flawY]
  rfl
theorem nthY_mem {R : List (Int × Int)} {k : Nat} (h : k < R.length) : nthY R k ∈ R := by
  unfold nthY
  rw [List.getD_eq_getElem?_getD, List.getElem?_eq_getElem h]
  exact List.getElem_mem _
theorem flaw_pos : ∀ {R : List (Int × Int)}, flawY R = 0 → ∀ p ∈ R, 1 ≤ p.2
  | [], _, p, hp => by cases hp
  | q :: R, h, p, hp => by
    rw [flawY] at h
    split at h
    · cases h
    · split at h
      · cases h
      · rcases List.mem_cons.1 hp with rfl | hp
        · omega
        · exact flaw_pos h p hp
theorem capR_neT {T : TypeId} {B x c : Nat} {w : World} {d : Option Addr} {zs : List Int} {cs : Array Value} (h : CapR B w d c zs) (hX : BlkA T x w cs) (hT : T ≠ 3) : ∀ y, d = some y → y.block ≠ x := by
  intro y hy e
  rcases h.2 with ⟨hv, -⟩ | ⟨g, cap, cur, hv, hg, hh, r⟩
  · simp at hv; rw [hv.1] at hy; cases hy
  · cases hv; cases hy
    subst e
    have := (show w.heap[_]? = _ from hX).symm.trans hh
    simp at this
    exact hT this.2
theorem grwN_below {B : Nat} {V u : World} {d0 d : Option Addr} {L : List Int} {c : Nat} (h : GrwN B V d0 L u d c) (hB : B ≤ V.heap.size) (h0 : ∀ y, d0 = some y → B ≤ y.block) : Below B V u :=
  ⟨h.os, h.tape, h.output, h.size, fun k hk => h.keep k (Nat.lt_of_lt_of_le hk hB) fun y hy e => by have := h0 y hy; omega⟩
theorem wpList_appQ0 {w : World} {ops : Array Oper} {rest : List Oper} {o : Oper} {a : Act} {Q : Exit → Act → World → Prop} (hgd : o.guard = none) (s x : Operand) (ho : o.op = .call { callee := .builtin .append, args := #[s, x], argTypes := #[26, 26] })
    (B : Nat) (d0 : Option Addr) (c0 : Nat) (zs : List Int) (hs : a.eval s = .slice d0 zs.length c0) (hown : CapR B w d0 c0 zs) (g : Nat) (i : Int) (hx : a.eval x = .slice (some ⟨g, 0, none⟩) 1 1) (hc : w.cell? ⟨g, 0, none⟩ = some (.int .i64 i)) (hn : zs.length ≤ 1000000) (hB : B ≤ w.heap.size)
    (h : ∀ d c' w', GrwN B w d0 (zs ++ [i]) w' d c' → wpList Try.prog ops Q rest (a.put o.dst (.slice d (zs.length + 1) c')) w') : wpList Try.prog ops Q (o :: rest) a w := by
  obtain ⟨i1, hi1, hy0, hy1, hy2⟩ := info_parts Try.info3
  refine wpList_append_told (P := Try.prog) w hgd s x 26 ho B 3 i1 (.int .i64 0) 1 8 Try.underlying26 hi1 hy0 hy1 hy2 rfl (by decide) (.slice d0 zs.length c0) zs.length _ hs hown ⟨g, 0, none⟩ 1 1 (by decide) [.int .i64 i] hx rfl (fun j u hu => by
    match j, hu with
    | 0, hu =>
      simp at hu
      subst hu
      simpa [Addr.add] using hc) (fun u hu => by simp at hu; subst hu; rfl) (by unfold maxLen; omega) (by omega) hB ?_
  intro v' w' h2 h3
  have h2' : w'.ownsRow B 3 1 v' (zs ++ [i]).length ((zs ++ [i]).map (Value.int .i64)) := by simpa using h2
  rcases h3 with ⟨g1, cap, e1, rfl, hg⟩ | ⟨cap, rfl, hg⟩
  · cases e1
    refine h _ _ w' ⟨by unfold CapR; simpa using h2', fun k hk hne => ?_, fun z hz => .inl hz, hg.size, hg.os, hg.tape, hg.output⟩
    exact hg.block k hk (fun e => by cases e; exact hne _ rfl rfl)
  · refine h _ _ w' ⟨by unfold CapR; simpa using h2', fun k hk hne => ?_, fun z hz => by cases hz; exact .inr (Nat.le_refl _), hg.size, hg.os, hg.tape, hg.output⟩
    exact hg.block k hk (fun e => by cases e)
theorem wpList_appQ {w : World} {ops : Array Oper} {rest : List Oper} {o : Oper} {a : Act} {Q : Exit → Act → World → Prop} (hgd : o.guard = none) (s x : Operand) (ho : o.op = .call { callee := .builtin .append, args := #[s, x], argTypes := #[26, 26] })
    (B : Nat) (d0 : Option Addr) (c0 : Nat) (zs : List Int) (n : Nat) (hl : zs.length = n) (hs : a.eval s = .slice d0 n c0) (hown : CapR B w d0 c0 zs) (g : Nat) (i : Int) (hx : a.eval x = .slice (some ⟨g, 0, none⟩) 1 1) (hc : w.cell? ⟨g, 0, none⟩ = some (.int .i64 i)) (hn : n ≤ 1000000) (hB : B ≤ w.heap.size)
    (h : ∀ d c' w', GrwN B w d0 (zs ++ [i]) w' d c' → wpList Try.prog ops Q rest (a.put o.dst (.slice d (n + 1) c')) w') : wpList Try.prog ops Q (o :: rest) a w := by
  subst hl
  exact wpList_appQ0 hgd s x ho B d0 c0 zs hs hown g i hx hc hn hB h
def FlaE (R : List (Int × Int)) (w : World) (e : Ending) (w' : World) : Prop := ∃ d c, e = .returned (.tuple #[.slice d (if chkY R = 0 then flatsY R else []).length c, .int .i64 (chkY R : Int)]) ∧ CapR w.heap.size w' d c (if chkY R = 0 then flatsY R else []) ∧ Below w.heap.size w w'
theorem fla_bad {R : List (Int × Int)} {w w' : World} {x : Nat} (h : chkY R = x) (hx : x ≠ 0) (hb : Below w.heap.size w w') : FlaE R w (.returned (.tuple #[.slice none 0 0, .int .i64 (x : Int)])) w' :=
  ⟨none, 0, by rw [h, if_neg hx]; rfl, by rw [h, if_neg hx]; exact CapR.nil _ _, hb⟩
set_option maxRecDepth 100000 in
set_option maxHeartbeats 16000000 in
theorem flatZ_any (a : Option Addr) (R : List (Int × Int)) (cap : Nat) (w : World) (h : AtY w a R) (hm : R.length ≤ 4611686018427387904) :
    Calls Try.prog 36 #[.slice a R.length cap] w (FlaE R w) := by
  obtain ⟨RE, hRE⟩ : ∃ Q, FlaE R w = Q := ⟨_, rfl⟩
  rw [hRE]
  have HRE := hiddenN hRE
  obtain ⟨L, hL⟩ : ∃ L, R.length = L := ⟨_, rfl⟩
  have HL := hiddenN hL
  have A0 := hiddenN h
  rw [hL] at hm ⊢
  have hLI : (L : Int) ≤ 4611686018427387904 := by omega
  clear hRE hL h
  obtain ⟨i0, hi, hz0, hz1, hz2⟩ := info_parts Try.info3
  have CP := hiddenN cappedN_any
  go_enter Try.func36, Try.ntmps36
  go_upto_region 3 with fail
  go_loopg [4, 12] L (fun gk tv iv wr => ∃ (k T : Nat), k ≤ L ∧ gk = L - k ∧ iv = .int .i64 (k : Int) ∧ tv = .int .i64 (T : Int) ∧ T = min (sumY (R.take k)) 2049 ∧ flawY (R.take k) = 0 ∧ Below w.heap.size w wr)
  case atStart => exact ⟨0, 0, Nat.zero_le _, rfl, rfl, rfl, rfl, rfl, Below.refl _ _⟩
  case round =>
    obtain ⟨k, T, hk, rfl, rfl, rfl, hT, hf, hb⟩ := hrel
    have HT := hiddenN hT
    have HF := hiddenN hf
    have HB := hiddenN hb
    have hT9 : (T : Int) ≤ 2049 := by omega
    clear hT hf hb
    by_cases hlt : k < L
    · have hkR : k < R.length := by rw [HL.out]; exact hlt
      have hki : (k : Int) < (L : Int) := by omega
      rcases (A0.out.below HB.out) with e | ⟨ab, ao, rfl, hcl⟩
      · rw [e] at hkR; exact absurd hkR (Nat.not_lt_zero _)
      obtain ⟨c0, c1⟩ := hcl k hkR
      have HFA := hiddenN (flaw_at hkR HF.out)
      have HTK := hiddenN (takeY hkR)
      clear hcl
      obtain ⟨nd, hnd⟩ : ∃ q, (nthY R k).1 = q := ⟨_, rfl⟩
      obtain ⟨ti, hti⟩ : ∃ q, (nthY R k).2 = q := ⟨_, rfl⟩
      have HP : Hid (nthY R k = (nd, ti)) := by show _ = _; rw [← hnd, ← hti]
      rw [hnd] at c0 HFA
      rw [hti] at c1 HFA
      clear hnd hti
      have IN := hiddenN (isNodeZ_any nd)
      cases q5 : decide (0 ≤ nd ∧ nd < 32) with
      | false =>
        rw [q5] at IN
        have HX : Hid (chkY R = 100) := by
          show _ = _
          have e1 : flawY R = 100 := by rw [HFA.out, if_pos (of_decide_eq_false q5)]
          unfold chkY
          rw [e1]
          rfl
        clear q5
        have b1 := HB.out.alloc HB.out.size (.cells #[.int .i64 nd, .int .i64 ti] 65)
        have X1 := hiddenN (blkA_new 65 wr #[.int .i64 nd, .int .i64 ti])
        have B1 := hiddenN b1
        have BW := hiddenN ((Below.refl wr.heap.size wr).alloc (Nat.le_refl _) (.cells #[.int .i64 nd, .int .i64 ti] 65))
        go_upto_region 5 with fail
        obtain ⟨xb, hxb⟩ : ∃ q, wr.heap.size = q := ⟨_, rfl⟩
        rw [hxb] at X1 ⊢
        clear b1 c0 c1
        generalize wr.alloc (.cells #[.int .i64 nd, .int .i64 ti] 65) = W1 at *
        have y0 := X1.out.cell (k := 0) rfl
        have y1 := X1.out.cell (k := 1) rfl
        simp only [List.getElem_toArray, List.getElem_cons_zero, List.getElem_cons_succ] at y0 y1
        have HXB := hiddenN hxb
        clear hxb
        go_wp2_with (go_at_call 52; (with_reducible refine (IN.out W1).mono ?_); rintro e W2 ⟨rfl, hw⟩; subst hw)
        rw [← HRE.out]
        exact fla_bad HX.out (by decide) B1.out
      | true =>
        rw [q5] at IN
        rw [if_neg (fun h => h (of_decide_eq_true q5))] at HFA
        have HN5 := hiddenN q5
        clear q5
        by_cases ht : ti < 1
        · have HX : Hid (chkY R = 160) := by
            show _ = _
            have e1 : flawY R = 160 := by rw [HFA.out, if_pos ht]
            unfold chkY
            rw [e1]
            rfl
          have b1 := HB.out.alloc HB.out.size (.cells #[.int .i64 nd, .int .i64 ti] 65)
          have X1 := hiddenN (blkA_new 65 wr #[.int .i64 nd, .int .i64 ti])
          have B1 := hiddenN b1
          have BW := hiddenN ((Below.refl wr.heap.size wr).alloc (Nat.le_refl _) (.cells #[.int .i64 nd, .int .i64 ti] 65))
          go_upto_region 5 with fail
          obtain ⟨xb, hxb⟩ : ∃ q, wr.heap.size = q := ⟨_, rfl⟩
          rw [hxb] at X1 ⊢
          clear b1 c0 c1
          generalize wr.alloc (.cells #[.int .i64 nd, .int .i64 ti] 65) = W1 at *
          have y0 := X1.out.cell (k := 0) rfl
          have y1 := X1.out.cell (k := 1) rfl
          simp only [List.getElem_toArray, List.getElem_cons_zero, List.getElem_cons_succ] at y0 y1
          have HXB := hiddenN hxb
          clear hxb
          go_wp2_with (go_at_call 52; (with_reducible refine (IN.out W1).mono ?_); rintro e W2 ⟨rfl, hw⟩; subst hw)
          rw [← HRE.out]
          exact fla_bad HX.out (by decide) B1.out
        · obtain ⟨tn, rfl⟩ : ∃ tn : Nat, ti = (tn : Int) := ⟨ti.toNat, by omega⟩
          have HF2 : Hid (flawY (R.take (k + 1)) = 0) := by
            show _ = _
            rw [HTK.out, flaw_app, HF.out, HP.out]
            have := of_decide_eq_true (p := 0 ≤ nd ∧ nd < 32) HN5.out
            simp [flawY, this]
            omega
          have ht1 : ¬ ((tn : Int) < 1) := ht
          have b1 := HB.out.alloc HB.out.size (.cells #[.int .i64 nd, .int .i64 (tn : Int)] 65)
          have X1 := hiddenN (blkA_new 65 wr #[.int .i64 nd, .int .i64 (tn : Int)])
          have B1 := hiddenN b1
          have BW := hiddenN ((Below.refl wr.heap.size wr).alloc (Nat.le_refl _) (.cells #[.int .i64 nd, .int .i64 (tn : Int)] 65))
          go_upto_region 5 with fail
          obtain ⟨xb, hxb⟩ : ∃ q, wr.heap.size = q := ⟨_, rfl⟩
          rw [hxb] at X1 ⊢
          clear b1 c0 c1
          generalize wr.alloc (.cells #[.int .i64 nd, .int .i64 (tn : Int)] 65) = W1 at *
          have y0 := X1.out.cell (k := 0) rfl
          have y1 := X1.out.cell (k := 1) rfl
          simp only [List.getElem_toArray, List.getElem_cons_zero, List.getElem_cons_succ] at y0 y1
          have HXB := hiddenN hxb
          clear hxb
          obtain ⟨cc, hcc⟩ : ∃ cc, min tn 2049 = cc := ⟨_, rfl⟩
          have hc9 : cc ≤ 2049 := by omega
          have hccI : (cc : Int) ≤ 2049 := by omega
          have CP1 := hiddenN (CP.out tn W1)
          rw [hcc] at CP1
          have CP2 : Hid (Calls Try.prog 53 #[.int .i64 ((T : Int) + (cc : Int))] W1 fun e w' => e = .returned (.int .i64 ((min (T + cc) 2049 : Nat) : Int)) ∧ W1 = w') := CP.out (T + cc) W1
          have HCC := hiddenN hcc
          clear hcc ht
          go_wp2_with (first | (go_at_call 52; (with_reducible refine (IN.out W1).mono ?_); rintro e W2 ⟨rfl, hw⟩; subst hw) | (go_at_call 53; (with_reducible refine CP1.out.mono ?_); clear CP1; rintro e W3 ⟨rfl, hw⟩; subst hw) | (go_at_call 53; (with_reducible refine CP2.out.mono ?_); rintro e W4 ⟨rfl, hw⟩; subst hw))
          go_roundg (L - (k + 1))
          case measure => omega
          case rel => exact ⟨k + 1, min (T + cc) 2049, by omega, rfl, by go_num, rfl, by rw [HTK.out, sum_snocY, HP.out, HT.out, ← HCC.out, cap_add]; rfl, HF2.out, B1.out⟩
    · have ek : L = k := by omega
      subst ek
      have hT : R.take L = R := List.take_of_length_le (by rw [HL.out]; exact Nat.le_refl _)
      rw [hT] at HT HF
      have hki : ¬ ((L : Int) < (L : Int)) := by omega
      by_cases hbig : 2048 < T
      · have hbI : (T : Int) > 2048 := by omega
        go_wp2
        rw [← HRE.out]
        have e1 : chkY R = 5 := by unfold chkY; rw [HF.out, if_neg (by decide), if_pos (by have := HT.out; omega)]
        exact fla_bad e1 (by decide) HB.out
      · have hbI : ¬ (T : Int) > 2048 := by omega
        have e1 : chkY R = 0 := by unfold chkY; rw [HF.out, if_neg (by decide), if_neg (by have := HT.out; omega)]
        have HE1 := hiddenN e1
        have HTS : Hid (sumY R = T) := by show _ = _; have := HT.out; omega
        have hT8 : T ≤ 2048 := by omega
        have hbs := HB.out.size
        obtain ⟨W3, hr3, ho3, hg3⟩ := run_make_own (P := Try.prog) wr w.heap.size 26 3 i0 (.int .i64 0) 1 Try.underlying26 hi hz0 hz1 .i64 .i64 T (by rw [hz2]; omega) (by unfold maxLen; omega) HB.out.size
        have B3 := hiddenN (HB.out.grown hg3 HB.out.size (fun k hk => by cases hk))
        have O3 : Hid (CapR w.heap.size W3 (some ⟨wr.heap.size, 0, none⟩) T []) := ho3
        clear ho3 hg3 e1
        go_upto_region 14 with fail
        clear hr3
        obtain ⟨g, hg⟩ : ∃ q, wr.heap.size = q := ⟨_, rfl⟩
        rw [hg] at O3 ⊢
        obtain ⟨wA, hwA⟩ : ∃ q : World, q = wr := ⟨_, rfl⟩
        subst hwA
        clear hg HT hbs
        go_wp2
        go_loopg [7, 38] L (fun gk lv iv wr => ∃ (k : Nat) (d : Option Addr) (n c : Nat), k ≤ L ∧ gk = L - k ∧ iv = .int .i64 (k : Int) ∧ lv = .slice d n c ∧ (flatsY (R.take k)).length = n ∧ CapR w.heap.size wr d c (flatsY (R.take k)) ∧ Below w.heap.size w wr)
        case atStart => exact ⟨0, _, 0, T, Nat.zero_le _, rfl, rfl, rfl, rfl, O3.out, B3.out⟩
        case round =>
          clear O3 B3
          obtain ⟨k, d, n, c, hk, rfl, rfl, rfl, hn, hC, hb⟩ := hrel
          have HN := hiddenN hn
          have HC := hiddenN hC
          have HB := hiddenN hb
          clear hn hC hb
          by_cases hlt : k < L
          · have hkR : k < R.length := by rw [HL.out]; exact hlt
            have hki2 : (k : Int) < (L : Int) := by omega
            rcases (A0.out.below HB.out) with e | ⟨ab, ao, rfl, hcl⟩
            · rw [e] at hkR; exact absurd hkR (Nat.not_lt_zero _)
            obtain ⟨c0, c1⟩ := hcl k hkR
            have HTK := hiddenN (takeY hkR)
            have hsm : sumY (R.take (k + 1)) ≤ T := by
              rw [← HTS.out, ← List.take_append_drop (k + 1) R, List.take_append_drop, ← List.take_append_drop (k + 1) R, sum_appY, List.take_append_drop]
              omega
            clear hcl
            obtain ⟨nd, hnd⟩ : ∃ q, (nthY R k).1 = q := ⟨_, rfl⟩
            obtain ⟨ti, hti⟩ : ∃ q, (nthY R k).2 = q := ⟨_, rfl⟩
            have HP : Hid (nthY R k = (nd, ti)) := by show _ = _; rw [← hnd, ← hti]
            rw [hnd] at c0
            rw [hti] at c1
            clear hnd hti
            have hti1 : 1 ≤ ti := by
              have h1 := flaw_pos HF.out (nthY R k) (nthY_mem hkR)
              rw [HP.out] at h1
              exact h1
            obtain ⟨tn, rfl⟩ : ∃ tn : Nat, ti = (tn : Int) := ⟨ti.toNat, by omega⟩
            rw [HTK.out, sum_snocY, HP.out] at hsm
            have hsm2 : n + tn ≤ T := by have := HN.out; unfold sumY at hsm; simp only [Int.toNat_natCast] at hsm; omega
            have htm : (tn : Int) ≤ 2048 := by omega
            have b1 := HB.out.alloc HB.out.size (.cells #[.int .i64 nd, .int .i64 (tn : Int)] 65)
            have X1 := hiddenN (blkA_new 65 wr #[.int .i64 nd, .int .i64 (tn : Int)])
            have B1 := hiddenN b1
            have BW := hiddenN ((Below.refl wr.heap.size wr).alloc (Nat.le_refl _) (.cells #[.int .i64 nd, .int .i64 (tn : Int)] 65))
            go_upto_region 17 with fail
            obtain ⟨xb, hxb⟩ : ∃ q, wr.heap.size = q := ⟨_, rfl⟩
            rw [hxb] at X1 ⊢
            clear b1 c0 c1
            generalize wr.alloc (.cells #[.int .i64 nd, .int .i64 (tn : Int)] 65) = W1 at *
            have y0 := X1.out.cell (k := 0) rfl
            have y1 := X1.out.cell (k := 1) rfl
            simp only [List.getElem_toArray, List.getElem_cons_zero, List.getElem_cons_succ] at y0 y1
            have HXB := hiddenN hxb
            clear hxb
            obtain ⟨wB, hwB⟩ : ∃ q : World, q = wr := ⟨_, rfl⟩
            subst hwB
            have HC1 := hiddenN (HC.out.later (by exact BW.out))
            go_wp2
            clear y0 y1
            go_loopg [7, 44] tn (fun gj lv jv wr => ∃ (j : Nat) (d : Option Addr) (n2 c : Nat), j ≤ tn ∧ gj = tn - j ∧ jv = .int .i64 (j : Int) ∧ lv = .slice d n2 c ∧ n + j = n2 ∧ CapR w.heap.size wr d c (flatsY (R.take k) ++ List.replicate j nd) ∧ Below w.heap.size w wr ∧ BlkA 65 xb wr #[.int .i64 nd, .int .i64 (tn : Int)])
            case atStart => exact ⟨0, d, n, c, Nat.zero_le _, rfl, rfl, rfl, rfl, by rw [List.replicate_zero, List.append_nil]; exact HC1.out, B1.out, X1.out⟩
            case round =>
              clear HC1 B1 X1
              obtain ⟨j, d, n2, c, hj, rfl, rfl, rfl, hn2, hC, hb, hX⟩ := hrel
              have HN2 := hiddenN hn2
              have HC := hiddenN hC
              have HB := hiddenN hb
              have HX := hiddenN hX
              have hn2m : n2 ≤ 4096 := by omega
              have hlen : (flatsY (R.take k) ++ List.replicate j nd).length = n2 := by rw [List.length_append, List.length_replicate, HN.out]; exact hn2
              have HLE := hiddenN hlen
              clear hn2 hC hb hX hlen
              by_cases hjt : j < tn
              · have hjI : (j : Int) < (tn : Int) := by omega
                have y0 := HX.out.cell (k := 0) rfl
                simp only [List.getElem_toArray, List.getElem_cons_zero] at y0
                have HC2 := hiddenN (HC.out.later ((Below.refl _ _).alloc (Nat.le_refl _) (.cells #[.int .i64 nd] 3)))
                have HX2 := hiddenN (HX.out.below ((Below.refl _ _).alloc (Nat.le_refl _) (.cells #[.int .i64 nd] 3)))
                have u0 := (blkA_new 3 wr #[.int .i64 nd]).cell (k := 0) rfl
                simp only [List.getElem_toArray, List.getElem_cons_zero] at u0
                have hB1 : w.heap.size ≤ (wr.alloc (.cells #[.int .i64 nd] 3)).heap.size := by rw [World.size_alloc]; have := HB.out.size; omega
                go_wp2_with (at_builtin; refine wpList_appQ rfl _ _ rfl w.heap.size d c (flatsY (R.take k) ++ List.replicate j nd) n2 HLE.out rfl HC2.out wr.heap.size nd rfl u0 (by omega) hB1 ?_; intro d3 c3 W3 hg3; have HG := hiddenN hg3; clear hg3)
                have B3 := hiddenN ((HB.out.alloc HB.out.size _).trans (grwN_below HG.out hB1 (fun y hy => (HC2.out.lt y hy).1)))
                have X3 := hiddenN (HX2.out.keep (HG.out.keep _ HX2.out.lt (capR_neT HC2.out HX2.out (by decide))))
                go_roundg (tn - (j + 1))
                case measure => omega
                case rel => exact ⟨j + 1, d3, n2 + 1, c3, by omega, rfl, by go_num, rfl, by have := HN2.out; omega, by rw [List.replicate_succ', ← List.append_assoc]; exact HG.out.own, B3.out, X3.out⟩
              · have ej : tn = j := by omega
                subst ej
                have hjI : ¬ ((tn : Int) < (tn : Int)) := by omega
                go_wp2
                go_roundg (L - (k + 1))
                case measure => omega
                case rel => exact ⟨k + 1, d, n2, c, by omega, rfl, by go_num, rfl, by rw [HTK.out, flats_snoc, HP.out]; exact HLE.out, by rw [HTK.out, flats_snoc, HP.out]; exact HC.out, HB.out⟩
          · have ek : L = k := by omega
            subst ek
            have hki2 : ¬ ((L : Int) < (L : Int)) := by omega
            have hT2 : R.take L = R := List.take_of_length_le (by rw [HL.out]; exact Nat.le_refl _)
            rw [hT2] at HC HN
            go_wp2
            rw [← HRE.out]
            exact ⟨d, c, by rw [HE1.out, if_pos rfl, HN.out]; rfl, by rw [HE1.out, if_pos rfl]; exact HC.out, HB.out⟩
end Go.Proofs.Ytmeogapffdgjlaa

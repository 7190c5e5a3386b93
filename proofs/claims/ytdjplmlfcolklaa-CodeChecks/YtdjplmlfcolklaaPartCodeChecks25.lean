/- Texts of one chain, laid one behind the other. -/
import Derived.Test.YtdjplmlfcolklaaPartCodeChecks24
import Derived.Test.YtdjplmlfcolklaaPartCodeChecks1
import Derived.Test.YtdjplmlfcolklaaPartCodeChecks17
import Derived.Test.YtdjplmlfcolklaaPartCodeChecks9
namespace Go.Proofs.Ytdjplmlfcolklaa
open Go.ChangeShapes Go.WideShapes Go.ChangeAt Go.RowKit
theorem nthO_at {l : List OpC} {k : Nat} (h : k < l.length) : l[k]? = some (nthO l k) := by
  unfold nthO
  rw [List.getD_eq_getElem?_getD, List.getElem?_eq_getElem h]
  rfl
/-- What stands between a head and its back. -/
theorem head_seg {p : PrgC} {n : Nat} (hr : (runC p n).1 = 0) (d i : Nat) (o : List HdC) (hd : i + (d + 1) ≤ n) (hi : opnC p i = o) (hj : opnC p (i + (d + 1)) = o) (hm : ∀ m, i ≤ m → m ≤ i + (d + 1) → o.length ≤ (opnC p m).length) (h1 : (nthO p.ops i).kind = 1) :
    ∃ e o', e ≤ d ∧ i + 1 + e < i + (d + 1) ∧ opnC p (i + 1) = o' ∧ opnC p (i + 1 + e) = o' ∧ (∀ m, i + 1 ≤ m → m ≤ i + 1 + e → o'.length ≤ (opnC p m).length) ∧ (nthO p.ops (i + 1 + e)).kind = 2 ∧ opnC p (i + 1 + e + 1) = o ∧ stpC p (i + 1) = 0 ∧ stpC p (i + 1 + e + 1) = addC (stpC p i) (1 + (nthO p.ops i).b * (stpC p (i + 1 + e) + 1)) ∧ 1 ≤ (nthO p.ops i).b ∧ (nthO p.ops i).b ≤ 2048 := by
  have hin : i < n := by omega
  obtain ⟨q1, q2, q3⟩ := pass_head hr hin h1
  obtain ⟨hA, hB⟩ := lets_head (may_lets (run_step hr hin).1).1 h1
  rw [hi] at q1 q2
  have hf0 : o.length < (opnC p (i + 1)).length := by rw [q2, List.length_append]; exact Nat.lt_succ_self _
  obtain ⟨k, k1, k2, k3, k4⟩ := first_drop (fun m => (opnC p m).length) o.length (i + 1) hf0 d (by show (opnC p (i + 1 + d)).length ≤ _; rw [show i + 1 + d = i + (d + 1) by omega, hj]; exact Nat.le_refl _)
  have hkn : k < n := by omega
  have hk5 := hm (k + 1) (by omega) (by omega)
  have hb2 : (nthO p.ops k).kind = 2 := by
    apply Classical.byContradiction
    intro h2
    have h4 := k3 k k1 (Nat.le_refl _)
    by_cases h3 : (nthO p.ops k).kind = 1
    · have := (pass_head hr hkn h3).2.1
      rw [this, List.length_append] at k4
      simp only [List.length_cons, List.length_nil] at k4
      omega
    · have := (pass_plain hr hkn h3 h2).1
      rw [this] at k4
      omega
  obtain ⟨h, r1, r2, r3, r4⟩ := pass_back hr hkn hb2
  obtain ⟨e, rfl⟩ : ∃ e, k = i + 1 + e := ⟨k - (i + 1), by omega⟩
  have ht := keep_take (L := o.length + 1) (i := i + 1) hr e (by omega) fun m m1 m2 => k3 m m1 m2
  have hlen := congrArg List.length r1
  rw [List.length_append, List.length_singleton] at hlen
  rw [q2, List.take_of_length_le (l := opnC p (i + 1 + e)) (by have k4' : (opnC p (i + 1 + e + 1)).length ≤ o.length := k4; omega), List.take_of_length_le (by simp)] at ht
  have hoo : opnC p (i + 1 + e + 1) = o ∧ h = ⟨i, (nthO p.ops i).a, (nthO p.ops i).b, stpC p i⟩ := by
    rw [r1] at ht
    obtain ⟨a1, a2⟩ := List.append_inj' ht rfl
    exact ⟨a1, (List.cons.inj a2).1⟩
  obtain ⟨o1, rfl⟩ := hoo
  simp only at r2 r3 r4
  exact ⟨e, _, by omega, by omega, q2, by rw [ht], fun m m1 m2 => by rw [List.length_append]; exact k3 m m1 m2, hb2, o1, q3, r4, hB⟩
set_option maxRecDepth 100000 in
set_option maxHeartbeats 16000000 in
theorem rrows_any (p : PrgC) (aP : Option Addr) (cP : Nat) (aL : Option Addr) (cL : Nat) (ab off cO : Nat) (hr : (runC p p.ops.length).1 = 0) (hlen : p.ops.length ≤ 131072) :
    ∀ (d i : Nat) (o : List HdC), i + d ≤ p.ops.length → opnC p i = o → opnC p (i + d) = o → (∀ m, i ≤ m → m ≤ i + d → o.length ≤ (opnC p m).length) → ¬ (i + d < p.ops.length ∧ (nthO p.ops (i + d)).kind ≠ 2) → stpC p i = 0 →
    ∀ W : World, AtV opV 3 W (some ⟨ab, off, none⟩) p.ops → Calls Try.prog 44 #[prgV p aP cP aL cL (some ⟨ab, off, none⟩) cO, .int .i64 (i : Int)] W fun e w' => e = .returned (.tuple #[.int .i64 (stpC p (i + d)), .int .i64 ((i + d : Nat) : Int)]) ∧ Below W.heap.size W w' := by
  intro d
  induction d using Nat.strongRecOn with
  | _ d ih =>
  intro i o hd hi hj hm he hz W hA
  obtain ⟨PE, hPE⟩ : ∃ Q : Ending → World → Prop, (fun e w' => e = .returned (.tuple #[.int .i64 (stpC p (i + d)), .int .i64 ((i + d : Nat) : Int)]) ∧ Below W.heap.size W w') = Q := ⟨_, rfl⟩
  rw [hPE]
  have HPE := hiddenC hPE
  have IH := hiddenC ih
  have HR := hiddenC hr
  have HA := hiddenC hA
  have HI := hiddenC hi
  have HJ := hiddenC hj
  have HM := hiddenC hm
  have HE := hiddenC he
  have HZ := hiddenC hz
  have B0 := hiddenC ((Below.refl W.heap.size W).alloc (Nat.le_refl _) (.cells #[.int .i64 p.mem, .int .i64 p.cnt, .int .i64 p.ins, .int .i64 p.outs, .slice aP p.parts.length cP, .slice aL p.lines.length cL, .slice (some ⟨ab, off, none⟩) p.ops.length cO] 26))
  have G0 := hiddenC (blkA_new 26 W #[.int .i64 p.mem, .int .i64 p.cnt, .int .i64 p.ins, .int .i64 p.outs, .slice aP p.parts.length cP, .slice aL p.lines.length cL, .slice (some ⟨ab, off, none⟩) p.ops.length cO])
  unfold prgV at IH ⊢
  obtain ⟨nP, hnP⟩ : ∃ n, p.parts.length = n := ⟨_, rfl⟩
  obtain ⟨nL, hnL⟩ : ∃ n, p.lines.length = n := ⟨_, rfl⟩
  obtain ⟨nO, hnO⟩ : ∃ n, p.ops.length = n := ⟨_, rfl⟩
  have HNO := hiddenC hnO
  rw [hnP, hnL, hnO] at IH B0 G0 ⊢
  rw [hnO] at hd hlen
  clear hPE ih hr hA hi hj hm he hz hnP hnL hnO
  go_enter Try.func44, Try.ntmps44
  go_upto_region 1 with fail
  generalize W.alloc (.cells #[.int .i64 p.mem, .int .i64 p.cnt, .int .i64 p.ins, .int .i64 p.outs, .slice aP nP cP, .slice aL nL cL, .slice (some ⟨ab, off, none⟩) nO cO] 26) = W1 at *
  go_wp2
  go_loopg [1, 6, 7, 8, 9] d (fun gk u1 u6 u7 u8 u9 wr => ∃ m, i ≤ m ∧ m ≤ i + d ∧ gk = i + d - m ∧ opnC p m = o ∧ u1 = .int .i64 (m : Int) ∧ u6 = .int .i64 (stpC p m) ∧ Below W.heap.size W wr ∧ BlkA 26 W.heap.size wr #[.int .i64 p.mem, .int .i64 p.cnt, .int .i64 p.ins, .int .i64 p.outs, .slice aP nP cP, .slice aL nL cL, .slice (some ⟨ab, off, none⟩) nO cO])
  case atStart => exact ⟨i, Nat.le_refl _, by omega, by omega, HI.out, rfl, by rw [HZ.out], B0.out, G0.out⟩
  case round =>
    obtain ⟨m, hm1, hm2, rfl, ho, rfl, rfl, hb, hg⟩ := hrel
    have HB := hiddenC hb
    have HG := hiddenC hg
    have HO := hiddenC ho
    have hsm : 0 ≤ stpC p m ∧ stpC p m ≤ 131073 := (run_inv p m).steps
    clear hb hg ho B0 G0
    have z0 := HG.out.cell (k := 0) rfl
    have z1 := HG.out.cell (k := 1) rfl
    have z2 := HG.out.cell (k := 2) rfl
    have z3 := HG.out.cell (k := 3) rfl
    have z4 := HG.out.cell (k := 4) rfl
    have z5 := HG.out.cell (k := 5) rfl
    have z6 := HG.out.cell (k := 6) rfl
    simp only [List.getElem_toArray, List.getElem_cons_zero, List.getElem_cons_succ] at z0 z1 z2 z3 z4 z5 z6
    by_cases hlt : m < i + d
    · have hmn : m < nO := by omega
      have hml : m < p.ops.length := by rw [HNO.out]; exact hmn
      have hki : (m : Int) < (nO : Int) := by omega
      have hget := nthO_at hml
      have K2 : Hid ((nthO p.ops m).kind ≠ 2) := by
        intro h2
        obtain ⟨h, r1, -⟩ := pass_back HR.out hml h2
        have := HM.out (m + 1) (by omega) (by omega)
        rw [HO.out] at r1
        rw [r1, List.length_append, List.length_singleton] at this
        omega
      rcases HA.out.below HB.out with e1 | ⟨ab', off', e0, hc⟩
      · rw [e1] at hml; exact absurd hml (Nat.not_lt_zero _)
      cases e0
      have r0 := hc m _ hget 0 _ rfl
      have r2 := hc m _ hget 2 _ rfl
      simp only [Nat.add_zero] at r0
      have hwm : IntKind.i64.wrap ((m : Int) + 1) = (m : Int) + 1 := by rw [IntKind.wrap_i64]; omega
      clear hc hget
      by_cases h1 : (nthO p.ops m).kind = 1
      · obtain ⟨g, hg⟩ : ∃ g, i + d = m + (g + 1) := ⟨i + d - m - 1, by omega⟩
        obtain ⟨e, o', e1, e2, f1, f2, f3, f4, f5, f6, f7, f8, f9⟩ := head_seg HR.out g m o (by rw [HNO.out]; omega) HO.out (by rw [← hg]; exact HJ.out) (fun y y1 y2 => HM.out y (by omega) (by omega)) h1
        have hse : 0 ≤ stpC p (m + 1 + e) ∧ stpC p (m + 1 + e) ≤ 131073 := (run_inv p (m + 1 + e)).steps
        have RC : Hid (∀ U, Below W.heap.size W U → Calls Try.prog 44 #[.agg #[.int .i64 p.mem, .int .i64 p.cnt, .int .i64 p.ins, .int .i64 p.outs, .slice aP nP cP, .slice aL nL cL, .slice (some ⟨ab, off, none⟩) nO cO], .int .i64 ((m : Int) + 1)] U fun e9 w' => e9 = .returned (.tuple #[.int .i64 (stpC p (m + 1 + e)), .int .i64 ((m + 1 + e : Nat) : Int)]) ∧ Below U.heap.size U w') := fun U hb => IH.out e (by omega) (m + 1) o' (by omega) f1 f2 f3 (fun hh => hh.2 f4) f6 U (HA.out.below hb)
        have HO2 := hiddenC f5
        have hla := loop_add hsm.1 hse f8
        rw [← f7] at hla
        have HLA := hiddenC hla
        rw [h1] at r0
        generalize stpC p (m + 1 + e) = x at *
        generalize (nthO p.ops m).b = b at *
        obtain ⟨kk, hkk⟩ : ∃ kk, m + 1 + e = kk := ⟨_, rfl⟩
        rw [hkk] at RC HO2 HLA e2
        have hkm : m < kk := by omega
        have hS : Hid (0 ≤ stpC p m ∧ stpC p m ≤ 131073) := hsm
        obtain ⟨s, hs⟩ : ∃ s, stpC p m = s := ⟨_, rfl⟩
        have HSE := hiddenC hs
        rw [hs] at HLA hsm ⊢
        have hq0 : 0 ≤ 131073 / b ∧ 131073 / b ≤ 131073 := ⟨Int.ediv_nonneg (by decide) (by omega), Int.ediv_le_self _ (by decide)⟩
        have hqq : IntKind.i64.wrap (Int.tdiv 131073 b) = 131073 / b := by rw [Int.tdiv_eq_ediv_of_nonneg (by decide), IntKind.wrap_i64]; omega
        have hbz : ¬ b = 0 := by omega
        have hwx : IntKind.i64.wrap (x + 1) = x + 1 := by rw [IntKind.wrap_i64]; omega
        have hwk : IntKind.i64.wrap ((kk : Int) + 1) = (kk : Int) + 1 := by rw [IntKind.wrap_i64]; omega
        have hmul : x + 1 ≤ 131073 / b → 1 ≤ b * (x + 1) ∧ b * (x + 1) ≤ 131073 := fun h => by
          have h3 : b * (x + 1) ≤ b * (131073 / b) := Int.mul_le_mul_of_nonneg_left h (by omega)
          have h4 := Int.mul_ediv_self_le (x := 131073) (k := b) (by omega)
          exact ⟨mul_nonneg1 f8 (by omega), by omega⟩
        unfold loopC at HLA
        generalize 131073 / b = Q at *
        clear f1 f2 f3 f4 f5 f6 f7 hla hs hkk hse K2 h1
        by_cases c1 : x < 131073
        · by_cases c2 : x + 1 ≤ Q
          · obtain ⟨u1, u2⟩ := hmul c2
            have hw1 : IntKind.i64.wrap (b * (x + 1)) = b * (x + 1) := by rw [IntKind.wrap_i64]; omega
            have hw2 : IntKind.i64.wrap (1 + b * (x + 1)) = 1 + b * (x + 1) := by rw [IntKind.wrap_i64]; omega
            have hw3 : IntKind.i64.wrap (s + (1 + b * (x + 1))) = s + (1 + b * (x + 1)) := by rw [IntKind.wrap_i64]; omega
            rw [if_pos ⟨c1, c2⟩] at HLA
            by_cases c3 : s + (1 + b * (x + 1)) > 131073
            · have HN2 : Hid (stpC p (kk + 1) = 131073) := by show _ = _; rw [← HLA.out]; omega
              go_upto_region 6 with (go_at_call 44; (with_reducible refine (RC.out _ HB.out).mono ?_); rintro e9 w9 ⟨rfl, q9⟩; have HB9 := hiddenC (HB.out.trans (q9.mono HB.out.size)); have HG9 := hiddenC (HG.out.below q9); have y0 := cellC_later q9 r0; have y2 := cellC_later q9 r2; clear q9 r0 r2)
              clear z0 z1 z2 z3 z4 z5 z6
              have z0 := HG9.out.cell (k := 0) rfl
              have z1 := HG9.out.cell (k := 1) rfl
              have z2 := HG9.out.cell (k := 2) rfl
              have z3 := HG9.out.cell (k := 3) rfl
              have z4 := HG9.out.cell (k := 4) rfl
              have z5 := HG9.out.cell (k := 5) rfl
              have z6 := HG9.out.cell (k := 6) rfl
              simp only [List.getElem_toArray, List.getElem_cons_zero, List.getElem_cons_succ] at z0 z1 z2 z3 z4 z5 z6
              go_wp2
              go_roundg (i + d - (kk + 1))
              case measure => omega
              case rel => exact ⟨kk + 1, by omega, by omega, by omega, HO2.out, by go_num, by rw [HN2.out], HB9.out, HG9.out⟩
            · have HN2 : Hid (stpC p (kk + 1) = s + (1 + b * (x + 1))) := by show _ = _; rw [← HLA.out]; omega
              go_upto_region 6 with (go_at_call 44; (with_reducible refine (RC.out _ HB.out).mono ?_); rintro e9 w9 ⟨rfl, q9⟩; have HB9 := hiddenC (HB.out.trans (q9.mono HB.out.size)); have HG9 := hiddenC (HG.out.below q9); have y0 := cellC_later q9 r0; have y2 := cellC_later q9 r2; clear q9 r0 r2)
              clear z0 z1 z2 z3 z4 z5 z6
              have z0 := HG9.out.cell (k := 0) rfl
              have z1 := HG9.out.cell (k := 1) rfl
              have z2 := HG9.out.cell (k := 2) rfl
              have z3 := HG9.out.cell (k := 3) rfl
              have z4 := HG9.out.cell (k := 4) rfl
              have z5 := HG9.out.cell (k := 5) rfl
              have z6 := HG9.out.cell (k := 6) rfl
              simp only [List.getElem_toArray, List.getElem_cons_zero, List.getElem_cons_succ] at z0 z1 z2 z3 z4 z5 z6
              go_wp2
              go_roundg (i + d - (kk + 1))
              case measure => omega
              case rel => exact ⟨kk + 1, by omega, by omega, by omega, HO2.out, by go_num, by rw [HN2.out], HB9.out, HG9.out⟩
          · rw [if_neg (fun h => c2 h.2)] at HLA
            have hw3 : IntKind.i64.wrap (s + 131073) = s + 131073 := by rw [IntKind.wrap_i64]; omega
            have HN2 : Hid (stpC p (kk + 1) = 131073) := by show _ = _; rw [← HLA.out]; omega
            by_cases c3 : s + 131073 > 131073
            · go_upto_region 6 with (go_at_call 44; (with_reducible refine (RC.out _ HB.out).mono ?_); rintro e9 w9 ⟨rfl, q9⟩; have HB9 := hiddenC (HB.out.trans (q9.mono HB.out.size)); have HG9 := hiddenC (HG.out.below q9); have y0 := cellC_later q9 r0; have y2 := cellC_later q9 r2; clear q9 r0 r2)
              clear z0 z1 z2 z3 z4 z5 z6
              have z0 := HG9.out.cell (k := 0) rfl
              have z1 := HG9.out.cell (k := 1) rfl
              have z2 := HG9.out.cell (k := 2) rfl
              have z3 := HG9.out.cell (k := 3) rfl
              have z4 := HG9.out.cell (k := 4) rfl
              have z5 := HG9.out.cell (k := 5) rfl
              have z6 := HG9.out.cell (k := 6) rfl
              simp only [List.getElem_toArray, List.getElem_cons_zero, List.getElem_cons_succ] at z0 z1 z2 z3 z4 z5 z6
              go_wp2
              go_roundg (i + d - (kk + 1))
              case measure => omega
              case rel => exact ⟨kk + 1, by omega, by omega, by omega, HO2.out, by go_num, by rw [HN2.out], HB9.out, HG9.out⟩
            · have hs0 : s = 0 := by omega
              subst hs0
              go_upto_region 6 with (go_at_call 44; (with_reducible refine (RC.out _ HB.out).mono ?_); rintro e9 w9 ⟨rfl, q9⟩; have HB9 := hiddenC (HB.out.trans (q9.mono HB.out.size)); have HG9 := hiddenC (HG.out.below q9); have y0 := cellC_later q9 r0; have y2 := cellC_later q9 r2; clear q9 r0 r2)
              clear z0 z1 z2 z3 z4 z5 z6
              have z0 := HG9.out.cell (k := 0) rfl
              have z1 := HG9.out.cell (k := 1) rfl
              have z2 := HG9.out.cell (k := 2) rfl
              have z3 := HG9.out.cell (k := 3) rfl
              have z4 := HG9.out.cell (k := 4) rfl
              have z5 := HG9.out.cell (k := 5) rfl
              have z6 := HG9.out.cell (k := 6) rfl
              simp only [List.getElem_toArray, List.getElem_cons_zero, List.getElem_cons_succ] at z0 z1 z2 z3 z4 z5 z6
              go_wp2
              go_roundg (i + d - (kk + 1))
              case measure => omega
              case rel => exact ⟨kk + 1, by omega, by omega, by omega, HO2.out, by go_num, by rw [HN2.out], HB9.out, HG9.out⟩
        · rw [if_neg (fun h => c1 h.1)] at HLA
          have hw3 : IntKind.i64.wrap (s + 131073) = s + 131073 := by rw [IntKind.wrap_i64]; omega
          have HN2 : Hid (stpC p (kk + 1) = 131073) := by show _ = _; rw [← HLA.out]; omega
          by_cases c3 : s + 131073 > 131073
          · go_upto_region 6 with (go_at_call 44; (with_reducible refine (RC.out _ HB.out).mono ?_); rintro e9 w9 ⟨rfl, q9⟩; have HB9 := hiddenC (HB.out.trans (q9.mono HB.out.size)); have HG9 := hiddenC (HG.out.below q9); have y0 := cellC_later q9 r0; have y2 := cellC_later q9 r2; clear q9 r0 r2)
            clear z0 z1 z2 z3 z4 z5 z6
            have z0 := HG9.out.cell (k := 0) rfl
            have z1 := HG9.out.cell (k := 1) rfl
            have z2 := HG9.out.cell (k := 2) rfl
            have z3 := HG9.out.cell (k := 3) rfl
            have z4 := HG9.out.cell (k := 4) rfl
            have z5 := HG9.out.cell (k := 5) rfl
            have z6 := HG9.out.cell (k := 6) rfl
            simp only [List.getElem_toArray, List.getElem_cons_zero, List.getElem_cons_succ] at z0 z1 z2 z3 z4 z5 z6
            go_wp2
            go_roundg (i + d - (kk + 1))
            case measure => omega
            case rel => exact ⟨kk + 1, by omega, by omega, by omega, HO2.out, by go_num, by rw [HN2.out], HB9.out, HG9.out⟩
          · have hs0 : s = 0 := by omega
            subst hs0
            go_upto_region 6 with (go_at_call 44; (with_reducible refine (RC.out _ HB.out).mono ?_); rintro e9 w9 ⟨rfl, q9⟩; have HB9 := hiddenC (HB.out.trans (q9.mono HB.out.size)); have HG9 := hiddenC (HG.out.below q9); have y0 := cellC_later q9 r0; have y2 := cellC_later q9 r2; clear q9 r0 r2)
            clear z0 z1 z2 z3 z4 z5 z6
            have z0 := HG9.out.cell (k := 0) rfl
            have z1 := HG9.out.cell (k := 1) rfl
            have z2 := HG9.out.cell (k := 2) rfl
            have z3 := HG9.out.cell (k := 3) rfl
            have z4 := HG9.out.cell (k := 4) rfl
            have z5 := HG9.out.cell (k := 5) rfl
            have z6 := HG9.out.cell (k := 6) rfl
            simp only [List.getElem_toArray, List.getElem_cons_zero, List.getElem_cons_succ] at z0 z1 z2 z3 z4 z5 z6
            go_wp2
            go_roundg (i + d - (kk + 1))
            case measure => omega
            case rel => exact ⟨kk + 1, by omega, by omega, by omega, HO2.out, by go_num, by rw [HN2.out], HB9.out, HG9.out⟩
      · obtain ⟨q1, q2, -⟩ := pass_plain HR.out hml h1 K2.out
        have HN2 : Hid (stpC p (m + 1) = addC (stpC p m) 1) := q2
        have HO2 : Hid (opnC p (m + 1) = o) := by show _ = _; rw [q1, HO.out]
        have k1 : ((((nthO p.ops m).kind : Nat) : Int) == 1) = false := by simp; omega
        have k2 : ((((nthO p.ops m).kind : Nat) : Int) != 2) = true := by have := K2.out; simp; omega
        generalize (((nthO p.ops m).kind : Nat) : Int) = t at *
        obtain ⟨s, hs⟩ : ∃ s, stpC p m = s := ⟨_, rfl⟩
        rw [hs] at HN2 hsm ⊢
        have hw3 : IntKind.i64.wrap (s + 1) = s + 1 := by rw [IntKind.wrap_i64]; omega
        clear q1 q2 hs h1 K2
        by_cases c3 : s + 1 > 131073
        · have HN3 : Hid (stpC p (m + 1) = 131073) := by show _ = _; rw [HN2.out]; unfold addC; omega
          go_wp2
          go_roundg (i + d - (m + 1))
          case measure => omega
          case rel => exact ⟨m + 1, by omega, by omega, rfl, HO2.out, by go_num, by rw [HN3.out], HB.out, HG.out⟩
        · have HN3 : Hid (stpC p (m + 1) = s + 1) := by show _ = _; rw [HN2.out]; unfold addC; omega
          go_wp2
          go_roundg (i + d - (m + 1))
          case measure => omega
          case rel => exact ⟨m + 1, by omega, by omega, rfl, HO2.out, by go_num, by rw [HN3.out], HB.out, HG.out⟩
    · have hme : i + d = m := by omega
      have HF : Hid (PE (.returned (.tuple #[.int .i64 (stpC p m), .int .i64 (m : Int)])) wr) := by
        show PE _ wr
        rw [← HPE.out, hme]
        exact ⟨rfl, HB.out⟩
      by_cases hmn : m < nO
      · have hki : (m : Int) < (nO : Int) := by omega
        have hml : m < p.ops.length := by rw [HNO.out]; exact hmn
        have h2 : (nthO p.ops m).kind = 2 := by
          apply Classical.byContradiction
          intro h
          exact HE.out (by rw [hme]; exact ⟨hml, h⟩)
        rcases HA.out.below HB.out with e1 | ⟨ab', off', e0, hc⟩
        · rw [e1] at hml; exact absurd hml (Nat.not_lt_zero _)
        cases e0
        have r0 := hc m _ (nthO_at hml) 0 _ rfl
        rw [h2] at r0
        simp only [Nat.add_zero] at r0
        clear hc
        go_wp2
        exact HF.out
      · have hki : ¬ (m : Int) < (nO : Int) := by omega
        go_wp2
        exact HF.out
set_option maxRecDepth 100000 in
set_option maxHeartbeats 4000000 in
theorem rsteps_any (p : PrgC) (aP : Option Addr) (cP : Nat) (aL : Option Addr) (cL : Nat) (aO : Option Addr) (cO : Nat) (W : World) (hA : AtV opV 3 W aO p.ops) (hlen : p.ops.length ≤ 131072) (hr : (runC p p.ops.length).1 = 0) (hl : lastC p = true) :
    Calls Try.prog 24 #[prgV p aP cP aL cL aO cO] W fun e w' => e = .returned (.int .i64 (stpC p p.ops.length)) ∧ Below W.heap.size W w' := by
  obtain ⟨PE, hPE⟩ : ∃ Q : Ending → World → Prop, (fun e w' => e = .returned (.int .i64 (stpC p p.ops.length)) ∧ Below W.heap.size W w') = Q := ⟨_, rfl⟩
  rw [hPE]
  have HPE := hiddenC hPE
  obtain ⟨l1, l2⟩ := last_iff hl
  have hlt : p.ops.length - 1 < p.ops.length := by omega
  obtain ⟨q1, q2, q3⟩ := pass_plain hr hlt (by omega) (by omega)
  rw [show p.ops.length - 1 + 1 = p.ops.length by omega] at q1 q2
  rcases hA with e1 | ⟨ab, off, rfl, hc⟩
  · rw [e1] at l1; exact absurd l1 (Nat.lt_irrefl _)
  have RC : Hid (∀ U, Below W.heap.size W U → Calls Try.prog 44 #[prgV p aP cP aL cL (some ⟨ab, off, none⟩) cO, .int .i64 0] U fun e w' => e = .returned (.tuple #[.int .i64 (stpC p p.ops.length), .int .i64 (p.ops.length : Int)]) ∧ Below U.heap.size U w') := fun U hb => by
    have q := rrows_any p aP cP aL cL ab off cO hr hlen p.ops.length 0 [] (by omega) rfl (by rw [Nat.zero_add, q1]; exact q3 l2) (fun m _ _ => Nat.zero_le _) (by rw [Nat.zero_add]; exact fun h => absurd h.1 (Nat.lt_irrefl _)) rfl U (AtV.below (w := W) (.inr ⟨ab, off, rfl, hc⟩) hb)
    rw [Nat.zero_add] at q
    exact q
  have B0 := hiddenC ((Below.refl W.heap.size W).alloc (Nat.le_refl _) (.cells #[.int .i64 p.mem, .int .i64 p.cnt, .int .i64 p.ins, .int .i64 p.outs, .slice aP p.parts.length cP, .slice aL p.lines.length cL, .slice (some ⟨ab, off, none⟩) p.ops.length cO] 26))
  have G0 := hiddenC (blkA_new 26 W #[.int .i64 p.mem, .int .i64 p.cnt, .int .i64 p.ins, .int .i64 p.outs, .slice aP p.parts.length cP, .slice aL p.lines.length cL, .slice (some ⟨ab, off, none⟩) p.ops.length cO])
  unfold prgV at RC ⊢
  generalize stpC p p.ops.length = s at *
  generalize p.parts.length = nP at *
  generalize p.lines.length = nL at *
  generalize p.ops.length = nO at *
  clear hPE hc l1 l2 hlt q1 q2 q3 hlen hr hl
  go_enter Try.func24, Try.ntmps24
  go_upto_region 1 with fail
  generalize W.alloc (.cells #[.int .i64 p.mem, .int .i64 p.cnt, .int .i64 p.ins, .int .i64 p.outs, .slice aP nP cP, .slice aL nL cL, .slice (some ⟨ab, off, none⟩) nO cO] 26) = W1 at *
  have z0 := G0.out.cell (k := 0) rfl
  have z1 := G0.out.cell (k := 1) rfl
  have z2 := G0.out.cell (k := 2) rfl
  have z3 := G0.out.cell (k := 3) rfl
  have z4 := G0.out.cell (k := 4) rfl
  have z5 := G0.out.cell (k := 5) rfl
  have z6 := G0.out.cell (k := 6) rfl
  simp only [List.getElem_toArray, List.getElem_cons_zero, List.getElem_cons_succ] at z0 z1 z2 z3 z4 z5 z6
  go_wp2_with (go_at_call 44; (with_reducible refine (RC.out _ B0.out).mono ?_); rintro e w2 ⟨rfl, q2⟩; have B2 := hiddenC (B0.out.trans (q2.mono B0.out.size)); clear q2)
  rw [← HPE.out]
  exact ⟨rfl, B2.out⟩
set_option maxRecDepth 100000 in
set_option maxHeartbeats 8000000 in
theorem rsmall_any (p : PrgC) (aP : Option Addr) (cP : Nat) (aL : Option Addr) (cL : Nat) (aO : Option Addr) (cO : Nat) (W : World) :
    Calls Try.prog 21 #[prgV p aP cP aL cL aO cO] W fun e w' => e = .returned (.int .i64 (limC p)) ∧ Below W.heap.size W w' := by
  obtain ⟨PE, hPE⟩ : ∃ Q : Ending → World → Prop, (fun e w' => e = .returned (.int .i64 (limC p)) ∧ Below W.heap.size W w') = Q := ⟨_, rfl⟩
  rw [hPE]
  have HPE := hiddenC hPE
  have B0 := hiddenC ((Below.refl W.heap.size W).alloc (Nat.le_refl _) (.cells #[.int .i64 p.mem, .int .i64 p.cnt, .int .i64 p.ins, .int .i64 p.outs, .slice aP p.parts.length cP, .slice aL p.lines.length cL, .slice aO p.ops.length cO] 26))
  have G0 := hiddenC (blkA_new 26 W #[.int .i64 p.mem, .int .i64 p.cnt, .int .i64 p.ins, .int .i64 p.outs, .slice aP p.parts.length cP, .slice aL p.lines.length cL, .slice aO p.ops.length cO])
  have E : Hid (limC p = if wiC p.mem 0 1024 && (wiC p.cnt 0 17 && (wiC p.ins 0 16 && wiC p.outs 0 16)) then (if 32 < p.parts.length ∨ 96 < p.lines.length ∨ 131072 < p.ops.length then 81 else 0) else 1) := rfl
  unfold prgV
  generalize limC p = lc at *
  generalize p.parts.length = nP at *
  generalize p.lines.length = nL at *
  generalize p.ops.length = nO at *
  clear hPE
  by_cases h00 : p.mem < 0
  · have HV : Hid (lc = 1) := by
      show _ = _
      rw [E.out]
      unfold wiC
      rw [if_neg (by simp; omega)]
    go_enter Try.func21, Try.ntmps21
    go_upto_region 1 with fail
    generalize W.alloc (.cells #[.int .i64 p.mem, .int .i64 p.cnt, .int .i64 p.ins, .int .i64 p.outs, .slice aP nP cP, .slice aL nL cL, .slice aO nO cO] 26) = W1 at *
    have z0 := G0.out.cell (k := 0) rfl
    have z1 := G0.out.cell (k := 1) rfl
    have z2 := G0.out.cell (k := 2) rfl
    have z3 := G0.out.cell (k := 3) rfl
    have z4 := G0.out.cell (k := 4) rfl
    have z5 := G0.out.cell (k := 5) rfl
    have z6 := G0.out.cell (k := 6) rfl
    simp only [List.getElem_toArray, List.getElem_cons_zero, List.getElem_cons_succ] at z0 z1 z2 z3 z4 z5 z6
    go_wp2
    rw [← HPE.out]
    exact ⟨by (rw [HV.out]; try rfl), B0.out⟩
  · skip
    by_cases h01 : p.mem > 1024
    · have HV : Hid (lc = 1) := by
        show _ = _
        rw [E.out]
        unfold wiC
        rw [if_neg (by simp; omega)]
      go_enter Try.func21, Try.ntmps21
      go_upto_region 1 with fail
      generalize W.alloc (.cells #[.int .i64 p.mem, .int .i64 p.cnt, .int .i64 p.ins, .int .i64 p.outs, .slice aP nP cP, .slice aL nL cL, .slice aO nO cO] 26) = W1 at *
      have z0 := G0.out.cell (k := 0) rfl
      have z1 := G0.out.cell (k := 1) rfl
      have z2 := G0.out.cell (k := 2) rfl
      have z3 := G0.out.cell (k := 3) rfl
      have z4 := G0.out.cell (k := 4) rfl
      have z5 := G0.out.cell (k := 5) rfl
      have z6 := G0.out.cell (k := 6) rfl
      simp only [List.getElem_toArray, List.getElem_cons_zero, List.getElem_cons_succ] at z0 z1 z2 z3 z4 z5 z6
      go_wp2
      rw [← HPE.out]
      exact ⟨by (rw [HV.out]; try rfl), B0.out⟩
    · skip
      by_cases h10 : p.cnt < 0
      · have HV : Hid (lc = 1) := by
          show _ = _
          rw [E.out]
          unfold wiC
          rw [if_neg (by simp; omega)]
        go_enter Try.func21, Try.ntmps21
        go_upto_region 1 with fail
        generalize W.alloc (.cells #[.int .i64 p.mem, .int .i64 p.cnt, .int .i64 p.ins, .int .i64 p.outs, .slice aP nP cP, .slice aL nL cL, .slice aO nO cO] 26) = W1 at *
        have z0 := G0.out.cell (k := 0) rfl
        have z1 := G0.out.cell (k := 1) rfl
        have z2 := G0.out.cell (k := 2) rfl
        have z3 := G0.out.cell (k := 3) rfl
        have z4 := G0.out.cell (k := 4) rfl
        have z5 := G0.out.cell (k := 5) rfl
        have z6 := G0.out.cell (k := 6) rfl
        simp only [List.getElem_toArray, List.getElem_cons_zero, List.getElem_cons_succ] at z0 z1 z2 z3 z4 z5 z6
        go_wp2
        rw [← HPE.out]
        exact ⟨by (rw [HV.out]; try rfl), B0.out⟩
      · skip
        by_cases h11 : p.cnt > 17
        · have HV : Hid (lc = 1) := by
            show _ = _
            rw [E.out]
            unfold wiC
            rw [if_neg (by simp; omega)]
          go_enter Try.func21, Try.ntmps21
          go_upto_region 1 with fail
          generalize W.alloc (.cells #[.int .i64 p.mem, .int .i64 p.cnt, .int .i64 p.ins, .int .i64 p.outs, .slice aP nP cP, .slice aL nL cL, .slice aO nO cO] 26) = W1 at *
          have z0 := G0.out.cell (k := 0) rfl
          have z1 := G0.out.cell (k := 1) rfl
          have z2 := G0.out.cell (k := 2) rfl
          have z3 := G0.out.cell (k := 3) rfl
          have z4 := G0.out.cell (k := 4) rfl
          have z5 := G0.out.cell (k := 5) rfl
          have z6 := G0.out.cell (k := 6) rfl
          simp only [List.getElem_toArray, List.getElem_cons_zero, List.getElem_cons_succ] at z0 z1 z2 z3 z4 z5 z6
          go_wp2
          rw [← HPE.out]
          exact ⟨by (rw [HV.out]; try rfl), B0.out⟩
        · skip
          by_cases h20 : p.ins < 0
          · have HV : Hid (lc = 1) := by
              show _ = _
              rw [E.out]
              unfold wiC
              rw [if_neg (by simp; omega)]
            go_enter Try.func21, Try.ntmps21
            go_upto_region 1 with fail
            generalize W.alloc (.cells #[.int .i64 p.mem, .int .i64 p.cnt, .int .i64 p.ins, .int .i64 p.outs, .slice aP nP cP, .slice aL nL cL, .slice aO nO cO] 26) = W1 at *
            have z0 := G0.out.cell (k := 0) rfl
            have z1 := G0.out.cell (k := 1) rfl
            have z2 := G0.out.cell (k := 2) rfl
            have z3 := G0.out.cell (k := 3) rfl
            have z4 := G0.out.cell (k := 4) rfl
            have z5 := G0.out.cell (k := 5) rfl
            have z6 := G0.out.cell (k := 6) rfl
            simp only [List.getElem_toArray, List.getElem_cons_zero, List.getElem_cons_succ] at z0 z1 z2 z3 z4 z5 z6
            go_wp2
            rw [← HPE.out]
            exact ⟨by (rw [HV.out]; try rfl), B0.out⟩
          · skip
            by_cases h21 : p.ins > 16
            · have HV : Hid (lc = 1) := by
                show _ = _
                rw [E.out]
                unfold wiC
                rw [if_neg (by simp; omega)]
              go_enter Try.func21, Try.ntmps21
              go_upto_region 1 with fail
              generalize W.alloc (.cells #[.int .i64 p.mem, .int .i64 p.cnt, .int .i64 p.ins, .int .i64 p.outs, .slice aP nP cP, .slice aL nL cL, .slice aO nO cO] 26) = W1 at *
              have z0 := G0.out.cell (k := 0) rfl
              have z1 := G0.out.cell (k := 1) rfl
              have z2 := G0.out.cell (k := 2) rfl
              have z3 := G0.out.cell (k := 3) rfl
              have z4 := G0.out.cell (k := 4) rfl
              have z5 := G0.out.cell (k := 5) rfl
              have z6 := G0.out.cell (k := 6) rfl
              simp only [List.getElem_toArray, List.getElem_cons_zero, List.getElem_cons_succ] at z0 z1 z2 z3 z4 z5 z6
              go_wp2
              rw [← HPE.out]
              exact ⟨by (rw [HV.out]; try rfl), B0.out⟩
            · skip
              by_cases h30 : p.outs < 0
              · have HV : Hid (lc = 1) := by
                  show _ = _
                  rw [E.out]
                  unfold wiC
                  rw [if_neg (by simp; omega)]
                go_enter Try.func21, Try.ntmps21
                go_upto_region 1 with fail
                generalize W.alloc (.cells #[.int .i64 p.mem, .int .i64 p.cnt, .int .i64 p.ins, .int .i64 p.outs, .slice aP nP cP, .slice aL nL cL, .slice aO nO cO] 26) = W1 at *
                have z0 := G0.out.cell (k := 0) rfl
                have z1 := G0.out.cell (k := 1) rfl
                have z2 := G0.out.cell (k := 2) rfl
                have z3 := G0.out.cell (k := 3) rfl
                have z4 := G0.out.cell (k := 4) rfl
                have z5 := G0.out.cell (k := 5) rfl
                have z6 := G0.out.cell (k := 6) rfl
                simp only [List.getElem_toArray, List.getElem_cons_zero, List.getElem_cons_succ] at z0 z1 z2 z3 z4 z5 z6
                go_wp2
                rw [← HPE.out]
                exact ⟨by (rw [HV.out]; try rfl), B0.out⟩
              · skip
                by_cases h31 : p.outs > 16
                · have HV : Hid (lc = 1) := by
                    show _ = _
                    rw [E.out]
                    unfold wiC
                    rw [if_neg (by simp; omega)]
                  go_enter Try.func21, Try.ntmps21
                  go_upto_region 1 with fail
                  generalize W.alloc (.cells #[.int .i64 p.mem, .int .i64 p.cnt, .int .i64 p.ins, .int .i64 p.outs, .slice aP nP cP, .slice aL nL cL, .slice aO nO cO] 26) = W1 at *
                  have z0 := G0.out.cell (k := 0) rfl
                  have z1 := G0.out.cell (k := 1) rfl
                  have z2 := G0.out.cell (k := 2) rfl
                  have z3 := G0.out.cell (k := 3) rfl
                  have z4 := G0.out.cell (k := 4) rfl
                  have z5 := G0.out.cell (k := 5) rfl
                  have z6 := G0.out.cell (k := 6) rfl
                  simp only [List.getElem_toArray, List.getElem_cons_zero, List.getElem_cons_succ] at z0 z1 z2 z3 z4 z5 z6
                  go_wp2
                  rw [← HPE.out]
                  exact ⟨by (rw [HV.out]; try rfl), B0.out⟩
                · skip
                  by_cases k0 : (nP : Int) > 32
                  · have HV : Hid (lc = 81) := by
                      show _ = _
                      rw [E.out]
                      unfold wiC
                      rw [if_pos (by simp; omega), if_pos (by omega)]
                    go_enter Try.func21, Try.ntmps21
                    go_upto_region 1 with fail
                    generalize W.alloc (.cells #[.int .i64 p.mem, .int .i64 p.cnt, .int .i64 p.ins, .int .i64 p.outs, .slice aP nP cP, .slice aL nL cL, .slice aO nO cO] 26) = W1 at *
                    have z0 := G0.out.cell (k := 0) rfl
                    have z1 := G0.out.cell (k := 1) rfl
                    have z2 := G0.out.cell (k := 2) rfl
                    have z3 := G0.out.cell (k := 3) rfl
                    have z4 := G0.out.cell (k := 4) rfl
                    have z5 := G0.out.cell (k := 5) rfl
                    have z6 := G0.out.cell (k := 6) rfl
                    simp only [List.getElem_toArray, List.getElem_cons_zero, List.getElem_cons_succ] at z0 z1 z2 z3 z4 z5 z6
                    go_wp2
                    rw [← HPE.out]
                    exact ⟨by (rw [HV.out]; try rfl), B0.out⟩
                  · skip
                    by_cases k1 : (nL : Int) > 96
                    · have HV : Hid (lc = 81) := by
                        show _ = _
                        rw [E.out]
                        unfold wiC
                        rw [if_pos (by simp; omega), if_pos (by omega)]
                      go_enter Try.func21, Try.ntmps21
                      go_upto_region 1 with fail
                      generalize W.alloc (.cells #[.int .i64 p.mem, .int .i64 p.cnt, .int .i64 p.ins, .int .i64 p.outs, .slice aP nP cP, .slice aL nL cL, .slice aO nO cO] 26) = W1 at *
                      have z0 := G0.out.cell (k := 0) rfl
                      have z1 := G0.out.cell (k := 1) rfl
                      have z2 := G0.out.cell (k := 2) rfl
                      have z3 := G0.out.cell (k := 3) rfl
                      have z4 := G0.out.cell (k := 4) rfl
                      have z5 := G0.out.cell (k := 5) rfl
                      have z6 := G0.out.cell (k := 6) rfl
                      simp only [List.getElem_toArray, List.getElem_cons_zero, List.getElem_cons_succ] at z0 z1 z2 z3 z4 z5 z6
                      go_wp2
                      rw [← HPE.out]
                      exact ⟨by (rw [HV.out]; try rfl), B0.out⟩
                    · skip
                      by_cases k2 : (nO : Int) > 131072
                      · have HV : Hid (lc = 81) := by
                          show _ = _
                          rw [E.out]
                          unfold wiC
                          rw [if_pos (by simp; omega), if_pos (by omega)]
                        go_enter Try.func21, Try.ntmps21
                        go_upto_region 1 with fail
                        generalize W.alloc (.cells #[.int .i64 p.mem, .int .i64 p.cnt, .int .i64 p.ins, .int .i64 p.outs, .slice aP nP cP, .slice aL nL cL, .slice aO nO cO] 26) = W1 at *
                        have z0 := G0.out.cell (k := 0) rfl
                        have z1 := G0.out.cell (k := 1) rfl
                        have z2 := G0.out.cell (k := 2) rfl
                        have z3 := G0.out.cell (k := 3) rfl
                        have z4 := G0.out.cell (k := 4) rfl
                        have z5 := G0.out.cell (k := 5) rfl
                        have z6 := G0.out.cell (k := 6) rfl
                        simp only [List.getElem_toArray, List.getElem_cons_zero, List.getElem_cons_succ] at z0 z1 z2 z3 z4 z5 z6
                        go_wp2
                        rw [← HPE.out]
                        exact ⟨by (rw [HV.out]; try rfl), B0.out⟩
                      · skip
                        have HV : Hid (lc = 0) := by
                          show _ = _
                          rw [E.out]
                          unfold wiC
                          rw [if_pos (by simp; omega), if_neg (by omega)]
                        go_enter Try.func21, Try.ntmps21
                        go_upto_region 1 with fail
                        generalize W.alloc (.cells #[.int .i64 p.mem, .int .i64 p.cnt, .int .i64 p.ins, .int .i64 p.outs, .slice aP nP cP, .slice aL nL cL, .slice aO nO cO] 26) = W1 at *
                        have z0 := G0.out.cell (k := 0) rfl
                        have z1 := G0.out.cell (k := 1) rfl
                        have z2 := G0.out.cell (k := 2) rfl
                        have z3 := G0.out.cell (k := 3) rfl
                        have z4 := G0.out.cell (k := 4) rfl
                        have z5 := G0.out.cell (k := 5) rfl
                        have z6 := G0.out.cell (k := 6) rfl
                        simp only [List.getElem_toArray, List.getElem_cons_zero, List.getElem_cons_succ] at z0 z1 z2 z3 z4 z5 z6
                        go_wp2
                        rw [← HPE.out]
                        exact ⟨by (rw [HV.out]; try rfl), B0.out⟩
theorem atI_cell {w : World} {a : Option Addr} {L : List Int} {m : Nat} {z : Int} (h : AtV iV 1 w a L) (hz : L[m]? = some z) : ∃ b off, a = some ⟨b, off, none⟩ ∧ w.cell? ⟨b, off + m, none⟩ = some (.int .i64 z) := by
  rcases h with e | ⟨b, off, e, hc⟩
  · rw [e] at hz; cases hz
  · have := hc m z hz 0 _ rfl
    rw [Nat.mul_one, Nat.add_zero] at this
    exact ⟨b, off, e, this⟩
set_option maxRecDepth 100000 in
set_option maxHeartbeats 16000000 in
theorem rloops_any (p : PrgC) (aP : Option Addr) (cP : Nat) (aL : Option Addr) (cL : Nat) (aO : Option Addr) (cO : Nat) (W : World) (hA : AtV opV 3 W aO p.ops) (hlen : p.ops.length ≤ 131072) :
    Calls Try.prog 23 #[prgV p aP cP aL cL aO cO] W fun e w' => e = .returned (.int .i64 (lopC p)) ∧ Below W.heap.size W w' := by
  obtain ⟨PE, hPE⟩ : ∃ Q : Ending → World → Prop, (fun e w' => e = .returned (.int .i64 (lopC p)) ∧ Below W.heap.size W w') = Q := ⟨_, rfl⟩
  rw [hPE]
  have HPE := hiddenC hPE
  have HA := hiddenC hA
  have RA0 : Hid (∀ U, Below W.heap.size W U → ∀ k, k < p.ops.length → Calls Try.prog 43 #[prgV p aP cP aL cL aO cO, .int .i64 (k : Int)] U fun e w' => e = .returned (.bool (mayC p (nthO p.ops k) k)) ∧ Below U.heap.size U w') := fun U hb k hk => rallowed_any p _ k aP cP aL cL aO cO U (nthO_at hk) (by omega) (HA.out.below hb)
  have B0 := hiddenC ((Below.refl W.heap.size W).alloc (Nat.le_refl _) (.cells #[.int .i64 p.mem, .int .i64 p.cnt, .int .i64 p.ins, .int .i64 p.outs, .slice aP p.parts.length cP, .slice aL p.lines.length cL, .slice aO p.ops.length cO] 26))
  have G0 := hiddenC (blkA_new 26 W #[.int .i64 p.mem, .int .i64 p.cnt, .int .i64 p.ins, .int .i64 p.outs, .slice aP p.parts.length cP, .slice aL p.lines.length cL, .slice aO p.ops.length cO])
  unfold prgV at RA0 ⊢
  obtain ⟨nP, hnP⟩ : ∃ n, p.parts.length = n := ⟨_, rfl⟩
  obtain ⟨nL, hnL⟩ : ∃ n, p.lines.length = n := ⟨_, rfl⟩
  obtain ⟨nO, hnO⟩ : ∃ n, p.ops.length = n := ⟨_, rfl⟩
  have HNO := hiddenC hnO
  rw [hnP, hnL, hnO] at RA0 B0 G0 ⊢
  rw [hnO] at hlen
  clear hPE hA hnP hnL hnO
  go_enter Try.func23, Try.ntmps23
  go_upto_region 1 with fail
  generalize W.alloc (.cells #[.int .i64 p.mem, .int .i64 p.cnt, .int .i64 p.ins, .int .i64 p.outs, .slice aP nP cP, .slice aL nL cL, .slice aO nO cO] 26) = W1 at *
  go_wp2
  go_loopg [3, 4] nO (fun gk u3 u4 wr => ∃ (k : Nat) (d : Option Addr) (cp : Nat), k ≤ nO ∧ gk = nO - k ∧ u3 = .slice d (plcO p k).length cp ∧ u4 = .int .i64 (k : Int) ∧ (runC p k).1 = 0 ∧ CapV 3 iV 1 (W.heap.size + 1) wr d cp (plcO p k) ∧ Below W.heap.size W wr ∧ BlkA 26 W.heap.size wr #[.int .i64 p.mem, .int .i64 p.cnt, .int .i64 p.ins, .int .i64 p.outs, .slice aP nP cP, .slice aL nL cL, .slice aO nO cO])
  case atStart => exact ⟨0, none, 0, Nat.zero_le _, rfl, rfl, rfl, rfl, CapV.nil _ _, B0.out, G0.out⟩
  case round =>
    obtain ⟨k, d, cp, hk, rfl, rfl, rfl, hrun, hpl, hb, hg⟩ := hrel
    have HR := hiddenC hrun
    have HPL := hiddenC hpl
    have HB := hiddenC hb
    have HG := hiddenC hg
    have HLN := hiddenC (plcO_len p k)
    obtain ⟨ln, hln⟩ : ∃ q, (plcO p k).length = q := ⟨_, rfl⟩
    have HL := hiddenC hln
    have hln1 : ln ≤ k := by rw [← hln, plcO_len]; exact (run_place p k).2
    rw [hln]
    clear hrun hpl hb hg hln B0 G0
    have z0 := HG.out.cell (k := 0) rfl
    have z1 := HG.out.cell (k := 1) rfl
    have z2 := HG.out.cell (k := 2) rfl
    have z3 := HG.out.cell (k := 3) rfl
    have z4 := HG.out.cell (k := 4) rfl
    have z5 := HG.out.cell (k := 5) rfl
    have z6 := HG.out.cell (k := 6) rfl
    simp only [List.getElem_toArray, List.getElem_cons_zero, List.getElem_cons_succ] at z0 z1 z2 z3 z4 z5 z6
    by_cases hlt : k < nO
    · have hki : (k : Int) < (nO : Int) := by omega
      have hkl : k < p.ops.length := by rw [HNO.out]; exact hlt
      have HKL := hiddenC hkl
      have RA := hiddenC (fun U hb => RA0.out U hb k hlt)
      have hget := nthO_at hkl
      rcases HA.out.below HB.out with e1 | ⟨ab, off, rfl, hc⟩
      · rw [e1] at hkl; exact absurd hkl (Nat.not_lt_zero _)
      have r0 := hc k _ hget 0 _ rfl
      have r1 := hc k _ hget 1 _ rfl
      have r2 := hc k _ hget 2 _ rfl
      simp only [Nat.add_zero] at r0
      have hwk : IntKind.i64.wrap ((k : Int) + 1) = (k : Int) + 1 := by rw [IntKind.wrap_i64]; omega
      clear hc hget hkl
      obtain ⟨oa, hoa⟩ : ∃ q, (nthO p.ops k).a = q := ⟨_, rfl⟩
      obtain ⟨ob, hob⟩ : ∃ q, (nthO p.ops k).b = q := ⟨_, rfl⟩
      have HOA := hiddenC hoa
      have HOB := hiddenC hob
      rw [hoa] at r1
      rw [hob] at r2
      clear hoa hob
      cases hm : mayC p (nthO p.ops k) k with
      | false =>
        have HM : Hid (mayC p (nthO p.ops k) k ≠ true) := by show _ ≠ _; rw [hm]; decide
        rw [hm] at RA
        clear hm
        go_wp2_with (go_at_call 43; (with_reducible refine (RA.out _ HB.out).mono ?_); rintro e9 w3 ⟨rfl, q9⟩; have HB3 := hiddenC (HB.out.trans (q9.mono HB.out.size)); clear q9)
        rw [← HPE.out]
        exact ⟨by (rw [show lopC p = 200 from lop_may HKL.out HR.out HM.out]; try rfl), HB3.out⟩
      | true =>
        have HM : Hid (mayC p (nthO p.ops k) k = true) := hm
        rw [hm] at RA
        clear hm
        by_cases h1 : (nthO p.ops k).kind = 1
        · have H1 := hiddenC h1
          rw [h1] at r0
          clear h1
          go_upto_region 7 with (go_at_call 43; (with_reducible refine (RA.out _ HB.out).mono ?_); rintro e9 w3 ⟨rfl, q9⟩; have HB3 := hiddenC (HB.out.trans (q9.mono HB.out.size)); have HG3 := hiddenC (HG.out.below q9); have HPL3 := hiddenC (HPL.out.later q9); have y0 := cellC_later q9 r0; have y1 := cellC_later q9 r1; have y2 := cellC_later q9 r2; clear q9 r0 r1 r2)
          clear z0 z1 z2 z3 z4 z5 z6 HB HG HPL
          have z0 := HG3.out.cell (k := 0) rfl
          have z1 := HG3.out.cell (k := 1) rfl
          have z2 := HG3.out.cell (k := 2) rfl
          have z3 := HG3.out.cell (k := 3) rfl
          have z4 := HG3.out.cell (k := 4) rfl
          have z5 := HG3.out.cell (k := 5) rfl
          have z6 := HG3.out.cell (k := 6) rfl
          simp only [List.getElem_toArray, List.getElem_cons_zero, List.getElem_cons_succ] at z0 z1 z2 z3 z4 z5 z6
          have b5 := (Below.refl w3.heap.size w3).alloc (Nat.le_refl _) (.cells #[.int .u8 1, .int .i64 oa, .int .i64 ob] 53)
          have Q5 := hiddenC (blkA_new 53 w3 #[.int .u8 1, .int .i64 oa, .int .i64 ob])
          have HB5 := hiddenC (HB3.out.trans (b5.mono HB3.out.size))
          have HG5 := hiddenC (HG3.out.below b5)
          have HPL5 := hiddenC (HPL3.out.later b5)
          go_upto_region 8 with fail
          generalize w3.alloc (.cells #[.int .u8 1, .int .i64 oa, .int .i64 ob] 53) = W5 at *
          obtain ⟨qb, hqb⟩ : ∃ q, w3.heap.size = q := ⟨_, rfl⟩
          rw [hqb] at Q5 ⊢
          clear hqb b5 y0 y1 y2 z0 z1 z2 z3 z4 z5 z6 HB3 HG3 HPL3
          have o0 := Q5.out.cell (k := 0) rfl
          have o1 := Q5.out.cell (k := 1) rfl
          have o2 := Q5.out.cell (k := 2) rfl
          simp only [List.getElem_toArray, List.getElem_cons_zero, List.getElem_cons_succ] at o0 o1 o2
          have z0 := HG5.out.cell (k := 0) rfl
          have z1 := HG5.out.cell (k := 1) rfl
          have z2 := HG5.out.cell (k := 2) rfl
          have z3 := HG5.out.cell (k := 3) rfl
          have z4 := HG5.out.cell (k := 4) rfl
          have z5 := HG5.out.cell (k := 5) rfl
          have z6 := HG5.out.cell (k := 6) rfl
          simp only [List.getElem_toArray, List.getElem_cons_zero, List.getElem_cons_succ] at z0 z1 z2 z3 z4 z5 z6
          have HV5 := hiddenC (HPL5.out.at iV_len)
          go_wp2
          go_loopg [6] ln (fun gk u6 wz => ∃ m : Nat, m ≤ ln ∧ gk = ln - m ∧ u6 = .int .i64 (m : Int) ∧ (∀ j, j < m → ∀ x, (opnC p k)[j]? = some x → x.counter ≠ oa) ∧ Below W5.heap.size W5 wz)
          case atStart => exact ⟨0, Nat.zero_le _, rfl, rfl, (fun j hj => absurd hj (Nat.not_lt_zero _)), Below.refl _ _⟩
          case round =>
            obtain ⟨m, hm, rfl, rfl, hno, hbz⟩ := hrel
            have HN := hiddenC hno
            have HZ := hiddenC hbz
            have HB6 := hiddenC (HB5.out.trans (hbz.mono HB5.out.size))
            have HG6 := hiddenC (HG5.out.below hbz)
            have Q6 := hiddenC (Q5.out.below hbz)
            have HPL6 := hiddenC (HPL5.out.later hbz)
            clear hno hbz o0 o1 o2 z0 z1 z2 z3 z4 z5 z6
            have o0 := Q6.out.cell (k := 0) rfl
            have o1 := Q6.out.cell (k := 1) rfl
            simp only [List.getElem_toArray, List.getElem_cons_zero, List.getElem_cons_succ] at o0 o1
            have z0 := HG6.out.cell (k := 0) rfl
            have z1 := HG6.out.cell (k := 1) rfl
            have z2 := HG6.out.cell (k := 2) rfl
            have z3 := HG6.out.cell (k := 3) rfl
            have z4 := HG6.out.cell (k := 4) rfl
            have z5 := HG6.out.cell (k := 5) rfl
            have z6 := HG6.out.cell (k := 6) rfl
            simp only [List.getElem_toArray, List.getElem_cons_zero, List.getElem_cons_succ] at z0 z1 z2 z3 z4 z5 z6
            by_cases hml : m < ln
            · have hmi : (m : Int) < (ln : Int) := by omega
              obtain ⟨j, x, j1, j2, j3, j4, j5⟩ := plcO_nth (p := p) (k := k) (m := m) (by rw [← HLN.out, HL.out]; exact hml)
              obtain ⟨db, doff, rfl, cd⟩ := atI_cell (HV5.out.below HZ.out) j2
              have hji : (j : Int) < (nO : Int) := by omega
              rcases HA.out.below HB6.out with e1 | ⟨ab', off', e0, hc⟩
              · have := HKL.out; rw [e1] at this; exact absurd this (Nat.not_lt_zero _)
              cases e0
              have cj := hc j _ (nthO_at (by rw [HNO.out]; omega)) 1 _ rfl
              obtain ⟨ja, hja⟩ : ∃ q, (nthO p.ops j).a = q := ⟨_, rfl⟩
              rw [hja] at cj j5
              have HX3 := hiddenC j3
              have HX5 := hiddenC j5
              have hwm : IntKind.i64.wrap ((m : Int) + 1) = (m : Int) + 1 := by rw [IntKind.wrap_i64]; omega
              clear hc hja j2 j3 j4 j5
              go_upto_region 12 with fail
              by_cases he : ja = oa
              · have q1 : (ja == oa) = true := by simpa using he
                have HT := hiddenC (has_some HX3.out (HX5.out.trans he))
                clear he
                try dsimp only [List.append_eq, List.cons_append, List.nil_append]
                go_quiet (fail)
                have HBF := hiddenC (drewX HB6.out nq)
                go_wp2
                rw [← HPE.out]
                exact ⟨by (rw [show lopC p = 201 from head_twice HKL.out HR.out HM.out H1.out (by rw [HOA.out]; exact HT.out)]; try rfl), HBF.out⟩
              · have q1 : (ja == oa) = false := by simpa using he
                have HNN : Hid (∀ i, i < m + 1 → ∀ y, (opnC p k)[i]? = some y → y.counter ≠ oa) := fun i hi y hy => by
                  rcases Nat.lt_succ_iff_lt_or_eq.1 hi with h9 | rfl
                  · exact HN.out i h9 y hy
                  · rw [HX3.out] at hy; cases hy; rw [HX5.out]; exact he
                clear he
                try dsimp only [List.append_eq, List.cons_append, List.nil_append]
                go_quiet (fail)
                have HZF := hiddenC (drewX HZ.out nq)
                go_wp2
                go_roundg (ln - (m + 1))
                case measure => omega
                case rel => exact ⟨m + 1, by omega, rfl, by go_num, HNN.out, HZF.out⟩
            · have hmi : ¬ (m : Int) < (ln : Int) := by omega
              have HNX := hiddenC (next_head HR.out HM.out H1.out (by rw [HOA.out]; exact has_none fun i y hy => HN.out i (by have h9 := (List.getElem?_eq_some_iff.1 hy).1; rw [← HLN.out, HL.out] at h9; omega) y hy))
              have b7 := (Below.refl wr.heap.size wr).alloc (Nat.le_refl _) (.cells #[.int .i64 (k : Int)] 3)
              have HC7 := hiddenC (HPL6.out.later b7)
              have CX : Hid (∀ j u, (iV (k : Int))[j]? = some u → (wr.alloc (.cells #[.int .i64 (k : Int)] 3)).cell? ⟨wr.heap.size, j, none⟩ = some u) := (fun j u hu => (blkA_new 3 wr #[.int .i64 (k : Int)]).cell (by rw [← Array.getElem?_toList]; exact hu))
              have HB7 := hiddenC (HB6.out.trans (b7.mono HB6.out.size))
              have HG7 := hiddenC (HG6.out.below b7)
              have Q7 := hiddenC (Q6.out.below b7)
              have WQ7 : Hid (W.heap.size + 1 ≤ (wr.alloc (.cells #[.int .i64 (k : Int)] 3)).heap.size) := Nat.le_trans HG6.out.lt b7.size
              clear o0 o1 z0 z1 z2 z3 z4 z5 z6
              go_upto_region 15 with (at_builtin; refine wpList_appV rfl _ _ 43 rfl Try.underlying43 _ 8 Try.infoIntC rfl (by decide) (by decide) iV_len (W.heap.size + 1) d cp (plcO p k) ln HL.out rfl HC7.out wr.heap.size (k : Int) rfl CX.out (iV_one _) (by omega) WQ7.out ?_; intro d2 c2 w8 hg; have HG9 := hiddenC hg; clear hg)
              have HGW := hiddenC HG9.out
              have HB8 := hiddenC (HB7.out.trans (HG9.out.below (Q := W.heap.size) (Nat.le_trans (Nat.le_succ _) WQ7.out) (fun y hy => Nat.le_trans (Nat.le_succ _) (HC7.out.lt y hy).1)))
              have HG8 := hiddenC (HG7.out.keep (HG9.out.keep _ HG7.out.lt (fun y hy e => by have := (HC7.out.lt y hy).1; omega)))
              have Q8 := hiddenC (Q7.out.keep (HG9.out.keep _ Q7.out.lt (fun y hy => (HC7.out.ne_type Q7.out (by decide)) y hy)))
              have HP8 : Hid (CapV 3 iV 1 (W.heap.size + 1) w8 d2 c2 (plcO p (k + 1))) := by show CapV 3 iV 1 _ _ _ _ _; rw [HNX.out.2]; exact HG9.out.own
              have HL8 : Hid ((plcO p (k + 1)).length = ln + 1) := by show _ = _; rw [HNX.out.2, List.length_append, HL.out]; rfl
              have o0 := Q8.out.cell (k := 0) rfl
              simp only [List.getElem_toArray, List.getElem_cons_zero] at o0
              have z0 := HG8.out.cell (k := 0) rfl
              have z1 := HG8.out.cell (k := 1) rfl
              have z2 := HG8.out.cell (k := 2) rfl
              have z3 := HG8.out.cell (k := 3) rfl
              have z4 := HG8.out.cell (k := 4) rfl
              have z5 := HG8.out.cell (k := 5) rfl
              have z6 := HG8.out.cell (k := 6) rfl
              simp only [List.getElem_toArray, List.getElem_cons_zero, List.getElem_cons_succ] at z0 z1 z2 z3 z4 z5 z6
              go_wp2
              go_roundg (nO - (k + 1))
              case measure => omega
              case rel => exact ⟨k + 1, d2, c2, by omega, rfl, by rw [HL8.out], by go_num, HNX.out.1, HP8.out, HB8.out, HG8.out⟩
        · by_cases h2 : (nthO p.ops k).kind = 2
          · have H2 := hiddenC h2
            rw [h2] at r0
            clear h1 h2
            go_upto_region 7 with (go_at_call 43; (with_reducible refine (RA.out _ HB.out).mono ?_); rintro e9 w3 ⟨rfl, q9⟩; have HB3 := hiddenC (HB.out.trans (q9.mono HB.out.size)); have HG3 := hiddenC (HG.out.below q9); have HPL3 := hiddenC (HPL.out.later q9); have y0 := cellC_later q9 r0; have y1 := cellC_later q9 r1; have y2 := cellC_later q9 r2; clear q9 r0 r1 r2)
            clear z0 z1 z2 z3 z4 z5 z6 HB HG HPL
            have z0 := HG3.out.cell (k := 0) rfl
            have z1 := HG3.out.cell (k := 1) rfl
            have z2 := HG3.out.cell (k := 2) rfl
            have z3 := HG3.out.cell (k := 3) rfl
            have z4 := HG3.out.cell (k := 4) rfl
            have z5 := HG3.out.cell (k := 5) rfl
            have z6 := HG3.out.cell (k := 6) rfl
            simp only [List.getElem_toArray, List.getElem_cons_zero, List.getElem_cons_succ] at z0 z1 z2 z3 z4 z5 z6
            have b5 := (Below.refl w3.heap.size w3).alloc (Nat.le_refl _) (.cells #[.int .u8 2, .int .i64 oa, .int .i64 ob] 53)
            have Q5 := hiddenC (blkA_new 53 w3 #[.int .u8 2, .int .i64 oa, .int .i64 ob])
            have HB5 := hiddenC (HB3.out.trans (b5.mono HB3.out.size))
            have HG5 := hiddenC (HG3.out.below b5)
            have HPL5 := hiddenC (HPL3.out.later b5)
            go_upto_region 8 with fail
            generalize w3.alloc (.cells #[.int .u8 2, .int .i64 oa, .int .i64 ob] 53) = W5 at *
            obtain ⟨qb, hqb⟩ : ∃ q, w3.heap.size = q := ⟨_, rfl⟩
            rw [hqb] at Q5 ⊢
            clear hqb b5 y0 y1 y2 z0 z1 z2 z3 z4 z5 z6 HB3 HG3 HPL3
            have o0 := Q5.out.cell (k := 0) rfl
            have o1 := Q5.out.cell (k := 1) rfl
            have o2 := Q5.out.cell (k := 2) rfl
            simp only [List.getElem_toArray, List.getElem_cons_zero, List.getElem_cons_succ] at o0 o1 o2
            have z0 := HG5.out.cell (k := 0) rfl
            have z1 := HG5.out.cell (k := 1) rfl
            have z2 := HG5.out.cell (k := 2) rfl
            have z3 := HG5.out.cell (k := 3) rfl
            have z4 := HG5.out.cell (k := 4) rfl
            have z5 := HG5.out.cell (k := 5) rfl
            have z6 := HG5.out.cell (k := 6) rfl
            simp only [List.getElem_toArray, List.getElem_cons_zero, List.getElem_cons_succ] at z0 z1 z2 z3 z4 z5 z6
            go_upto_region 16 with fail
            by_cases hz : ln = 0
            · have q0 : ((ln : Int) == 0) = true := by simpa using (by omega : (ln : Int) = 0)
              have HX : Hid ((opnC p k).length = 0) := by show _ = _; rw [← HLN.out, HL.out]; exact hz
              clear hz
              try dsimp only [List.append_eq, List.cons_append, List.nil_append]
              go_quiet (fail)
              have HBF := hiddenC (drewX HB5.out nq)
              go_wp2
              rw [← HPE.out]
              exact ⟨by (rw [show lopC p = 201 from back_none HKL.out HR.out HM.out H2.out HX.out]; try rfl), HBF.out⟩
            · have q0 : ((ln : Int) == 0) = false := by simpa using (by omega : ¬ (ln : Int) = 0)
              have hln2 : 0 < ln := by omega
              obtain ⟨l1, hl1⟩ : ∃ q, ln = q + 1 := ⟨ln - 1, by omega⟩
              have hll : (opnC p k).length = l1 + 1 := by rw [← HLN.out, HL.out]; exact hl1
              obtain ⟨j, x, j1, j2, j3, j4, j5⟩ := plcO_nth (p := p) (k := k) (m := l1) (by omega)
              have HX3 : Hid ((opnC p k)[(opnC p k).length - 1]? = some x) := by show _ = _; rw [hll]; exact j3
              obtain ⟨db, doff, rfl, cd⟩ := atI_cell (HPL5.out.at iV_len) j2
              have hji : (j : Int) < (nO : Int) := by omega
              rcases HA.out.below HB5.out with e1 | ⟨ab', off', e0, hc⟩
              · have := HKL.out; rw [e1] at this; exact absurd this (Nat.not_lt_zero _)
              cases e0
              have cj := hc j _ (nthO_at (by rw [HNO.out]; omega)) 1 _ rfl
              obtain ⟨ja, hja⟩ : ∃ q, (nthO p.ops j).a = q := ⟨_, rfl⟩
              rw [hja] at cj j5
              have HX4 := hiddenC j4
              have HX5 := hiddenC j5
              have hw1 : IntKind.i64.wrap ((ln : Int) - 1) = (l1 : Int) := by rw [IntKind.wrap_i64]; omega
              have hw1' : IntKind.i64.wrap (((l1 + 1 : Nat) : Int) - 1) = (l1 : Int) := by rw [IntKind.wrap_i64]; omega
              have hw2 : IntKind.i64.wrap ((j : Int) + 1) = (j : Int) + 1 := by rw [IntKind.wrap_i64]; omega
              have hli : (l1 : Int) < (ln : Int) := by omega
              have hl0 : (0 : Int) ≤ (l1 : Int) := by omega
              have hlt2 : l1 ≤ ln := by omega
              have HL1 := hiddenC hl1
              clear hc hja j2 j3 j4 j5 hz hll hl1
              by_cases ha : ja = oa
              · have q1 : (ja != oa) = false := by simpa using ha
                by_cases hb : ob = (j : Int) + 1
                · have q2 : (ob != (j : Int) + 1) = false := by simpa using hb
                  have HNX := hiddenC (next_back HR.out HM.out H2.out HX3.out (by rw [HOA.out, HX5.out]; exact ha.symm) (by rw [HOB.out, HX4.out]; exact hb))
                  clear ha hb
                  try dsimp only [List.append_eq, List.cons_append, List.nil_append]
                  go_quiet (fail)
                  have HBF := hiddenC (drewX HB5.out nq)
                  have HP8 : Hid (CapV 3 iV 1 (W.heap.size + 1) (W5.drewN nq) (some ⟨db, doff, none⟩) cp (plcO p (k + 1))) := by
                    have q := HPL5.out.later (drewX (Below.refl W5.heap.size W5) nq)
                    rw [HNX.out.2] at q
                    exact q.pop iV_len
                  have HL8 : Hid ((plcO p (k + 1)).length = l1) := by
                    show _ = _
                    have q := congrArg List.length HNX.out.2
                    rw [List.length_append, HL.out, List.length_singleton] at q
                    have q1 := HL1.out
                    omega
                  have HG8 := hiddenC (HG5.out.below (drewX (Below.refl W5.heap.size W5) nq))
                  have Q8 := hiddenC (Q5.out.below (drewX (Below.refl W5.heap.size W5) nq))
                  have hcap := HPL5.out.room
                  rw [HL.out] at hcap
                  clear o0 o1 o2 z0 z1 z2 z3 z4 z5 z6
                  have o0 := Q8.out.cell (k := 0) rfl
                  simp only [List.getElem_toArray, List.getElem_cons_zero] at o0
                  have z0 := HG8.out.cell (k := 0) rfl
                  have z1 := HG8.out.cell (k := 1) rfl
                  have z2 := HG8.out.cell (k := 2) rfl
                  have z3 := HG8.out.cell (k := 3) rfl
                  have z4 := HG8.out.cell (k := 4) rfl
                  have z5 := HG8.out.cell (k := 5) rfl
                  have z6 := HG8.out.cell (k := 6) rfl
                  simp only [List.getElem_toArray, List.getElem_cons_zero, List.getElem_cons_succ] at z0 z1 z2 z3 z4 z5 z6
                  go_wp2
                  go_roundg (nO - (k + 1))
                  case measure => omega
                  case rel => exact ⟨k + 1, some ⟨db, doff, none⟩, cp, by omega, rfl, by rw [HL8.out], by go_num, HNX.out.1, HP8.out, HBF.out, HG8.out⟩
                · have q2 : (ob != (j : Int) + 1) = true := by simpa using hb
                  have HW := hiddenC (back_wrong HKL.out HR.out HM.out H2.out HX3.out (fun e => hb (by rw [← HOB.out, e.2, HX4.out])))
                  clear ha hb
                  try dsimp only [List.append_eq, List.cons_append, List.nil_append]
                  go_quiet (fail)
                  have HBF := hiddenC (drewX HB5.out nq)
                  go_wp2
                  rw [← HPE.out]
                  exact ⟨by (rw [show lopC p = 201 from HW.out]; try rfl), HBF.out⟩
              · have q1 : (ja != oa) = true := by simpa using ha
                have HW := hiddenC (back_wrong HKL.out HR.out HM.out H2.out HX3.out (fun e => ha (by rw [← HX5.out, ← e.1, HOA.out])))
                clear ha
                try dsimp only [List.append_eq, List.cons_append, List.nil_append]
                go_quiet (fail)
                have HBF := hiddenC (drewX HB5.out nq)
                go_wp2
                rw [← HPE.out]
                exact ⟨by (rw [show lopC p = 201 from HW.out]; try rfl), HBF.out⟩
          · by_cases h0 : (nthO p.ops k).kind = 0
            · have H0 := hiddenC h0
              have H1 := hiddenC h1
              have H2 := hiddenC h2
              rw [h0] at r0
              clear h0 h1 h2
              go_upto_region 7 with (go_at_call 43; (with_reducible refine (RA.out _ HB.out).mono ?_); rintro e9 w3 ⟨rfl, q9⟩; have HB3 := hiddenC (HB.out.trans (q9.mono HB.out.size)); have HG3 := hiddenC (HG.out.below q9); have HPL3 := hiddenC (HPL.out.later q9); have y0 := cellC_later q9 r0; have y1 := cellC_later q9 r1; have y2 := cellC_later q9 r2; clear q9 r0 r1 r2)
              clear z0 z1 z2 z3 z4 z5 z6 HB HG HPL
              have z0 := HG3.out.cell (k := 0) rfl
              have z1 := HG3.out.cell (k := 1) rfl
              have z2 := HG3.out.cell (k := 2) rfl
              have z3 := HG3.out.cell (k := 3) rfl
              have z4 := HG3.out.cell (k := 4) rfl
              have z5 := HG3.out.cell (k := 5) rfl
              have z6 := HG3.out.cell (k := 6) rfl
              simp only [List.getElem_toArray, List.getElem_cons_zero, List.getElem_cons_succ] at z0 z1 z2 z3 z4 z5 z6
              have b5 := (Below.refl w3.heap.size w3).alloc (Nat.le_refl _) (.cells #[.int .u8 0, .int .i64 oa, .int .i64 ob] 53)
              have Q5 := hiddenC (blkA_new 53 w3 #[.int .u8 0, .int .i64 oa, .int .i64 ob])
              have HB5 := hiddenC (HB3.out.trans (b5.mono HB3.out.size))
              have HG5 := hiddenC (HG3.out.below b5)
              have HPL5 := hiddenC (HPL3.out.later b5)
              go_upto_region 8 with fail
              generalize w3.alloc (.cells #[.int .u8 0, .int .i64 oa, .int .i64 ob] 53) = W5 at *
              obtain ⟨qb, hqb⟩ : ∃ q, w3.heap.size = q := ⟨_, rfl⟩
              rw [hqb] at Q5 ⊢
              clear hqb b5 y0 y1 y2 z0 z1 z2 z3 z4 z5 z6 HB3 HG3 HPL3
              have o0 := Q5.out.cell (k := 0) rfl
              have o1 := Q5.out.cell (k := 1) rfl
              have o2 := Q5.out.cell (k := 2) rfl
              simp only [List.getElem_toArray, List.getElem_cons_zero, List.getElem_cons_succ] at o0 o1 o2
              have z0 := HG5.out.cell (k := 0) rfl
              have z1 := HG5.out.cell (k := 1) rfl
              have z2 := HG5.out.cell (k := 2) rfl
              have z3 := HG5.out.cell (k := 3) rfl
              have z4 := HG5.out.cell (k := 4) rfl
              have z5 := HG5.out.cell (k := 5) rfl
              have z6 := HG5.out.cell (k := 6) rfl
              simp only [List.getElem_toArray, List.getElem_cons_zero, List.getElem_cons_succ] at z0 z1 z2 z3 z4 z5 z6
              by_cases hz : ln = 0
              · have q0 : ¬ (ln : Int) > 0 := by omega
                have HNX := hiddenC (next_plain HR.out HM.out (by rw [H0.out]; decide) (by rw [H0.out]; decide) (fun _ => by rw [← HLN.out, HL.out]; exact hz))
                have HP8 : Hid (CapV 3 iV 1 (W.heap.size + 1) W5 d cp (plcO p (k + 1))) := by show CapV 3 iV 1 _ _ _ _ _; rw [HNX.out.2]; exact HPL5.out
                have HL8 : Hid ((plcO p (k + 1)).length = ln) := by show _ = _; rw [HNX.out.2]; exact HL.out
                clear hz
                go_wp2
                go_roundg (nO - (k + 1))
                case measure => omega
                case rel => exact ⟨k + 1, d, cp, by omega, rfl, by rw [HL8.out], by go_num, HNX.out.1, HP8.out, HB5.out, HG5.out⟩
              · have q0 : (ln : Int) > 0 := by omega
                have HW := hiddenC (end_open HKL.out HR.out HM.out H0.out (by rw [← HLN.out, HL.out]; omega))
                clear hz
                go_wp2
                rw [← HPE.out]
                exact ⟨by (rw [show lopC p = 201 from HW.out]; try rfl), HB5.out⟩
            · have H0 := hiddenC h0
              have H1 := hiddenC h1
              have H2 := hiddenC h2
              have k0 : ((((nthO p.ops k).kind : Nat) : Int) == 0) = false := by simp; omega
              have k1 : ((((nthO p.ops k).kind : Nat) : Int) == 1) = false := by simp; omega
              have k2 : ((((nthO p.ops k).kind : Nat) : Int) == 2) = false := by simp; omega
              generalize (((nthO p.ops k).kind : Nat) : Int) = t at *
              clear h0 h1 h2
              go_upto_region 7 with (go_at_call 43; (with_reducible refine (RA.out _ HB.out).mono ?_); rintro e9 w3 ⟨rfl, q9⟩; have HB3 := hiddenC (HB.out.trans (q9.mono HB.out.size)); have HG3 := hiddenC (HG.out.below q9); have HPL3 := hiddenC (HPL.out.later q9); have y0 := cellC_later q9 r0; have y1 := cellC_later q9 r1; have y2 := cellC_later q9 r2; clear q9 r0 r1 r2)
              clear z0 z1 z2 z3 z4 z5 z6 HB HG HPL
              have z0 := HG3.out.cell (k := 0) rfl
              have z1 := HG3.out.cell (k := 1) rfl
              have z2 := HG3.out.cell (k := 2) rfl
              have z3 := HG3.out.cell (k := 3) rfl
              have z4 := HG3.out.cell (k := 4) rfl
              have z5 := HG3.out.cell (k := 5) rfl
              have z6 := HG3.out.cell (k := 6) rfl
              simp only [List.getElem_toArray, List.getElem_cons_zero, List.getElem_cons_succ] at z0 z1 z2 z3 z4 z5 z6
              have b5 := (Below.refl w3.heap.size w3).alloc (Nat.le_refl _) (.cells #[.int .u8 t, .int .i64 oa, .int .i64 ob] 53)
              have Q5 := hiddenC (blkA_new 53 w3 #[.int .u8 t, .int .i64 oa, .int .i64 ob])
              have HB5 := hiddenC (HB3.out.trans (b5.mono HB3.out.size))
              have HG5 := hiddenC (HG3.out.below b5)
              have HPL5 := hiddenC (HPL3.out.later b5)
              go_upto_region 8 with fail
              generalize w3.alloc (.cells #[.int .u8 t, .int .i64 oa, .int .i64 ob] 53) = W5 at *
              obtain ⟨qb, hqb⟩ : ∃ q, w3.heap.size = q := ⟨_, rfl⟩
              rw [hqb] at Q5 ⊢
              clear hqb b5 y0 y1 y2 z0 z1 z2 z3 z4 z5 z6 HB3 HG3 HPL3
              have o0 := Q5.out.cell (k := 0) rfl
              have o1 := Q5.out.cell (k := 1) rfl
              have o2 := Q5.out.cell (k := 2) rfl
              simp only [List.getElem_toArray, List.getElem_cons_zero, List.getElem_cons_succ] at o0 o1 o2
              have z0 := HG5.out.cell (k := 0) rfl
              have z1 := HG5.out.cell (k := 1) rfl
              have z2 := HG5.out.cell (k := 2) rfl
              have z3 := HG5.out.cell (k := 3) rfl
              have z4 := HG5.out.cell (k := 4) rfl
              have z5 := HG5.out.cell (k := 5) rfl
              have z6 := HG5.out.cell (k := 6) rfl
              simp only [List.getElem_toArray, List.getElem_cons_zero, List.getElem_cons_succ] at z0 z1 z2 z3 z4 z5 z6
              have HNX := hiddenC (next_plain HR.out HM.out H1.out H2.out (fun e => absurd e H0.out))
              have HP8 : Hid (CapV 3 iV 1 (W.heap.size + 1) W5 d cp (plcO p (k + 1))) := by show CapV 3 iV 1 _ _ _ _ _; rw [HNX.out.2]; exact HPL5.out
              have HL8 : Hid ((plcO p (k + 1)).length = ln) := by show _ = _; rw [HNX.out.2]; exact HL.out
              go_wp2
              go_roundg (nO - (k + 1))
              case measure => omega
              case rel => exact ⟨k + 1, d, cp, by omega, rfl, by rw [HL8.out], by go_num, HNX.out.1, HP8.out, HB5.out, HG5.out⟩
    · have hke : k = nO := by omega
      have hki : ¬ (k : Int) < (nO : Int) := by omega
      have HRE : Hid ((runC p p.ops.length).1 = 0) := by show _ = _; rw [HNO.out, ← hke]; exact HR.out
      have HLE := hiddenC (lop_end HRE.out)
      by_cases hn : nO = 0
      · have q0 : ((nO : Int) == 0) = true := by simpa using (by omega : (nO : Int) = 0)
        have HF : Hid (lopC p = 200) := by
          show _ = _
          rw [HLE.out]
          rw [if_neg]; unfold lastC; rw [HNO.out, hn]; simp
        go_wp2
        rw [← HPE.out]
        exact ⟨by (rw [HF.out]; try rfl), HB.out⟩
      · have q0 : ((nO : Int) == 0) = false := by simpa using (by omega : ¬ (nO : Int) = 0)
        obtain ⟨n1, hn1⟩ : ∃ q, nO = q + 1 := ⟨nO - 1, by omega⟩
        have hnl : n1 < p.ops.length := by rw [HNO.out]; omega
        rcases HA.out.below HB.out with e1 | ⟨ab, off, rfl, hc⟩
        · rw [e1] at hnl; exact absurd hnl (Nat.not_lt_zero _)
        have r0 := hc n1 _ (nthO_at hnl) 0 _ rfl
        simp only [Nat.add_zero] at r0
        have hw1 : IntKind.i64.wrap ((nO : Int) - 1) = (n1 : Int) := by rw [IntKind.wrap_i64]; omega
        have hli : (n1 : Int) < (nO : Int) := by omega
        have HN1 := hiddenC hn1
        have hen : ¬ nO = 0 := hn
        clear hc hn1 hke
        by_cases hkd : (nthO p.ops n1).kind = 0
        · rw [hkd] at r0
          have HF : Hid (lopC p = 0) := by
            show _ = _
            rw [HLE.out]
            rw [if_pos]; unfold lastC; rw [HNO.out, HN1.out, Nat.add_sub_cancel, hkd]; simp
          go_wp2
          rw [← HPE.out]
          exact ⟨by (rw [HF.out]; try rfl), HB.out⟩
        · have q1 : ((((nthO p.ops n1).kind : Nat) : Int) != 0) = true := by simp; omega
          have HKD := hiddenC hkd
          obtain ⟨t, ht⟩ : ∃ q, (((nthO p.ops n1).kind : Nat) : Int) = q := ⟨_, rfl⟩
          rw [ht] at r0 q1
          clear hkd ht
          have HF : Hid (lopC p = 200) := by
            show _ = _
            rw [HLE.out]
            rw [if_neg]; unfold lastC; rw [HNO.out, HN1.out, Nat.add_sub_cancel, Bool.and_eq_true, decide_eq_true_iff, decide_eq_true_iff]; exact fun h => HKD.out h.2
          go_wp2
          rw [← HPE.out]
          exact ⟨by (rw [HF.out]; try rfl), HB.out⟩
def OfZ (r : Int) (z : Value) : Prop := ∃ (a : Option Addr) (m c : Nat) (b : Option Addr) (k d : Nat), z = .tuple #[.slice a m c, .slice b k d, .int .i64 r]
theorem lop_zero {p : PrgC} (h : lopC p = 0) : (runC p p.ops.length).1 = 0 ∧ lastC p = true := by
  unfold lopC at h
  by_cases h1 : (runC p p.ops.length).1 = 0
  · rw [if_pos h1] at h
    by_cases h2 : lastC p = true
    · exact ⟨h1, h2⟩
    · rw [if_neg h2] at h; exact absurd h (by decide)
  · rw [if_neg h1] at h; exact absurd h h1
set_option maxRecDepth 100000 in
set_option maxHeartbeats 16000000 in
theorem rcheck20_any (p : PrgC) (aP : Option Addr) (cP : Nat) (aL : Option Addr) (cL : Nat) (aO : Option Addr) (cO : Nat) (LP : List (PrtC × (Option Addr × Nat))) (LL : List (LinC × (Option Addr × Nat))) (W : World) (hL : PrgL W p aP aL aO LP LL) (hF : FitP p) :
    Calls Try.prog 9 #[prgV p aP cP aL cL aO cO] W fun e w' => e = .returned (.int .i64 (stepC codeS p).2) ∧ Below W.heap.size W w' := by
  have hE := step_doc codeS p
  obtain ⟨s, hs⟩ : ∃ s, (stepC codeS p).2 = s := ⟨_, rfl⟩
  rw [hs] at hE ⊢
  obtain ⟨PE, hPE⟩ : ∃ Q : Ending → World → Prop, (fun e w' => e = .returned (.int .i64 s) ∧ Below W.heap.size W w') = Q := ⟨_, rfl⟩
  rw [hPE]
  have HPE := hiddenC hPE
  have HL := hiddenC hL
  have HF := hiddenC hF
  have HLP := hiddenC hL.lenP
  have HLL := hiddenC hL.lenL
  have SM : Hid (∀ U, Calls Try.prog 21 #[prgV p aP cP aL cL aO cO] U fun e w' => e = .returned (.int .i64 (limC p)) ∧ Below U.heap.size U w') := fun U => rsmall_any p aP cP aL cL aO cO U
  have LO : Hid (p.ops.length ≤ 131072 → ∀ U, Below W.heap.size W U → Calls Try.prog 23 #[prgV p aP cP aL cL aO cO] U fun e w' => e = .returned (.int .i64 (lopC p)) ∧ Below U.heap.size U w') := fun h U hb => rloops_any p aP cP aL cL aO cO U (HL.out.oa.below hb) h
  have ST : Hid (p.ops.length ≤ 131072 → lopC p = 0 → ∀ U, Below W.heap.size W U → Calls Try.prog 24 #[prgV p aP cP aL cL aO cO] U fun e w' => e = .returned (.int .i64 (stpC p p.ops.length)) ∧ Below U.heap.size U w') := fun h h0 U hb => rsteps_any p aP cP aL cL aO cO U (HL.out.oa.below hb) h (lop_zero h0).1 (lop_zero h0).2
  have B0 := hiddenC ((Below.refl W.heap.size W).alloc (Nat.le_refl _) (.cells #[.int .i64 p.mem, .int .i64 p.cnt, .int .i64 p.ins, .int .i64 p.outs, .slice aP p.parts.length cP, .slice aL p.lines.length cL, .slice aO p.ops.length cO] 26))
  have G0 := hiddenC (blkA_new 26 W #[.int .i64 p.mem, .int .i64 p.cnt, .int .i64 p.ins, .int .i64 p.outs, .slice aP p.parts.length cP, .slice aL p.lines.length cL, .slice aO p.ops.length cO])
  unfold prgV at SM LO ST ⊢
  have HE := hiddenC hE
  have HLIM : Hid (limC p = 0 → (p.parts.length ≤ 32 ∧ p.lines.length ≤ 96 ∧ p.ops.length ≤ 131072) ∧ 0 ≤ p.mem ∧ p.mem ≤ 1024) := fun h => ⟨lim_lens h, (lim_zero h).1⟩
  have HTG : Hid (∀ x ∈ LP, x.1.tag < 256) := fun x hx => (HF.out.fit.parts x.1 (by rw [← HL.out.pe]; exact List.mem_map.2 ⟨x, hx, rfl⟩)).1
  have HBS : Hid (∀ x ∈ LL, x.1.base ≤ 9223372036854775807) := fun x hx => HF.out.base x.1 (by rw [← HL.out.le]; exact List.mem_map.2 ⟨x, hx, rfl⟩)
  obtain ⟨nP, hnP⟩ : ∃ n, p.parts.length = n := ⟨_, rfl⟩
  obtain ⟨nL, hnL⟩ : ∃ n, p.lines.length = n := ⟨_, rfl⟩
  obtain ⟨nO, hnO⟩ : ∃ n, p.ops.length = n := ⟨_, rfl⟩
  have HNO := hiddenC hnO
  rw [hnP] at SM LO ST B0 G0 HLP HLIM ⊢
  rw [hnL] at SM LO ST B0 G0 HLL HLIM ⊢
  rw [hnO] at SM LO ST B0 G0 HLIM HE ⊢
  rw [← HL.out.pe, ← HL.out.le] at HE
  clear hPE hL hF hnP hnL hnO hs hE
  go_enter Try.func9, Try.ntmps9
  go_upto_region 1 with fail
  generalize W.alloc (.cells #[.int .i64 p.mem, .int .i64 p.cnt, .int .i64 p.ins, .int .i64 p.outs, .slice aP nP cP, .slice aL nL cL, .slice aO nO cO] 26) = W1 at *
  have z0 := G0.out.cell (k := 0) rfl
  have z1 := G0.out.cell (k := 1) rfl
  have z2 := G0.out.cell (k := 2) rfl
  have z3 := G0.out.cell (k := 3) rfl
  have z4 := G0.out.cell (k := 4) rfl
  have z5 := G0.out.cell (k := 5) rfl
  have z6 := G0.out.cell (k := 6) rfl
  simp only [List.getElem_toArray, List.getElem_cons_zero, List.getElem_cons_succ] at z0 z1 z2 z3 z4 z5 z6
  go_upto_region 2 with (go_at_call 21; (with_reducible refine (SM.out _).mono ?_); rintro e w2 ⟨rfl, q2⟩; have B2 := hiddenC (B0.out.trans (q2.mono B0.out.size)); have G2 := hiddenC (G0.out.below q2); clear q2)
  clear z0 z1 z2 z3 z4 z5 z6 B0 G0 SM
  by_cases h1 : limC p = 0
  · obtain ⟨⟨m1, m2, m3⟩, m4⟩ := HLIM.out h1
    have HM := hiddenC m4
    have q0 : (limC p != 0) = false := by simpa using h1
    have LO1 := hiddenC (LO.out m3)
    have ST1 := hiddenC (ST.out m3)
    rw [if_pos h1] at HE
    generalize limC p = lc at *
    clear HLIM LO ST h1 m4
    go_wp2
    go_loopg [4] nP (fun gk u4 wr => ∃ kx : Nat, kx ≤ nP ∧ gk = nP - kx ∧ u4 = .int .i64 (kx : Int) ∧ partsC codeS ((LP.drop kx).map Prod.fst) = partsC codeS (LP.map Prod.fst) ∧ Below W.heap.size W wr ∧ BlkA 26 W.heap.size wr #[.int .i64 p.mem, .int .i64 p.cnt, .int .i64 p.ins, .int .i64 p.outs, .slice aP nP cP, .slice aL nL cL, .slice aO nO cO])
    case atStart => exact ⟨0, Nat.zero_le _, rfl, rfl, rfl, B2.out, G2.out⟩
    case round =>
      obtain ⟨kx, hk, rfl, rfl, hr, hB, hG⟩ := hrel
      have HR := hiddenC hr
      have HB := hiddenC hB
      have HG := hiddenC hG
      clear hr hB hG B2 G2
      have z0 := HG.out.cell (k := 0) rfl
      have z1 := HG.out.cell (k := 1) rfl
      have z2 := HG.out.cell (k := 2) rfl
      have z3 := HG.out.cell (k := 3) rfl
      have z4 := HG.out.cell (k := 4) rfl
      have z5 := HG.out.cell (k := 5) rfl
      have z6 := HG.out.cell (k := 6) rfl
      simp only [List.getElem_toArray, List.getElem_cons_zero, List.getElem_cons_succ] at z0 z1 z2 z3 z4 z5 z6
      by_cases hlt : kx < nP
      · have hki : (kx : Int) < (nP : Int) := by omega
        have hwk : IntKind.i64.wrap ((kx : Int) + 1) = (kx : Int) + 1 := by rw [IntKind.wrap_i64]; omega
        have hkL : kx < LP.length := by rw [HLP.out]; exact hlt
        rcases (HL.out.below HB.out).pa with e1 | ⟨ab, off, rfl, hc⟩
        · rw [e1] at hkL; exact absurd hkL (Nat.not_lt_zero _)
        have hg : LP[kx]? = some LP[kx] := List.getElem?_eq_getElem hkL
        have hm : LP[kx] ∈ LP := List.getElem_mem hkL
        have c0 := hc kx _ hg 0 _ rfl
        have c1 := hc kx _ hg 1 _ rfl
        have AP := hiddenC ((HL.out.below HB.out).pp _ hm)
        have ht := HTG.out _ hm
        have RE : Hid (partsC codeS (LP[kx].1 :: (LP.drop (kx + 1)).map Prod.fst) = partsC codeS (LP.map Prod.fst)) := by
          have q := HR.out
          rw [List.drop_eq_getElem_cons hkL, List.map_cons] at q
          exact q
        obtain ⟨x, hx⟩ : ∃ x, LP[kx] = x := ⟨_, rfl⟩
        rw [hx] at c0 c1 RE ht AP
        clear hc hg hm HR hx
        obtain ⟨⟨tg, zs⟩, pa, pc⟩ := x
        simp only [Nat.add_zero] at c0 c1 AP ht
        have CO := hiddenC (fun (U : World) (hb : Below wr.heap.size wr U) => rof_any tg pa zs zs.length pc U (by omega) rfl (AP.out.below hb))
        have RC : Hid (codeS tg zs = (ofS tg zs).2.2) := rfl
        obtain ⟨r, hr⟩ : ∃ r, ofS tg zs = r := ⟨_, rfl⟩
        rw [hr] at CO RC
        have RE2 : Hid (partsC codeS (LP.map Prod.fst) = if codeS tg zs = 0 then partsC codeS ((LP.drop (kx + 1)).map Prod.fst) else codeS tg zs) := RE.out.symm
        rw [RC.out] at RE2
        obtain ⟨r1, r2, r3⟩ := r
        simp only at RE2
        generalize zs.length = nz at *
        clear RE RC hr AP ht
        go_upto_region 7 with fail
        try dsimp only [List.append_eq, List.cons_append, List.nil_append]
        refine wp_region_gen [] (fun d i u z => match i with
            | 0 => z = .pointer (some ⟨W.heap.size, 4, none⟩)
            | 1 => z = .slice (some ⟨ab, off, none⟩) nP cP
            | 2 => z = .int .i64 (kx : Int)
            | 3 => z = .pointer (some ⟨ab, off + kx * 2, none⟩)
            | 4 => z = .pointer (some ⟨ab, off + kx * 2, none⟩)
            | 5 => z = .int .u8 (tg : Int)
            | 6 => z = .pointer (some ⟨W.heap.size, 4, none⟩)
            | 7 => z = .slice (some ⟨ab, off, none⟩) nP cP
            | 8 => z = .int .i64 (kx : Int)
            | 9 => z = .pointer (some ⟨ab, off + kx * 2, none⟩)
            | 10 => z = .pointer (some ⟨ab, off + kx * 2 + 1, none⟩)
            | 11 => z = .slice pa nz pc
            | 12 => OfZ r3 z
            | 13 => OfZ r3 z
            | 14 => True
            | 15 => True
            | 16 => z = .int .i64 r3
            | 17 => True
            | 18 => True
            | 19 => z = .int .i64 r3
            | _ => True) (fun _ u => Below wr.heap.size wr u) (by kernel_rfl) (by kernel_rfl) (by kernel_rfl) ?_ ?_ ?_ ?_ ?_ ?_ (by kernel_rfl)
        · intro d i w v w' h hb
          match i, h with
          | 0, h => exact h
          | 1, h => exact h
          | 2, h => exact h
          | 3, h => exact h
          | 4, h => exact h
          | 5, h => exact h
          | 6, h => exact h
          | 7, h => exact h
          | 8, h => exact h
          | 9, h => exact h
          | 10, h => exact h
          | 11, h => exact h
          | 12, h => exact h
          | 13, h => exact h
          | 14, h => exact h
          | 15, h => exact h
          | 16, h => exact h
          | 17, h => exact h
          | 18, h => exact h
          | 19, h => exact h
          | _ + 20, _ => trivial
        · intro d u u' h hb
          exact h.trans (hb.mono h.size)
        · exact Below.refl _ _
        · intro d i o ρ w' hm ho hf hg hC hcs hfs hfr hdep
          match i, hm, ho, hf, hg, hfr, hdep with
          | 0, _, ho, hf, hg, hfr, hdep =>
            simp only [gTA, gCZ, gSI] at ho
            subst ho
            refine ⟨fun _ => ?_, fun hw => absurd (show true = false from hw) (by decide)⟩
            have ts : ρ (.tmp 1) = .pointer (some ⟨W.heap.size, 0, none⟩) := hfr 1 (by kernel_rfl)
            simp [go_sem, ts]
            exact ⟨Below.refl _ _, rfl⟩
          | 1, _, ho, hf, hg, hfr, hdep =>
            simp only [gTA, gCZ, gCS, gSI] at ho
            subst ho
            refine ⟨fun _ => ?_, fun hw => absurd (show true = false from hw) (by decide)⟩
            have kc := cellC_later hC z4
            have d0 : ρ (.tmp 23) = .pointer (some ⟨W.heap.size, 4, none⟩) := hdep 0 23 (by kernel_rfl) (by kernel_rfl)
            simp [go_sem, d0, kc]
            exact ⟨Below.refl _ _, rfl⟩
          | 2, _, ho, hf, hg, hfr, hdep =>
            simp only [gTA, gCZ, gCS, gSI] at ho
            subst ho
            refine ⟨fun _ => ?_, fun hw => absurd (show true = false from hw) (by decide)⟩
            have ts : ρ (.tmp 4) = .int .i64 (kx : Int) := hfr 4 (by kernel_rfl)
            simp [go_sem, ts]
            exact ⟨Below.refl _ _, rfl⟩
          | 3, _, ho, hf, hg, hfr, hdep =>
            simp only [gTA, gCZ, gCS, gSI] at ho
            subst ho
            refine ⟨fun _ => ?_, fun hw => absurd (show true = false from hw) (by decide)⟩
            have d0 : ρ (.tmp 24) = .slice (some ⟨ab, off, none⟩) nP cP := hdep 1 24 (by kernel_rfl) (by kernel_rfl)
            have d1 : ρ (.tmp 25) = .int .i64 (kx : Int) := hdep 2 25 (by kernel_rfl) (by kernel_rfl)
            simp [go_sem, d0, d1, hki]
            exact ⟨Below.refl _ _, rfl⟩
          | 4, _, ho, hf, hg, hfr, hdep =>
            simp only [gTA, gCZ, gCS, gSI] at ho
            subst ho
            refine ⟨fun _ => ?_, fun hw => absurd (show true = false from hw) (by decide)⟩
            have d0 : ρ (.tmp 26) = .pointer (some ⟨ab, off + kx * 2, none⟩) := hdep 3 26 (by kernel_rfl) (by kernel_rfl)
            simp [go_sem, d0]
            exact ⟨Below.refl _ _, rfl⟩
          | 5, _, ho, hf, hg, hfr, hdep =>
            simp only [gTA, gCZ, gCS, gSI] at ho
            subst ho
            refine ⟨fun _ => ?_, fun hw => absurd (show true = false from hw) (by decide)⟩
            have kc := cellC_later hC c0
            have d0 : ρ (.tmp 27) = .pointer (some ⟨ab, off + kx * 2, none⟩) := hdep 4 27 (by kernel_rfl) (by kernel_rfl)
            simp [go_sem, d0, kc]
            exact ⟨Below.refl _ _, rfl⟩
          | 6, _, ho, hf, hg, hfr, hdep =>
            simp only [gTA, gCZ, gCS, gSI] at ho
            subst ho
            refine ⟨fun _ => ?_, fun hw => absurd (show true = false from hw) (by decide)⟩
            have ts : ρ (.tmp 1) = .pointer (some ⟨W.heap.size, 0, none⟩) := hfr 1 (by kernel_rfl)
            simp [go_sem, ts]
            exact ⟨Below.refl _ _, rfl⟩
          | 7, _, ho, hf, hg, hfr, hdep =>
            simp only [gTA, gCZ, gCS, gSI] at ho
            subst ho
            refine ⟨fun _ => ?_, fun hw => absurd (show true = false from hw) (by decide)⟩
            have kc := cellC_later hC z4
            have d0 : ρ (.tmp 29) = .pointer (some ⟨W.heap.size, 4, none⟩) := hdep 6 29 (by kernel_rfl) (by kernel_rfl)
            simp [go_sem, d0, kc]
            exact ⟨Below.refl _ _, rfl⟩
          | 8, _, ho, hf, hg, hfr, hdep =>
            simp only [gTA, gCZ, gCS, gSI] at ho
            subst ho
            refine ⟨fun _ => ?_, fun hw => absurd (show true = false from hw) (by decide)⟩
            have ts : ρ (.tmp 4) = .int .i64 (kx : Int) := hfr 4 (by kernel_rfl)
            simp [go_sem, ts]
            exact ⟨Below.refl _ _, rfl⟩
          | 9, _, ho, hf, hg, hfr, hdep =>
            simp only [gTA, gCZ, gCS, gSI] at ho
            subst ho
            refine ⟨fun _ => ?_, fun hw => absurd (show true = false from hw) (by decide)⟩
            have d0 : ρ (.tmp 30) = .slice (some ⟨ab, off, none⟩) nP cP := hdep 7 30 (by kernel_rfl) (by kernel_rfl)
            have d1 : ρ (.tmp 31) = .int .i64 (kx : Int) := hdep 8 31 (by kernel_rfl) (by kernel_rfl)
            simp [go_sem, d0, d1, hki]
            exact ⟨Below.refl _ _, rfl⟩
          | 10, _, ho, hf, hg, hfr, hdep =>
            simp only [gTA, gCZ, gCS, gSI] at ho
            subst ho
            refine ⟨fun _ => ?_, fun hw => absurd (show true = false from hw) (by decide)⟩
            have d0 : ρ (.tmp 32) = .pointer (some ⟨ab, off + kx * 2, none⟩) := hdep 9 32 (by kernel_rfl) (by kernel_rfl)
            simp [go_sem, d0]
            exact ⟨Below.refl _ _, rfl⟩
          | 11, _, ho, hf, hg, hfr, hdep =>
            simp only [gTA, gCZ, gCS, gSI] at ho
            subst ho
            refine ⟨fun _ => ?_, fun hw => absurd (show true = false from hw) (by decide)⟩
            have kc := cellC_later hC c1
            have d0 : ρ (.tmp 33) = .pointer (some ⟨ab, off + kx * 2 + 1, none⟩) := hdep 10 33 (by kernel_rfl) (by kernel_rfl)
            simp [go_sem, d0, kc]
            exact ⟨Below.refl _ _, rfl⟩
          | 12, _, ho, hf, hg, hfr, hdep =>
            simp only [gTA, gCZ, gCS, gSI] at ho
            subst ho
            refine ⟨fun _ => ?_, fun hw => absurd (show true = false from hw) (by decide)⟩
            have t0 : ρ (.tmp 28) = .int .u8 (tg : Int) := hdep 5 28 (by kernel_rfl) (by kernel_rfl)
            have t1 : ρ (.tmp 34) = .slice pa nz pc := hdep 11 34 (by kernel_rfl) (by kernel_rfl)
            simp [go_sem, t0, t1, hfs]
            exact ⟨rfl, (CO.out w' hC).mono fun e w'' ⟨q1, q2, q3, q4, e5, _, _, _, h5⟩ => ⟨_, e5, h5, _, _, _, _, _, _, rfl⟩⟩
          | 13, _, ho, hf, hg, hfr, hdep =>
            simp only [gTA, gCZ, gCS, gSI] at ho
            subst ho
            refine ⟨fun _ => ?_, fun hw => absurd (show true = false from hw) (by decide)⟩
            obtain ⟨x1, x2, x3, x4, x5, x6, e5⟩ : OfZ r3 (ρ (.tmp 35)) := hdep 12 35 (by kernel_rfl) (by kernel_rfl)
            simp [go_sem, e5]
            exact ⟨Below.refl _ _, _, _, _, _, _, _, rfl⟩
          | 14, _, ho, hf, hg, hfr, hdep =>
            simp only [gTA, gCZ, gCS, gSI] at ho
            subst ho
            refine ⟨fun _ => ?_, fun hw => absurd (show true = false from hw) (by decide)⟩
            obtain ⟨x1, x2, x3, x4, x5, x6, e5⟩ : OfZ r3 (ρ (.tmp 22)) := hdep 13 22 (by kernel_rfl) (by kernel_rfl)
            simp [go_sem, e5]
            exact ⟨Below.refl _ _, trivial⟩
          | 15, _, ho, hf, hg, hfr, hdep =>
            simp only [gTA, gCZ, gCS, gSI] at ho
            subst ho
            refine ⟨fun _ => ?_, fun hw => absurd (show true = false from hw) (by decide)⟩
            obtain ⟨x1, x2, x3, x4, x5, x6, e5⟩ : OfZ r3 (ρ (.tmp 22)) := hdep 13 22 (by kernel_rfl) (by kernel_rfl)
            simp [go_sem, e5]
            exact ⟨Below.refl _ _, trivial⟩
          | 16, _, ho, hf, hg, hfr, hdep =>
            simp only [gTA, gCZ, gCS, gSI] at ho
            subst ho
            refine ⟨fun _ => ?_, fun hw => absurd (show true = false from hw) (by decide)⟩
            obtain ⟨x1, x2, x3, x4, x5, x6, e5⟩ : OfZ r3 (ρ (.tmp 22)) := hdep 13 22 (by kernel_rfl) (by kernel_rfl)
            simp [go_sem, e5]
            exact ⟨Below.refl _ _, rfl⟩
          | 17, _, ho, hf, hg, hfr, hdep =>
            simp only [gTA, gCZ, gCS, gSI] at ho
            subst ho
            refine ⟨fun _ => ?_, fun hw => absurd (show true = false from hw) (by decide)⟩
            simp [go_sem]
            exact ⟨Below.refl _ _, trivial⟩
          | 18, _, ho, hf, hg, hfr, hdep =>
            simp only [gTA, gCZ, gCS, gSI] at ho
            subst ho
            refine ⟨fun _ => ?_, fun hw => absurd (show true = false from hw) (by decide)⟩
            simp [go_sem]
            exact ⟨Below.refl _ _, trivial⟩
          | 19, _, ho, hf, hg, hfr, hdep =>
            simp only [gTA, gCZ, gCS, gSI] at ho
            subst ho
            refine ⟨fun _ => ?_, fun hw => absurd (show true = false from hw) (by decide)⟩
            have d0 : ρ (.tmp 38) = .int .i64 r3 := hdep 16 38 (by kernel_rfl) (by kernel_rfl)
            simp [go_sem, d0]
            exact ⟨Below.refl _ _, rfl⟩
          | n + 20, _, ho, _, _, _, _ => simp at ho
        · intro d i o ρ w' hm ho h0 hf hg hC hcs hfs hfr hdep
          exact absurd hm (by simp)
        · intro V w9 hC9 hS
          have e19 : V 19 = .int .i64 r3 := hS 19 (by decide) (by intro h; cases h)
          simp only [puts, e19]
          simp only [Act.put, List.setIfInBounds_toArray, List.set_cons_zero, List.set_cons_succ]
          clear hS e19
          have HB2 := hiddenC (HB.out.trans (hC9.mono HB.out.size))
          have HG2 := hiddenC (HG.out.below hC9)
          clear c0 c1 hC9 z0 z1 z2 z3 z4 z5 z6
          have z0 := HG2.out.cell (k := 0) rfl
          have z1 := HG2.out.cell (k := 1) rfl
          have z2 := HG2.out.cell (k := 2) rfl
          have z3 := HG2.out.cell (k := 3) rfl
          have z4 := HG2.out.cell (k := 4) rfl
          have z5 := HG2.out.cell (k := 5) rfl
          have z6 := HG2.out.cell (k := 6) rfl
          simp only [List.getElem_toArray, List.getElem_cons_zero, List.getElem_cons_succ] at z0 z1 z2 z3 z4 z5 z6
          by_cases h0 : r3 = 0
          · subst h0
            rw [if_pos rfl] at RE2
            go_wp2
            go_roundg (nP - (kx + 1))
            case measure => omega
            case rel => exact ⟨kx + 1, by omega, rfl, by go_num, RE2.out.symm, HB2.out, HG2.out⟩
          · rw [if_neg h0] at RE2
            have qq : (r3 != 0) = true := by simpa using h0
            have HS : Hid (s = r3) := by show _ = _; rw [HE.out, if_neg (by rw [RE2.out]; exact h0), RE2.out]
            go_wp2
            rw [← HPE.out]
            exact ⟨by (rw [show s = r3 from HS.out]; try rfl), HB2.out⟩
      · have hki : ¬ (kx : Int) < (nP : Int) := by omega
        have HP0 : Hid (partsC codeS (LP.map Prod.fst) = 0) := by
          show _ = _
          rw [← HR.out, List.drop_eq_nil_of_le (by rw [HLP.out]; omega)]
          rfl
        rw [if_pos HP0.out] at HE
        clear HR hlt HP0
        go_wp2
        go_loopg [8] nL (fun gk u8 wz => ∃ kx : Nat, kx ≤ nL ∧ gk = nL - kx ∧ u8 = .int .i64 (kx : Int) ∧ linesC p.mem ((LL.drop kx).map Prod.fst) = linesC p.mem (LL.map Prod.fst) ∧ Below W.heap.size W wz ∧ BlkA 26 W.heap.size wz #[.int .i64 p.mem, .int .i64 p.cnt, .int .i64 p.ins, .int .i64 p.outs, .slice aP nP cP, .slice aL nL cL, .slice aO nO cO])
        case atStart => exact ⟨0, Nat.zero_le _, rfl, rfl, rfl, HB.out, HG.out⟩
        case round =>
          obtain ⟨kx, hk, rfl, rfl, hr, hB, hG⟩ := hrel
          have HR := hiddenC hr
          have HB3 := hiddenC hB
          have HG3 := hiddenC hG
          clear hr hB hG HB HG z0 z1 z2 z3 z4 z5 z6
          have z0 := HG3.out.cell (k := 0) rfl
          have z1 := HG3.out.cell (k := 1) rfl
          have z2 := HG3.out.cell (k := 2) rfl
          have z3 := HG3.out.cell (k := 3) rfl
          have z4 := HG3.out.cell (k := 4) rfl
          have z5 := HG3.out.cell (k := 5) rfl
          have z6 := HG3.out.cell (k := 6) rfl
          simp only [List.getElem_toArray, List.getElem_cons_zero, List.getElem_cons_succ] at z0 z1 z2 z3 z4 z5 z6
          by_cases hlt : kx < nL
          · have hki2 : (kx : Int) < (nL : Int) := by omega
            have hwk : IntKind.i64.wrap ((kx : Int) + 1) = (kx : Int) + 1 := by rw [IntKind.wrap_i64]; omega
            have hkL : kx < LL.length := by rw [HLL.out]; exact hlt
            rcases (HL.out.below HB3.out).la with e1 | ⟨ab, off, rfl, hc⟩
            · rw [e1] at hkL; exact absurd hkL (Nat.not_lt_zero _)
            have hg : LL[kx]? = some LL[kx] := List.getElem?_eq_getElem hkL
            have hm : LL[kx] ∈ LL := List.getElem_mem hkL
            have c0 := hc kx _ hg 0 _ rfl
            have c1 := hc kx _ hg 1 _ rfl
            have c2 := hc kx _ hg 2 _ rfl
            have ht := HBS.out _ hm
            have RE : Hid (linesC p.mem (LL[kx].1 :: (LL.drop (kx + 1)).map Prod.fst) = linesC p.mem (LL.map Prod.fst)) := by
              have q := HR.out
              rw [List.drop_eq_getElem_cons hkL, List.map_cons] at q
              exact q
            obtain ⟨x, hx⟩ : ∃ x, LL[kx] = x := ⟨_, rfl⟩
            rw [hx] at c0 c1 RE ht c2
            clear hc hg hm HR hx
            obtain ⟨⟨b, sz, zs⟩, la, lc2⟩ := x
            simp only [Nat.add_zero] at c0 c1 c2 ht
            have RE2 : Hid (linesC p.mem (LL.map Prod.fst) = if (decide (0 ≤ b) && (decide (0 ≤ sz) && decide (sz ≤ p.mem - b))) = true then (if sz < zs.length then 88 else linesC p.mem ((LL.drop (kx + 1)).map Prod.fst)) else 190) := RE.out.symm
            generalize zs.length = nz at *
            have hM := HM.out
            have bX := (Below.refl wr.heap.size wr).alloc (Nat.le_refl _) (.cells #[.int .i64 b, .int .i64 sz] 47)
            have X4 := hiddenC (blkA_new 47 wr #[.int .i64 b, .int .i64 sz])
            have HB4 := hiddenC (HB3.out.trans (bX.mono HB3.out.size))
            have HG4 := hiddenC (HG3.out.below bX)
            have c2 := cellC_later bX c2
            clear RE
            go_upto_region 14 with fail
            generalize wr.alloc (.cells #[.int .i64 b, .int .i64 sz] 47) = W4 at *
            obtain ⟨rb, hrb⟩ : ∃ q, wr.heap.size = q := ⟨_, rfl⟩
            rw [hrb] at X4 ⊢
            clear hrb bX c0 c1 z0 z1 z2 z3 z4 z5 z6 HB3 HG3
            have x0 := X4.out.cell (k := 0) rfl
            have x1 := X4.out.cell (k := 1) rfl
            simp only [List.getElem_toArray, List.getElem_cons_zero, List.getElem_cons_succ] at x0 x1
            have z0 := HG4.out.cell (k := 0) rfl
            have z1 := HG4.out.cell (k := 1) rfl
            have z2 := HG4.out.cell (k := 2) rfl
            have z3 := HG4.out.cell (k := 3) rfl
            have z4 := HG4.out.cell (k := 4) rfl
            have z5 := HG4.out.cell (k := 5) rfl
            have z6 := HG4.out.cell (k := 6) rfl
            simp only [List.getElem_toArray, List.getElem_cons_zero, List.getElem_cons_succ] at z0 z1 z2 z3 z4 z5 z6
            have hwM : 0 ≤ b → IntKind.i64.wrap (p.mem - b) = p.mem - b := fun h => by rw [IntKind.wrap_i64]; omega
            by_cases s1 : b < 0
            · have HS : Hid (s = 190) := by
                show _ = _
                have q : linesC p.mem (LL.map Prod.fst) = 190 := by rw [RE2.out, if_neg (by simp only [Bool.and_eq_true, decide_eq_true_iff]; omega)]
                rw [HE.out, if_neg (by rw [q]; decide), q]
              go_wp2
              rw [← HPE.out]
              exact ⟨by (rw [show s = 190 from HS.out]; try rfl), HB4.out⟩
            · by_cases s2 : sz < 0
              · have HS : Hid (s = 190) := by
                  show _ = _
                  have q : linesC p.mem (LL.map Prod.fst) = 190 := by rw [RE2.out, if_neg (by simp only [Bool.and_eq_true, decide_eq_true_iff]; omega)]
                  rw [HE.out, if_neg (by rw [q]; decide), q]
                go_wp2
                rw [← HPE.out]
                exact ⟨by (rw [show s = 190 from HS.out]; try rfl), HB4.out⟩
              · by_cases s3 : b > p.mem
                · have HS : Hid (s = 190) := by
                    show _ = _
                    have q : linesC p.mem (LL.map Prod.fst) = 190 := by rw [RE2.out, if_neg (by simp only [Bool.and_eq_true, decide_eq_true_iff]; omega)]
                    rw [HE.out, if_neg (by rw [q]; decide), q]
                  go_wp2
                  rw [← HPE.out]
                  exact ⟨by (rw [show s = 190 from HS.out]; try rfl), HB4.out⟩
                · have hwM := hwM (by omega)
                  by_cases s4 : sz > p.mem - b
                  · have HS : Hid (s = 190) := by
                      show _ = _
                      have q : linesC p.mem (LL.map Prod.fst) = 190 := by rw [RE2.out, if_neg (by simp only [Bool.and_eq_true, decide_eq_true_iff]; omega)]
                      rw [HE.out, if_neg (by rw [q]; decide), q]
                    go_wp2
                    rw [← HPE.out]
                    exact ⟨by (rw [show s = 190 from HS.out]; try rfl), HB4.out⟩
                  · rw [if_pos (by simp only [Bool.and_eq_true, decide_eq_true_iff]; omega)] at RE2
                    go_upto_region 16 with fail
                    by_cases s5 : (nz : Int) > sz
                    · rw [if_pos (show sz < (nz : Int) from s5)] at RE2
                      have HS : Hid (s = 88) := by show _ = _; rw [HE.out, if_neg (by rw [RE2.out]; decide), RE2.out]
                      have s6 : decide (sz < (nz : Int)) = true := decide_eq_true s5
                      try dsimp only [List.append_eq, List.cons_append, List.nil_append]
                      go_quiet (fail)
                      have HB7 := hiddenC (drewX HB4.out nq)
                      go_wp2
                      rw [← HPE.out]
                      exact ⟨by (rw [show s = 88 from HS.out]; try rfl), HB7.out⟩
                    · rw [if_neg (show ¬ sz < (nz : Int) from s5)] at RE2
                      have s6 : decide (sz < (nz : Int)) = false := decide_eq_false s5
                      try dsimp only [List.append_eq, List.cons_append, List.nil_append]
                      go_quiet (fail)
                      have HB7 := hiddenC (drewX HB4.out nq)
                      have HG7 := hiddenC (HG4.out.below (drewX (Below.refl W4.heap.size W4) nq))
                      go_wp2
                      go_roundg (nL - (kx + 1))
                      case measure => omega
                      case rel => exact ⟨kx + 1, by omega, rfl, by go_num, RE2.out.symm, HB7.out, HG7.out⟩
          · have hki2 : ¬ (kx : Int) < (nL : Int) := by omega
            have HL0 : Hid (linesC p.mem (LL.map Prod.fst) = 0) := by
              show _ = _
              rw [← HR.out, List.drop_eq_nil_of_le (by rw [HLL.out]; omega)]
              rfl
            rw [if_pos HL0.out] at HE
            have LO2 := hiddenC (LO1.out _ HB3.out)
            clear HR HL0 hlt
            go_upto_region 19 with (go_at_call 23; (with_reducible refine LO2.out.mono ?_); rintro e w5 ⟨rfl, q5⟩; have HB5 := hiddenC (HB3.out.trans (q5.mono HB3.out.size)); have HG5 := hiddenC (HG3.out.below q5); clear q5)
            clear z0 z1 z2 z3 z4 z5 z6 HB3 HG3
            have z0 := HG5.out.cell (k := 0) rfl
            have z1 := HG5.out.cell (k := 1) rfl
            have z2 := HG5.out.cell (k := 2) rfl
            have z3 := HG5.out.cell (k := 3) rfl
            have z4 := HG5.out.cell (k := 4) rfl
            have z5 := HG5.out.cell (k := 5) rfl
            have z6 := HG5.out.cell (k := 6) rfl
            simp only [List.getElem_toArray, List.getElem_cons_zero, List.getElem_cons_succ] at z0 z1 z2 z3 z4 z5 z6
            by_cases hl0 : lopC p = 0
            · have ST2 := hiddenC (ST1.out hl0 _ HB5.out)
              have q1 : (lopC p != 0) = false := by simpa using hl0
              rw [if_pos hl0] at HE
              generalize lopC p = lo at *
              generalize stpC p nO = st at *
              clear hl0 ST1
              by_cases hst : st > 131072
              · have HS : Hid (s = 5) := by show _ = _; rw [HE.out, if_pos (show 131072 < st from hst)]
                go_wp2_with (go_at_call 24; (with_reducible refine ST2.out.mono ?_); rintro e w6 ⟨rfl, q6⟩; have HB6 := hiddenC (HB5.out.trans (q6.mono HB5.out.size)); clear q6)
                rw [← HPE.out]
                exact ⟨by (rw [show s = 5 from HS.out]; try rfl), HB6.out⟩
              · have HS : Hid (s = 0) := by show _ = _; rw [HE.out, if_neg (show ¬ 131072 < st from hst)]
                go_wp2_with (go_at_call 24; (with_reducible refine ST2.out.mono ?_); rintro e w6 ⟨rfl, q6⟩; have HB6 := hiddenC (HB5.out.trans (q6.mono HB5.out.size)); clear q6)
                rw [← HPE.out]
                exact ⟨by (rw [show s = 0 from HS.out]; try rfl), HB6.out⟩
            · have q1 : (lopC p != 0) = true := by simpa using hl0
              have HS : Hid (s = lopC p) := by show _ = _; rw [HE.out, if_neg hl0]
              generalize lopC p = lo at *
              clear hl0
              go_wp2
              rw [← HPE.out]
              exact ⟨by (rw [show s = lo from HS.out]; try rfl), HB5.out⟩
  · have q0 : (limC p != 0) = true := by simpa using h1
    have HS : Hid (s = limC p) := by show _ = _; rw [HE.out, if_neg h1]
    generalize limC p = lc at *
    clear h1
    go_wp2
    rw [← HPE.out]
    exact ⟨by (rw [show s = lc from HS.out]; try rfl), B2.out⟩
end Go.Proofs.Ytdjplmlfcolklaa

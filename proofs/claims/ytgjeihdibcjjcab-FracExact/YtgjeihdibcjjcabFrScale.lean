/- What frac's inner Scale reckons: the least common multiple of what stands below, and each fraction as often. -/
import Derived.Test.YtgjeihdibcjjcabFrMul
import Derived.Deep.OwnRows
import Derived.StillTailTactics
namespace Go.Proofs.Ytgjeihdibcjjcab
open Go.ChangeShapes Go.WideShapes Go.ChangeAt Go.RowKit

def densOf (fs : List (Int × Int)) : List Int := fs.map (·.2)
/-- Each fraction k times. -/
def scL (k : Nat) (fs : List (Int × Int)) : List Int := fs.map (fun f => f.1 * ((k : Int) / f.2))
def scB (k : Nat) : List (Int × Int) → Bool
  | [] => true
  | f :: fs => fitB (f.1 * ((k : Int) / f.2)) && scB k fs
theorem dens_len (fs : List (Int × Int)) : (densOf fs).length = fs.length := by simp [densOf]
theorem scL_len (k : Nat) (fs : List (Int × Int)) : (scL k fs).length = fs.length := by simp [scL]
theorem dens_nth {fs : List (Int × Int)} {k : Nat} (h : k < fs.length) : nth (densOf fs) k = nthD fs k := by
  unfold nth densOf nthD
  rw [List.getD_eq_getElem?_getD, List.getD_eq_getElem?_getD, List.getElem?_map, List.getElem?_eq_getElem h]
  rfl
theorem scL_nth {fs : List (Int × Int)} {K k : Nat} (h : k < fs.length) : nth (scL K fs) k = nthN fs k * ((K : Int) / nthD fs k) := by
  unfold nth scL nthD nthN
  rw [List.getD_eq_getElem?_getD, List.getD_eq_getElem?_getD, List.getElem?_map, List.getElem?_eq_getElem h]
  rfl
theorem dens_in {fs : List (Int × Int)} (hz : InRP fs) : InR (densOf fs) := by
  intro k
  by_cases h : k < fs.length
  · rw [dens_nth h]; exact (hz k).2
  · have e : nth (densOf fs) k = 0 := by
      unfold nth
      rw [List.getD_eq_getElem?_getD, List.getElem?_eq_none (by rw [dens_len]; omega)]
      rfl
    rw [e]; decide
theorem dens_zero {fs : List (Int × Int)} (h : allB fs = true) : zeroB (densOf fs) = false := by
  induction fs with
  | nil => rfl
  | cons f fs ih =>
    rw [allB, Bool.and_eq_true] at h
    show (f.2 == 0 || zeroB (densOf fs)) = false
    rw [ih h.2]
    have := (validB_true.1 h.1).1
    simp
    omega
theorem lcmO_pos {m : Nat} {zs : List Int} (hm : 1 ≤ m) (hm2 : m ≤ 9223372036854775807) (hz : zeroB zs = false) {K : Nat} (h : lcmO m zs = some K) : 1 ≤ K ∧ K ≤ 9223372036854775807 := by
  induction zs generalizing m with
  | nil => cases h; exact ⟨hm, hm2⟩
  | cons x xs ih =>
    rw [zeroB, Bool.or_eq_false_iff] at hz
    rw [lcmO] at h
    split at h
    · rename_i hf
      have hx : x ≠ 0 := by simpa using hz.1
      exact ih (Nat.lcm_pos (by omega) (by omega)) (by have := (fitB_true.1 hf).2; omega) hz.2 h
    · cases h

/-- How the reckoning ends. -/
def ScaledEnd (w : World) (fs : List (Int × Int)) (len : Nat) (e : Ending) (w' : World) : Prop :=
  Below w.heap.size w w' ∧
    ((∃ K g, lcmO 1 (densOf fs) = some K ∧ scB K fs = true ∧ e = .returned (.tuple #[.int .i64 (K : Nat), .slice (some ⟨g, 0, none⟩) len len]) ∧ w.heap.size ≤ g ∧ w'.rowIs g 3 len (fun i => .int .i64 (nth (scL K fs) i))) ∨
    ((∀ K, lcmO 1 (densOf fs) = some K → scB K fs = false) ∧ e = .panicked bigPanic))

theorem row_at {w : World} {g len : Nat} {zs : List Int} (hl : zs.length = len) (h : w.rowIs g 3 len (fun i => .int .i64 (nth zs i))) : At w (some ⟨g, 0, none⟩) zs :=
  Or.inr ⟨g, 0, rfl, fun k hk => by rw [Nat.zero_add]; exact h.cell (by omega)⟩
theorem row_below {w w' : World} {g len : Nat} {f : Nat → Value} (h : w.rowIs g 3 len f) {B : Nat} (hb : Below B w w') (hg : g < B) : w'.rowIs g 3 len f := h.of_block (hb.block g hg)

/-- What is written so far. -/
def part (zs : List Int) (k : Nat) (i : Nat) : Value := .int .i64 (if i < k then nth zs i else 0)
theorem part_zero (zs : List Int) : part zs 0 = fun _ => .int .i64 0 := by funext i; simp [part]
theorem part_all {zs : List Int} {n : Nat} {w : World} {g : Nat} (h : w.rowIs g 3 n (part zs n)) : w.rowIs g 3 n (fun i => .int .i64 (nth zs i)) :=
  h.congr fun i hi => by unfold part; rw [if_pos hi]
theorem part_step {zs : List Int} {k n : Nat} {w : World} {g : Nat} (h : w.rowIs g 3 n (part zs k)) : (w.setCell ⟨g, k, none⟩ (.int .i64 (nth zs k))).rowIs g 3 n (part zs (k + 1)) :=
  (h.set k (.int .i64 (nth zs k))).congr fun i hi => by
    show (if i = k then Value.int .i64 (nth zs k) else part zs k i) = part zs (k + 1) i
    unfold part
    by_cases e : i = k
    · subst e; rw [if_pos rfl, if_pos (Nat.lt_succ_self _)]
    · rw [if_neg e]
      by_cases e2 : i < k
      · rw [if_pos e2, if_pos (by omega)]
      · rw [if_neg e2, if_neg (by omega)]

set_option maxRecDepth 100000 in
set_option maxHeartbeats 2000000 in
theorem scaled_any (a : Option Addr) (fs : List (Int × Int)) (len cap : Nat) (w : World) (hl : fs.length = len) (hr : len * 16 ≤ 140737488351232) (hz : InRP fs) (h : AtP w a fs) (hall : allB fs = true) :
    Calls Try.prog 37 #[.slice a len cap] w (ScaledEnd w fs len) := by
  have HA : Hid (allB fs = true) := hall
  clear hall
  have hmk := run_make_row' (P := Try.prog) 22 3 (.int .i64 0) 8 Try.underlying22 Try.info3 rfl .i64 .i64 len (by omega) (by omega)
  rcases h with h | ⟨b, off, rfl, hc⟩
  · subst h
    obtain rfl : len = 0 := by simpa using hl.symm
    have hmk0 : ∀ w, (Instr.makeSlice 22 (.int .i64 0) (.int .i64 0)).run Try.prog w = .ok (.slice (some ⟨w.heap.size, 0, none⟩) 0 0) (w.alloc (.cells (madeCells #[.int .i64 0] 0) 3)) := fun w => hmk w
    clear hmk
    have b0 : Hid (Below w.heap.size w (w.alloc (.cells (madeCells #[.int .i64 0] 0) 3))) := (Below.refl _ _).alloc (Nat.le_refl _) _
    have hlc : ∀ W x, Calls Try.prog 52 #[.slice x 0 0] W fun e w' => ∃ n : Nat, e = .returned (.tuple #[.int .i64 1, .bool true]) ∧ w' = W.drewN n := fun W x => lcm_any x [] 0 0 W rfl (by omega) inR0 (Or.inl rfl)
    go_enter Try.func37, Try.ntmps37
    go_wp2
    go_loop [16] (fun i => i = .int .i64 0) (fun _ => 0)
    case atStart => exact rfl
    case round =>
      subst hrel
      go_wp2_with (first
        | (go_at_call 52; refine (hlc _ _).mono ?_; rintro e w' ⟨n1, rfl, rfl⟩)
        | (go_at_call 51; refine (fit_yes _ _).mono ?_; rintro e w' ⟨rfl, rfl⟩))
      have r1 : Hid (((((w.alloc (.cells (madeCells #[.int .i64 0] 0) 3)).drewN n1)).alloc (.cells (madeCells #[.int .i64 0] 0) 3)).rowIs (w.heap.size + 1) 3 0 (fun i => .int .i64 (nth [] i))) := by
        have := (World.rowIs_made ((w.alloc (.cells (madeCells #[.int .i64 0] 0) 3)).drewN n1) (.int .i64 0) 0 3).congr (g := fun i => .int .i64 (nth [] i)) (fun i hi => absurd hi (Nat.not_lt_zero i))
        rwa [show ((w.alloc (.cells (madeCells #[.int .i64 0] 0) 3)).drewN n1).heap.size = w.heap.size + 1 by show (w.alloc (.cells (madeCells #[.int .i64 0] 0) 3)).heap.size = _; simp] at this
      have b1 : Hid (Below w.heap.size w ((((w.alloc (.cells (madeCells #[.int .i64 0] 0) 3)).drewN n1)).alloc (.cells (madeCells #[.int .i64 0] 0) 3))) := (bdrew b0.out n1).alloc b0.out.size _
      go_loop [37] (fun i => i = .int .i64 0) (fun _ => 0)
      case atStart => exact rfl
      case round =>
        subst hrel
        go_wp2
        go_ret2
        exact ⟨b1.out, .inl ⟨1, w.heap.size + 1, rfl, rfl, rfl, by omega, r1.out⟩⟩
  · have HC : Hid (∀ k, k < fs.length → w.cell? ⟨b, off + k * 2, none⟩ = some (.int .i64 (nthN fs k)) ∧ w.cell? ⟨b, off + k * 2 + 1, none⟩ = some (.int .i64 (nthD fs k))) := hc
    clear hc
    have r0 : Hid ((w.alloc (.cells (madeCells #[.int .i64 0] len) 3)).rowIs w.heap.size 3 len (part (densOf fs) 0)) := by show World.rowIs _ _ _ _ _; rw [part_zero]; exact World.rowIs_made w _ len 3
    have b0 : Hid (Below w.heap.size w (w.alloc (.cells (madeCells #[.int .i64 0] len) 3))) := (Below.refl _ _).alloc (Nat.le_refl _) _
    go_enter Try.func37, Try.ntmps37
    go_wp2
    go_loopg [16] len (fun gk i wr => ∃ k : Nat, k ≤ len ∧ gk = len - k ∧ i = .int .i64 k ∧ Below w.heap.size w wr ∧ wr.rowIs w.heap.size 3 len (part (densOf fs) k))
    case atStart => exact ⟨0, Nat.zero_le _, rfl, rfl, b0.out, r0.out⟩
    case round =>
      clear r0 b0
      obtain ⟨k, hk, rfl, rfl, hbel, hrow⟩ := hrel
      by_cases hlt : k < len
      · obtain ⟨q1, q2⟩ := HC.out k (by omega)
        have hlt' := block_lt_of_cell q1
        have hck1 : wr.cell? ⟨b, off + k * 2, none⟩ = some (.int .i64 (nthN fs k)) := by rw [hbel.cell (p := ⟨b, off + k * 2, none⟩) hlt']; exact q1
        have hck2 : wr.cell? ⟨b, off + k * 2 + 1, none⟩ = some (.int .i64 (nthD fs k)) := by rw [hbel.cell (p := ⟨b, off + k * 2 + 1, none⟩) hlt']; exact q2
        have hrc := fun o => (hrow.alloc o).cell hlt
        have hrf := fun o => (hrow.alloc o).frozen k
        have HN : Hid (nth (densOf fs) k = nthD fs k) := dens_nth (by omega)
        have hsz := hrow.lt
        clear q1 q2
        generalize nthN fs k = u at *
        generalize nthD fs k = v at *
        go_wp2
        go_roundg (len - (k + 1))
        case measure => omega
        case rel => exact ⟨k + 1, by omega, rfl, by go_num, (hbel.setCell (by exact Nat.le_refl _) _).alloc (by rw [size_set]; exact hbel.size) _, by have := (part_step hrow).alloc (.cells #[.int .i64 u, .int .i64 v] 24); rwa [HN.out] at this⟩
      · have ek : len = k := by omega
        subst ek
        clear hlt hk
        have hat := row_at (by rw [dens_len]; exact hl) (part_all hrow)
        have hlc := fun W k => lcm_any (some ⟨w.heap.size, 0, none⟩) (densOf fs) len len W (by rw [dens_len]; exact hl) (by omega) (dens_in hz) k
        have hv : lcmV (densOf fs) = ((lcmO 1 (densOf fs)).getD 0 : Nat) := by unfold lcmV; rw [dens_zero HA.out]; rfl
        have hb' : lcmB (densOf fs) = (lcmO 1 (densOf fs)).isSome := by unfold lcmB; rw [dens_zero HA.out]; rfl
        rw [hv, hb'] at hlc
        clear hv hb'
        cases hL : lcmO 1 (densOf fs) with
        | none =>
          have HL : Hid (lcmO 1 (densOf fs) = none) := hL
          rw [hL] at hlc
          clear hL
          go_wp2_with (first
            | (go_at_call 52; refine (hlc _ hat).mono ?_; rintro e w' ⟨n1, rfl, rfl⟩)
            | (go_at_call 51; refine (fit_no _ _).mono ?_; rintro e w' ⟨rfl, rfl⟩))
          exact ⟨rfl, bdrew hbel n1, .inr ⟨(fun K hK => by rw [HL.out] at hK; cases hK), rfl⟩⟩
        | some K =>
          have HL : Hid (lcmO 1 (densOf fs) = some K) := hL
          rw [hL] at hlc
          have hK := lcmO_pos (m := 1) (by omega) (by omega) (dens_zero HA.out) hL
          clear hL
          have hlc' : ∀ W, At W (some ⟨w.heap.size, 0, none⟩) (densOf fs) → Calls Try.prog 52 #[.slice (some ⟨w.heap.size, 0, none⟩) len len] W fun e w' => ∃ n : Nat, e = .returned (.tuple #[.int .i64 (K : Nat), .bool true]) ∧ w' = W.drewN n := hlc
          clear hlc hrow
          go_wp2_with (first
            | (go_at_call 52; refine (hlc' _ hat).mono ?_; rintro e w' ⟨n1, rfl, rfl⟩)
            | (go_at_call 51; refine (fit_yes _ _).mono ?_; rintro e w' ⟨rfl, rfl⟩))
          clear hat hlc'
          have r0 : Hid (((wr.drewN n1).alloc (.cells (madeCells #[.int .i64 0] len) 3)).rowIs wr.heap.size 3 len (part (scL K fs) 0)) := by show World.rowIs _ _ _ _ _; rw [part_zero]; exact World.rowIs_made (wr.drewN n1) _ len 3
          have b0 : Hid (Below w.heap.size w ((wr.drewN n1).alloc (.cells (madeCells #[.int .i64 0] len) 3))) := (bdrew hbel n1).alloc hbel.size _
          have HG : Hid (w.heap.size ≤ wr.heap.size) := hbel.size
          clear hbel hmk
          generalize wr.heap.size = g at *
          go_loopg [37] len (fun gk i wr => ∃ k : Nat, k ≤ len ∧ gk = len - k ∧ i = .int .i64 k ∧ Below w.heap.size w wr ∧ wr.rowIs g 3 len (part (scL K fs) k) ∧ scB K (fs.drop k) = scB K fs)
          case atStart => exact ⟨0, Nat.zero_le _, rfl, rfl, b0.out, r0.out, rfl⟩
          case round =>
            clear r0 b0
            obtain ⟨k, hk, rfl, rfl, hbel, hrow, hs⟩ := hrel
            have HS : Hid (scB K (fs.drop k) = scB K fs) := hs
            clear hs
            by_cases hlt : k < len
            · obtain ⟨q1, q2⟩ := HC.out k (by omega)
              have hlt' := block_lt_of_cell q1
              have hck1 : wr.cell? ⟨b, off + k * 2, none⟩ = some (.int .i64 (nthN fs k)) := by rw [hbel.cell (p := ⟨b, off + k * 2, none⟩) hlt']; exact q1
              have hck2 : wr.cell? ⟨b, off + k * 2 + 1, none⟩ = some (.int .i64 (nthD fs k)) := by rw [hbel.cell (p := ⟨b, off + k * 2 + 1, none⟩) hlt']; exact q2
              have HN : Hid (nth (scL K fs) k = nthN fs k * ((K : Int) / nthD fs k)) := scL_nth (by omega)
              have HD : Hid (fs.drop k = (nthN fs k, nthD fs k) :: fs.drop (k + 1)) := dropP (by omega)
              have hv0 := valid_pos (allB_nth HA.out (k := k) (by omega))
              obtain ⟨z1, z2⟩ := hz k
              clear q1 q2
              generalize nthN fs k = u at *
              generalize nthD fs k = v at *
              obtain ⟨q, hq⟩ : ∃ q, (K : Int) / v = q := ⟨_, rfl⟩
              have hq2 : (K : Int).tdiv v = q := by rw [Int.tdiv_eq_ediv_of_nonneg (by omega)]; exact hq
              have hq3 : -9223372036854775808 ≤ q ∧ q ≤ 9223372036854775807 := by
                have h1 : 0 ≤ q := by rw [← hq]; exact Int.ediv_nonneg (by omega) (by omega)
                have h2 : q ≤ K := by rw [← hq]; exact Int.ediv_le_self _ (by omega)
                omega
              have hq4 : IntKind.i64.wrap q = q := by rw [IntKind.wrap_i64]; omega
              have hq5 : wrap64 q = q := by unfold wrap64; omega
              have hv1 : ¬ v = 0 := by omega
              rw [hq] at HN
              have HQ : Hid ((K : Int) / v = q) := hq
              have hm1 := fun w => mul_any u q w z1 hq3
              have hV := var2_new wr (.int .i64 u) (.int .i64 v) 24
              have hR := hrow.alloc (.cells #[.int .i64 u, .int .i64 v] 24)
              have hB := hbel.alloc hbel.size (.cells #[.int .i64 u, .int .i64 v] 24)
              have HGL : Hid (g < wr.heap.size) := hrow.lt
              go_wp2
              generalize wr.alloc (.cells #[.int .i64 u, .int .i64 v] 24) = w3 at *
              clear hck1 hck2 hrow hbel
              have c0 := hV.c0
              have c1 := hV.c1
              have e0 := hR.cell hlt
              have e1 := hR.frozen k
              cases hf : fitB (u * q)
              · have HF : Hid (scB K fs = false) := by show scB K fs = false; rw [← HS.out, HD.out, scB, HQ.out, hf]; rfl
                rw [hf, fitV_no (fitB_false.1 hf)] at hm1
                clear hf
                refine wp_region_ends bigPanic 11 [0, 1, 2, 3, 4, 5, 6, 7, 8, 9, 10] 0 (by kernel_rfl) (by kernel_rfl) (by kernel_rfl) ?_ ?_
                · rintro a' w' hdf ⟨n, rfl⟩
                  exact ⟨hdf, bdrew hB n, .inr ⟨(fun K' hK' => by rw [HL.out] at hK'; cases hK'; exact HF.out), rfl⟩⟩
                simp only [List.take_succ_cons, List.take_zero, List.drop_succ_cons, List.drop_zero, List.cons_append, List.nil_append]
                repeat (go_big_quiet_step (first | (go_at_call 46; (with_reducible refine (hm1 _).mono ?_); rintro e w' ⟨rfl, rfl⟩; exact ⟨rfl, _, rfl⟩)))
                refine wpQuiet_nil ?_
                refine ⟨_, rfl, rfl, ?_⟩
                rintro w' ⟨n, rfl⟩
                refine ⟨51, #[.int .i64 0, .bool false], by simp [go_sem], ?_⟩
                exact (fit_no _ _).mono fun e w' h => ⟨h.1, n, h.2.symm⟩
              · have HF : Hid (scB K (fs.drop (k + 1)) = scB K fs) := by show _ = scB K fs; rw [← HS.out, HD.out, scB, HQ.out, hf]; rfl
                rw [hf, fitV_yes (fitB_true.1 hf)] at hm1
                clear hf
                generalize u * q = uq at *
                refine wp_region_still_tail 12 (by kernel_rfl) (by kernel_rfl) ?_
                simp only [List.take_succ_cons, List.take_zero, List.drop_succ_cons, List.drop_zero]
                change wpStill _ _ (World.drew _) _ _ _
                iterate 8 still_step
                still_call ((hm1 _).mono fun e w' h => ⟨h.1, h.2.symm⟩)
                iterate 2 still_step
                still_call ((fit_yes _ _).mono fun e w' h => ⟨h.1, h.2.symm⟩)
                refine wpStill_nil ?_
                go_wp2
                go_roundg (len - (k + 1))
                case measure => omega
                case rel => exact ⟨k + 1, by omega, rfl, by go_num, (hB.setCell HG.out _).drew, by have := part_step hR; rw [HN.out] at this; exact this.drew, HF.out⟩
            · have ek : len = k := by omega
              subst ek
              have HF : Hid (scB K fs = true) := by show scB K fs = true; rw [← HS.out, dropP_end (by omega)]; rfl
              go_wp2
              go_ret2
              exact ⟨hbel, .inl ⟨K, g, HL.out, HF.out, rfl, HG.out, part_all hrow⟩⟩
end Go.Proofs.Ytgjeihdibcjjcab

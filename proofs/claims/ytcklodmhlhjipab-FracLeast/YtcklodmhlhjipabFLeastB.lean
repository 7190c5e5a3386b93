/- The statement FracLeast: what follows of the scale, and the way that is too big. -/
import Derived.Test.YtcklodmhlhjipabFLeast
namespace Go.Proofs.Ytcklodmhlhjipab
open Go.ChangeShapes Go.WideShapes Go.ChangeAt Go.RowKit

theorem lcmO_dvd {m : Nat} {zs : List Int} {K : Nat} (h : lcmO m zs = some K) : m ∣ K ∧ ∀ k, k < zs.length → (nth zs k).natAbs ∣ K := by
  induction zs generalizing m with
  | nil => cases h; exact ⟨Nat.dvd_refl _, fun k hk => absurd hk (Nat.not_lt_zero _)⟩
  | cons x xs ih =>
    rw [lcmO] at h
    split at h
    · obtain ⟨h1, h2⟩ := ih h
      refine ⟨Nat.dvd_trans (Nat.dvd_lcm_left _ _) h1, fun k hk => ?_⟩
      cases k with
      | zero => exact Nat.dvd_trans (Nat.dvd_lcm_right m x.natAbs) h1
      | succ k => exact h2 k (by simpa using hk)
    · cases h
theorem lcmO_least {m M : Nat} {fs : List (Int × Int)} {K : Nat} (h : lcmO m (densOf fs) = some K) (hm : m ∣ M) (hd : ∀ f ∈ fs, f.2.natAbs ∣ M) : K ∣ M := by
  induction fs generalizing m with
  | nil => cases h; exact hm
  | cons f fs ih =>
    change lcmO m (f.2 :: densOf fs) = some K at h
    rw [lcmO] at h
    split at h
    · exact ih h (Nat.lcm_dvd hm (hd f (by simp))) (fun g hg => hd g (by simp [hg]))
    · cases h
theorem divB_all {m : Int} {fs : List (Int × Int)} (h : divB m fs = true) : ∀ f ∈ fs, f.2.natAbs ∣ m.natAbs := by
  induction fs with
  | nil => intro f hf; cases hf
  | cons g fs ih =>
    rw [divB, Bool.and_eq_true, decide_eq_true_eq] at h
    intro f hf
    rcases List.mem_cons.1 hf with rfl | hf
    · exact Int.natAbs_dvd_natAbs.2 (Int.dvd_of_tmod_eq_zero h.1)
    · exact ih h.2 f hf
theorem lcOK_parts {fs : List (Int × Int)} {K : Nat} (h : lcOK fs = some K) : lcmO 1 (densOf fs) = some K ∧ scB K fs = true := by
  unfold lcOK at h
  cases e : lcmO 1 (densOf fs) with
  | none => rw [e] at h; cases h
  | some K' =>
    rw [e] at h
    simp only [Option.bind_some] at h
    split at h
    · rename_i hb; cases h; exact ⟨rfl, hb⟩
    · cases h
theorem scB_nth {K : Nat} {fs : List (Int × Int)} (h : scB K fs = true) {k : Nat} (hk : k < fs.length) : fitB (nthN fs k * ((K : Int) / nthD fs k)) = true := by
  induction fs generalizing k with
  | nil => simp at hk
  | cons f fs ih =>
    rw [scB, Bool.and_eq_true] at h
    cases k with
    | zero => exact h.1
    | succ k => exact ih h.2 (by simpa using hk)
/-- The scale's own numbers, and that it is the least. -/
theorem scale_facts {fs : List (Int × Int)} {K : Nat} (hall : allB fs = true) (h : lcOK fs = some K) : (1 ≤ K ∧ K ≤ 9223372036854775807) ∧ (∀ k, k < fs.length → (-9223372036854775808 ≤ nth (scL K fs) k ∧ nth (scL K fs) k ≤ 9223372036854775807) ∧ nth (scL K fs) k * nthD fs k = (K : Int) * nthN fs k) ∧
    (∀ m : Int, 0 < m → divB m fs = true → m.tmod (K : Int) = 0) := by
  obtain ⟨h1, h2⟩ := lcOK_parts h
  refine ⟨lcmO_pos (by omega) (by omega) (dens_zero hall) h1, fun k hk => ?_, fun m hm hd => ?_⟩
  · have hf := fitB_true.1 (scB_nth h2 hk)
    rw [scL_nth hk]
    refine ⟨hf, ?_⟩
    have hdv := (lcmO_dvd h1).2 k (by rw [dens_len]; exact hk)
    rw [dens_nth hk] at hdv
    have hdi : nthD fs k ∣ (K : Int) := Int.natAbs_dvd.1 (Int.natCast_dvd_natCast.2 hdv)
    rw [Int.mul_assoc, Int.ediv_mul_cancel hdi, Int.mul_comm]
  · have hK := lcmO_least h1 (Nat.one_dvd _) (divB_all hd)
    apply Int.tmod_eq_zero_of_dvd
    exact Int.dvd_natAbs.1 (Int.natCast_dvd_natCast.2 hK)

set_option maxRecDepth 100000 in
set_option maxHeartbeats 2000000 in
/-- The scale does not fit. -/
theorem least_big (a : Option Addr) (len cap : Nat) (fs : List (Int × Int)) (m : Int) (w : World) (hA : ArgP w a len cap fs) (hm : -9223372036854775808 ≤ m ∧ m ≤ 9223372036854775807) (hall : allB fs = true) (hno : lcOK fs = none) :
    Calls Try.prog 7 #[.slice a len cap, .int .i64 m] w fun e w' => e = .returned (.bool true) ∧ Below w.heap.size w w' := by
  have hlent := lentP_any a fs len cap w hA
  have hr := hA.reach
  have hsc : ∀ g capg w', AtP w' (some ⟨g, 0, none⟩) fs → Calls Try.prog 19 #[.slice (some ⟨g, 0, none⟩) len capg] w' fun e w'' => Below w'.heap.size w' w'' ∧ ∃ a cap, e = .returned (.tuple #[.int .i64 0, .slice a 0 cap, .int .i64 4]) := fun g capg w' h => by
    refine (scale_frac _ fs len capg w' hA.size hA.reach hA.fits h).mono ?_
    rintro e w'' ⟨hb, x, n, c, rfl, hn, -⟩
    obtain ⟨k1, k2, k3⟩ := scE_big hall hno
    rw [k3] at hn
    obtain rfl : 0 = n := hn
    rw [k1, k2]
    exact ⟨hb, x, c, rfl⟩
  obtain ⟨hl, -, -, hz, hat, -⟩ := hA
  have h0 : fs ≠ [] := by rintro rfl; exact absurd hno (by decide)
  obtain ⟨b, off, rfl, hc⟩ := hat.resolve_left h0
  have HC : Hid (∀ k, k < fs.length → w.cell? ⟨b, off + k * 2, none⟩ = some (.int .i64 (nthN fs k)) ∧ w.cell? ⟨b, off + k * 2 + 1, none⟩ = some (.int .i64 (nthD fs k))) := hc
  have HB : Hid (allB fs = true) := hall
  clear hc hat hall h0 hno
  go_enter Try.func7, Try.ntmps7
  go_wp2_with (first
    | (go_at_call 15; refine hlent.mono ?_; rintro e w1 ⟨g, capg, rfl, hcg, hL, hb1⟩)
    | (go_at_call 19; refine (hsc _ _ _ hL.at).mono ?_; rintro e w2 ⟨hb2, x, c, rfl⟩; have B2 := hb1.trans (hb2.mono hb1.size)))
  clear hb1 hb2 hsc hlent
  go_loopg [8, 9] len (fun gk s i wr => ∃ (k : Nat) (t : Bool), k ≤ len ∧ gk = len - k ∧ i = .int .i64 k ∧ s = .bool t ∧ Below w.heap.size w wr)
  case atStart => exact ⟨0, _, Nat.zero_le _, rfl, rfl, rfl, B2⟩
  case round =>
    clear B2
    obtain ⟨k, t, hk, rfl, rfl, rfl, hbel⟩ := hrel
    by_cases hlt : k < len
    · obtain ⟨q1, q2⟩ := HC.out k (by omega)
      have hlt' := block_lt_of_cell q1
      have hck1 : wr.cell? ⟨b, off + k * 2, none⟩ = some (.int .i64 (nthN fs k)) := by rw [hbel.cell (p := ⟨b, off + k * 2, none⟩) hlt']; exact q1
      have hck2 : wr.cell? ⟨b, off + k * 2 + 1, none⟩ = some (.int .i64 (nthD fs k)) := by rw [hbel.cell (p := ⟨b, off + k * 2 + 1, none⟩) hlt']; exact q2
      obtain ⟨z1, z2⟩ := hz k
      have hB : validB (nthN fs k) (nthD fs k) = true := allB_nth HB.out (by omega)
      have hv := fun W => valid_any (nthN fs k) (nthD fs k) W z1 z2
      clear q1 q2
      generalize nthN fs k = x at *
      generalize nthD fs k = y at *
      · rw [hB] at hv
        have hy := valid_pos' hB
        have hm1 := rem_facts m y (by omega) hm.1 hm.2
        have hm2 : wrap64 (m.tmod y) = m.tmod y := hm1.1
        have hm3 : IntKind.i64.wrap (m.tmod y) = m.tmod y := by rw [IntKind.wrap_i64]; have := hm1.2.1; omega
        have hy0 : ¬ y = 0 := by omega
        clear hB hm1
        have hck2' : ∀ w3, Below wr.heap.size wr w3 → w3.cell? ⟨b, off + k * 2 + 1, none⟩ = some (.int .i64 y) := fun w3 h3 => by rw [h3.cell (p := ⟨b, off + k * 2 + 1, none⟩) (Nat.lt_of_lt_of_le hlt' hbel.size)]; exact hck2
        by_cases hr0 : m.tmod y = 0
        · have hq : (m.tmod y != 0) = false := by simpa using hr0
          clear hr0
          go_wp2_with (go_at_call 16; refine (hv _).mono ?_; rintro e w3 ⟨rfl, hb3⟩; have hc3 := hck2' w3 hb3)
          go_roundg (len - (k + 1))
          case measure => omega
          case rel => exact ⟨k + 1, t, by omega, rfl, by go_num, rfl, hbel.trans (hb3.mono hbel.size)⟩
        · have hq : (m.tmod y != 0) = true := by simpa using hr0
          clear hr0
          go_wp2_with (go_at_call 16; refine (hv _).mono ?_; rintro e w3 ⟨rfl, hb3⟩; have hc3 := hck2' w3 hb3)
          go_roundg (len - (k + 1))
          case measure => omega
          case rel => exact ⟨k + 1, false, by omega, rfl, by go_num, rfl, hbel.trans (hb3.mono hbel.size)⟩
    · go_wp2_with (go_at_call 10; refine (awake2 _).mono ?_; rintro e w4 ⟨rfl, hb4⟩)
      go_ret
      exact ⟨rfl, hbel.trans (hb4.mono hbel.size)⟩
end Go.Proofs.Ytcklodmhlhjipab

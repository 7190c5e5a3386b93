/- The document's All, two and Mul (pianolaref02). -/
import Derived.Test.YtcklodmhlhjipaaFrRows
import Derived.Test.YtcklodmhlhjipaaFrRef
import Derived.Test.YtcklodmhlhjipaaRefMul
import Derived.Test.YtcklodmhlhjipaaFr3
namespace Go.Proofs.Ytcklodmhlhjipaa
open Go.ChangeShapes Go.WideShapes Go.ChangeAt Go.RowKit

set_option maxRecDepth 100000 in
set_option maxHeartbeats 1000000 in
theorem rall_any (a : Option Addr) (fs : List (Int × Int)) (len cap : Nat) (w : World) (hl : fs.length = len) (hm : len ≤ 4611686018427387904) (hz : InRP fs) (h : AtP w a fs) :
    Calls Try.prog 38 #[.slice a len cap] w fun e w' => e = .returned (.bool (allB fs)) ∧ Below w.heap.size w w' := by
  rcases h with h | ⟨b, off, rfl, hc⟩
  · subst h
    subst hl
    go_enter Try.func38, Try.ntmps38
    go_wp2
    go_loop [3] (fun i => i = .int .i64 0) (fun _ => 0)
    case atStart => exact rfl
    case round =>
      subst hrel
      go_wp2
      go_ret
      exact ⟨rfl, Below.refl _ _⟩
  · have HC : Hid (∀ k, k < fs.length → w.cell? ⟨b, off + k * 2, none⟩ = some (.int .i64 (nthN fs k)) ∧ w.cell? ⟨b, off + k * 2 + 1, none⟩ = some (.int .i64 (nthD fs k))) := hc
    clear hc
    go_enter Try.func38, Try.ntmps38
    go_wp2
    go_loopg [3] len (fun gk i wr => ∃ k : Nat, k ≤ len ∧ gk = len - k ∧ i = .int .i64 k ∧ allB (fs.drop k) = allB fs ∧ Below w.heap.size w wr)
    case atStart => exact ⟨0, Nat.zero_le _, rfl, rfl, rfl, Below.refl _ _⟩
    case round =>
      obtain ⟨k, hk, rfl, rfl, hs, hbel⟩ := hrel
      have HS : Hid (allB (fs.drop k) = allB fs) := hs
      clear hs
      by_cases hlt : k < len
      · obtain ⟨q1, q2⟩ := HC.out k (by omega)
        have hlt' := block_lt_of_cell q1
        have hck1 : wr.cell? ⟨b, off + k * 2, none⟩ = some (.int .i64 (nthN fs k)) := by rw [hbel.cell (p := ⟨b, off + k * 2, none⟩) hlt']; exact q1
        have hck2 : wr.cell? ⟨b, off + k * 2 + 1, none⟩ = some (.int .i64 (nthD fs k)) := by rw [hbel.cell (p := ⟨b, off + k * 2 + 1, none⟩) hlt']; exact q2
        obtain ⟨z1, z2⟩ := hz k
        have HD : Hid (fs.drop k = (nthN fs k, nthD fs k) :: fs.drop (k + 1)) := dropP (by omega)
        have hv := fun W => rvalid_any (nthN fs k) (nthD fs k) W z1 z2
        clear q1 q2
        generalize nthN fs k = x at *
        generalize nthD fs k = y at *
        cases hB : validB x y
        · have HB : Hid (validB x y = false) := hB
          rw [hB] at hv
          clear hB
          go_wp2_with (go_at_call 13; refine (hv _).mono ?_; rintro e w1 ⟨rfl, hb1⟩)
          go_ret
          have e : allB fs = false := by rw [← HS.out, HD.out, allB, HB.out]; rfl
          exact ⟨by rw [e]; rfl, hbel.trans (hb1.mono hbel.size)⟩
        · have HB : Hid (validB x y = true) := hB
          rw [hB] at hv
          clear hB
          go_wp2_with (go_at_call 13; refine (hv _).mono ?_; rintro e w1 ⟨rfl, hb1⟩)
          go_roundg (len - (k + 1))
          case measure => omega
          case rel => exact ⟨k + 1, by omega, rfl, by go_num, by rw [← HS.out, HD.out, allB, HB.out]; rfl, hbel.trans (hb1.mono hbel.size)⟩
      · have HD : Hid (fs.drop k = []) := dropP_end (by omega)
        go_wp2
        go_ret
        have e : allB fs = true := by rw [← HS.out, HD.out]; rfl
        exact ⟨by rw [e]; rfl, hbel⟩
theorem nat_wraps {g : Nat} (h : g ≤ 9223372036854775807) : IntKind.i64.wrap (g : Int) = (g : Int) ∧ wrap64 (g : Int) = (g : Int) := ⟨by rw [IntKind.wrap_i64]; omega, by unfold wrap64; omega⟩
theorem u64_wraps {d : Int} (h : 0 ≤ d ∧ d ≤ 9223372036854775807) : IntKind.u64.wrap d = d := by rw [IntKind.wrap_u64]; omega

set_option maxRecDepth 100000 in
set_option maxHeartbeats 1000000 in
theorem rtwo_any (a b c d : Int) (w : World) (ha : -9223372036854775808 ≤ a ∧ a ≤ 9223372036854775807) (hb : 0 < b ∧ b ≤ 9223372036854775807) (hc : -9223372036854775808 ≤ c ∧ c ≤ 9223372036854775807) (hd : 0 < d ∧ d ≤ 9223372036854775807) :
    Calls Try.prog 39 #[.agg #[.int .i64 a, .int .i64 b], .agg #[.int .i64 c, .int .i64 d]] w fun e w' => e = .returned (.tuple #[.agg #[.int .i64 (fitV (twoN a b c d)), .int .i64 (fitV (twoD a b c d))], .bool (twoB a b c d)]) ∧ Below w.heap.size w w' := by
  have g1 := gg_fits_right (n := a) hd.2 hd.1
  have g2 := gg_fits_right (n := c) hb.2 hb.1
  have ⟨x5, y5⟩ := nat_wraps (g := gg a d) (by omega)
  have ⟨x6, y6⟩ := nat_wraps (g := gg c b) (by omega)
  have z1 := u64_wraps (d := d) (by omega)
  have z2 := u64_wraps (d := b) (by omega)
  have s1 := fun w => rsize_any a w ha
  have s2 := fun w => rsize_any c w hc
  have c1 : ∀ w, Calls Try.prog 32 #[.int .u64 (a.natAbs : Nat), .int .u64 d] w fun e w' => e = .returned (.int .u64 (gg a d : Nat)) ∧ w = w' := fun w => by
    have h := rcommon_any a.natAbs d.natAbs w (by omega) (by omega)
    rw [show ((d.natAbs : Nat) : Int) = d by omega] at h
    exact h
  have c2 : ∀ w, Calls Try.prog 32 #[.int .u64 (c.natAbs : Nat), .int .u64 b] w fun e w' => e = .returned (.int .u64 (gg c b : Nat)) ∧ w = w' := fun w => by
    have h := rcommon_any c.natAbs b.natAbs w (by omega) (by omega)
    rw [show ((b.natAbs : Nat) : Int) = b by omega] at h
    exact h
  have g3 := gg_pos_right (n := a) (d := d) (by omega)
  have g4 := gg_pos_right (n := c) (d := b) (by omega)
  obtain ⟨p, s, -, -, tp, ts, -, -, lp, ls, ss, -, -, sp, -⟩ := low_facts (n := a) (d := d) (by omega)
  obtain ⟨r, q, -, -, tr, tq, -, -, lr, lq, sq, -, -, sr, -⟩ := low_facts (n := c) (d := b) (by omega)
  generalize e1 : gg a d = g at *
  generalize e2 : gg c b = h at *
  have G1 : Hid (gg a d = g) := e1
  have G2 : Hid (gg c b = h) := e2
  clear e1 e2
  have pr : -9223372036854775808 ≤ p ∧ p ≤ 9223372036854775807 := by have : a < 0 ↔ p < 0 := sp; omega
  have rr : -9223372036854775808 ≤ r ∧ r ≤ 9223372036854775807 := by have : c < 0 ↔ r < 0 := sr; omega
  have sr' : -9223372036854775808 ≤ s ∧ s ≤ 9223372036854775807 := by omega
  have qr : -9223372036854775808 ≤ q ∧ q ≤ 9223372036854775807 := by omega
  clear lp ls ss lr lq sq sp sr
  have x1 : IntKind.i64.wrap p = p := by rw [IntKind.wrap_i64]; omega
  have x2 : IntKind.i64.wrap q = q := by rw [IntKind.wrap_i64]; omega
  have x3 : IntKind.i64.wrap r = r := by rw [IntKind.wrap_i64]; omega
  have x4 : IntKind.i64.wrap s = s := by rw [IntKind.wrap_i64]; omega
  have y1 : wrap64 p = p := by unfold wrap64; omega
  have y2 : wrap64 q = q := by unfold wrap64; omega
  have y3 : wrap64 r = r := by unfold wrap64; omega
  have y4 : wrap64 s = s := by unfold wrap64; omega
  have g5 : ¬ g = 0 := Nat.pos_iff_ne_zero.1 g3
  have h5 : ¬ h = 0 := Nat.pos_iff_ne_zero.1 g4
  have g0 : ¬ (g : Int) = 0 := fun e => g5 (Int.ofNat.inj e)
  have h0 : ¬ (h : Int) = 0 := fun e => h5 (Int.ofNat.inj e)
  have HN : Hid (twoN a b c d = p * r) := by show twoN a b c d = _; unfold twoN; rw [G1.out, G2.out, tp, tr]
  have HD : Hid (twoD a b c d = q * s) := by show twoD a b c d = _; unfold twoD; rw [G1.out, G2.out, tq, ts]
  have m1 : Hid (∀ w, Calls Try.prog 46 #[.int .i64 p, .int .i64 r] w (Told w (p * r))) := fun w => rmul_any p r w pr rr
  have m2 : Hid (∀ w, Calls Try.prog 46 #[.int .i64 q, .int .i64 s] w (Told w (q * s))) := fun w => rmul_any q s w qr sr'
  clear G1 G2 ha hb hc hd pr rr sr' qr g1 g2 g3 g4
  have HV : Hid (∃ W, W = ((w.alloc (.cells #[.int .i64 a, .int .i64 b] 23)).alloc (.cells #[.int .i64 c, .int .i64 d] 23)).alloc (.cells #[.int .i64 0, .int .i64 0] 23) ∧ Var2 W w.heap.size (.int .i64 a) (.int .i64 b) ∧ Var2 W (w.heap.size + 1) (.int .i64 c) (.int .i64 d) ∧ Var2 W (w.heap.size + 1 + 1) (.int .i64 0) (.int .i64 0) ∧ Below w.heap.size w W) := by
    refine ⟨_, rfl, ?_, ?_, ?_, ?_⟩
    · exact ((var2_new w _ _ _).alloc _).alloc _
    · exact (var2_at _ _ _ _ (by simp)).alloc _
    · exact var2_at _ _ _ _ (by simp)
    · exact (((Below.refl _ _).alloc (Nat.le_refl _) _).alloc (by simp) _).alloc (by simp; omega) _
  obtain ⟨W, eW, ka, kb, kr, kw⟩ := HV.out
  clear HV
  go_enter Try.func39, Try.ntmps39
  go_wp2
  rw [← eW]
  clear eW
  generalize a.natAbs = An at *
  generalize c.natAbs = Cn at *
  have a0 := ka.c0
  have a1 := ka.c1
  have b0 := kb.c0
  have b1 := kb.c1
  go_quiet (first
    | (go_at_call 33; (with_reducible refine (s1 _).mono ?_); rintro e w' ⟨rfl, rfl⟩; exact ⟨rfl, _, rfl⟩)
    | (go_at_call 32; (with_reducible refine (c1 _).mono ?_); rintro e w' ⟨rfl, rfl⟩; exact ⟨rfl, _, rfl⟩))
  have bq : Below W.heap.size W (W.drewN nq) := bdrew (Below.refl _ _) nq
  have ka' := ka.later bq ka.lt
  have kb' := kb.later bq kb.lt
  have kr' := kr.later bq kr.lt
  have kw' := kw.trans (bq.mono kw.size)
  clear ka kb kr kw bq a0 a1 b0 b1
  generalize W.drewN nq = W1 at *
  go_wp2
  have a0 := ka'.c0
  have a1 := ka'.c1
  have b0 := kb'.c0
  have b1 := kb'.c1
  go_quiet (first
    | (go_at_call 33; (with_reducible refine (s2 _).mono ?_); rintro e w' ⟨rfl, rfl⟩; exact ⟨rfl, _, rfl⟩)
    | (go_at_call 32; (with_reducible refine (c2 _).mono ?_); rintro e w' ⟨rfl, rfl⟩; exact ⟨rfl, _, rfl⟩))
  have bq : Below W1.heap.size W1 (W1.drewN nq) := bdrew (Below.refl _ _) nq
  have ka := ka'.later bq ka'.lt
  have kb := kb'.later bq kb'.lt
  have kr := kr'.later bq kr'.lt
  have kw := kw'.trans (bq.mono kw'.size)
  clear ka' kb' kr' kw' bq a0 a1 b0 b1 s1 s2 c1 c2
  generalize W1.drewN nq = W2 at *
  go_wp2
  have HNE : Hid (∀ X : World, Nonempty (Later X)) := fun X => ⟨⟨X, Below.refl _ _⟩⟩
  have hne := HNE.out W2
  have LA : ∀ x : Later W2, Var2 x.w w.heap.size (.int .i64 a) (.int .i64 b) := fun x => ka.later x.bel ka.lt
  have LB : ∀ x : Later W2, Var2 x.w (w.heap.size + 1) (.int .i64 c) (.int .i64 d) := fun x => kb.later x.bel kb.lt
  have a0 := fun x => (LA x).c0
  have b0 := fun x => (LB x).c0
  refine wp_region_later (by kernel_rfl) (by kernel_rfl) ?_
  repeat (go_big_quiet_step (first | (rename_i x; go_at_call 46; (with_reducible refine (m1.out _).mono ?_); rintro e w' ⟨rfl, hq⟩; exact ⟨rfl, ⟨w', x.bel.trans (hq.mono x.bel.size)⟩, rfl⟩)))
  refine wpQuiet_nil ?_
  rintro w1 ⟨x, rfl⟩
  have va := LA x
  have vb := LB x
  have vr := kr.later x.bel kr.lt
  have bw : Below w.heap.size w x.w := kw.trans (x.bel.mono kw.size)
  clear LA LB a0 b0 hne ka kb kr kw m1
  generalize x.w = W3 at *
  go_wp2
  have hne := HNE.out W3
  have LA : ∀ x : Later W3, Var2 x.w w.heap.size (.int .i64 a) (.int .i64 b) := fun x => va.later x.bel va.lt
  have LB : ∀ x : Later W3, Var2 x.w (w.heap.size + 1) (.int .i64 c) (.int .i64 d) := fun x => vb.later x.bel vb.lt
  have a1 := fun x => (LA x).c1
  have b1 := fun x => (LB x).c1
  refine wp_region_later (by kernel_rfl) (by kernel_rfl) ?_
  repeat (go_big_quiet_step (first | (rename_i x; go_at_call 46; (with_reducible refine (m2.out _).mono ?_); rintro e w' ⟨rfl, hq⟩; exact ⟨rfl, ⟨w', x.bel.trans (hq.mono x.bel.size)⟩, rfl⟩)))
  refine wpQuiet_nil ?_
  rintro w1 ⟨x, rfl⟩
  have vr' := vr.later x.bel vr.lt
  have bw' : Below w.heap.size w x.w := bw.trans (x.bel.mono bw.size)
  clear LA LB a1 b1 hne va vb vr bw m2
  generalize x.w = W4 at *
  have r0 := vr'.c0
  have r1 := vr'.c1
  have f0 := vr'.f0
  have f1 := vr'.f1
  have HT : Hid (twoB a b c d = (fitB (p * r) && fitB (q * s))) := by show _ = _; unfold twoB; rw [HN.out, HD.out]
  have HN2 : Hid (fitV (twoN a b c d) = fitV (p * r)) := by show _ = _; rw [HN.out]
  have HD2 : Hid (fitV (twoD a b c d) = fitV (q * s)) := by show _ = _; rw [HD.out]
  clear HN HD
  generalize fitB (p * r) = t1 at *
  generalize fitB (q * s) = t2 at *
  generalize fitV (p * r) = pp at *
  generalize fitV (q * s) = qq at *
  cases t1
  · go_wp2
    refine bodyPost_ret (v := .tuple #[.agg #[.int .i64 pp, .int .i64 qq], .bool false]) (by simp [results, Try.results39, go_sem, r0, r1]) rfl ⟨by rw [HN2.out, HD2.out, HT.out]; rfl, ?_⟩
    exact (bw'.setCell (by show _ ≤ _; simp; omega) _).setCell (by show _ ≤ _; simp; omega) _
  · go_wp2
    refine bodyPost_ret (v := .tuple #[.agg #[.int .i64 pp, .int .i64 qq], .bool t2]) (by simp [results, Try.results39, go_sem, r0, r1]) rfl ⟨by rw [HN2.out, HD2.out, HT.out]; rfl, ?_⟩
    exact (bw'.setCell (by show _ ≤ _; simp; omega) _).setCell (by show _ ≤ _; simp; omega) _
end Go.Proofs.Ytcklodmhlhjipaa

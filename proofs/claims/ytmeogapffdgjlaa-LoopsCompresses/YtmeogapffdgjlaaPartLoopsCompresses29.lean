/- Texts of one chain, laid one behind the other. -/
import Derived.Test.YtmeogapffdgjlaaPartLoopsCompresses28
import Derived.Test.YtmeogapffdgjlaaPartLoopsCompresses26
import Derived.Test.YtmeogapffdgjlaaPartLoopsCompresses11
import Derived.Test.YtmeogapffdgjlaaPartLoopsCompresses12
import Derived.Test.YtmeogapffdgjlaaPartLoopsCompresses25
import Derived.Test.YtmeogapffdgjlaaPartLoopsCompresses13
import Derived.Test.YtmeogapffdgjlaaPartLoopsCompresses23
import Derived.Test.YtmeogapffdgjlaaPartLoopsCompresses27
import Derived.Test.YtmeogapffdgjlaaPartLoopsCompresses24
import Derived.Test.YtmeogapffdgjlaaPartLoopsCompresses3
import Derived.Test.YtmeogapffdgjlaaPartLoopsCompresses22
import Derived.Test.YtmeogapffdgjlaaPartLoopsCompresses6
namespace Go.Proofs.Ytmeogapffdgjlaa
open Go.ChangeShapes Go.WideShapes Go.ChangeAt Go.RowKit
/-- One group more is the same. -/
theorem grp_step {w : Nat} (hw : 1 ≤ w) {r : List Lp} {m : Nat} (h1 : 1 ≤ m) (hm : m ≤ grpZ w r) (hl : (m + 1) * w ≤ r.length) (he : (r.drop (m * w)).take w = r.take w) : m + 1 ≤ grpZ w r := by
  rw [Nat.succ_mul] at hl
  have hg := grp_get hw hm (by omega)
  unfold grpZ
  rw [Nat.le_div_iff_mul_le (by omega)]
  unfold alkZ
  have hk : m * w ≤ cntG eqZ r (r.drop w) := by
    refine cntG_ge r (r.drop w) (m * w) (by rw [List.length_drop]; omega) (by omega) fun j x y hj hx hy => ?_
    rw [eqZ_iff]
    rw [List.getElem?_drop] at hy
    have hx' := hg j hj
    rw [hx] at hx'
    by_cases hjw : w + j < m * w
    · have hy' := hg (w + j) hjw
      rw [hy, Nat.add_mod_left] at hy'
      rw [← hx'] at hy'
      exact (Option.some.inj hy').symm
    · obtain ⟨k, hk⟩ : ∃ k, w + j = m * w + k := ⟨w + j - m * w, by omega⟩
      have hkw : k < w := by omega
      have e1 : j % w = k := by
        obtain ⟨m', rfl⟩ : ∃ m', m = m' + 1 := ⟨m - 1, by omega⟩
        rw [Nat.succ_mul] at hk
        rw [show j = m' * w + k by omega, Nat.mul_add_mod_self_right, Nat.mod_eq_of_lt hkw]
      rw [hk, ← List.getElem?_drop] at hy
      have e2 : ((r.drop (m * w)).take w)[k]? = some y := by rw [List.getElem?_take, if_pos hkw]; exact hy
      rw [he] at e2
      rw [e1, e2] at hx'
      exact Option.some.inj hx'
  rw [Nat.succ_mul]
  omega
/-- Where one more is not the same, or does not stand there, these are all. -/
theorem grp_stop {w : Nat} (hw : 1 ≤ w) {r : List Lp} {m : Nat} (h1 : 1 ≤ m) (hm : m ≤ grpZ w r) (h : r.length < (m + 1) * w ∨ (r.drop (m * w)).take w ≠ r.take w) : grpZ w r = m := by
  by_cases hlt : m + 1 ≤ grpZ w r
  · exfalso
    have h2 := grp_le (w := w) (l := r) (by omega)
    have h3 : (m + 1) * w ≤ grpZ w r * w := Nat.mul_le_mul_right _ hlt
    rcases h with h | h
    · omega
    · apply h
      have hg := grp_get hw hlt (by omega)
      apply List.ext_getElem?
      intro k
      by_cases hk : k < w
      · have e := hg (m * w + k) (by rw [Nat.succ_mul]; omega)
        rw [Nat.mul_add_mod_self_right, Nat.mod_eq_of_lt hk] at e
        rw [List.getElem?_take, if_pos hk, List.getElem?_drop, e]
      · rw [List.getElem?_take, List.getElem?_take, if_neg hk, if_neg hk]
  · omega
theorem NstR.dropQ {F : Nat → Prop} {w : World} : ∀ {l : List Lp} {b o : Nat} (_ : NstR F false w b o l) (k : Nat), NstR F false w b (o + k * 3) (l.drop k)
  | l, b, o, h, 0 => by simpa using h
  | [], b, o, _, k + 1 => by rw [List.drop_nil, nst_nil]; exact fun e => by cases e
  | x :: l, b, o, h, k + 1 => by
    have := NstR.dropQ (nst_cons.1 h).2.2.2.2 k
    rw [List.drop_succ_cons, show o + (k + 1) * 3 = o + 3 + k * 3 by omega]
    exact this
theorem NstR.takeQ {F : Nat → Prop} {w : World} : ∀ {l : List Lp} {b o : Nat} (_ : NstR F false w b o l) (k : Nat), NstR F false w b o (l.take k)
  | l, b, o, _, 0 => by rw [List.take_zero, nst_nil]; exact fun e => by cases e
  | [], b, o, h, k + 1 => h
  | x :: l, b, o, h, k + 1 => by
    obtain ⟨h1, h2, h3, h4, h5⟩ := nst_cons.1 h
    rw [List.take_succ_cons]
    exact nst_cons.2 ⟨h1, h2, h3, h4, NstR.takeQ h5 k⟩
theorem NstR.keepQ {F : Nat → Prop} {m : Bool} {w w' : World} {b o : Nat} {l : List Lp} (h : NstR F m w b o l) (hk : ∀ k, F k → w'.heap[k]? = w.heap[k]?) : NstR F m w' b o l := NstR.keep hk _ _ _ h
theorem siz_take (l : List Lp) (k : Nat) : sizZ (l.take k) ≤ sizZ l := by
  have := siz_app (l.take k) (l.drop k)
  rw [List.take_append_drop] at this
  omega
theorem siz_drop (l : List Lp) (k : Nat) : sizZ (l.drop k) ≤ sizZ l := by
  have := siz_app (l.take k) (l.drop k)
  rw [List.take_append_drop] at this
  omega
/-- How pass ends: a row of the call's own, whose bodies lie where the row's lay. -/
def PasE (wd : Nat) (l : List Lp) (w : World) (e : Ending) (w' : World) : Prop := ∃ (d : Option Addr) (c : Nat) (S : List Lv), e = .returned (.slice d (pasZ wd l).length c) ∧ CapZ w.heap.size w' d c S ∧ MchZ (· < w.heap.size) false w' S (pasZ wd l) ∧ Below w.heap.size w w'
set_option maxRecDepth 100000 in
set_option maxHeartbeats 16000000 in
theorem pass_any (wd : Nat) (l : List Lp) (a : Option Addr) (c : Nat) (w : World) (hN : Nst (· < w.heap.size) false w a l) (h1 : 1 ≤ wd) (h2 : wd ≤ 16) (hc : l.length ≤ c) (hs : sizZ l ≤ 1000000) :
    Calls Try.prog 47 #[.int .i64 (wd : Int), .slice a l.length c] w (PasE wd l w) := by
  obtain ⟨RE, hRE⟩ : ∃ Q : Ending → World → Prop, PasE wd l w = Q := ⟨_, rfl⟩
  rw [hRE]
  have HRE := hiddenN hRE
  have HN := hiddenN hN
  have HSZ := hiddenN hs
  obtain ⟨L, hL⟩ : ∃ L, l.length = L := ⟨_, rfl⟩
  have HLL := hiddenN hL
  have hLm : L ≤ 1000000 := by have := len_siz l; omega
  rw [hL] at hc ⊢
  clear hRE hN hL hs
  go_enter Try.func47, Try.ntmps47
  go_upto_region 3 with fail
  go_loopg [5, 6] (L + 1) (fun gk ov iv wr => ∃ (t : Nat) (out : List Lp) (S : List Lv) (d : Option Addr) (cc n : Nat), gk = L + 1 - t ∧ t ≤ L ∧ S.length = n ∧ ov = .slice d n cc ∧ iv = .int .i64 (t : Int) ∧ CapZ w.heap.size wr d cc S ∧ MchZ (· < w.heap.size) false wr S out ∧ out ++ pasZ wd (l.drop t) = pasZ wd l ∧ n ≤ t ∧ Below w.heap.size w wr)
  case atStart => exact ⟨0, [], [], none, 0, 0, rfl, Nat.zero_le _, rfl, rfl, rfl, CapZ.nil _ _, trivial, rfl, Nat.le_refl _, Below.refl _ _⟩
  case round =>
    obtain ⟨t, out, S, d, cc, n, hgk, htL, hsn, rfl, rfl, hC, hM, hout, hnt, hb⟩ := hrel
    have HC := hiddenN hC
    have HM := hiddenN hM
    have HO := hiddenN hout
    have HB := hiddenN hb
    have HGK := hiddenN hgk
    have HSN := hiddenN hsn
    have hw1 : w.heap.size ≤ wr.heap.size := hb.size
    clear hC hM hout hb hgk hsn
    by_cases hlt : t < L
    · have hki : (t : Int) < (L : Int) := by omega
      have htm : (t : Int) ≤ 1000000 := by omega
      rcases HN.out with h0 | ⟨b, o, rfl, hNR⟩
      · have := HLL.out; rw [h0] at this; simp at this; omega
      have HNR := hiddenN hNR
      clear hNR
      obtain ⟨x, hx⟩ : ∃ x, l[t]? = some x := ⟨_, List.getElem?_eq_getElem (by rw [HLL.out]; exact hlt)⟩
      have HDR : Hid (l.drop t = x :: l.drop (t + 1)) := by
        obtain ⟨e1, e2⟩ := List.getElem?_eq_some_iff.1 hx
        show _ = _
        rw [List.drop_eq_getElem_cons e1, e2]
      clear hx
      have htci : (t : Int) ≤ (c : Int) := by omega
      obtain ⟨wA, hwA⟩ : ∃ q : World, q = wr := ⟨_, rfl⟩
      subst hwA
      go_upto_region 5 with fail
      go_loopg [7] (L + 1) (fun gk mv wr => ∃ (m : Nat), gk = L + 2 - m ∧ mv = .int .i64 (m : Int) ∧ 1 ≤ m ∧ m ≤ L ∧ m ≤ grpZ wd (l.drop t) ∧ Below wA.heap.size wA wr)
      case atStart => exact ⟨1, by omega, rfl, Nat.le_refl _, by omega, grp_pos h1 _, Below.refl _ _⟩
      case round =>
        obtain ⟨m, hgm, rfl, hm1, hmL, hmg, hbv⟩ := hrel
        obtain ⟨V, hV⟩ : ∃ q : World, q = wr := ⟨_, rfl⟩
        subst hV
        have BV := hiddenN hbv
        have HMG := hiddenN hmg
        have HGM := hiddenN hgm
        clear hbv hmg hgm
        obtain ⟨p0, hp0⟩ : ∃ q, m * wd = q := ⟨_, rfl⟩
        have hp1 : (m + 1) * wd = p0 + wd := by rw [Nat.succ_mul, hp0]
        have hp0m : p0 ≤ 16000000 := by rw [← hp0]; exact Nat.le_trans (Nat.mul_le_mul hmL h2) (by omega)
        obtain ⟨q0, hq0⟩ : ∃ q, t + p0 = q := ⟨_, rfl⟩
        have k1 : IntKind.i64.wrap ((m : Int) + 1) = ((m + 1 : Nat) : Int) := by rw [IntKind.wrap_i64]; omega
        have k2 : IntKind.i64.wrap (((m + 1 : Nat) : Int) * (wd : Int)) = ((p0 + wd : Nat) : Int) := by rw [← Int.natCast_mul, hp1, IntKind.wrap_i64]; omega
        obtain ⟨m1, hm1e⟩ : ∃ q, m + 1 = q := ⟨_, rfl⟩
        obtain ⟨p1, hp1e⟩ : ∃ q, p0 + wd = q := ⟨_, rfl⟩
        rw [hm1e] at k1 k2
        rw [hp1e] at k2
        obtain ⟨q1, hq1⟩ : ∃ q, q0 + wd = q := ⟨_, rfl⟩
        have k3 : IntKind.i64.wrap ((t : Int) + (p1 : Int)) = (q1 : Int) := by rw [IntKind.wrap_i64]; omega
        by_cases hin : q1 ≤ L
        · have hinI : (q1 : Int) ≤ (L : Int) := by omega
          have hinD : decide ((q1 : Int) ≤ (L : Int)) = true := decide_eq_true hinI
          have hinc : (q1 : Int) ≤ (c : Int) := by omega
          obtain ⟨iw, hiw⟩ : ∃ q, t + wd = q := ⟨_, rfl⟩
          have k4 : IntKind.i64.wrap ((t : Int) + (wd : Int)) = (iw : Int) := by rw [IntKind.wrap_i64]; omega
          have k5 : IntKind.i64.wrap ((m : Int) * (wd : Int)) = (p0 : Int) := by rw [← Int.natCast_mul, hp0, IntKind.wrap_i64]; omega
          have k6 : IntKind.i64.wrap ((t : Int) + (p0 : Int)) = (q0 : Int) := by rw [IntKind.wrap_i64]; omega
          have htwL : (iw : Int) ≤ (c : Int) := by omega
          have ht0 : ¬ c = t := by omega
          have hq0c : ¬ c = q0 := by omega
          have hq0i : (q0 : Int) ≤ (c : Int) := by omega
          have HDT : Hid ((l.drop t).drop (m * wd) = l.drop q0) := by show _ = _; rw [List.drop_drop, hp0, hq0]
          have SM : Hid (∀ n, Calls Try.prog 19 #[.slice (some ⟨b, o + t * 3, none⟩) (iw - t) (c - t), .slice (some ⟨b, o + q0 * 3, none⟩) (q1 - q0) (c - q0)] (V.drewN n) fun e w' => e = .returned (.bool (samZ ((l.drop t).take wd) ((l.drop q0).take wd))) ∧ ∃ k, w' = (V.drewN n).drewN k) := fun n => by
            have bb := ((HB.out.trans (BV.out.mono hw1)).trans ((drewQ V n).mono (Nat.le_trans hw1 BV.out.size)))
            have nn := HNR.out.keepQ (w' := V.drewN n) fun k hk => bb.block k hk
            have := same_anyZ ((l.drop t).take wd) ((l.drop q0).take wd) _ _ false false (some ⟨b, o + t * 3, none⟩) (c - t) (some ⟨b, o + q0 * 3, none⟩) (c - q0) (V.drewN n) (.inr ⟨b, o + t * 3, rfl, (nn.dropQ t).takeQ wd⟩) (.inr ⟨b, o + q0 * 3, rfl, (nn.dropQ q0).takeQ wd⟩) (Nat.le_trans (siz_take _ _) (Nat.le_trans (siz_drop _ _) HSZ.out)) (Nat.le_trans (siz_take _ _) (Nat.le_trans (siz_drop _ _) HSZ.out))
            rw [List.length_take, List.length_take, List.length_drop, List.length_drop, HLL.out, show min wd (L - t) = iw - t by omega, show min wd (L - q0) = q1 - q0 by omega] at this
            exact this
          obtain ⟨sm, hsm⟩ : ∃ q, samZ ((l.drop t).take wd) ((l.drop q0).take wd) = q := ⟨_, rfl⟩
          rw [hsm] at SM
          have HSM := hiddenN hsm
          have HP1 := hiddenN hp1
          have HINN := hiddenN hin
          have HP1E := hiddenN hp1e
          have HQ0 := hiddenN hq0
          have HQ1 := hiddenN hq1
          have htiw : (t : Int) ≤ (iw : Int) := by omega
          have hq01 : (q0 : Int) ≤ (q1 : Int) := by omega
          have hM1 : m + 1 ≤ L := by have : m ≤ p0 := by rw [← hp0]; exact Nat.le_mul_of_pos_right _ (by omega)
                                     omega
          clear hsm hp0 hq0 hp1 hp1e hp0m hq1 hiw hin
          cases sm
          · have HSTOP : grpZ wd (l.drop t) = m := grp_stop h1 hm1 HMG.out (.inr (by rw [HDT.out]; intro e; have := (sam_iff _ _).2 e.symm; rw [HSM.out] at this; cases this))
            go_wp2
            go_quiet (first | (go_at_call 19; (with_reducible refine Calls.quiet_of (SM.out _))))
            have BV := hiddenN (BV.out.trans ((drewQ V nq).mono BV.out.size))
            clear SM hm1e k1 k2 k3 k4 k5 k6 hinI hinD hinc htwL ht0 hq0c hq0i htiw hq01 hM1 HDT HSM HP1 HINN HP1E HQ0 HQ1
            generalize V.drewN nq = V at *
            have HGP : Hid (grpZ wd (l.drop t) = m) := HSTOP
            clear HSTOP
            have SL3 := hiddenN (HC.out.later BV.out)
            have M3 := hiddenN (HM.out.keep fun k hk => BV.out.block k (Nat.lt_of_lt_of_le hk hw1))
            have B3 := hiddenN (HB.out.trans (BV.out.mono hw1))
            have N3 := hiddenN (HNR.out.keep (fun k hk => B3.out.block k hk))
            clear BV HC HM
            by_cases hm1 : m = 1
            · subst hm1
              obtain ⟨q0, q1, a1, c1, q2, q3⟩ := (by have := N3.out.dropQ t; rw [HDR.out] at this; exact this : NstR (· < w.heap.size) false V b (o + t * 3) (x :: l.drop (t + 1))).hd
              obtain ⟨tx, htx⟩ : ∃ q, x.times = q := ⟨_, rfl⟩
              obtain ⟨nx, hnx⟩ : ∃ q, x.node = q := ⟨_, rfl⟩
              obtain ⟨L1, hL1⟩ : ∃ q, x.body.length = q := ⟨_, rfl⟩
              rw [htx] at q0
              rw [hnx] at q1
              rw [hL1] at q2
              have bA := (Below.refl V.heap.size V).alloc (Nat.le_refl _) (.cells #[.int .i64 tx, .int .i64 nx, .slice a1 L1 c1] 57)
              have XA := hiddenN (blkA_new 57 V #[.int .i64 tx, .int .i64 nx, .slice a1 L1 c1])
              have u0 := XA.out.cell (k := 0) rfl
              have u1 := XA.out.cell (k := 1) rfl
              have u2 := XA.out.cell (k := 2) rfl
              simp only [List.getElem_toArray, List.getElem_cons_zero, List.getElem_cons_succ] at u0 u1 u2
              have SA := hiddenN (SL3.out.later bA)
              have MA := hiddenN ((M3.out.snoc (s := ⟨tx, nx, a1, L1, c1⟩) (x := x) ⟨htx.symm, hnx.symm, hL1.symm, q3.imp id fun ⟨b', o', e1, e2⟩ => ⟨b', o', e1, (fun e => by cases e), e2⟩⟩).keep fun k hk => bA.block k (Nat.lt_of_lt_of_le hk B3.out.size))
              have BA := hiddenN (B3.out.trans (bA.mono B3.out.size))
              have hBA : w.heap.size ≤ (V.alloc (.cells #[.int .i64 tx, .int .i64 nx, .slice a1 L1 c1] 57)).heap.size := BA.out.size
              have HO2 : Hid ((out ++ [x]) ++ pasZ wd (l.drop (t + 1)) = pasZ wd l) := by
                show _ = _
                rw [← HO.out, HDR.out, pas_cons h1, if_pos (by rw [← HDR.out, HGP.out]; decide)]
                simp
              clear bA htx hnx hL1 q3 SL3 M3 B3 N3
              go_upto_region 9 with (at_builtin; refine wpList_appZ rfl _ _ rfl w.heap.size d cc S n HSN.out rfl SA.out V.heap.size ⟨tx, nx, a1, L1, c1⟩ rfl u0 u1 u2 (by omega) hBA ?_; intro d2 c2 W9 hg2; have HG := hiddenN hg2; clear hg2)
              have BW := hiddenN (HG.out.below (fun y hy => (SA.out.lt y hy).1) hBA)
              have MW := hiddenN (MA.out.keep fun k hk => BW.out.block k hk)
              have B9 := hiddenN (BA.out.trans BW.out)
              clear u0 u1 u2 q0 q1 q2 SA MA BA BW
              go_wp2
              go_roundg (L + 1 - (t + 1))
              case measure => have := HGK.out; omega
              case rel => exact ⟨t + 1, out ++ [x], S ++ [⟨tx, nx, a1, L1, c1⟩], d2, c2, n + 1, rfl, by omega, by rw [List.length_append, HSN.out]; rfl, rfl, by go_num, HG.out.own, MW.out, HO2.out, by omega, B9.out⟩
            · have hg2 : ¬ (m < 2) := by omega
              have hmb : ((m : Int) == 1) = false := by simp; omega
              have hgl : m * wd ≤ L - t := by
                have := grp_le (w := wd) (l := l.drop t) (by rw [HGP.out]; omega)
                rw [HGP.out, List.length_drop, HLL.out] at this
                exact this
              have hg2w : 2 * wd ≤ m * wd := Nat.mul_le_mul_right _ (by omega)
              obtain ⟨gw, hgw⟩ : ∃ gw, m * wd = gw := ⟨_, rfl⟩
              rw [hgw] at hgl hg2w
              have hgwI : IntKind.i64.wrap ((m : Int) * (wd : Int)) = (gw : Int) := by rw [← Int.natCast_mul, hgw, IntKind.wrap_i64]; omega
              have htgI : IntKind.i64.wrap ((t : Int) + (gw : Int)) = ((t + gw : Nat) : Int) := by rw [IntKind.wrap_i64]; omega
              have htwI : IntKind.i64.wrap ((t : Int) + (wd : Int)) = ((t + wd : Nat) : Int) := by rw [IntKind.wrap_i64]; omega
              have htwL : ((t + wd : Nat) : Int) ≤ (c : Int) := by omega
              have HGW := hiddenN hgw
              clear hgw
              have bA := (Below.refl V.heap.size V).alloc (Nat.le_refl _) (.cells #[.int .i64 (m : Int), .int .i64 0, .slice (some ⟨b, o + t * 3, none⟩) wd (c - t)] 57)
              have XA := hiddenN (blkA_new 57 V #[.int .i64 (m : Int), .int .i64 0, .slice (some ⟨b, o + t * 3, none⟩) wd (c - t)])
              have u0 := XA.out.cell (k := 0) rfl
              have u1 := XA.out.cell (k := 1) rfl
              have u2 := XA.out.cell (k := 2) rfl
              simp only [List.getElem_toArray, List.getElem_cons_zero, List.getElem_cons_succ] at u0 u1 u2
              have SA := hiddenN (SL3.out.later bA)
              have MA := hiddenN ((M3.out.snoc (s := ⟨(m : Int), 0, some ⟨b, o + t * 3, none⟩, wd, c - t⟩) (x := ⟨(m : Int), 0, (l.drop t).take wd⟩) ⟨rfl, rfl, by show wd = ((l.drop t).take wd).length; rw [List.length_take, List.length_drop, HLL.out]; omega, .inr ⟨b, o + t * 3, rfl, (fun e => by cases e), (N3.out.dropQ t).takeQ wd⟩⟩).keep fun k hk => bA.block k (Nat.lt_of_lt_of_le hk B3.out.size))
              have BA := hiddenN (B3.out.trans (bA.mono B3.out.size))
              have hBA : w.heap.size ≤ (V.alloc (.cells #[.int .i64 (m : Int), .int .i64 0, .slice (some ⟨b, o + t * 3, none⟩) wd (c - t)] 57)).heap.size := BA.out.size
              have HO2 : Hid ((out ++ [⟨(m : Int), 0, (l.drop t).take wd⟩]) ++ pasZ wd (l.drop (t + gw)) = pasZ wd l) := by
                show _ = _
                have e := pas_cons h1 x (l.drop (t + 1))
                rw [← HDR.out, HGP.out, if_neg hg2, HGW.out, List.drop_drop] at e
                rw [← HO.out, e]
                simp
              clear bA SL3 M3 B3 N3
              go_upto_region 11 with (at_builtin; refine wpList_appZ rfl _ _ rfl w.heap.size d cc S n HSN.out rfl SA.out V.heap.size ⟨(m : Int), 0, some ⟨b, o + t * 3, none⟩, wd, c - t⟩ rfl u0 u1 u2 (by omega) hBA ?_; intro d2 c2 W9 hg2; have HG := hiddenN hg2; clear hg2)
              have BW := hiddenN (HG.out.below (fun y hy => (SA.out.lt y hy).1) hBA)
              have MW := hiddenN (MA.out.keep fun k hk => BW.out.block k hk)
              have B9 := hiddenN (BA.out.trans BW.out)
              clear u0 u1 u2 SA MA BA BW
              go_wp2
              go_roundg (L + 1 - (t + gw))
              case measure => have := HGK.out; omega
              case rel => exact ⟨t + gw, out ++ [⟨(m : Int), 0, (l.drop t).take wd⟩], S ++ [⟨(m : Int), 0, some ⟨b, o + t * 3, none⟩, wd, c - t⟩], d2, c2, n + 1, rfl, by omega, by rw [List.length_append, HSN.out]; rfl, rfl, by go_num, HG.out.own, MW.out, HO2.out, by omega, B9.out⟩
          · have HSTEP : Hid (m + 1 ≤ grpZ wd (l.drop t)) := grp_step h1 hm1 HMG.out (by rw [List.length_drop, HLL.out, HP1.out]; have := HP1E.out; have := HQ0.out; have := HQ1.out; have := HINN.out; omega) (by rw [HDT.out]; exact ((sam_iff _ _).1 HSM.out).symm)
            go_wp2
            go_quiet (first | (go_at_call 19; (with_reducible refine Calls.quiet_of (SM.out _))))
            have BV9 := hiddenN (BV.out.trans ((drewQ V nq).mono BV.out.size))
            clear SM
            go_wp2
            go_roundg (L + 2 - (m + 1))
            case measure => have := HGM.out; omega
            case rel => exact ⟨m + 1, rfl, by first | rfl | go_num, by omega, hM1, HSTEP.out, BV9.out⟩
        · have hinI : ¬ ((q1 : Int) ≤ (L : Int)) := by omega
          have hinD : decide ((q1 : Int) ≤ (L : Int)) = false := decide_eq_false hinI
          have hinN : decide (q1 ≤ L) = false := decide_eq_false hin
          have HSTOP : grpZ wd (l.drop t) = m := grp_stop h1 hm1 HMG.out (.inl (by rw [List.length_drop, HLL.out, hp1, hp1e]; omega))
          clear hp0 hq0 hp1 hp1e hp0m
          go_wp2
          go_quiet (fail)
          have BV := hiddenN (BV.out.trans ((drewQ V nq).mono BV.out.size))
          clear hm1e k1 k2 k3 hinI hinD hinN hin hq1
          generalize V.drewN nq = V at *
          have HGP : Hid (grpZ wd (l.drop t) = m) := HSTOP
          clear HSTOP
          have SL3 := hiddenN (HC.out.later BV.out)
          have M3 := hiddenN (HM.out.keep fun k hk => BV.out.block k (Nat.lt_of_lt_of_le hk hw1))
          have B3 := hiddenN (HB.out.trans (BV.out.mono hw1))
          have N3 := hiddenN (HNR.out.keep (fun k hk => B3.out.block k hk))
          clear BV HC HM
          by_cases hm1 : m = 1
          · subst hm1
            obtain ⟨q0, q1, a1, c1, q2, q3⟩ := (by have := N3.out.dropQ t; rw [HDR.out] at this; exact this : NstR (· < w.heap.size) false V b (o + t * 3) (x :: l.drop (t + 1))).hd
            obtain ⟨tx, htx⟩ : ∃ q, x.times = q := ⟨_, rfl⟩
            obtain ⟨nx, hnx⟩ : ∃ q, x.node = q := ⟨_, rfl⟩
            obtain ⟨L1, hL1⟩ : ∃ q, x.body.length = q := ⟨_, rfl⟩
            rw [htx] at q0
            rw [hnx] at q1
            rw [hL1] at q2
            have bA := (Below.refl V.heap.size V).alloc (Nat.le_refl _) (.cells #[.int .i64 tx, .int .i64 nx, .slice a1 L1 c1] 57)
            have XA := hiddenN (blkA_new 57 V #[.int .i64 tx, .int .i64 nx, .slice a1 L1 c1])
            have u0 := XA.out.cell (k := 0) rfl
            have u1 := XA.out.cell (k := 1) rfl
            have u2 := XA.out.cell (k := 2) rfl
            simp only [List.getElem_toArray, List.getElem_cons_zero, List.getElem_cons_succ] at u0 u1 u2
            have SA := hiddenN (SL3.out.later bA)
            have MA := hiddenN ((M3.out.snoc (s := ⟨tx, nx, a1, L1, c1⟩) (x := x) ⟨htx.symm, hnx.symm, hL1.symm, q3.imp id fun ⟨b', o', e1, e2⟩ => ⟨b', o', e1, (fun e => by cases e), e2⟩⟩).keep fun k hk => bA.block k (Nat.lt_of_lt_of_le hk B3.out.size))
            have BA := hiddenN (B3.out.trans (bA.mono B3.out.size))
            have hBA : w.heap.size ≤ (V.alloc (.cells #[.int .i64 tx, .int .i64 nx, .slice a1 L1 c1] 57)).heap.size := BA.out.size
            have HO2 : Hid ((out ++ [x]) ++ pasZ wd (l.drop (t + 1)) = pasZ wd l) := by
              show _ = _
              rw [← HO.out, HDR.out, pas_cons h1, if_pos (by rw [← HDR.out, HGP.out]; decide)]
              simp
            clear bA htx hnx hL1 q3 SL3 M3 B3 N3
            go_upto_region 9 with (at_builtin; refine wpList_appZ rfl _ _ rfl w.heap.size d cc S n HSN.out rfl SA.out V.heap.size ⟨tx, nx, a1, L1, c1⟩ rfl u0 u1 u2 (by omega) hBA ?_; intro d2 c2 W9 hg2; have HG := hiddenN hg2; clear hg2)
            have BW := hiddenN (HG.out.below (fun y hy => (SA.out.lt y hy).1) hBA)
            have MW := hiddenN (MA.out.keep fun k hk => BW.out.block k hk)
            have B9 := hiddenN (BA.out.trans BW.out)
            clear u0 u1 u2 q0 q1 q2 SA MA BA BW
            go_wp2
            go_roundg (L + 1 - (t + 1))
            case measure => have := HGK.out; omega
            case rel => exact ⟨t + 1, out ++ [x], S ++ [⟨tx, nx, a1, L1, c1⟩], d2, c2, n + 1, rfl, by omega, by rw [List.length_append, HSN.out]; rfl, rfl, by go_num, HG.out.own, MW.out, HO2.out, by omega, B9.out⟩
          · have hg2 : ¬ (m < 2) := by omega
            have hmb : ((m : Int) == 1) = false := by simp; omega
            have hgl : m * wd ≤ L - t := by
              have := grp_le (w := wd) (l := l.drop t) (by rw [HGP.out]; omega)
              rw [HGP.out, List.length_drop, HLL.out] at this
              exact this
            have hg2w : 2 * wd ≤ m * wd := Nat.mul_le_mul_right _ (by omega)
            obtain ⟨gw, hgw⟩ : ∃ gw, m * wd = gw := ⟨_, rfl⟩
            rw [hgw] at hgl hg2w
            have hgwI : IntKind.i64.wrap ((m : Int) * (wd : Int)) = (gw : Int) := by rw [← Int.natCast_mul, hgw, IntKind.wrap_i64]; omega
            have htgI : IntKind.i64.wrap ((t : Int) + (gw : Int)) = ((t + gw : Nat) : Int) := by rw [IntKind.wrap_i64]; omega
            have htwI : IntKind.i64.wrap ((t : Int) + (wd : Int)) = ((t + wd : Nat) : Int) := by rw [IntKind.wrap_i64]; omega
            have htwL : ((t + wd : Nat) : Int) ≤ (c : Int) := by omega
            have HGW := hiddenN hgw
            clear hgw
            have bA := (Below.refl V.heap.size V).alloc (Nat.le_refl _) (.cells #[.int .i64 (m : Int), .int .i64 0, .slice (some ⟨b, o + t * 3, none⟩) wd (c - t)] 57)
            have XA := hiddenN (blkA_new 57 V #[.int .i64 (m : Int), .int .i64 0, .slice (some ⟨b, o + t * 3, none⟩) wd (c - t)])
            have u0 := XA.out.cell (k := 0) rfl
            have u1 := XA.out.cell (k := 1) rfl
            have u2 := XA.out.cell (k := 2) rfl
            simp only [List.getElem_toArray, List.getElem_cons_zero, List.getElem_cons_succ] at u0 u1 u2
            have SA := hiddenN (SL3.out.later bA)
            have MA := hiddenN ((M3.out.snoc (s := ⟨(m : Int), 0, some ⟨b, o + t * 3, none⟩, wd, c - t⟩) (x := ⟨(m : Int), 0, (l.drop t).take wd⟩) ⟨rfl, rfl, by show wd = ((l.drop t).take wd).length; rw [List.length_take, List.length_drop, HLL.out]; omega, .inr ⟨b, o + t * 3, rfl, (fun e => by cases e), (N3.out.dropQ t).takeQ wd⟩⟩).keep fun k hk => bA.block k (Nat.lt_of_lt_of_le hk B3.out.size))
            have BA := hiddenN (B3.out.trans (bA.mono B3.out.size))
            have hBA : w.heap.size ≤ (V.alloc (.cells #[.int .i64 (m : Int), .int .i64 0, .slice (some ⟨b, o + t * 3, none⟩) wd (c - t)] 57)).heap.size := BA.out.size
            have HO2 : Hid ((out ++ [⟨(m : Int), 0, (l.drop t).take wd⟩]) ++ pasZ wd (l.drop (t + gw)) = pasZ wd l) := by
              show _ = _
              have e := pas_cons h1 x (l.drop (t + 1))
              rw [← HDR.out, HGP.out, if_neg hg2, HGW.out, List.drop_drop] at e
              rw [← HO.out, e]
              simp
            clear bA SL3 M3 B3 N3
            go_upto_region 11 with (at_builtin; refine wpList_appZ rfl _ _ rfl w.heap.size d cc S n HSN.out rfl SA.out V.heap.size ⟨(m : Int), 0, some ⟨b, o + t * 3, none⟩, wd, c - t⟩ rfl u0 u1 u2 (by omega) hBA ?_; intro d2 c2 W9 hg2; have HG := hiddenN hg2; clear hg2)
            have BW := hiddenN (HG.out.below (fun y hy => (SA.out.lt y hy).1) hBA)
            have MW := hiddenN (MA.out.keep fun k hk => BW.out.block k hk)
            have B9 := hiddenN (BA.out.trans BW.out)
            clear u0 u1 u2 SA MA BA BW
            go_wp2
            go_roundg (L + 1 - (t + gw))
            case measure => have := HGK.out; omega
            case rel => exact ⟨t + gw, out ++ [⟨(m : Int), 0, (l.drop t).take wd⟩], S ++ [⟨(m : Int), 0, some ⟨b, o + t * 3, none⟩, wd, c - t⟩], d2, c2, n + 1, rfl, by omega, by rw [List.length_append, HSN.out]; rfl, rfl, by go_num, HG.out.own, MW.out, HO2.out, by omega, B9.out⟩
    · have hki : ¬ ((t : Int) < (L : Int)) := by omega
      go_wp2
      rw [← HRE.out]
      have e1 : pasZ wd l = out := by rw [← HO.out, List.drop_eq_nil_of_le (by rw [HLL.out]; omega), pas_nil, List.append_nil]
      exact ⟨d, cc, S, by rw [e1, ← HM.out.len, HSN.out], HC.out, by rw [e1]; exact HM.out, HB.out⟩
section
variable {H : Type} {enc : TypeId × Value → H} {W : World} {base : Nat} {held : Bool}
end
theorem nst_cap {B : Nat} {F G : Nat → Prop} {w : World} {d : Option Addr} {c : Nat} {S : List Lv} {l : List Lp} (h1 : CapZ B w d c S) (h2 : MchZ F false w S l) (hF : ∀ k, F k → G k) (hG : ∀ k, k < w.heap.size → G k) : Nst G false w d l := by
  by_cases hl : l = []
  · exact .inl hl
  · obtain ⟨g, rfl⟩ := h1.there (by intro e; rw [e] at h2; have := h2.len; exact hl (List.eq_nil_of_length_eq_zero this.symm))
    refine .inr ⟨g, 0, rfl, nst_of_row (S := S) (hG _ (h1.lt _ rfl).2) (h2.mono hF) (fun k hk j hj => ?_) (fun e => by cases e)⟩
    rw [Nat.zero_add]
    exact h1.cell hk hj
/-- A loop in a box of its own; a row of loops. -/
def ElL (tx nx : Int) (w : World) (v : Value) : Prop := ∃ g, v = .slice (some ⟨g, 0, none⟩) 1 1 ∧ w.cell? ⟨g, 0, none⟩ = some (.int .i64 tx) ∧ w.cell? ⟨g, 1, none⟩ = some (.int .i64 nx) ∧ w.cell? ⟨g, 2, none⟩ = some (.slice none 0 0)
theorem ElL.later {tx nx : Int} {w w' : World} {v : Value} (h : ElL tx nx w v) (hb : Below w.heap.size w w') : ElL tx nx w' v := by
  obtain ⟨g, e, h0, h1, h2⟩ := h
  exact ⟨g, e, cellN_later hb h0, cellN_later hb h1, cellN_later hb h2⟩
def SlL (B n : Nat) (S : List Lv) (w : World) (v : Value) : Prop := ∃ d c, v = .slice d n c ∧ CapZ B w d c S
theorem SlL.later {B n : Nat} {S : List Lv} {w w' : World} {v : Value} (h : SlL B n S w v) (hb : Below w.heap.size w w') : SlL B n S w' v := by
  obtain ⟨d, c, e, h⟩ := h
  exact ⟨d, c, e, h.later hb⟩
theorem lvf_bad : ∀ (R : List (Int × Int)) (lv : Nat), lv + R.length ≤ 2048 → (∀ p ∈ R, 1 ≤ p.2) → (∃ p ∈ R, ¬ (0 ≤ p.1 ∧ p.1 < 32)) → errZ 0 lv (lvfZ R) = 100
  | [], lv, _, _, h => by obtain ⟨p, h, _⟩ := h; cases h
  | p :: R, lv, hl, h, hb => by
    rw [List.length_cons] at hl
    have h1 := h p (List.mem_cons_self ..)
    rw [lvf_cons, errZ]
    by_cases hp : 0 ≤ p.1 ∧ p.1 < 32
    · have hf : flwZ 0 lv p.2 p.1 true = 0 := by
        unfold flwZ
        rw [if_neg (by omega), if_neg (by simp), if_neg (by omega), if_neg (by simp), if_neg (by simp; omega)]
      simp only [List.isEmpty_nil, if_true, hf, ne_eq, not_true_eq_false, if_false]
      refine lvf_bad R (lv + 1) (by omega) (fun q hq => h q (List.mem_cons_of_mem _ hq)) ?_
      obtain ⟨q, hq, hq2⟩ := hb
      rcases List.mem_cons.1 hq with rfl | hq
      · exact absurd hp hq2
      · exact ⟨q, hq, hq2⟩
    · have hf : flwZ 0 lv p.2 p.1 true = 100 := by
        unfold flwZ
        rw [if_neg (by omega), if_neg (by simp), if_neg (by omega), if_neg (by simp), if_pos ⟨rfl, hp⟩]
      simp [List.isEmpty_nil, hf]
theorem cmp_node {zs : List Int} (hl : zs.length ≤ 2048) (h : godI zs = false) : cmpE zs = 100 := by
  unfold cmpE
  rw [if_neg (by omega)]
  have hp := (runs_is zs).pos
  have hf := (runs_is zs).flat
  have e : errZ 0 0 (lvfZ (runsY zs)) = 100 := by
    refine lvf_bad _ 0 (by have := runs_few zs; omega) (fun p hq => hp p hq) ?_
    by_cases hx : ∃ p ∈ runsY zs, ¬ (0 ≤ p.1 ∧ p.1 < 32)
    · exact hx
    · exfalso
      have : godI zs = true := (god_iff zs).2 fun x hx2 => by
        rw [← hf, List.mem_flatMap] at hx2
        obtain ⟨p, hp1, hp2⟩ := hx2
        have e := (List.mem_replicate.1 hp2).2
        have : 0 ≤ p.1 ∧ p.1 < 32 := Decidable.byContradiction fun q => hx ⟨p, hp1, q⟩
        rw [e]
        omega
      rw [h] at this
      cases this
  unfold chkZ
  rw [e]
  rfl
/-- How the document's Compress ends. -/
def RCoE (zs : List Int) (w : World) (e : Ending) (w' : World) : Prop := ∃ d c, e = .returned (.tuple #[.slice d (cmpV zs).length c, .int .i64 (cmpE zs : Int)]) ∧ Nst (· < w'.heap.size) false w' d (cmpV zs) ∧ Below w.heap.size w w'
set_option maxRecDepth 100000 in
set_option maxHeartbeats 16000000 in
theorem rcompress_any (zs : List Int) (a : Option Addr) (c : Nat) (w : World) (hA : At w a zs) (hlz : zs.length ≤ 140737488351232) : Calls Try.prog 23 #[.slice a zs.length c] w (RCoE zs w) := by
  have HA := hiddenN hA
  obtain ⟨RE, hRE⟩ : ∃ Q : Ending → World → Prop, RCoE zs w = Q := ⟨_, rfl⟩
  rw [hRE]
  have HRE := hiddenN hRE
  obtain ⟨L, hL⟩ : ∃ q, zs.length = q := ⟨_, rfl⟩
  have HL := hiddenN hL
  rw [hL] at hlz ⊢
  clear hRE hL hA
  by_cases hlong : 2048 < L
  · have hli : (2048 : Int) < (L : Int) := by omega
    have HE : Hid (cmpE zs = 2) := by show _ = _; unfold cmpE; rw [HL.out, if_pos hlong]
    have HV : Hid (cmpV zs = []) := by show _ = _; unfold cmpV; rw [HE.out]; rfl
    go_enter Try.func23, Try.ntmps23
    go_wp2
    rw [← HRE.out]
    exact ⟨none, 0, by rw [HE.out, HV.out]; rfl, by rw [HV.out]; exact .inl rfl, Below.refl _ _⟩
  have hli : ¬ ((2048 : Int) < (L : Int)) := by omega
  have hLm : L ≤ 2048 := by omega
  go_enter Try.func23, Try.ntmps23
  go_upto_region 4 with fail
  go_loopg [4] (L + 1) (fun gk iv wr => ∃ (k : Nat), k ≤ L ∧ gk = L + 1 - k ∧ iv = .int .i64 (k : Int) ∧ godI zs = godI (zs.drop k) ∧ w = wr)
  case atStart => exact ⟨0, Nat.zero_le _, rfl, rfl, rfl, rfl⟩
  case round =>
    obtain ⟨k, hk, hgk, rfl, hg, hwr⟩ := hrel
    subst hwr
    have HGD := hiddenN hg
    have HGK := hiddenN hgk
    clear hg hgk
    by_cases hlt : k < L
    · have hki : (k : Int) < (L : Int) := by omega
      rcases HA.out with h0 | ⟨b, o, rfl, hc⟩
      · have := HL.out; rw [h0] at this; simp at this; omega
      have c1 := hc k (by rw [HL.out]; exact hlt)
      have HDR : Hid (godI (zs.drop k) = (decide (0 ≤ nth zs k) && decide (nth zs k ≤ 31) && godI (zs.drop (k + 1)))) := by
        have h1 : k < zs.length := by rw [HL.out]; exact hlt
        show _ = _
        rw [List.drop_eq_getElem_cons h1]
        have : nth zs k = zs[k] := by unfold nth; rw [List.getD_eq_getElem?_getD, List.getElem?_eq_getElem h1]; rfl
        rw [this]
        rfl
      clear hc
      generalize nth zs k = x at *
      by_cases hx : x < 0 ∨ 32 ≤ x
      · have HF : Hid (godI zs = false) := by
          show _ = _
          rw [HGD.out, HDR.out]
          rcases hx with hx | hx
          · rw [decide_eq_false (by omega)]; rfl
          · rw [decide_eq_false (by omega : ¬ x ≤ 31), Bool.and_false]; rfl
        have HE := hiddenN (cmp_node (by rw [HL.out]; exact hLm) HF.out)
        have HV : Hid (cmpV zs = []) := by show _ = _; unfold cmpV; rw [HE.out]; rfl
        have HEND : Hid (RCoE zs w (.returned (.tuple #[.slice none 0 0, .int .i64 100])) w) := ⟨none, 0, by rw [HE.out, HV.out]; rfl, by rw [HV.out]; exact .inl rfl, Below.refl _ _⟩
        by_cases hx1 : x < 0
        · clear hx
          go_wp2
          rw [← HRE.out]
          exact HEND.out
        · have hx2 : 32 ≤ x := by omega
          clear hx
          go_wp2
          rw [← HRE.out]
          exact HEND.out
      · have hx1 : ¬ x < 0 := by omega
        have hx2 : ¬ 32 ≤ x := by omega
        have HF : Hid (godI zs = godI (zs.drop (k + 1))) := by show _ = _; rw [HGD.out, HDR.out, decide_eq_true (by omega), decide_eq_true (by omega)]; rfl
        clear hx
        go_wp2
        go_roundg (L + 1 - (k + 1))
        case measure => have := HGK.out; omega
        case rel => exact ⟨k + 1, by omega, rfl, by go_num, HF.out, rfl⟩
    · have hki : ¬ ((k : Int) < (L : Int)) := by omega
      have HF : Hid (godI zs = true) := by show _ = _; rw [HGD.out, List.drop_eq_nil_of_le (by rw [HL.out]; omega)]; rfl
      have HCE := hiddenN (cmp_e HF.out (by rw [HL.out]; exact hLm))
      have HCV := hiddenN (cmp_v HF.out (by rw [HL.out]; exact hLm))
      have HRF := hiddenN (runs_few zs)
      have RU := hiddenN (rrunsY_any a zs c w HA.out (by rw [HL.out]; omega))
      rw [HL.out] at RU HRF
      unfold RunE at RU
      obtain ⟨R, hR⟩ : ∃ q, runsY zs = q := ⟨_, rfl⟩
      rw [hR] at RU HRF HCV
      obtain ⟨N, hN⟩ : ∃ q, R.length = q := ⟨_, rfl⟩
      have HN := hiddenN hN
      rw [hN] at RU HRF
      have hNm : N ≤ 2048 := by have := HRF.out; omega
      clear hR hN HRF
      go_upto_region 11 with (go_at_call 50; (with_reducible refine RU.out.mono ?_); rintro e w1 ⟨d1, pc, rfl, hc1, hb1⟩; have B1 := hiddenN hb1; have A1 := hiddenN hc1.at; clear hb1 hc1)
      clear RU
      obtain ⟨B, hB⟩ : ∃ q, w1.heap.size = q := ⟨_, rfl⟩
      have HBE := hiddenN hB
      have hBw : B ≤ w1.heap.size := by omega
      clear hB
      have HB0 : Hid (Below B w1 w1) := Below.refl _ _
      go_loopg [6, 7] N (fun gk rv iv wr => ∃ (pre rest : List (Int × Int)) (k cc : Nat) (dd : Option Addr), R = pre ++ rest ∧ pre.length = k ∧ gk = rest.length ∧ rv = .slice dd k cc ∧ iv = .int .i64 (k : Int) ∧ CapZ B wr dd cc (lvfS pre) ∧ Below B w1 wr)
      case atStart => exact ⟨[], R, 0, 0, none, rfl, rfl, HN.out.symm, rfl, rfl, CapZ.nil _ _, HB0.out⟩
      case round =>
        clear HB0
        obtain ⟨pre, rest, k, cc, dd, hl, hk, hgk, rfl, rfl, hC, hb⟩ := hrel
        subst hgk
        have HB := hiddenN hb
        have HC := hiddenN hC
        have HL2 := hiddenN hl
        have HPK := hiddenN hk
        have HLK : Hid (N = k + rest.length) := by show _ = _; rw [← HN.out, hl, List.length_append, hk]
        have hBr : B ≤ wr.heap.size := Nat.le_trans hBw hb.size
        have HSK : Hid ((lvfS pre).length = k) := (List.length_map ..).trans hk
        clear hl hk hb hC
        cases rest with
        | nil =>
          have hki : ¬ ((k : Int) < (N : Int)) := by rw [HLK.out]; simp
          have e1 : pre = R := by rw [HL2.out, List.append_nil]
          have hNk : k = N := by rw [HLK.out]; rfl
          rw [e1] at HC
          have HLV := hiddenN (lvf_siz R)
          have HLE := hiddenN (lvf_len R)
          rw [HN.out] at HLV HLE
          have N0 : Hid (Nst (· < wr.heap.size) false wr dd (lvfZ R)) := nst_cap (F := fun _ => False) HC.out (mch_lvf R) (fun _ h => h.elim) (fun _ h => h)
          have hk0 : k ≤ cc := by have := HC.out.room; rw [← e1, HSK.out] at this; exact this
          have BW0 : Hid (Below w.heap.size w wr) := B1.out.trans (HB.out.mono (by rw [← HBE.out]; exact B1.out.size))
          obtain ⟨l, hl⟩ : ∃ q, lvfZ R = q := ⟨_, rfl⟩
          rw [hl] at N0 HLV HLE HCV
          clear HC HB HBE hl e1 HSK HPK HL2 HLK A1
          subst hNk
          go_upto_region 15 with fail
          go_loopg [6, 8] (18 * l.length + 17) (fun gk rv wv wr => ∃ (lk : List Lp) (wd : Nat) (d : Option Addr) (cc mn : Nat), shF gk wd lk = shZ l ∧ 1 ≤ wd ∧ wd ≤ 17 ∧ 18 * lk.length + 18 ≤ gk + wd ∧ lk.length = mn ∧ rv = .slice d mn cc ∧ mn ≤ cc ∧ wv = .int .i64 (wd : Int) ∧ Nst (· < wr.heap.size) false wr d lk ∧ sizZ lk ≤ 2048 ∧ Below w.heap.size w wr)
          case atStart => exact ⟨l, 1, dd, cc, k, rfl, Nat.le_refl _, by omega, by omega, HLE.out, rfl, hk0, rfl, N0.out, by rw [HLV.out]; exact hNm, BW0.out⟩
          case round =>
            clear N0 BW0
            obtain ⟨lk, wd, d, cc, mn, hsh, hw1, hw2, hgk, hml, rfl, hcc, rfl, hN, hsz, hbb⟩ := hrel
            have HSH := hiddenN hsh
            have HGK := hiddenN hgk
            have HML := hiddenN hml
            have NN := hiddenN hN
            have HSZ := hiddenN hsz
            have HBB := hiddenN hbb
            have hmm : mn ≤ 2048 := by have := len_siz lk; omega
            clear hsh hgk hml hN hsz hbb
            by_cases hgo : wd ≤ 16 ∧ 2 * wd ≤ mn
            · obtain ⟨g1, g2⟩ := hgo
              have h16 : (wd : Int) ≤ 16 := by omega
              have h2w : IntKind.i64.wrap (2 * (wd : Int)) = ((2 * wd : Nat) : Int) := by rw [IntKind.wrap_i64]; omega
              have h2m : ((2 * wd : Nat) : Int) ≤ (mn : Int) := by omega
              have FC := hiddenN (pass_any wd lk d cc wr NN.out hw1 g1 (by rw [HML.out]; exact hcc) (by have := HSZ.out; omega))
              rw [HML.out] at FC
              unfold PasE at FC
              obtain ⟨G, hG⟩ : ∃ G, gk = G + 1 := ⟨gk - 1, by have := HGK.out; omega⟩
              have HGE := hiddenN hG
              have HSS : Hid ((if (pasZ wd lk).length < lk.length then shF G 1 (pasZ wd lk) else shF G (wd + 1) (pasZ wd lk)) = shZ l) := by
                have h := HSH.out
                rw [hG, shF, if_pos ⟨g1, by rw [HML.out]; exact g2⟩] at h
                exact h
              have HPL := hiddenN (pas_len hw1 lk)
              have HPS : Hid (sizZ (pasZ wd lk) ≤ 2048) := Nat.le_trans (pas_siz hw1 lk) HSZ.out
              obtain ⟨lk2, hlk2⟩ : ∃ q, pasZ wd lk = q := ⟨_, rfl⟩
              rw [hlk2] at HSS HPL FC HPS
              obtain ⟨n2, hn2⟩ : ∃ q, lk2.length = q := ⟨_, rfl⟩
              rw [hn2] at FC
              have HNL := hiddenN hn2
              have hle : n2 ≤ mn := by have := HPL.out; have := HNL.out; have := HML.out; omega
              clear hG hlk2 hn2 NN HSH
              go_upto_region 17 with (go_at_call 47; (with_reducible refine FC.out.mono ?_); rintro e w2 ⟨d2, c2, S2, rfl, q1, q2, b⟩; have N2 := hiddenN (nst_cap (G := (· < w2.heap.size)) q1 q2 (fun k hk => Nat.lt_of_lt_of_le hk b.size) (fun k hk => hk)); have HR2 : Hid (n2 ≤ c2) := (by show _ ≤ _; have := q1.room; rw [q2.len, HNL.out] at this; exact this); have B2 := hiddenN (HBB.out.trans (b.mono HBB.out.size)); clear q1 q2 b)
              clear FC
              by_cases hsh : n2 < mn
              · have hsi : (n2 : Int) < (mn : Int) := by omega
                have HS2 : Hid (shF G 1 lk2 = shZ l) := by
                  have h := HSS.out
                  rw [if_pos (by rw [HNL.out, HML.out]; exact hsh)] at h
                  exact h
                go_wp2
                go_roundg G
                case measure => have := HGE.out; omega
                case rel => exact ⟨lk2, 1, d2, c2, n2, HS2.out, Nat.le_refl _, by omega, by have := HGK.out; have := HGE.out; have := HNL.out; have := HML.out; omega, HNL.out, rfl, HR2.out, by go_num, N2.out, HPS.out, B2.out⟩
              · have hsi : ¬ ((n2 : Int) < (mn : Int)) := by omega
                have HS2 : Hid (shF G (wd + 1) lk2 = shZ l) := by
                  have h := HSS.out
                  rw [if_neg (by rw [HNL.out, HML.out]; exact hsh)] at h
                  exact h
                go_wp2
                go_roundg G
                case measure => have := HGE.out; omega
                case rel => exact ⟨lk2, wd + 1, d2, c2, n2, HS2.out, by omega, by omega, by have := HGK.out; have := HGE.out; have := HNL.out; have := HML.out; omega, HNL.out, rfl, HR2.out, by go_num, N2.out, HPS.out, B2.out⟩
            · have HE : Hid (lk = shZ l) := by
                have h := HSH.out
                cases gk with
                | zero => rw [shF] at h; exact h
                | succ G => rw [shF, if_neg (by rw [HML.out]; exact hgo)] at h; exact h
              have HEND : Hid (RCoE zs w (.returned (.tuple #[.slice d mn cc, .int .i64 0])) wr) := ⟨d, cc, by rw [HCE.out, HCV.out, ← HE.out, HML.out]; rfl, by rw [HCV.out, ← HE.out]; exact NN.out, HBB.out⟩
              by_cases g1 : wd ≤ 16
              · have h16 : (wd : Int) ≤ 16 := by omega
                have h2w : IntKind.i64.wrap (2 * (wd : Int)) = ((2 * wd : Nat) : Int) := by rw [IntKind.wrap_i64]; omega
                have h2m : ¬ (((2 * wd : Nat) : Int) ≤ (mn : Int)) := by omega
                clear hgo
                go_wp2
                rw [← HRE.out]
                exact HEND.out
              · have h16 : ¬ ((wd : Int) ≤ 16) := by omega
                clear hgo
                go_wp2
                rw [← HRE.out]
                exact HEND.out
        | cons x r =>
          have hki : (k : Int) < (N : Int) := by rw [HLK.out]; simp; omega
          have hkL : k < N := by rw [HLK.out]; simp
          have hkN : k < N := hkL
          have hkm : (k : Int) ≤ 2048 := by omega
          have hx : R[k]? = some x := by rw [HL2.out, ← HPK.out, List.getElem?_append_right (Nat.le_refl _), Nat.sub_self]; rfl
          rcases A1.out with h0 | ⟨pb, po, rfl, hcl⟩
          · rw [h0] at hx; simp at hx
          obtain ⟨c0, c1⟩ := hcl k (by rw [HN.out]; exact hkL)
          have en : nthY R k = x := by unfold nthY; rw [List.getD_eq_getElem?_getD, hx]; rfl
          rw [en] at c0 c1
          have hpb : pb < B := by rw [← HBE.out]; exact block_lt_of_cell c0
          obtain ⟨nx, hnx⟩ : ∃ q, x.1 = q := ⟨_, rfl⟩
          obtain ⟨tx, htx⟩ : ∃ q, x.2 = q := ⟨_, rfl⟩
          rw [hnx] at c0
          rw [htx] at c1
          have HLF : Hid (lvfS (pre ++ [x]) = lvfS pre ++ [(⟨tx, nx, none, 0, 0⟩ : Lv)]) := by show _ = _; unfold lvfS; rw [List.map_append, ← hnx, ← htx]; rfl
          obtain ⟨S, hS9⟩ : ∃ q, lvfS pre = q := ⟨_, rfl⟩
          rw [hS9] at HC HSK HLF
          clear hx en hnx htx hcl hS9
          go_wp2
          refine wp_region_gen [13] (fun d_ i u z => match i with
              | 0 => z = .slice dd k cc
              | 1 => z = .slice (some ⟨pb, po, none⟩) N pc
              | 2 => z = .int .i64 (k : Int)
              | 3 => z = .pointer (some ⟨pb, po + k * 2, none⟩)
              | 4 => z = .pointer (some ⟨pb, po + k * 2 + 1, none⟩)
              | 5 => z = .int .i64 tx
              | 6 => z = .slice (some ⟨pb, po, none⟩) N pc
              | 7 => z = .int .i64 (k : Int)
              | 8 => z = .pointer (some ⟨pb, po + k * 2, none⟩)
              | 9 => z = .pointer (some ⟨pb, po + k * 2, none⟩)
              | 10 => z = .int .i64 nx
              | 11 => z = .agg #[.int .i64 tx, .int .i64 nx, .slice none 0 0]
              | 12 => (d_ 13 = false → ElL tx nx u z)
              | 13 => (d_ 13 = true ∧ SlL B (k + 1) (S ++ [(⟨tx, nx, none, 0, 0⟩ : Lv)]) u z)
              | 14 => (d_ 13 = true ∧ SlL B (k + 1) (S ++ [(⟨tx, nx, none, 0, 0⟩ : Lv)]) u z)
              | _ => True) (fun d_ u => (d_ 13 = false → Below wr.heap.size wr u) ∧ Below B w1 u) (by kernel_rfl) (by kernel_rfl) (by kernel_rfl) ?_ ?_ ?_ ?_ ?_ ?_ (by kernel_rfl)
          · intro d_ i w v w' h hb
            match i, h with
            | 0, h => exact h
            | 1, h => exact h
            | 2, h => exact h
            | 3, h => exact h
            | 4, h => exact h
            | 5, h => exact h
            | 6, h => exact h
            | 7, h => exact h
            | 8, h => exact h
            | 9, h => exact h
            | 10, h => exact h
            | 11, h => exact h
            | 12, h => exact fun e => (h e).later hb
            | 13, h => exact ⟨h.1, h.2.later hb⟩
            | 14, h => exact ⟨h.1, h.2.later hb⟩
            | _ + 15, _ => trivial
          · intro d_ u u' h hb
            exact ⟨fun e => (h.1 e).trans (hb.mono (h.1 e).size), h.2.trans (hb.mono (Nat.le_trans hBw h.2.size))⟩
          · exact ⟨fun _ => Below.refl _ _, HB.out⟩
          · intro d_ i o ρ w' hm ho hf hg hC hcs hfs hfr hdep
            match i, hm, ho, hf, hg, hfr, hdep with
            | 0, _, ho, hf, hg, hfr, hdep =>
              simp only [gTA, gCZ, gSI] at ho
              subst ho
              refine ⟨fun _ => ?_, fun hw => absurd (show true = false from hw) (by decide)⟩
              have ts : ρ (.tmp 6) = .slice dd k cc := hfr 6 (by kernel_rfl)
              simp [go_sem, ts]
              exact ⟨Below.refl _ _, rfl⟩
            | 1, _, ho, hf, hg, hfr, hdep =>
              simp only [gTA, gCZ, gCS, gSI] at ho
              subst ho
              refine ⟨fun _ => ?_, fun hw => absurd (show true = false from hw) (by decide)⟩
              have ts : ρ (.tmp 5) = .slice (some ⟨pb, po, none⟩) N pc := hfr 5 (by kernel_rfl)
              simp [go_sem, ts]
              exact ⟨Below.refl _ _, rfl⟩
            | 2, _, ho, hf, hg, hfr, hdep =>
              simp only [gTA, gCZ, gCS, gSI] at ho
              subst ho
              refine ⟨fun _ => ?_, fun hw => absurd (show true = false from hw) (by decide)⟩
              have ts : ρ (.tmp 7) = .int .i64 (k : Int) := hfr 7 (by kernel_rfl)
              simp [go_sem, ts]
              exact ⟨Below.refl _ _, rfl⟩
            | 3, _, ho, hf, hg, hfr, hdep =>
              simp only [gTA, gCZ, gCS, gSI] at ho
              subst ho
              refine ⟨fun _ => ?_, fun hw => absurd (show true = false from hw) (by decide)⟩
              have d0 : ρ (.tmp 40) = .slice (some ⟨pb, po, none⟩) N pc := hdep 1 40 (by kernel_rfl) (by kernel_rfl)
              have d1 : ρ (.tmp 41) = .int .i64 (k : Int) := hdep 2 41 (by kernel_rfl) (by kernel_rfl)
              simp [go_sem, d0, d1, hkN]
              exact ⟨Below.refl _ _, rfl⟩
            | 4, _, ho, hf, hg, hfr, hdep =>
              simp only [gTA, gCZ, gCS, gSI] at ho
              subst ho
              refine ⟨fun _ => ?_, fun hw => absurd (show true = false from hw) (by decide)⟩
              have d0 : ρ (.tmp 42) = .pointer (some ⟨pb, po + k * 2, none⟩) := hdep 3 42 (by kernel_rfl) (by kernel_rfl)
              simp [go_sem, d0]
              exact ⟨Below.refl _ _, rfl⟩
            | 5, _, ho, hf, hg, hfr, hdep =>
              simp only [gTA, gCZ, gCS, gSI] at ho
              subst ho
              refine ⟨fun _ => ?_, fun hw => absurd (show true = false from hw) (by decide)⟩
              have cc1 := cellN_keep hC.2 hpb c1
              have d0 : ρ (.tmp 43) = .pointer (some ⟨pb, po + k * 2 + 1, none⟩) := hdep 4 43 (by kernel_rfl) (by kernel_rfl)
              simp [go_sem, d0, cc1]
              exact ⟨Below.refl _ _, rfl⟩
            | 6, _, ho, hf, hg, hfr, hdep =>
              simp only [gTA, gCZ, gCS, gSI] at ho
              subst ho
              refine ⟨fun _ => ?_, fun hw => absurd (show true = false from hw) (by decide)⟩
              have ts : ρ (.tmp 5) = .slice (some ⟨pb, po, none⟩) N pc := hfr 5 (by kernel_rfl)
              simp [go_sem, ts]
              exact ⟨Below.refl _ _, rfl⟩
            | 7, _, ho, hf, hg, hfr, hdep =>
              simp only [gTA, gCZ, gCS, gSI] at ho
              subst ho
              refine ⟨fun _ => ?_, fun hw => absurd (show true = false from hw) (by decide)⟩
              have ts : ρ (.tmp 7) = .int .i64 (k : Int) := hfr 7 (by kernel_rfl)
              simp [go_sem, ts]
              exact ⟨Below.refl _ _, rfl⟩
            | 8, _, ho, hf, hg, hfr, hdep =>
              simp only [gTA, gCZ, gCS, gSI] at ho
              subst ho
              refine ⟨fun _ => ?_, fun hw => absurd (show true = false from hw) (by decide)⟩
              have d0 : ρ (.tmp 45) = .slice (some ⟨pb, po, none⟩) N pc := hdep 6 45 (by kernel_rfl) (by kernel_rfl)
              have d1 : ρ (.tmp 46) = .int .i64 (k : Int) := hdep 7 46 (by kernel_rfl) (by kernel_rfl)
              simp [go_sem, d0, d1, hkN]
              exact ⟨Below.refl _ _, rfl⟩
            | 9, _, ho, hf, hg, hfr, hdep =>
              simp only [gTA, gCZ, gCS, gSI] at ho
              subst ho
              refine ⟨fun _ => ?_, fun hw => absurd (show true = false from hw) (by decide)⟩
              have d0 : ρ (.tmp 47) = .pointer (some ⟨pb, po + k * 2, none⟩) := hdep 8 47 (by kernel_rfl) (by kernel_rfl)
              simp [go_sem, d0]
              exact ⟨Below.refl _ _, rfl⟩
            | 10, _, ho, hf, hg, hfr, hdep =>
              simp only [gTA, gCZ, gCS, gSI] at ho
              subst ho
              refine ⟨fun _ => ?_, fun hw => absurd (show true = false from hw) (by decide)⟩
              have cc0 := cellN_keep hC.2 hpb c0
              have d0 : ρ (.tmp 48) = .pointer (some ⟨pb, po + k * 2, none⟩) := hdep 9 48 (by kernel_rfl) (by kernel_rfl)
              simp [go_sem, d0, cc0]
              exact ⟨Below.refl _ _, rfl⟩
            | 11, _, ho, hf, hg, hfr, hdep =>
              simp only [gTA, gCZ, gCS, gSI] at ho
              subst ho
              refine ⟨fun _ => ?_, fun hw => absurd (show true = false from hw) (by decide)⟩
              have d0 : ρ (.tmp 44) = .int .i64 tx := hdep 5 44 (by kernel_rfl) (by kernel_rfl)
              have d1 : ρ (.tmp 49) = .int .i64 nx := hdep 10 49 (by kernel_rfl) (by kernel_rfl)
              simp [go_sem, d0, d1]
              exact ⟨Below.refl _ _, rfl⟩
            | 12, _, ho, hf, hg, hfr, hdep =>
              simp only [gTA, gCZ, gCS, gSI] at ho
              subst ho
              refine ⟨fun _ => ?_, fun hw => absurd (show true = false from hw) (by decide)⟩
              have t0 : ρ (.tmp 50) = .agg #[.int .i64 tx, .int .i64 nx, .slice none 0 0] := hdep 11 50 (by kernel_rfl) (by kernel_rfl)
              simp [go_sem, t0]
              exact ⟨(Below.refl _ _).alloc (Nat.le_refl _) _, fun _ => ⟨w'.heap.size, rfl, (blkA_new 57 w' #[.int .i64 tx, .int .i64 nx, .slice none 0 0]).cell rfl, (blkA_new 57 w' #[.int .i64 tx, .int .i64 nx, .slice none 0 0]).cell rfl, (blkA_new 57 w' #[.int .i64 tx, .int .i64 nx, .slice none 0 0]).cell rfl⟩⟩
            | 13, hm, _, _, _, _, _ => exact absurd hm (by decide)
            | 14, _, ho, hf, hg, hfr, hdep =>
              simp only [gTA, gCZ, gCS, gSI] at ho
              subst ho
              refine ⟨fun _ => ?_, fun hw => absurd (show true = false from hw) (by decide)⟩
              have t0 : d_ 13 = true ∧ SlL B (k + 1) (S ++ [(⟨tx, nx, none, 0, 0⟩ : Lv)]) w' (ρ (.tmp 52)) := hdep 13 52 (by kernel_rfl) (by kernel_rfl)
              obtain ⟨qd, d9, c9, q0, q1⟩ := t0
              simp [go_sem, q0]
              exact ⟨Below.refl _ _, qd, d9, c9, rfl, q1⟩
            | n + 15, _, ho, _, _, _, _ => simp at ho
          · intro d_ i o ρ w' hm ho h0 hf hg hC hcs hfs hfr hdep
            match i, hm, ho, h0, hf, hg, hfr, hdep with
            | 0, hm, _, _, _, _, _, _ => exact absurd hm (by decide)
            | 1, hm, _, _, _, _, _, _ => exact absurd hm (by decide)
            | 2, hm, _, _, _, _, _, _ => exact absurd hm (by decide)
            | 3, hm, _, _, _, _, _, _ => exact absurd hm (by decide)
            | 4, hm, _, _, _, _, _, _ => exact absurd hm (by decide)
            | 5, hm, _, _, _, _, _, _ => exact absurd hm (by decide)
            | 6, hm, _, _, _, _, _, _ => exact absurd hm (by decide)
            | 7, hm, _, _, _, _, _, _ => exact absurd hm (by decide)
            | 8, hm, _, _, _, _, _, _ => exact absurd hm (by decide)
            | 9, hm, _, _, _, _, _, _ => exact absurd hm (by decide)
            | 10, hm, _, _, _, _, _, _ => exact absurd hm (by decide)
            | 11, hm, _, _, _, _, _, _ => exact absurd hm (by decide)
            | 12, hm, _, _, _, _, _, _ => exact absurd hm (by decide)
            | 13, _, ho, h0, hf, hg, hfr, hdep =>
              simp only [gTA, gCZ, gCS, gSI] at ho
              subst ho
              have t0 : ρ (.tmp 39) = .slice dd k cc := hdep 0 39 (by kernel_rfl) (by kernel_rfl)
              have t1 : ElL tx nx w' (ρ (.tmp 51)) := hdep 12 51 (by kernel_rfl) (by kernel_rfl) h0
              obtain ⟨ge, he0, he1, he2, he3⟩ := t1
              refine ⟨rfl, mark_appZ (.tmp 39) (.tmp 51) rfl k HSK.out (y := ⟨tx, nx, none, 0, 0⟩) t0 he0 HC.out (hC.1 h0) he1 he2 he3 (by omega) hBr ?_⟩
              intro u9 d9 c9 hG
              refine ⟨⟨fun e => absurd e (by rw [doneAt_eq]; decide), HB.out.trans (hG.below (fun y hy => (HC.out.lt y hy).1) hBr)⟩, fun _ => ⟨doneAt_eq _ _, d9, c9, rfl, hG.own⟩, ?_⟩
              intro i t hi hs
              match i, hi, hs with
              | 0, _, hs => exact hs
              | 1, _, hs => exact hs
              | 2, _, hs => exact hs
              | 3, _, hs => exact hs
              | 4, _, hs => exact hs
              | 5, _, hs => exact hs
              | 6, _, hs => exact hs
              | 7, _, hs => exact hs
              | 8, _, hs => exact hs
              | 9, _, hs => exact hs
              | 10, _, hs => exact hs
              | 11, _, hs => exact hs
              | 12, _, hs => exact fun e => absurd e (by rw [doneAt_eq]; decide)
              | 13, _, hs => exact absurd hs.1 (by rw [h0]; decide)
              | 14, _, hs => exact absurd hs.1 (by rw [h0]; decide)
              | _ + 15, _, _ => trivial
            | 14, hm, _, _, _, _, _, _ => exact absurd hm (by decide)
            | n + 15, _, ho, _, _, _, _, _ => simp at ho
          · intro U2 W2 hC2 hS
            obtain ⟨-, d2, c2, e14, D2⟩ : true = true ∧ SlL B (k + 1) (S ++ [(⟨tx, nx, none, 0, 0⟩ : Lv)]) W2 (U2 14) := hS 14 (by decide) (by intro h; cases h)
            simp only [puts, e14]
            simp only [Act.put, List.setIfInBounds_toArray, List.set_cons_zero, List.set_cons_succ]
            clear hS e14
            go_wp2
            go_roundg r.length
            case measure => simp
            case rel => exact ⟨pre ++ [x], r, k + 1, c2, d2, by rw [HL2.out]; simp, by rw [List.length_append, HPK.out]; rfl, rfl, rfl, by go_num, by rw [HLF.out]; exact D2, hC2.2⟩
theorem NstL.later {w w' : World} {m : Bool} {a : Option Addr} {l : List Lp} (h : Nst (· < w.heap.size) m w a l) (hb : Below w.heap.size w w') : Nst (· < w'.heap.size) m w' a l := (h.below hb).mono fun _ hk => Nat.lt_of_lt_of_le hk hb.size
theorem nst_pair {u : World} {t n t2 n2 : Int} {a a2 : Option Addr} {c c2 : Nat} {l l2 : List Lp} (h : Nst (· < u.heap.size) false u a l) (h2 : Nst (· < u.heap.size) false u a2 l2) : Nst (· < (u.alloc (.cells #[.int .i64 t, .int .i64 n, .slice a l.length c, .int .i64 t2, .int .i64 n2, .slice a2 l2.length c2] 57)).heap.size) false (u.alloc (.cells #[.int .i64 t, .int .i64 n, .slice a l.length c, .int .i64 t2, .int .i64 n2, .slice a2 l2.length c2] 57)) (some ⟨u.heap.size, 0, none⟩) [⟨t, n, l⟩, ⟨t2, n2, l2⟩] := by
  have x := blkA_new 57 u #[.int .i64 t, .int .i64 n, .slice a l.length c, .int .i64 t2, .int .i64 n2, .slice a2 l2.length c2]
  have b := (Below.refl u.heap.size u).alloc (Nat.le_refl _) (.cells #[.int .i64 t, .int .i64 n, .slice a l.length c, .int .i64 t2, .int .i64 n2, .slice a2 l2.length c2] 57)
  have hs := NstL.later h b
  have hs2 := NstL.later h2 b
  generalize u.alloc (.cells #[.int .i64 t, .int .i64 n, .slice a l.length c, .int .i64 t2, .int .i64 n2, .slice a2 l2.length c2] 57) = W at *
  refine .inr ⟨_, 0, rfl, nst_cons.2 ⟨x.lt, x.cell (k := 0) rfl, x.cell (k := 1) rfl, ?_, nst_cons.2 ⟨x.lt, x.cell (k := 3) rfl, x.cell (k := 4) rfl, ?_, nst_nil.2 (fun e => by cases e)⟩⟩⟩
  · exact ⟨a, c, x.cell (k := 2) rfl, hs.imp id fun ⟨b', o', e, q⟩ => ⟨b', o', e, (fun e => by cases e), q⟩⟩
  · exact ⟨a2, c2, x.cell (k := 5) rfl, hs2.imp id fun ⟨b', o', e, q⟩ => ⟨b', o', e, (fun e => by cases e), q⟩⟩
theorem nst_solo {u : World} {t n : Int} {a : Option Addr} {c : Nat} {l : List Lp} (h : Nst (· < u.heap.size) false u a l) : Nst (· < (u.alloc (.cells #[.int .i64 t, .int .i64 n, .slice a l.length c] 57)).heap.size) false (u.alloc (.cells #[.int .i64 t, .int .i64 n, .slice a l.length c] 57)) (some ⟨u.heap.size, 0, none⟩) [⟨t, n, l⟩] := by
  have x := blkA_new 57 u #[.int .i64 t, .int .i64 n, .slice a l.length c]
  have b := (Below.refl u.heap.size u).alloc (Nat.le_refl _) (.cells #[.int .i64 t, .int .i64 n, .slice a l.length c] 57)
  have hs := NstL.later h b
  generalize u.alloc (.cells #[.int .i64 t, .int .i64 n, .slice a l.length c] 57) = W at *
  refine .inr ⟨_, 0, rfl, nst_cons.2 ⟨x.lt, x.cell (k := 0) rfl, x.cell (k := 1) rfl, ?_, nst_nil.2 (fun e => by cases e)⟩⟩
  exact ⟨a, c, x.cell (k := 2) rfl, hs.imp id fun ⟨b', o', e, q⟩ => ⟨b', o', e, (fun e => by cases e), q⟩⟩
theorem nst_lvf (u : World) (R : List (Int × Int)) : Nst (· < (u.alloc (.cells (flatZ (lvfS R)).toArray 57)).heap.size) false (u.alloc (.cells (flatZ (lvfS R)).toArray 57)) (some ⟨u.heap.size, 0, none⟩) (lvfZ R) := by
  have x := blkA_new 57 u (flatZ (lvfS R)).toArray
  generalize u.alloc (.cells (flatZ (lvfS R)).toArray 57) = W at *
  refine .inr ⟨_, 0, rfl, nst_of_row (F := (· < W.heap.size)) (S := lvfS R) x.lt (mch_lvf R) (fun k hk j hj => ?_) (fun e => by cases e)⟩
  have h := flatZ_get (L := lvfS R) hk hj
  rw [Nat.zero_add]
  refine x.cell (k := k * 3 + j) ?_
  simpa using h
set_option maxRecDepth 100000 in
set_option maxHeartbeats 4000000 in
theorem leafZ_any (n t : Int) (w : World) : Calls Try.prog 33 #[.int .i64 n, .int .i64 t] w fun e w' => e = .returned (.agg #[.int .i64 t, .int .i64 n, .slice none 0 0]) ∧ Below w.heap.size w w' := by
  obtain ⟨RE, hRE⟩ : ∃ Q : Ending → World → Prop, (fun e w' => e = Ending.returned (.agg #[.int .i64 t, .int .i64 n, .slice none 0 0]) ∧ Below w.heap.size w w') = Q := ⟨_, rfl⟩
  rw [hRE]
  have HRE := hiddenN hRE
  clear hRE
  have BB := hiddenN ((Below.refl w.heap.size w).alloc (Nat.le_refl _) (.cells #[.int .i64 t, .int .i64 n, .slice none 0 0] 57))
  go_enter Try.func33, Try.ntmps33
  go_wp2
  rw [← HRE.out]
  exact ⟨rfl, _, results_cell_row rfl _ _ w.heap.size 57 _ (0, 0) _ rfl (blkA_new 57 w _) Try.underlying57 rfl (by kernel_rfl), rfl, BB.out⟩
set_option maxRecDepth 100000 in
set_option maxHeartbeats 4000000 in
theorem blockZ_any (t : Int) (a : Option Addr) (L c : Nat) (w : World) : Calls Try.prog 32 #[.int .i64 t, .slice a L c] w fun e w' => e = .returned (.agg #[.int .i64 t, .int .i64 0, .slice a L c]) ∧ Below w.heap.size w w' := by
  obtain ⟨RE, hRE⟩ : ∃ Q : Ending → World → Prop, (fun e w' => e = Ending.returned (.agg #[.int .i64 t, .int .i64 0, .slice a L c]) ∧ Below w.heap.size w w') = Q := ⟨_, rfl⟩
  rw [hRE]
  have HRE := hiddenN hRE
  clear hRE
  have BB := hiddenN ((Below.refl w.heap.size w).alloc (Nat.le_refl _) (.cells #[.int .i64 t, .int .i64 0, .slice a L c] 57))
  go_enter Try.func32, Try.ntmps32
  go_wp2
  rw [← HRE.out]
  exact ⟨rfl, _, results_cell_row rfl _ _ w.heap.size 57 _ (0, 0) _ rfl (blkA_new 57 w _) Try.underlying57 rfl (by kernel_rfl), rfl, BB.out⟩
theorem at_new (u : World) (zs : List Int) : At (u.alloc (.cells (zs.map (Value.int .i64)).toArray 3)) (some ⟨u.heap.size, 0, none⟩) zs := by
  have x := blkA_new 3 u (zs.map (Value.int .i64)).toArray
  refine .inr ⟨_, 0, rfl, fun k hk => ?_⟩
  rw [Nat.zero_add]
  refine x.cell (k := k) ?_
  simp [nth_some hk]
theorem belowT {w u v : World} (h : Below w.heap.size w u) (k : Below u.heap.size u v) : Below w.heap.size w v := h.trans (k.mono h.size)
theorem alloc_lo (u : World) (o : Obj) : u.heap.size ≤ (u.alloc o).heap.size := by rw [World.size_alloc]; exact Nat.le_succ _
theorem alloc_below (u : World) (o : Obj) : Below u.heap.size u (u.alloc o) := (Below.refl _ _).alloc (Nat.le_refl _) o
theorem fold5 (u : World) : Calls Try.prog 17 #[.int .i64 2, .slice (some ⟨u.heap.size, 0, none⟩) 5 5] (u.alloc (.cells #[.int .i64 1, .int .i64 0, .slice none 0 0, .int .i64 1, .int .i64 1, .slice none 0 0, .int .i64 1, .int .i64 0, .slice none 0 0, .int .i64 1, .int .i64 1, .slice none 0 0, .int .i64 1, .int .i64 0, .slice none 0 0] 57)) fun e w' => ∃ d c, e = .returned (.tuple #[.slice d 2 c, .int .i64 0]) ∧ WrtZ u.heap.size w' d c [twoB, ⟨1, 0, []⟩] ∧ Below u.heap.size u w' := by
  have := foldZ_any 2 fiveL false (some ⟨u.heap.size, 0, none⟩) 5 _ (nst_lvf u [(0, 1), (1, 1), (0, 1), (1, 1), (0, 1)]) (by rw [five_siz]; decide)
  unfold FolE at this
  rw [five_v, five_e] at this
  exact this.mono fun e w' ⟨d, c, h1, h2, h3⟩ => ⟨d, c, h1, h2.mono (alloc_lo _ _), (alloc_below _ _).trans (h3.mono (alloc_lo _ _))⟩
theorem comp10 (u : World) : Calls Try.prog 22 #[.slice (some ⟨u.heap.size, 0, none⟩) 10 10] (u.alloc (.cells #[.int .i64 0, .int .i64 1, .int .i64 0, .int .i64 1, .int .i64 2, .int .i64 0, .int .i64 1, .int .i64 0, .int .i64 1, .int .i64 2] 3)) fun e w' => ∃ d c, e = .returned (.tuple #[.slice d 1 c, .int .i64 0]) ∧ WrtZ u.heap.size w' d c endL ∧ Below u.heap.size u w' := by
  have := compress_any tenI (some ⟨u.heap.size, 0, none⟩) 10 _ (at_new u tenI)
  unfold CmpE at this
  rw [ten_v, ten_e] at this
  exact this.mono fun e w' ⟨d, c, h1, h2, h3⟩ => ⟨d, c, h1, h2.mono (alloc_lo _ _), (alloc_below _ _).trans (h3.mono (alloc_lo _ _))⟩
theorem fold0 (u : World) : Calls Try.prog 17 #[.int .i64 0, .slice (some ⟨u.heap.size, 0, none⟩) 1 1] (u.alloc (.cells #[.int .i64 1, .int .i64 0, .slice none 0 0] 57)) fun e w' => ∃ d c, e = .returned (.tuple #[.slice d 0 c, .int .i64 1]) ∧ Below u.heap.size u w' := by
  have := foldZ_any 0 [⟨1, 0, []⟩] false (some ⟨u.heap.size, 0, none⟩) 1 _ (nst_lvf u [(0, 1)]) (by rw [siz_cons, siz_nil]; decide)
  unfold FolE at this
  rw [nil_v, nil_e] at this
  exact this.mono fun e w' ⟨d, c, h1, h2, h3⟩ => ⟨d, c, h1, (alloc_below _ _).trans (h3.mono (alloc_lo _ _))⟩
theorem comp32 (u : World) : Calls Try.prog 22 #[.slice (some ⟨u.heap.size, 0, none⟩) 1 1] (u.alloc (.cells #[.int .i64 32] 3)) fun e w' => ∃ d c, e = .returned (.tuple #[.slice d 0 c, .int .i64 100]) ∧ Below u.heap.size u w' := by
  have := compress_any [32] (some ⟨u.heap.size, 0, none⟩) 1 _ (at_new u [32])
  unfold CmpE at this
  rw [big_v, big_e] at this
  exact this.mono fun e w' ⟨d, c, h1, h2, h3⟩ => ⟨d, c, h1, (alloc_below _ _).trans (h3.mono (alloc_lo _ _))⟩
theorem WrtZ.same {B : Nat} {w : World} {d : Option Addr} {c n : Nat} {l : List Lp} (h : WrtZ B w d c l) (hn : l.length = n) (hs : sizZ l ≤ 1000000) (g c2 : Nat) (h2 : Nst (· < w.heap.size) false w (some ⟨g, 0, none⟩) l) : Calls Try.prog 19 #[.slice d n c, .slice (some ⟨g, 0, none⟩) n c2] w fun e w' => e = .returned (.bool true) ∧ ∃ n, w' = w.drewN n := by
  have := same_anyZ l l _ _ false false d c (some ⟨g, 0, none⟩) c2 w h.nst h2 hs hs
  rw [(sam_iff l l).2 rfl, hn] at this
  exact this
set_option maxRecDepth 100000 in
set_option maxHeartbeats 16000000 in
theorem awakeL_any (w : World) : Calls Try.prog 20 #[] w fun e w' => e = .returned (.bool true) ∧ Below w.heap.size w w' := by
  obtain ⟨RE, hRE⟩ : ∃ Q : Ending → World → Prop, (fun e w' => e = Ending.returned (.bool true) ∧ Below w.heap.size w w') = Q := ⟨_, rfl⟩
  rw [hRE]
  have HRE := hiddenN hRE
  clear hRE
  go_enter Try.func20, Try.ntmps20
  go_upto_region 2 with (first | (go_at_call 33; (with_reducible refine (leafZ_any 0 1 w).mono ?_); rintro e u1 ⟨rfl, hb0⟩; have B0 := hiddenN hb0; clear hb0) | (go_at_call 33; (with_reducible refine (leafZ_any 1 1 u1).mono ?_); rintro e u2 ⟨rfl, hb1⟩; have B1 := hiddenN hb1; clear hb1) | (go_at_call 33; (with_reducible refine (leafZ_any 0 1 u2).mono ?_); rintro e u3 ⟨rfl, hb2⟩; have B2 := hiddenN hb2; clear hb2) | (go_at_call 33; (with_reducible refine (leafZ_any 1 1 u3).mono ?_); rintro e u4 ⟨rfl, hb3⟩; have B3 := hiddenN hb3; clear hb3) | (go_at_call 33; (with_reducible refine (leafZ_any 0 1 u4).mono ?_); rintro e u5 ⟨rfl, hb4⟩; have B4 := hiddenN hb4; clear hb4) | (go_at_call 17; (with_reducible refine (fold5 u5).mono ?_); rintro e v1 ⟨d1, c1, rfl, hW1, hb⟩; have WA := hiddenN hW1; have BV := hiddenN (belowT (belowT (belowT (belowT (belowT B0.out B1.out) B2.out) B3.out) B4.out) hb); clear hW1 hb B0 B1 B2 B3 B4))
  go_upto_region 3 with (go_at_call 22; (with_reducible refine (comp10 v1).mono ?_); rintro e v2 ⟨d3, c3, rfl, hW3, hb⟩; have WB := hiddenN hW3; have WA2 := hiddenN (WA.out.later hb); have BV2 := hiddenN (BV.out.trans (hb.mono BV.out.size)); clear hW3 hb WA BV)
  go_upto_region 4 with (first | (go_at_call 33; (with_reducible refine (leafZ_any 0 1 v2).mono ?_); rintro e v3 ⟨rfl, hb⟩; have WA3 := hiddenN (WA2.out.later hb); have WB3 := hiddenN (WB.out.later hb); have BV3 := hiddenN (BV2.out.trans (hb.mono BV2.out.size)); clear hb WA2 WB BV2) | (go_at_call 17; (with_reducible refine (fold0 v3).mono ?_); rintro e v4 ⟨d5, c5, rfl, hb⟩; have WA4 := hiddenN (WA3.out.later hb); have WB4 := hiddenN (WB3.out.later hb); have BV4 := hiddenN (BV3.out.trans (hb.mono BV3.out.size)); clear hb WA3 WB3 BV3))
  go_upto_region 5 with (go_at_call 22; (with_reducible refine (comp32 v4).mono ?_); rintro e v5 ⟨d7, c7, rfl, hb⟩; have WA5 := hiddenN (WA4.out.later hb); have WB5 := hiddenN (WB4.out.later hb); have BV5 := hiddenN (BV4.out.trans (hb.mono BV4.out.size)); clear hb WA4 WB4 BV4)
  go_upto_region 6 with (first | (go_at_call 33; (with_reducible refine (leafZ_any 0 1 v5).mono ?_); rintro e v6 ⟨rfl, hb⟩; have WA6 := hiddenN (WA5.out.later hb); have WB6 := hiddenN (WB5.out.later hb); have BV6 := hiddenN (BV5.out.trans (hb.mono BV5.out.size)); clear hb WA5 WB5 BV5) | (go_at_call 33; (with_reducible refine (leafZ_any 1 1 v6).mono ?_); rintro e v7 ⟨rfl, hb⟩; have WA7 := hiddenN ((WA6.out.later hb).later (alloc_below v7 (.cells #[.int .i64 1, .int .i64 0, .slice none 0 0, .int .i64 1, .int .i64 1, .slice none 0 0] 57))); have WB7 := hiddenN ((WB6.out.later hb).later (alloc_below v7 (.cells #[.int .i64 1, .int .i64 0, .slice none 0 0, .int .i64 1, .int .i64 1, .slice none 0 0] 57))); have BV7 := hiddenN ((BV6.out.trans (hb.mono BV6.out.size)).trans ((alloc_below v7 (.cells #[.int .i64 1, .int .i64 0, .slice none 0 0, .int .i64 1, .int .i64 1, .slice none 0 0] 57)).mono (BV6.out.trans (hb.mono BV6.out.size)).size)); have TW7 := hiddenN (nst_lvf v7 [(0, 1), (1, 1)]); clear hb WA6 WB6 BV6) | (go_at_call 32; (with_reducible refine (blockZ_any 2 (some ⟨v7.heap.size, 0, none⟩) 2 2 (v7.alloc (.cells #[.int .i64 1, .int .i64 0, .slice none 0 0, .int .i64 1, .int .i64 1, .slice none 0 0] 57))).mono ?_); rintro e v8 ⟨rfl, hb⟩; have WA8 := hiddenN (WA7.out.later hb); have WB8 := hiddenN (WB7.out.later hb); have BV8 := hiddenN (BV7.out.trans (hb.mono BV7.out.size)); have TW8 := hiddenN (NstL.later TW7.out hb); clear hb WA7 WB7 BV7 TW7))
  have hy0 : Hid (v8.heap.size = v8.heap.size) := rfl
  have X9 := hiddenN (blkA_new 57 v8 #[.int .i64 2, .int .i64 0, .slice (some ⟨v7.heap.size, 0, none⟩) 2 2])
  have WA9 := hiddenN (WA8.out.later (alloc_below v8 (.cells #[.int .i64 2, .int .i64 0, .slice (some ⟨v7.heap.size, 0, none⟩) 2 2] 57)))
  have WB9 := hiddenN (WB8.out.later (alloc_below v8 (.cells #[.int .i64 2, .int .i64 0, .slice (some ⟨v7.heap.size, 0, none⟩) 2 2] 57)))
  have BV9 := hiddenN (belowT BV8.out (alloc_below v8 (.cells #[.int .i64 2, .int .i64 0, .slice (some ⟨v7.heap.size, 0, none⟩) 2 2] 57)))
  have TW9 := hiddenN (NstL.later TW8.out (alloc_below v8 (.cells #[.int .i64 2, .int .i64 0, .slice (some ⟨v7.heap.size, 0, none⟩) 2 2] 57)))
  clear hy0 WA8 WB8 BV8 TW8
  obtain ⟨xb, hxb⟩ : ∃ q, v8.heap.size = q := ⟨_, rfl⟩
  obtain ⟨g2, hg2⟩ : ∃ q, v7.heap.size = q := ⟨_, rfl⟩
  rw [hg2] at X9 WA9 WB9 BV9 TW9 ⊢
  rw [hxb] at X9 ⊢
  generalize v8.alloc (.cells #[.int .i64 2, .int .i64 0, .slice (some ⟨g2, 0, none⟩) 2 2] 57) = W5 at *
  have y0 := X9.out.cell (k := 0) rfl
  have y1 := X9.out.cell (k := 1) rfl
  have y2 := X9.out.cell (k := 2) rfl
  simp only [List.getElem_toArray, List.getElem_cons_zero, List.getElem_cons_succ] at y0 y1 y2
  have TW : Hid (∀ u, Below W5.heap.size W5 u → Nst (· < u.heap.size) false u (some ⟨g2, 0, none⟩) twoL) := fun u hu => NstL.later TW9.out hu
  have S1 : Hid (∀ u, Below W5.heap.size W5 u → ∀ g, Nst (· < u.heap.size) false u (some ⟨g, 0, none⟩) [twoB, ⟨1, 0, []⟩] → Calls Try.prog 19 #[.slice d1 2 c1, .slice (some ⟨g, 0, none⟩) 2 2] u fun e w' => e = .returned (.bool true) ∧ ∃ n, w' = u.drewN n) := fun u hu g hg => (WA9.out.later hu).same rfl (by simp [twoB, twoL, sizZ]) g 2 hg
  have S2 : Hid (∀ u, Below W5.heap.size W5 u → ∀ g, Nst (· < u.heap.size) false u (some ⟨g, 0, none⟩) endL → Calls Try.prog 19 #[.slice d3 1 c3, .slice (some ⟨g, 0, none⟩) 1 1] u fun e w' => e = .returned (.bool true) ∧ ∃ n, w' = u.drewN n) := fun u hu g hg => (WB9.out.later hu).same rfl (by simp [endL, twoB, twoL, sizZ]) g 1 hg
  clear WA9 WB9 X9 TW9 hg2 hxb
  refine wp_region_gen [] (fun d i u z => match i with
      | 0 => z = .slice d1 2 c1
      | 1 => z = .agg #[.int .i64 2, .int .i64 0, .slice (some ⟨g2, 0, none⟩) 2 2]
      | 2 => z = .agg #[.int .i64 1, .int .i64 0, .slice none 0 0]
      | 3 => (∃ g, z = .slice (some ⟨g, 0, none⟩) 2 2 ∧ Nst (· < u.heap.size) false u (some ⟨g, 0, none⟩) [twoB, ⟨1, 0, []⟩])
      | 4 => z = .bool true
      | 5 => z = .bool true
      | 6 => z = .slice d3 1 c3
      | 7 => z = .agg #[.int .i64 2, .int .i64 0, .slice (some ⟨g2, 0, none⟩) 2 2]
      | 8 => z = .agg #[.int .i64 1, .int .i64 2, .slice none 0 0]
      | 9 => (∃ g, z = .slice (some ⟨g, 0, none⟩) 2 2 ∧ Nst (· < u.heap.size) false u (some ⟨g, 0, none⟩) [twoB, ⟨1, 2, []⟩])
      | 10 => (∃ g, z = .agg #[.int .i64 2, .int .i64 0, .slice (some ⟨g, 0, none⟩) 2 2] ∧ Nst (· < u.heap.size) false u (some ⟨g, 0, none⟩) [twoB, ⟨1, 2, []⟩])
      | 11 => (∃ g, z = .slice (some ⟨g, 0, none⟩) 1 1 ∧ Nst (· < u.heap.size) false u (some ⟨g, 0, none⟩) endL)
      | 12 => z = .bool true
      | 13 => z = .bool true
      | 14 => z = .bool true
      | _ => True) (fun _ u => Below W5.heap.size W5 u) (by kernel_rfl) (by kernel_rfl) (by kernel_rfl) ?_ ?_ ?_ ?_ ?_ ?_ (by kernel_rfl)
  · intro d i w v w' h hb
    match i, h with
    | 0, h => exact h
    | 1, h => exact h
    | 2, h => exact h
    | 3, h => obtain ⟨g, h1, h2⟩ := h; exact ⟨g, h1, NstL.later h2 hb⟩
    | 4, h => exact h
    | 5, h => exact h
    | 6, h => exact h
    | 7, h => exact h
    | 8, h => exact h
    | 9, h => obtain ⟨g, h1, h2⟩ := h; exact ⟨g, h1, NstL.later h2 hb⟩
    | 10, h => obtain ⟨g, h1, h2⟩ := h; exact ⟨g, h1, NstL.later h2 hb⟩
    | 11, h => obtain ⟨g, h1, h2⟩ := h; exact ⟨g, h1, NstL.later h2 hb⟩
    | 12, h => exact h
    | 13, h => exact h
    | 14, h => exact h
    | _ + 15, _ => trivial
  · intro d u u' h hb
    exact h.trans (hb.mono h.size)
  · exact Below.refl _ _
  · intro d i o ρ w' hm ho hf hg hC hcs hfs hfr hdep
    match i, hm, ho, hf, hg, hfr, hdep with
    | 0, _, ho, hf, hg, hfr, hdep =>
      simp only [gTA, gCZ, gSI] at ho
      subst ho
      refine ⟨fun _ => ?_, fun hw => absurd (show true = false from hw) (by decide)⟩
      have ts : ρ (.tmp 1) = .slice d1 2 c1 := hfr 1 (by kernel_rfl)
      simp [go_sem, ts]
      exact ⟨Below.refl _ _, rfl⟩
    | 1, _, ho, hf, hg, hfr, hdep =>
      simp only [gTA, gCZ, gCS, gSI] at ho
      subst ho
      refine ⟨fun _ => ?_, fun hw => absurd (show true = false from hw) (by decide)⟩
      have ts : ρ (.tmp 9) = .pointer (some ⟨xb, 0, none⟩) := hfr 9 (by kernel_rfl)
      have k0 := cellN_later hC y0
      have k1 := cellN_later hC y1
      have k2 := cellN_later hC y2
      simp [go_sem, ts, k0, k1, k2]
      exact ⟨Below.refl _ _, rfl⟩
    | 2, _, ho, hf, hg, hfr, hdep =>
      simp only [gTA, gCZ, gCS, gSI] at ho
      subst ho
      refine ⟨fun _ => ?_, fun hw => absurd (show true = false from hw) (by decide)⟩
      simp [go_sem, hfs, hcs]
      exact ⟨rfl, (leafZ_any 0 1 w').mono fun e w2 ⟨he, hb2⟩ => ⟨_, he, hb2, rfl⟩⟩
    | 3, _, ho, hf, hg, hfr, hdep =>
      simp only [gTA, gCZ, gCS, gSI] at ho
      subst ho
      refine ⟨fun _ => ?_, fun hw => absurd (show true = false from hw) (by decide)⟩
      have t0 : ρ (.tmp 42) = .agg #[.int .i64 2, .int .i64 0, .slice (some ⟨g2, 0, none⟩) 2 2] := hdep 1 42 (by kernel_rfl) (by kernel_rfl)
      have t1 : ρ (.tmp 43) = .agg #[.int .i64 1, .int .i64 0, .slice none 0 0] := hdep 2 43 (by kernel_rfl) (by kernel_rfl)
      simp [go_sem, t0, t1]
      exact ⟨(Below.refl _ _).alloc (Nat.le_refl _) _, w'.heap.size, rfl, nst_pair (u := w') (t := 2) (n := 0) (t2 := 1) (n2 := 0) (l := twoL) (l2 := []) (TW.out w' hC) (.inl rfl)⟩
    | 4, _, ho, hf, hg, hfr, hdep =>
      simp only [gTA, gCZ, gCS, gSI] at ho
      subst ho
      refine ⟨fun _ => ?_, fun hw => absurd (show true = false from hw) (by decide)⟩
      have t0 : ρ (.tmp 41) = .slice d1 2 c1 := hdep 0 41 (by kernel_rfl) (by kernel_rfl)
      obtain ⟨g, t1, hn⟩ : ∃ g, ρ (.tmp 44) = .slice (some ⟨g, 0, none⟩) 2 2 ∧ Nst (· < w'.heap.size) false w' (some ⟨g, 0, none⟩) [twoB, ⟨1, 0, []⟩] := hdep 3 44 (by kernel_rfl) (by kernel_rfl)
      simp [go_sem, t0, t1, hfs]
      exact ⟨rfl, (S1.out w' hC g hn).mono fun e w2 ⟨he, n2, hb2⟩ => ⟨_, he, hb2 ▸ drewQ _ _, rfl⟩⟩
    | 5, _, ho, hf, hg, hfr, hdep =>
      simp only [gTA, gCZ, gCS, gSI] at ho
      subst ho
      refine ⟨fun _ => ?_, fun hw => absurd (show true = false from hw) (by decide)⟩
      have d0 : ρ (.tmp 45) = .bool true := hdep 4 45 (by kernel_rfl) (by kernel_rfl)
      simp [go_sem, d0]
      exact ⟨Below.refl _ _, rfl⟩
    | 6, _, ho, hf, hg, hfr, hdep =>
      simp only [gTA, gCZ, gCS, gSI] at ho
      subst ho
      have gd : ρ (.tmp 46) = .bool true := hdep 5 46 (by kernel_rfl) (by kernel_rfl)
      refine ⟨fun _ => ?_, fun hw => absurd (show (match ρ (.tmp 46) with | .bool c => c == true | _ => false) = false from hw) (by rw [gd]; decide)⟩
      clear gd
      have ts : ρ (.tmp 3) = .slice d3 1 c3 := hfr 3 (by kernel_rfl)
      simp [go_sem, ts]
      exact ⟨Below.refl _ _, rfl⟩
    | 7, _, ho, hf, hg, hfr, hdep =>
      simp only [gTA, gCZ, gCS, gSI] at ho
      subst ho
      have gd : ρ (.tmp 46) = .bool true := hdep 5 46 (by kernel_rfl) (by kernel_rfl)
      refine ⟨fun _ => ?_, fun hw => absurd (show (match ρ (.tmp 46) with | .bool c => c == true | _ => false) = false from hw) (by rw [gd]; decide)⟩
      clear gd
      have ts : ρ (.tmp 9) = .pointer (some ⟨xb, 0, none⟩) := hfr 9 (by kernel_rfl)
      have k0 := cellN_later hC y0
      have k1 := cellN_later hC y1
      have k2 := cellN_later hC y2
      simp [go_sem, ts, k0, k1, k2]
      exact ⟨Below.refl _ _, rfl⟩
    | 8, _, ho, hf, hg, hfr, hdep =>
      simp only [gTA, gCZ, gCS, gSI] at ho
      subst ho
      have gd : ρ (.tmp 46) = .bool true := hdep 5 46 (by kernel_rfl) (by kernel_rfl)
      refine ⟨fun _ => ?_, fun hw => absurd (show (match ρ (.tmp 46) with | .bool c => c == true | _ => false) = false from hw) (by rw [gd]; decide)⟩
      clear gd
      simp [go_sem, hfs, hcs]
      exact ⟨rfl, (leafZ_any 2 1 w').mono fun e w2 ⟨he, hb2⟩ => ⟨_, he, hb2, rfl⟩⟩
    | 9, _, ho, hf, hg, hfr, hdep =>
      simp only [gTA, gCZ, gCS, gSI] at ho
      subst ho
      have gd : ρ (.tmp 46) = .bool true := hdep 5 46 (by kernel_rfl) (by kernel_rfl)
      refine ⟨fun _ => ?_, fun hw => absurd (show (match ρ (.tmp 46) with | .bool c => c == true | _ => false) = false from hw) (by rw [gd]; decide)⟩
      clear gd
      have t0 : ρ (.tmp 48) = .agg #[.int .i64 2, .int .i64 0, .slice (some ⟨g2, 0, none⟩) 2 2] := hdep 7 48 (by kernel_rfl) (by kernel_rfl)
      have t1 : ρ (.tmp 49) = .agg #[.int .i64 1, .int .i64 2, .slice none 0 0] := hdep 8 49 (by kernel_rfl) (by kernel_rfl)
      simp [go_sem, t0, t1]
      exact ⟨(Below.refl _ _).alloc (Nat.le_refl _) _, w'.heap.size, rfl, nst_pair (u := w') (t := 2) (n := 0) (t2 := 1) (n2 := 2) (l := twoL) (l2 := []) (TW.out w' hC) (.inl rfl)⟩
    | 10, _, ho, hf, hg, hfr, hdep =>
      simp only [gTA, gCZ, gCS, gSI] at ho
      subst ho
      have gd : ρ (.tmp 46) = .bool true := hdep 5 46 (by kernel_rfl) (by kernel_rfl)
      refine ⟨fun _ => ?_, fun hw => absurd (show (match ρ (.tmp 46) with | .bool c => c == true | _ => false) = false from hw) (by rw [gd]; decide)⟩
      clear gd
      obtain ⟨g, t1, hn⟩ : ∃ g, ρ (.tmp 50) = .slice (some ⟨g, 0, none⟩) 2 2 ∧ Nst (· < w'.heap.size) false w' (some ⟨g, 0, none⟩) [twoB, ⟨1, 2, []⟩] := hdep 9 50 (by kernel_rfl) (by kernel_rfl)
      simp [go_sem, t1, hfs, hcs]
      exact ⟨rfl, (blockZ_any 2 (some ⟨g, 0, none⟩) 2 2 w').mono fun e w2 ⟨he, hb2⟩ => ⟨_, he, hb2, g, rfl, NstL.later hn hb2⟩⟩
    | 11, _, ho, hf, hg, hfr, hdep =>
      simp only [gTA, gCZ, gCS, gSI] at ho
      subst ho
      have gd : ρ (.tmp 46) = .bool true := hdep 5 46 (by kernel_rfl) (by kernel_rfl)
      refine ⟨fun _ => ?_, fun hw => absurd (show (match ρ (.tmp 46) with | .bool c => c == true | _ => false) = false from hw) (by rw [gd]; decide)⟩
      clear gd
      obtain ⟨g, t1, hn⟩ : ∃ g, ρ (.tmp 51) = .agg #[.int .i64 2, .int .i64 0, .slice (some ⟨g, 0, none⟩) 2 2] ∧ Nst (· < w'.heap.size) false w' (some ⟨g, 0, none⟩) [twoB, ⟨1, 2, []⟩] := hdep 10 51 (by kernel_rfl) (by kernel_rfl)
      simp [go_sem, t1]
      exact ⟨(Below.refl _ _).alloc (Nat.le_refl _) _, w'.heap.size, rfl, nst_solo (u := w') (t := 2) (n := 0) (l := [twoB, ⟨1, 2, []⟩]) hn⟩
    | 12, _, ho, hf, hg, hfr, hdep =>
      simp only [gTA, gCZ, gCS, gSI] at ho
      subst ho
      have gd : ρ (.tmp 46) = .bool true := hdep 5 46 (by kernel_rfl) (by kernel_rfl)
      refine ⟨fun _ => ?_, fun hw => absurd (show (match ρ (.tmp 46) with | .bool c => c == true | _ => false) = false from hw) (by rw [gd]; decide)⟩
      clear gd
      have t0 : ρ (.tmp 47) = .slice d3 1 c3 := hdep 6 47 (by kernel_rfl) (by kernel_rfl)
      obtain ⟨g, t1, hn⟩ : ∃ g, ρ (.tmp 52) = .slice (some ⟨g, 0, none⟩) 1 1 ∧ Nst (· < w'.heap.size) false w' (some ⟨g, 0, none⟩) endL := hdep 11 52 (by kernel_rfl) (by kernel_rfl)
      simp [go_sem, t0, t1, hfs]
      exact ⟨rfl, (S2.out w' hC g hn).mono fun e w2 ⟨he, n2, hb2⟩ => ⟨_, he, hb2 ▸ drewQ _ _, rfl⟩⟩
    | 13, _, ho, hf, hg, hfr, hdep =>
      simp only [gTA, gCZ, gCS, gSI] at ho
      subst ho
      refine ⟨fun _ => ?_, fun hw => absurd (show true = false from hw) (by decide)⟩
      have t0 : ρ (.tmp 46) = .bool true := hdep 5 46 (by kernel_rfl) (by kernel_rfl)
      have t1 : ρ (.tmp 53) = .bool true := hdep 12 53 (by kernel_rfl) (by kernel_rfl)
      simp [go_sem, t0, t1]
      exact ⟨Below.refl _ _, rfl⟩
    | 14, _, ho, hf, hg, hfr, hdep =>
      simp only [gTA, gCZ, gCS, gSI] at ho
      subst ho
      refine ⟨fun _ => ?_, fun hw => absurd (show true = false from hw) (by decide)⟩
      have d0 : ρ (.tmp 54) = .bool true := hdep 13 54 (by kernel_rfl) (by kernel_rfl)
      simp [go_sem, d0]
      exact ⟨Below.refl _ _, rfl⟩
    | n + 15, _, ho, _, _, _, _ => simp at ho
  · intro d i o ρ w' hm ho h0 hf hg hC hcs hfs hfr hdep
    exact absurd hm (by simp)
  · intro V w9 hC9 hS
    have e14 : V 14 = .bool true := hS 14 (by decide) (by intro h; cases h)
    simp only [puts, e14]
    simp only [Act.put, List.setIfInBounds_toArray, List.set_cons_zero, List.set_cons_succ]
    clear hS e14
    have B9 := hiddenN (belowT BV9.out hC9)
    clear hC9 y0 y1 y2
    go_wp2
    rw [← HRE.out]
    exact ⟨rfl, B9.out⟩
theorem rel_short : ∀ (l : List Lp) (S : List Lv) (Rs : List RwL), RelR l S Rs → ∀ r ∈ Rs, r.Z.length ≤ sizZ l := by
  refine nest_one (fun S Rs h r hr => by rw [(rel_nil.1 h).2] at hr; cases hr) fun x q hb hr S Rs h r hm => ?_
  obtain ⟨s, S', R1, R2, -, rfl, -, -, -, h2, h3⟩ := rel_cons.1 h
  rw [siz_cons]
  rcases List.mem_append.1 hm with hm | hm
  · rcases h3 with ⟨-, rfl⟩ | ⟨-, S0, R0, rfl, h5, h4⟩
    · cases hm
    · rcases List.mem_append.1 hm with hm | hm
      · have := hb _ _ h4 r hm; omega
      · rw [List.mem_singleton.1 hm]
        show S0.length ≤ _
        have := len_siz x.body
        omega
  · have := hr _ _ h2 r hm; omega
/-- Two nests that share no memory, nor the lists of one. -/
def DuoW (B : Nat) (w : World) (d1 : Option Addr) (c1 : Nat) (l1 : List Lp) (d2 : Option Addr) (c2 : Nat) (l2 : List Lp) : Prop := ∃ S1 R1 S2 R2, RelR l1 S1 R1 ∧ RelR l2 S2 R2 ∧ FamT B w ((R1 ++ [⟨d1, c1, S1⟩]) ++ (R2 ++ [⟨d2, c2, S2⟩]))
theorem DuoW.later {B : Nat} {w w' : World} {d1 : Option Addr} {c1 : Nat} {l1 : List Lp} {d2 : Option Addr} {c2 : Nat} {l2 : List Lp} (h : DuoW B w d1 c1 l1 d2 c2 l2) (hb : Below w.heap.size w w') : DuoW B w' d1 c1 l1 d2 c2 l2 := by
  obtain ⟨S1, R1, S2, R2, h1, h2, h3⟩ := h
  exact ⟨S1, R1, S2, R2, h1, h2, fun r hr => (h3.own r hr).later hb, h3.pair, h3.few, Nat.le_trans h3.low hb.size⟩
theorem duo_of {B : Nat} {w w' : World} {d1 : Option Addr} {c1 : Nat} {l1 : List Lp} {d2 : Option Addr} {c2 : Nat} {l2 : List Lp} (h1 : WrtZ B w d1 c1 l1) (h2 : WrtZ w.heap.size w' d2 c2 l2) (hb : Below w.heap.size w w') (hB : B ≤ w.heap.size) (hs1 : sizZ l1 ≤ 1000000) (hs2 : sizZ l2 ≤ 1000000) : DuoW B w' d1 c1 l1 d2 c2 l2 := by
  obtain ⟨S1, R1, p1, p2, p3, p4⟩ := h1
  obtain ⟨S2, R2, q1, q2, q3, q4⟩ := h2
  have e1 : ∀ r ∈ R1 ++ [(⟨d1, c1, S1⟩ : RwL)], CapZ B w r.a r.c r.Z := fun r hr => by
    rcases List.mem_append.1 hr with hr | hr
    · exact p4.own r hr
    · rw [List.mem_singleton.1 hr]; exact p1
  have e2 : ∀ r ∈ R2 ++ [(⟨d2, c2, S2⟩ : RwL)], CapZ w.heap.size w' r.a r.c r.Z := fun r hr => by
    rcases List.mem_append.1 hr with hr | hr
    · exact q4.own r hr
    · rw [List.mem_singleton.1 hr]; exact q1
  refine ⟨S1, R1, S2, R2, p3, q3, fun r hr => ?_, ?_, fun r hr => ?_, Nat.le_trans hB hb.size⟩
  · rcases List.mem_append.1 hr with hr | hr
    · exact (e1 r hr).later hb
    · exact capZ_mono (e2 r hr) hB
  · rw [List.pairwise_append]
    refine ⟨?_, ?_, fun r hr s hs x y hx hy => ?_⟩
    · rw [List.pairwise_append]
      exact ⟨p4.pair, List.pairwise_singleton _ _, fun r hr s hs x y hx hy => by rw [List.mem_singleton.1 hs] at hy; exact p4.off r hr x y hx hy⟩
    · rw [List.pairwise_append]
      exact ⟨q4.pair, List.pairwise_singleton _ _, fun r hr s hs x y hx hy => by rw [List.mem_singleton.1 hs] at hy; exact q4.off r hr x y hx hy⟩
    · have := ((e1 r hr).lt x hx).2
      have := ((e2 s hs).lt y hy).1
      omega
  · rcases List.mem_append.1 hr with hr | hr
    · rcases List.mem_append.1 hr with hr | hr
      · exact Nat.le_trans (rel_short _ _ _ p3 r hr) hs1
      · rw [List.mem_singleton.1 hr]
        show S1.length ≤ _
        rw [rel_len p3]
        exact Nat.le_trans (len_siz _) hs1
    · rcases List.mem_append.1 hr with hr | hr
      · exact Nat.le_trans (rel_short _ _ _ q3 r hr) hs2
      · rw [List.mem_singleton.1 hr]
        show S2.length ≤ _
        rw [rel_len q3]
        exact Nat.le_trans (len_siz _) hs2
theorem DuoW.apart {B : Nat} {w : World} {d1 : Option Addr} {c1 : Nat} {l1 : List Lp} {d2 : Option Addr} {c2 : Nat} {l2 : List Lp} (h : DuoW B w d1 c1 l1 d2 c2 l2) (hs : sizZ l1 + sizZ l2 + 2 ≤ 1000000) : Calls Try.prog 15 #[.slice d1 l1.length c1, .slice d2 l2.length c2] w fun e w' => e = .returned (.bool true) ∧ Below B w w' := by
  obtain ⟨S1, R1, S2, R2, h1, h2, h3⟩ := h
  refine (apartLoops_any B l1 l2 d1 d2 c1 c2 S1 S2 R1 R2 w h1 h2 h3 hs).mono fun e w' q => ?_
  exact ⟨q.1, q.2.1⟩
theorem cmp_siz (zs : List Int) : sizZ (cmpV zs) ≤ 2048 := by
  unfold cmpV
  by_cases h : cmpE zs = 0
  · rw [if_pos h]
    have hl : zs.length ≤ 2048 := by
      unfold cmpE at h
      by_cases q : 2048 < zs.length
      · rw [if_pos q] at h; cases h
      · omega
    refine Nat.le_trans (sh_siz _) ?_
    rw [lvf_siz]
    exact Nat.le_trans (runs_few zs) hl
  · rw [if_neg h, siz_nil]; exact Nat.zero_le _
set_option maxRecDepth 100000 in
set_option maxHeartbeats 16000000 in
theorem loopsCompresses_walk (a : Option Addr) (len cap : Nat) (zs : List Int) (w : World) (h : Arg w a len cap zs) : Calls Try.prog 5 #[.slice a len cap] w fun e w' => e = .returned (.bool true) ∧ Below w.heap.size w w' := by
  obtain ⟨RE, hRE⟩ : ∃ Q : Ending → World → Prop, (fun e w' => e = .returned (.bool true) ∧ Below w.heap.size w w') = Q := ⟨_, rfl⟩
  rw [hRE]
  have HRE := hiddenN hRE
  have HA := hiddenN h
  have HZ := hiddenN h.size
  have hlm : len ≤ 140737488351232 := by have := h.reach; omega
  have LE := hiddenN (lent_any a zs len cap w h)
  unfold LentEnd at LE
  have HSV := hiddenN (cmp_siz zs)
  have CO : Hid (∀ u x cx, At u x zs → Calls Try.prog 22 #[.slice x len cx] u (CmpE zs u)) := fun u x cx hx => by
    have := compress_any zs x cx u hx
    rwa [HZ.out] at this
  have RC : Hid (∀ u, Below w.heap.size w u → Calls Try.prog 23 #[.slice a len cap] u (RCoE zs u)) := fun u hu => by
    have := rcompress_any zs a cap u (HA.out.below hu).lies (by rw [HZ.out]; exact hlm)
    rwa [HZ.out] at this
  have KP : Hid (∀ u g, Lend w.heap.size u g len zs → Below w.heap.size w u → Calls Try.prog 24 #[.slice (some ⟨g, 0, none⟩) len (len + 4), .slice a len cap] u fun e w' => e = .returned (.bool true) ∧ Below u.heap.size u w') := fun u g h1 h2 =>
    (kept_any g a zs len cap w.heap.size u h1 (HA.out.below h2)).mono fun e w' ⟨n, q1, q2⟩ => ⟨q1, by rw [q2]; exact drewQ _ _⟩
  unfold CmpE at CO
  unfold RCoE at RC
  obtain ⟨E, hE⟩ : ∃ q, cmpE zs = q := ⟨_, rfl⟩
  obtain ⟨lv, hlv⟩ : ∃ q, cmpV zs = q := ⟨_, rfl⟩
  obtain ⟨VL, hVL⟩ : ∃ q, lv.length = q := ⟨_, rfl⟩
  rw [hE, hlv, hVL] at CO RC
  rw [hlv] at HSV
  have HVL := hiddenN hVL
  have SM : Hid (∀ u B d cc d4 c4, WrtZ B u d cc lv → Nst (· < u.heap.size) false u d4 lv → Calls Try.prog 19 #[.slice d VL cc, .slice d4 VL c4] u fun e w' => e = .returned (.bool true) ∧ Below u.heap.size u w') := fun u B d cc d4 c4 h1 h2 => by
    have := same_anyZ lv lv _ _ false false d cc d4 c4 u h1.nst h2 (Nat.le_trans HSV.out (by omega)) (Nat.le_trans HSV.out (by omega))
    rw [HVL.out, (sam_iff lv lv).2 rfl] at this
    exact this.mono fun e w' q => ⟨q.1, by obtain ⟨n, hn⟩ := q.2; rw [hn]; exact drewQ _ _⟩
  have AP : Hid (∀ u B d1 k1 d2 k2, DuoW B u d1 k1 lv d2 k2 lv → Calls Try.prog 15 #[.slice d1 VL k1, .slice d2 VL k2] u fun e w' => e = .returned (.bool true) ∧ Below B u w') := fun u B d1 k1 d2 k2 h => by
    have := h.apart (by have := HSV.out; omega)
    rwa [HVL.out] at this
  have hEE : ((E : Int) != (E : Int)) = false := by simp
  clear hRE h hE hlv hVL
  go_enter Try.func5, Try.ntmps5
  go_upto_region 2 with (go_at_call 21; (with_reducible refine LE.out.mono ?_); rintro e V1 ⟨g1, rfl, hl, b⟩; have T1 := hiddenN hl; have O1 := hiddenN b; clear hl b)
  clear LE
  go_upto_region 3 with (go_at_call 22; (with_reducible refine (CO.out V1 (some ⟨g1, 0, none⟩) (len + 4) T1.out.at).mono ?_); rintro e V2 ⟨d2, c2, rfl, hw2, b⟩; have W2 := hiddenN hw2; have K2 := hiddenN b; have T2 := hiddenN (T1.out.below b); clear hw2 b)
  go_upto_region 4 with (go_at_call 22; (with_reducible refine (CO.out V2 (some ⟨g1, 0, none⟩) (len + 4) T2.out.at).mono ?_); rintro e V3 ⟨d3, c3, rfl, hw3, b⟩; have W3 := hiddenN hw3; have D3 := hiddenN (duo_of W2.out hw3 b K2.out.size (Nat.le_trans HSV.out (by omega)) (Nat.le_trans HSV.out (by omega))); have Y3 := hiddenN (W2.out.later b); have K3 := hiddenN (belowT K2.out b); have O3 := hiddenN (belowT O1.out (belowT K2.out b)); clear hw3 b)
  clear CO W2 T2 K2
  go_upto_region 5 with (go_at_call 23; (with_reducible refine (RC.out V3 O3.out).mono ?_); rintro e V4 ⟨d4, c4, rfl, hn4, b⟩; have N4 := hiddenN hn4; have W4 := hiddenN (W3.out.later b); have D4 := hiddenN (D3.out.later b); have Y4 := hiddenN (Y3.out.later b); have K4 := hiddenN (belowT K3.out b); clear hn4 b)
  clear RC W3 D3 Y3 K3 O3
  go_upto_region 7 with (first | (go_at_call 19; (with_reducible refine (SM.out V5 _ d3 c3 d4 c4 W5.out N5.out).mono ?_); rintro e V6 ⟨rfl, b⟩; have D6 := hiddenN (D5.out.later b); have K6 := hiddenN (belowT K5.out b); clear b) | (go_at_call 19; (with_reducible refine (SM.out V4 _ d2 c2 d4 c4 Y4.out N4.out).mono ?_); rintro e V5 ⟨rfl, b⟩; have N5 := hiddenN ((N4.out.below b).mono (G := (· < V5.heap.size)) fun k hk => Nat.lt_of_lt_of_le hk b.size); have W5 := hiddenN (W4.out.later b); have D5 := hiddenN (D4.out.later b); have K5 := hiddenN (belowT K4.out b); clear b))
  clear SM W4 D4 Y4 K4 N4 N5 W5 D5 K5
  go_wp2_with (first | (go_at_call 24; (with_reducible refine (KP.out V9 g1 T9.out O9.out).mono ?_); rintro e V10 ⟨rfl, b⟩; have O10 := hiddenN (belowT O9.out b); clear b) | (go_at_call 15; (with_reducible refine (AP.out V8 _ d2 c2 d3 c3 D8.out).mono ?_); rintro e V9 ⟨rfl, b⟩; have T9 := hiddenN (T1.out.below (K8.out.trans b)); have O9 := hiddenN (belowT O1.out (K8.out.trans b)); clear b) | (go_at_call 20; (with_reducible refine (awakeL_any V6).mono ?_); rintro e V8 ⟨rfl, b⟩; have D8 := hiddenN (D6.out.later b); have K8 := hiddenN (belowT K6.out b); clear b))
  rw [← HRE.out]
  exact ⟨by first | rfl | simp, O10.out⟩
end Go.Proofs.Ytmeogapffdgjlaa

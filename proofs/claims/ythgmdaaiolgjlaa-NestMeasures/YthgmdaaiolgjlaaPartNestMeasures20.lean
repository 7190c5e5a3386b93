/- Texts of one chain, laid one behind the other. -/
import Derived.Test.YthgmdaaiolgjlaaPartNestMeasures12
import Derived.Test.YthgmdaaiolgjlaaPartNestMeasures19
import Derived.Deep.QuietTactic
import Derived.BigQuiet
namespace Go.Proofs.Ythgmdaaiolgjlaa
open Go.ChangeShapes Go.WideShapes Go.ChangeAt Go.RowKit
theorem NstR.drew {F : Nat → Prop} {m : Bool} {w : World} {b o : Nat} {l : List Lp} (h : NstR F m w b o l) (n : Nat) : NstR F m (w.drewN n) b o l := NstR.keep (w := w) (w' := w.drewN n) (fun _ _ => rfl) _ _ _ h
theorem NsK.drew {F : Nat → Prop} {m : Bool} {w : World} {a : Option Addr} {k : Nat} {l : List Lp} (h : NsK F m w a k l) (n : Nat) : NsK F m (w.drewN n) a k l := h.keep (fun _ _ => rfl)
theorem Nst.drew {F : Nat → Prop} {m : Bool} {w : World} {a : Option Addr} {l : List Lp} (h : Nst F m w a l) (n : Nat) : Nst F m (w.drewN n) a l := h.keep (fun _ _ => rfl)
def KptOK (l : List Lp) : Prop := ∀ (F G : Nat → Prop) (m : Bool) (b o c : Nat) (a2 : Option Addr) (c2 : Nat) (w : World), NstR F true w b o l → l.length + 1 ≤ c → Nst G m w a2 l → sizZ l ≤ 1000000 → Calls Try.prog 14 #[.slice (some ⟨b, o, none⟩) l.length c, .slice a2 l.length c2] w fun e w' => e = .returned (.bool true) ∧ ∃ n, w' = w.drewN n
set_option maxRecDepth 100000 in
set_option maxHeartbeats 16000000 in
theorem keptZ_any (l : List Lp) : KptOK l := by
  refine nest_ind (fun l ih => ?_) l
  intro F G m b o c a2 c2 w h1 hc h2 hs
  obtain ⟨RE, hRE⟩ : ∃ Q : Ending → World → Prop, (fun e w' => e = .returned (.bool true) ∧ ∃ n, w' = w.drewN n) = Q := ⟨_, rfl⟩
  rw [hRE]
  have HRE := hiddenN hRE
  have IH := hiddenN ih
  have HSZ := hiddenN hs
  obtain ⟨L, hL⟩ : ∃ L, l.length = L := ⟨_, rfl⟩
  have hLm : L ≤ 1000000 := by have := len_siz l; omega
  have hLI : (L : Int) ≤ 1000000 := by omega
  have HL := hiddenN hL
  have N1 : Hid (NstR F true w b (o + 0 * 3) l) := by show NstR _ _ _ _ _ _; rw [Nat.zero_mul]; exact h1
  have N2 := hiddenN (NsK.start h2)
  rw [hL] at hc ⊢
  have hcI : (L : Int) + 1 ≤ (c : Int) := by omega
  have hee : ((L : Int) != (L : Int)) = false := by simp
  clear hRE ih h1 h2 hL hs
  go_enter Try.func14, Try.ntmps14
  go_upto_region 4 with fail
  go_loopg [5] L (fun gk iv wr => ∃ (pre rest : List Lp) (k nn : Nat), l = pre ++ rest ∧ pre.length = k ∧ gk = rest.length ∧ iv = .int .i64 (k : Int) ∧ NstR F true wr b (o + k * 3) rest ∧ NsK G m wr a2 k rest ∧ wr = w.drewN nn)
  case atStart => exact ⟨[], l, 0, 0, rfl, rfl, HL.out.symm, rfl, N1.out, N2.out, rfl⟩
  case round =>
    clear N1 N2
    obtain ⟨pre, rest, k, nn, hl, hk, hgk, rfl, hN1, hN2, hw⟩ := hrel
    subst hgk
    have HL2 := hiddenN hl
    have HPK := hiddenN hk
    have HN1 := hiddenN hN1
    have HN2 := hiddenN hN2
    have HW := hiddenN hw
    have HLK : Hid (L = k + rest.length) := by show _ = _; rw [← HL.out, hl, List.length_append, hk]
    clear hl hk hN1 hN2 hw
    cases rest with
    | nil =>
      have hki : ¬ ((k : Int) < (L : Int)) := by rw [HLK.out]; simp
      have ek : L = k := by have := HLK.out; simpa using this
      have z0 := (nst_nil.1 HN1.out rfl).2
      subst ek
      have hLc : L < L + 1 := Nat.lt_succ_self _
      go_wp2
      rw [← HRE.out]
      exact ⟨rfl, nn, HW.out⟩
    | cons x r =>
      have hki : (k : Int) < (L : Int) := by rw [HLK.out]; simp; omega
      have hkL : k < L := by rw [HLK.out]; simp
      have hkm : (k : Int) ≤ 1000000 := by omega
      obtain ⟨q0, q1, a1, c1, q2, q3⟩ := HN1.out.hd
      have hcap := (nst_cons.1 HN1.out).2.2.2.1
      obtain ⟨bb, oo, a3, c3, rfl, p0, p1, p2, p3⟩ := HN2.out.hd
      have hmem : x ∈ l := by rw [HL2.out]; exact List.mem_append_right _ (List.mem_cons_self ..)
      have hsx := siz_mem hmem
      have HT1 : Hid (∀ n, NstR F true (wr.drewN n) b (o + (k + 1) * 3) r) := fun n => HN1.out.tl.drew n
      have HT2 : Hid (∀ n, NsK G m (wr.drewN n) (some ⟨bb, oo, none⟩) (k + 1) r) := fun n => HN2.out.tl.drew n
      have KX : Hid (x.body ≠ [] → ∀ n, Calls Try.prog 14 #[.slice a1 x.body.length c1, .slice a3 x.body.length c3] (wr.drewN n) fun e w' => e = .returned (.bool true) ∧ ∃ k, w' = (wr.drewN n).drewN k) := fun hne n => by
        obtain ⟨a4, c4, e4, h4⟩ := hcap
        rw [q2] at e4
        cases e4
        rcases h4 with h4 | ⟨b', o', e5, h5, h6⟩
        · exact absurd h4 hne
        · subst e5
          exact IH.out x hmem F G m b' o' c1 a3 c3 _ (h6.drew n) (h5 rfl) (p3.drew n) (by have := HSZ.out; omega)
      obtain ⟨L1, hL1⟩ : ∃ q, x.body.length = q := ⟨_, rfl⟩
      obtain ⟨tx, htx⟩ : ∃ q, x.times = q := ⟨_, rfl⟩
      obtain ⟨nx, hnx⟩ : ∃ q, x.node = q := ⟨_, rfl⟩
      have HNE : Hid (L1 ≠ 0 → x.body ≠ []) := fun h e => h (by rw [← hL1, e]; rfl)
      rw [htx] at q0 p0
      rw [hnx] at q1 p1
      rw [hL1] at q2 p2 KX
      have e0 : (tx != tx) = false := by simp
      have e1 : (nx != nx) = false := by simp
      have e2 : ((L1 : Int) != (L1 : Int)) = false := by simp
      clear q3 p3 hcap hmem hsx htx hnx hL1 HN1 HN2
      go_upto_region 6 with fail
      go_quiet (fail)
      have HW2 : Hid (∃ n, wr.drewN nq = w.drewN n) := ⟨nn + nq, by rw [HW.out, World.drewN_drewN]⟩
      have HT1b : Hid (∀ n, NstR F true ((wr.drewN nq).drewN n) b (o + (k + 1) * 3) r) := fun n => (HT1.out nq).drew n
      have HT2b : Hid (∀ n, NsK G m ((wr.drewN nq).drewN n) (some ⟨bb, oo, none⟩) (k + 1) r) := fun n => (HT2.out nq).drew n
      have q0b : (wr.drewN nq).cell? ⟨b, o + k * 3, none⟩ = some (.int .i64 tx) := q0
      have q2b : (wr.drewN nq).cell? ⟨b, o + k * 3 + 2, none⟩ = some (.slice a1 L1 c1) := q2
      have p2b : (wr.drewN nq).cell? ⟨bb, oo + k * 3 + 2, none⟩ = some (.slice a3 L1 c3) := p2
      have KXb : Hid (L1 ≠ 0 → ∀ n, Calls Try.prog 14 #[.slice a1 L1 c1, .slice a3 L1 c3] ((wr.drewN nq).drewN n) fun e w' => e = .returned (.bool true) ∧ ∃ k, w' = ((wr.drewN nq).drewN n).drewN k) := fun h n => by
        have := KX.out (HNE.out h) (nq + n)
        rwa [← World.drewN_drewN] at this
      clear q0 q1 q2 p0 p1 p2 HT1 HT2 KX HW
      generalize wr.drewN nq = W1 at *
      by_cases hz : L1 = 0
      · subst hz
        go_upto_region 8 with fail
        go_quiet (fail)
        obtain ⟨n1, hn1⟩ := HW2.out
        have HW3 : Hid (W1.drewN nq = w.drewN (n1 + nq)) := by show _ = _; rw [hn1, World.drewN_drewN]
        have T1 := hiddenN (HT1b.out nq)
        have T2 := hiddenN (HT2b.out nq)
        clear hn1 q0b q2b p2b HT1b HT2b HW2 KXb
        generalize W1.drewN nq = W2 at *
        go_wp2
        go_roundg r.length
        case measure => simp
        case rel => exact ⟨pre ++ [x], r, k + 1, n1 + nq, by rw [HL2.out]; simp, by rw [List.length_append, HPK.out]; rfl, rfl, by go_num, T1.out, T2.out, HW3.out⟩
      · have hzI : (L1 : Int) > 0 := by omega
        have hzn : 0 < L1 := by omega
        have hzz : decide (0 < L1) = true := by simpa using hzn
        go_upto_region 8 with fail
        go_quiet (first | (go_at_call 14; (with_reducible refine Calls.quiet_of (KXb.out hz _))))
        obtain ⟨n1, hn1⟩ := HW2.out
        have HW3 : Hid (W1.drewN nq = w.drewN (n1 + nq)) := by show _ = _; rw [hn1, World.drewN_drewN]
        have T1 := hiddenN (HT1b.out nq)
        have T2 := hiddenN (HT2b.out nq)
        clear hn1 q0b q2b p2b HT1b HT2b HW2 KXb
        generalize W1.drewN nq = W2 at *
        go_wp2
        go_roundg r.length
        case measure => simp
        case rel => exact ⟨pre ++ [x], r, k + 1, n1 + nq, by rw [HL2.out]; simp, by rw [List.length_append, HPK.out]; rfl, rfl, by go_num, T1.out, T2.out, HW3.out⟩
theorem tdivZ (n : Nat) : (2048 : Int).tdiv (n : Int) = ((2048 / n : Nat) : Int) := by simpa using (Int.ofNat_tdiv 2048 n).symm
theorem div_fact (n : Nat) : ∃ q, Hid (2048 / n = q) ∧ Hid ((2048 : Int).tdiv (n : Int) = (q : Int)) ∧ q ≤ 2048 := ⟨2048 / n, rfl, tdivZ n, Nat.div_le_self _ _⟩
def TotOK (l : List Lp) : Prop := ∀ (B : Nat) (m : Bool) (a : Option Addr) (c : Nat) (w : World), Nst (· < B) m w a l → B ≤ w.heap.size → posZ l → sizZ l ≤ 1000000 → Calls Try.prog 28 #[.slice a l.length c] w fun e w' => e = .returned (.int .i64 ((min (totZ l) 2049 : Nat) : Int)) ∧ Below w.heap.size w w'
set_option maxRecDepth 100000 in
set_option maxHeartbeats 16000000 in
theorem totalZ_any (l : List Lp) : TotOK l := by
  refine nest_ind (fun l ih => ?_) l
  intro B m a c w hN hBs hp hs
  obtain ⟨RE, hRE⟩ : ∃ Q : Ending → World → Prop, (fun e w' => e = .returned (.int .i64 ((min (totZ l) 2049 : Nat) : Int)) ∧ Below w.heap.size w w') = Q := ⟨_, rfl⟩
  rw [hRE]
  have HRE := hiddenN hRE
  have IH := hiddenN ih
  have HP := hiddenN hp
  have HSZ := hiddenN hs
  have N0 := hiddenN (NsK.start hN)
  obtain ⟨L, hL⟩ : ∃ L, l.length = L := ⟨_, rfl⟩
  have HL := hiddenN hL
  have hLm : L ≤ 1000000 := by have := len_siz l; omega
  have hLI : (L : Int) ≤ 1000000 := by omega
  rw [hL]
  clear hRE ih hN hL hp hs
  go_enter Try.func28, Try.ntmps28
  go_upto_region 3 with fail
  go_loopg [3, 4] L (fun gk nv iv wr => ∃ (pre rest : List Lp) (k nn : Nat), l = pre ++ rest ∧ pre.length = k ∧ gk = rest.length ∧ iv = .int .i64 (k : Int) ∧ nv = .int .i64 (nn : Int) ∧ totZ pre = nn ∧ nn ≤ 2048 ∧ NsK (· < B) m wr a k rest ∧ Below w.heap.size w wr)
  case atStart => exact ⟨[], l, 0, 0, rfl, rfl, HL.out.symm, rfl, rfl, tot_nil, by decide, N0.out, Below.refl _ _⟩
  case round =>
    clear N0
    obtain ⟨pre, rest, k, nn, hl, hk, hgk, rfl, rfl, hT, hn8, hNs, hb⟩ := hrel
    subst hgk
    have NS := hiddenN hNs
    have HB := hiddenN hb
    have HL2 := hiddenN hl
    have HTT := hiddenN hT
    have HPK := hiddenN hk
    have HLK : Hid (L = k + rest.length) := by show _ = _; rw [← HL.out, hl, List.length_append, hk]
    have hnI : (nn : Int) ≤ 2048 := by omega
    clear hNs hb hl hT hk
    cases rest with
    | nil =>
      have hki : ¬ ((k : Int) < (L : Int)) := by rw [HLK.out]; simp
      go_wp2
      rw [← HRE.out]
      have e1 : pre = l := by rw [HL2.out, List.append_nil]
      refine ⟨?_, HB.out⟩
      have h1 := HTT.out
      rw [e1] at h1
      rw [h1, Nat.min_eq_left (by omega)]
    | cons x r =>
      have hki : (k : Int) < (L : Int) := by rw [HLK.out]; simp; omega
      have hkL : k < L := by rw [HLK.out]; simp
      have hkm : (k : Int) ≤ 1000000 := by omega
      obtain ⟨b, o, a1, c1, rfl, c0, q1, q2, q3⟩ := NS.out.hd
      have hmem : x ∈ l := by rw [HL2.out]; exact List.mem_append_right _ (List.mem_cons_self ..)
      have hpx := HP.out
      rw [HL2.out, pos_app, pos_cons] at hpx
      obtain ⟨-, ht1, -, hpb, -⟩ := hpx
      have hTot : totZ l = nn + (to1 x + totZ r) := by rw [HL2.out, tot_app, tot_cons, HTT.out]
      obtain ⟨tn, htn⟩ : ∃ tn : Nat, x.times = (tn : Int) := ⟨x.times.toNat, by omega⟩
      have htn1 : 1 ≤ tn := by omega
      have htx : to1 x = tn * (if x.body.isEmpty then 1 else totZ x.body) := by unfold to1; rw [htn, Int.toNat_natCast]
      rw [htn] at c0
      have hBw : B ≤ wr.heap.size := Nat.le_trans hBs HB.out.size
      by_cases hz : x.body = []
      · have hem : x.body.isEmpty = true := empty_iff.2 hz
        have hl0 : x.body.length = 0 := by rw [hz]; rfl
        rw [if_pos hem, Nat.mul_one] at htx
        rw [hl0] at q2
        have HTB : Hid (2048 < 1 → 2048 < totZ l) := fun h => absurd h (by decide)
        have HTB2 : Hid (1 ≤ 2048 → nn + tn * 1 ≤ totZ l) := fun _ => by omega
        have HPR : Hid (1 ≤ 2048 → to1 x = tn * 1) := fun _ => by omega
        have HBW := HB
        have NW := hiddenN NS.out.tl
        obtain ⟨e1, he1⟩ : ∃ q : Nat, q = 1 := ⟨_, rfl⟩
        have hE1 : 1 ≤ e1 := by omega
        have hEI : ((e1 : Nat) : Int) = 1 := by omega
        rw [← he1] at HTB HTB2 HPR
        clear q3 hmem ht1 hpb hTot htn htx hz hem hl0 NS HB q1
        go_upto_region 8 with fail
        rw [← hEI]
        clear hEI he1 q2
        by_cases hbig : 2048 < e1
        · have hbI : (e1 : Int) > 2048 := by omega
          have HR : Hid (min (totZ l) 2049 = 2049) := by show _ = _; have := HTB.out hbig; omega
          go_quiet (fail)
          have HB2 := hiddenN (drewB HBW.out nq)
          generalize wr.drewN nq = W2 at *
          go_wp2
          rw [← HRE.out]
          exact ⟨by rw [HR.out]; rfl, HB2.out⟩
        · have hbI : ¬ (e1 : Int) > 2048 := by omega
          have hbJ : decide (2048 < e1) = false := by simpa using hbig
          obtain ⟨dq, HDQ, HDV, hd8⟩ := div_fact e1
          have hwd : wrap64 (dq : Int) = (dq : Int) := wrap_fit (by omega) (by omega)
          have hne0 : ¬ ((e1 : Nat) : Int) = 0 := by omega
          have hnn0 : ¬ e1 = 0 := by omega
          by_cases hmany : dq < tn
          · have hmI : (tn : Int) > (dq : Int) := by omega
            have hmJ : decide (dq < tn) = true := by simpa using hmany
            have HR : Hid (min (totZ l) 2049 = 2049) := by
              show _ = _
              have h1 : ¬ tn ≤ 2048 / e1 := by rw [HDQ.out]; omega
              rw [Nat.le_div_iff_mul_le (by omega)] at h1
              have := HTB2.out (by omega)
              omega
            have hdv := HDV.out
            go_quiet (fail)
            have HB2 := hiddenN (drewB HBW.out nq)
            clear hdv
            generalize wr.drewN nq = W2 at *
            go_wp2
            rw [← HRE.out]
            exact ⟨by rw [HR.out]; rfl, HB2.out⟩
          · have hmI : ¬ (tn : Int) > (dq : Int) := by omega
            have hmJ : decide (dq < tn) = false := by simpa using hmany
            have hprod : tn * e1 ≤ 2048 := by
              have h1 : tn ≤ 2048 / e1 := by rw [HDQ.out]; omega
              rwa [Nat.le_div_iff_mul_le (by omega)] at h1
            have HTL := hiddenN (HTB2.out (by omega))
            have hprI : ((tn * e1 : Nat) : Int) ≤ 2048 := by omega
            have HPR2 := hiddenN (HPR.out (by omega))
            clear HPR
            have hwr : wrap64 ((tn : Int) * (e1 : Int)) = ((tn * e1 : Nat) : Int) := by
              have q : ((tn * e1 : Nat) : Int) = (tn : Int) * (e1 : Int) := Int.natCast_mul ..
              rw [← q]
              exact wrap_fit (by omega) (by omega)
            clear HTB2 HTB
            generalize tn * e1 = pr at *
            have HWR : Hid (Value.int .i64 (wrap64 ((tn : Int) * (e1 : Int))) = Value.int .i64 (pr : Int)) := congrArg _ hwr
            clear hwr
            have hdv := HDV.out
            go_quiet (fail)
            clear hdv
            have HB2 := hiddenN (drewB HBW.out nq)
            have c02 : (wr.drewN nq).cell? ⟨b, o + k * 3, none⟩ = some (.int .i64 (tn : Int)) := c0
            have NW2 := hiddenN (NW.out.keep (w' := wr.drewN nq) (fun _ _ => rfl))
            clear c0 NW
            generalize wr.drewN nq = W2 at *
            clear hwd hd8 hmI hmJ hbI hbJ hne0 hnn0 hbig hmany hprod HDQ HDV
            by_cases hsum : 2048 < nn + pr
            · have hsI : (nn : Int) + (pr : Int) > 2048 := by omega
              have HR : Hid (min (totZ l) 2049 = 2049) := by show _ = _; have := HTL.out; omega
              have hwr := HWR.out
              go_wp2
              rw [← HRE.out]
              exact ⟨by rw [HR.out]; rfl, HB2.out⟩
            · have hsI : ¬ (nn : Int) + (pr : Int) > 2048 := by omega
              have hwr := HWR.out
              go_wp2
              clear hwr
              go_roundg r.length
              case measure => simp
              case rel => exact ⟨pre ++ [x], r, k + 1, nn + pr, by rw [HL2.out]; simp, by rw [List.length_append, HPK.out]; rfl, rfl, by go_num, by first | rfl | go_num, by rw [tot_snoc, HTT.out, HPR2.out], by omega, NW2.out, HB2.out⟩
      · have hem : ¬ x.body.isEmpty = true := fun e => hz (empty_iff.1 e)
        rw [if_neg hem] at htx
        have hsx := siz_mem hmem
        have hpt := pos_tot hpb hz
        have TX : Hid (Calls Try.prog 28 #[.slice a1 x.body.length c1] wr fun e w' => e = .returned (.int .i64 ((min (totZ x.body) 2049 : Nat) : Int)) ∧ Below wr.heap.size wr w') := IH.out x hmem B m a1 c1 wr q3 hBw hpb (by have := HSZ.out; omega)
        obtain ⟨e1, he1⟩ : ∃ q, min (totZ x.body) 2049 = q := ⟨_, rfl⟩
        rw [he1] at TX
        have hE1 : 1 ≤ e1 := by omega
        have hE9 : e1 ≤ 2049 := by omega
        have hEI9 : (e1 : Int) ≤ 2049 := by omega
        have hge : totZ x.body ≤ tn * totZ x.body := Nat.le_mul_of_pos_left _ htn1
        have HTB : Hid (2048 < e1 → 2048 < totZ l) := fun h => by omega
        have HTB2 : Hid (e1 ≤ 2048 → nn + tn * e1 ≤ totZ l) := fun h => by
          have : totZ x.body = e1 := by omega
          rw [this] at htx
          omega
        have HPR : Hid (e1 ≤ 2048 → to1 x = tn * e1) := fun h => by
          have : totZ x.body = e1 := by omega
          rw [this] at htx
          exact htx
        obtain ⟨L1, hL1⟩ : ∃ q, x.body.length = q := ⟨_, rfl⟩
        have hl0 : L1 ≠ 0 := fun e => hz (List.eq_nil_of_length_eq_zero (hL1.trans e))
        have hlI : (L1 : Int) > 0 := by omega
        rw [hL1] at q2 TX
        have NW0 := hiddenN NS.out.tl
        have HBW0 := hiddenN hBw
        clear q3 hmem ht1 hpb hTot htn htx hz hem hsx hpt hge he1 hL1 NS q1 hBw
        go_upto_region 8 with (go_at_call 28; (with_reducible refine TX.out.mono ?_); rintro e W1 ⟨rfl, b1⟩; have HBW := hiddenN (HB.out.trans (b1.mono HB.out.size)); have NW := hiddenN (NW0.out.below (b1.mono HBW0.out)); have c0b := cellN_later b1 c0; clear b1)
        clear c0
        have c0 := c0b
        clear c0b q2 HB NW0
        by_cases hbig : 2048 < e1
        · have hbI : (e1 : Int) > 2048 := by omega
          have HR : Hid (min (totZ l) 2049 = 2049) := by show _ = _; have := HTB.out hbig; omega
          go_quiet (fail)
          have HB2 := hiddenN (drewB HBW.out nq)
          generalize W1.drewN nq = W2 at *
          go_wp2
          rw [← HRE.out]
          exact ⟨by rw [HR.out]; rfl, HB2.out⟩
        · have hbI : ¬ (e1 : Int) > 2048 := by omega
          have hbJ : decide (2048 < e1) = false := by simpa using hbig
          obtain ⟨dq, HDQ, HDV, hd8⟩ := div_fact e1
          have hwd : wrap64 (dq : Int) = (dq : Int) := wrap_fit (by omega) (by omega)
          have hne0 : ¬ ((e1 : Nat) : Int) = 0 := by omega
          have hnn0 : ¬ e1 = 0 := by omega
          by_cases hmany : dq < tn
          · have hmI : (tn : Int) > (dq : Int) := by omega
            have hmJ : decide (dq < tn) = true := by simpa using hmany
            have HR : Hid (min (totZ l) 2049 = 2049) := by
              show _ = _
              have h1 : ¬ tn ≤ 2048 / e1 := by rw [HDQ.out]; omega
              rw [Nat.le_div_iff_mul_le (by omega)] at h1
              have := HTB2.out (by omega)
              omega
            have hdv := HDV.out
            go_quiet (fail)
            have HB2 := hiddenN (drewB HBW.out nq)
            clear hdv
            generalize W1.drewN nq = W2 at *
            go_wp2
            rw [← HRE.out]
            exact ⟨by rw [HR.out]; rfl, HB2.out⟩
          · have hmI : ¬ (tn : Int) > (dq : Int) := by omega
            have hmJ : decide (dq < tn) = false := by simpa using hmany
            have hprod : tn * e1 ≤ 2048 := by
              have h1 : tn ≤ 2048 / e1 := by rw [HDQ.out]; omega
              rwa [Nat.le_div_iff_mul_le (by omega)] at h1
            have HTL := hiddenN (HTB2.out (by omega))
            have hprI : ((tn * e1 : Nat) : Int) ≤ 2048 := by omega
            have HPR2 := hiddenN (HPR.out (by omega))
            clear HPR
            have hwr : wrap64 ((tn : Int) * (e1 : Int)) = ((tn * e1 : Nat) : Int) := by
              have q : ((tn * e1 : Nat) : Int) = (tn : Int) * (e1 : Int) := Int.natCast_mul ..
              rw [← q]
              exact wrap_fit (by omega) (by omega)
            clear HTB2 HTB
            generalize tn * e1 = pr at *
            have HWR : Hid (Value.int .i64 (wrap64 ((tn : Int) * (e1 : Int))) = Value.int .i64 (pr : Int)) := congrArg _ hwr
            clear hwr
            have hdv := HDV.out
            go_quiet (fail)
            clear hdv
            have HB2 := hiddenN (drewB HBW.out nq)
            have c02 : (W1.drewN nq).cell? ⟨b, o + k * 3, none⟩ = some (.int .i64 (tn : Int)) := c0
            have NW2 := hiddenN (NW.out.keep (w' := W1.drewN nq) (fun _ _ => rfl))
            clear c0 NW
            generalize W1.drewN nq = W2 at *
            clear hwd hd8 hmI hmJ hbI hbJ hne0 hnn0 hbig hmany hprod HDQ HDV
            by_cases hsum : 2048 < nn + pr
            · have hsI : (nn : Int) + (pr : Int) > 2048 := by omega
              have HR : Hid (min (totZ l) 2049 = 2049) := by show _ = _; have := HTL.out; omega
              have hwr := HWR.out
              go_wp2
              rw [← HRE.out]
              exact ⟨by rw [HR.out]; rfl, HB2.out⟩
            · have hsI : ¬ (nn : Int) + (pr : Int) > 2048 := by omega
              have hwr := HWR.out
              go_wp2
              clear hwr
              go_roundg r.length
              case measure => simp
              case rel => exact ⟨pre ++ [x], r, k + 1, nn + pr, by rw [HL2.out]; simp, by rw [List.length_append, HPK.out]; rfl, rfl, by go_num, by first | rfl | go_num, by rw [tot_snoc, HTT.out, HPR2.out], by omega, NW2.out, HB2.out⟩
set_option maxRecDepth 100000 in
theorem rcheckZ_any (l : List Lp) (m : Bool) (a : Option Addr) (c : Nat) (w : World) (hN : Nst (· < w.heap.size) m w a l) (hs : sizZ l ≤ 1000000) :
    Calls Try.prog 13 #[.slice a l.length c] w fun e w' => e = .returned (.int .i64 (chkZ l : Int)) ∧ Below w.heap.size w w' := by
  have FX : Hid (Calls Try.prog 27 #[.slice a l.length c, .int .i64 0, .int .i64 0] w (FndE l 0 0 w)) := findZ_any l w.heap.size m a c 0 0 w hN (Nat.le_refl _) (by decide) (by decide)
  unfold FndE at FX
  have TX : Hid (errZ 0 0 l = 0 → ∀ u, Below w.heap.size w u → Calls Try.prog 28 #[.slice a l.length c] u fun e w' => e = .returned (.int .i64 ((min (totZ l) 2049 : Nat) : Int)) ∧ Below u.heap.size u w') := fun he u hu => totalZ_any l w.heap.size m a c u (hN.below hu) hu.size (err_pos _ _ _ he) hs
  obtain ⟨E, hE⟩ : ∃ q, errZ 0 0 l = q := ⟨_, rfl⟩
  rw [hE] at FX TX
  have HE := hiddenN hE
  generalize l.length = L at *
  clear hN hE hs
  by_cases he : E = 0
  · subst he
    have TX1 := hiddenN (TX.out rfl)
    obtain ⟨T, hT⟩ : ∃ q, min (totZ l) 2049 = q := ⟨_, rfl⟩
    rw [hT] at TX1
    have HT := hiddenN hT
    clear TX hT
    go_enter Try.func13, Try.ntmps13
    go_wp2_with (first
      | (go_at_call 27; (with_reducible refine FX.out.mono ?_); rintro e W1 ⟨y, rfl, -, b1⟩; have B1 := hiddenN b1; clear b1)
      | (go_at_call 28; (with_reducible refine (TX1.out W1 B1.out).mono ?_); rintro e W2 ⟨rfl, b2⟩; have B2 := hiddenN (B1.out.trans (b2.mono B1.out.size)); clear b2))
    · go_ret
      have h1 : 2048 < T := by omega
      have e0 : chkZ l = 5 := by unfold chkZ; rw [HE.out, if_neg (by decide), if_pos (by have := HT.out; omega)]
      exact ⟨by rw [e0]; rfl, B2.out⟩
    · go_ret
      have h1 : T ≤ 2048 := by omega
      have e0 : chkZ l = 0 := by unfold chkZ; rw [HE.out, if_neg (by decide), if_neg (by have := HT.out; omega)]
      exact ⟨by rw [e0]; rfl, B2.out⟩
  · have hb : ((E : Int) != 0) = true := by simpa using he
    clear TX
    go_enter Try.func13, Try.ntmps13
    go_wp2_with (go_at_call 27; (with_reducible refine FX.out.mono ?_); rintro e W1 ⟨y, rfl, -, b1⟩; have B1 := hiddenN b1; clear b1)
    go_ret
    have e0 : chkZ l = E := by unfold chkZ; rw [HE.out, if_pos he]
    exact ⟨by rw [e0]; rfl, B1.out⟩
theorem dep_app (l m : List Lp) : depZ (l ++ m) = max (depZ l) (depZ m) := by
  induction l with
  | nil => rw [dep_nil]; simp
  | cons x l ih => rw [List.cons_append, dep_cons, dep_cons, ih]; omega
def de1 (x : Lp) : Nat := if x.body.isEmpty then 0 else depZ x.body + 1
theorem dep_snoc (l : List Lp) (x : Lp) : depZ (l ++ [x]) = max (depZ l) (de1 x) := by rw [dep_app, dep_cons, dep_nil]; unfold de1; omega
theorem dep_siz : ∀ (l : List Lp), depZ l ≤ sizZ l := by
  refine nest_one (by rw [dep_nil]; omega) fun x r hb hr => ?_
  rw [dep_cons, siz_cons]
  split <;> omega
def SzsOK (l : List Lp) : Prop := ∀ (B : Nat) (m : Bool) (a : Option Addr) (c : Nat) (w : World), Nst (· < B) m w a l → B ≤ w.heap.size → posZ l → totZ l ≤ 2048 → sizZ l ≤ 1000000 → Calls Try.prog 30 #[.slice a l.length c] w fun e w' => e = .returned (.agg #[.int .i64 (lvsZ l : Int), .int .i64 (hdsZ l : Int), .int .i64 (depZ l : Int), .int .i64 (totZ l : Int)]) ∧ Below w.heap.size w w'
set_option maxRecDepth 100000 in
set_option maxHeartbeats 16000000 in
theorem sizeZ_any (l : List Lp) : SzsOK l := by
  refine nest_ind (fun l ih => ?_) l
  intro B m a c w hN hBs hp ht hs
  obtain ⟨RE, hRE⟩ : ∃ Q : Ending → World → Prop, (fun e w' => e = .returned (.agg #[.int .i64 (lvsZ l : Int), .int .i64 (hdsZ l : Int), .int .i64 (depZ l : Int), .int .i64 (totZ l : Int)]) ∧ Below w.heap.size w w') = Q := ⟨_, rfl⟩
  rw [hRE]
  have HRE := hiddenN hRE
  have IH := hiddenN ih
  have HP := hiddenN hp
  have HSZ := hiddenN hs
  have HTL := hiddenN ht
  obtain ⟨L, hL⟩ : ∃ L, l.length = L := ⟨_, rfl⟩
  have HL := hiddenN hL
  have hLm : L ≤ 1000000 := by have := len_siz l; omega
  have hLI : (L : Int) ≤ 1000000 := by omega
  have b0 := (Below.refl w.heap.size w).alloc (Nat.le_refl _) (.cells #[.int .i64 0, .int .i64 0, .int .i64 0, .int .i64 0] 31)
  have b1 := b0.alloc b0.size (.cells #[.int .i64 0, .int .i64 0, .int .i64 0, .int .i64 0] 31)
  have hz : (w.alloc (.cells #[.int .i64 0, .int .i64 0, .int .i64 0, .int .i64 0] 31)).heap.size = w.heap.size + 1 := World.size_alloc _ _
  have x1 := blkA_new 31 (w.alloc (.cells #[.int .i64 0, .int .i64 0, .int .i64 0, .int .i64 0] 31)) #[.int .i64 0, .int .i64 0, .int .i64 0, .int .i64 0]
  have x0 := (blkA_new 31 w #[.int .i64 0, .int .i64 0, .int .i64 0, .int .i64 0]).below ((Below.refl _ _).alloc (Nat.le_refl _) (.cells #[.int .i64 0, .int .i64 0, .int .i64 0, .int .i64 0] 31))
  rw [hz] at x1
  have XR0 := hiddenN x0
  have XS0 := hiddenN x1
  have B0 := hiddenN b1
  have N0 := hiddenN (NsK.start (hN.below (b1.mono hBs)))
  rw [hL]
  clear hRE ih hN hL hp hs ht b0 b1 hz x0 x1
  go_enter Try.func30, Try.ntmps30
  go_upto_region 3 with fail
  generalize (w.alloc (.cells #[.int .i64 0, .int .i64 0, .int .i64 0, .int .i64 0] 31)).alloc (.cells #[.int .i64 0, .int .i64 0, .int .i64 0, .int .i64 0] 31) = W0 at *
  obtain ⟨rb, hrb⟩ : ∃ q, w.heap.size = q := ⟨_, rfl⟩
  have HRB := hiddenN hrb
  rw [hrb] at XR0 XS0 B0 hBs ⊢
  obtain ⟨sb, hsb⟩ : ∃ q, rb + 1 = q := ⟨_, rfl⟩
  rw [hsb] at XS0 ⊢
  have hrs : rb < sb := by omega
  clear hrb hsb
  go_loopg [4] L (fun gk iv wr => ∃ (pre rest : List Lp) (k f h dp tt : Nat), l = pre ++ rest ∧ pre.length = k ∧ gk = rest.length ∧ iv = .int .i64 (k : Int) ∧ lvsZ pre = f ∧ hdsZ pre = h ∧ depZ pre = dp ∧ totZ pre = tt ∧ BlkA 31 sb wr #[.int .i64 (f : Int), .int .i64 (h : Int), .int .i64 (dp : Int), .int .i64 (tt : Int)] ∧ But sb W0 wr ∧ NsK (· < B) m wr a k rest)
  case atStart => exact ⟨[], l, 0, 0, 0, 0, 0, rfl, rfl, HL.out.symm, rfl, lvs_nil, hds_nil, dep_nil, tot_nil, XS0.out, But.of_below (Below.refl _ _), N0.out⟩
  case round =>
    clear N0 XS0
    obtain ⟨pre, rest, k, f, h, dp, tt, hl, hk, hgk, rfl, h1, h2, h3, h4, hX, hU, hNs⟩ := hrel
    subst hgk
    have NS := hiddenN hNs
    have HL2 := hiddenN hl
    have HPK := hiddenN hk
    have HF := hiddenN h1
    have HH := hiddenN h2
    have HD := hiddenN h3
    have HT := hiddenN h4
    have XS := hiddenN hX
    have HU := hiddenN hU
    have HLK : Hid (L = k + rest.length) := by show _ = _; rw [← HL.out, hl, List.length_append, hk]
    have hbd : f + h + dp ≤ 4000000 ∧ tt ≤ 2048 := by
      have q1 := siz_app pre rest
      have q2 := lvs_siz pre
      have q3 := hds_siz pre
      have q4 := dep_siz pre
      have q5 := tot_app pre rest
      have q6 := HSZ.out
      have q7 := HTL.out
      rw [hl] at q6 q7
      omega
    have hfI : (f : Int) ≤ 4000000 := by omega
    have hhI : (h : Int) ≤ 4000000 := by omega
    have hdI : (dp : Int) ≤ 4000000 := by omega
    have htI : (tt : Int) ≤ 2048 := by omega
    have hsw : sb < wr.heap.size := hX.lt
    have hW0 : W0.heap.size ≤ wr.heap.size := hU.size
    clear hNs hl hk h1 h2 h3 h4 hX hU
    cases rest with
    | nil =>
      have hki : ¬ ((k : Int) < (L : Int)) := by rw [HLK.out]; simp
      have e1 : pre = l := by rw [HL2.out, List.append_nil]
      rw [e1] at HF HH HD HT
      have XR := hiddenN (HU.out.keepB XR0.out (by omega))
      have s0 := XS.out.cell (k := 0) rfl
      have s1 := XS.out.cell (k := 1) rfl
      have s2 := XS.out.cell (k := 2) rfl
      have s3 := XS.out.cell (k := 3) rfl
      simp only [List.getElem_toArray, List.getElem_cons_zero, List.getElem_cons_succ] at s0 s1 s2 s3
      have r0 := XR.out.cell (k := 0) rfl
      have r1 := XR.out.cell (k := 1) rfl
      have r2 := XR.out.cell (k := 2) rfl
      have r3 := XR.out.cell (k := 3) rfl
      simp only [List.getElem_toArray, List.getElem_cons_zero, List.getElem_cons_succ] at r0 r1 r2 r3
      have f0 := XR.out.frozen 0
      have f1 := XR.out.frozen 1
      have f2 := XR.out.frozen 2
      have f3 := XR.out.frozen 3
      go_wp2
      refine bodyPost_ret (v := .agg #[.int .i64 (f : Int), .int .i64 (h : Int), .int .i64 (dp : Int), .int .i64 (tt : Int)]) (by simp [results, Try.results30, go_sem, r0, r1, r2, r3]) rfl ?_
      rw [← HRE.out]
      refine ⟨by rw [HF.out, HH.out, HD.out, HT.out], ?_⟩
      rw [HRB.out]
      have q9 := B0.out.size
      rw [HRB.out] at q9
      exact below_set4 (B0.out.trans (HU.out.below (Nat.le_of_lt hrs) q9)) (Nat.le_refl _) _ _ _ _
    | cons x r =>
      have hki : (k : Int) < (L : Int) := by rw [HLK.out]; simp; omega
      have hkL : k < L := by rw [HLK.out]; simp
      have hkm : (k : Int) ≤ 1000000 := by omega
      obtain ⟨b, o, a1, c1, rfl, q0, q1, q2, q3⟩ := NS.out.hd
      have hmem : x ∈ l := by rw [HL2.out]; exact List.mem_append_right _ (List.mem_cons_self ..)
      have hpx := HP.out
      rw [HL2.out, pos_app, pos_cons] at hpx
      obtain ⟨-, ht1, -, hpb, -⟩ := hpx
      obtain ⟨tn, htn⟩ : ∃ tn : Nat, x.times = (tn : Int) := ⟨x.times.toNat, by omega⟩
      have htn1 : 1 ≤ tn := by omega
      have hto : tt + to1 x ≤ 2048 := by
        have q5 := tot_app pre (x :: r)
        have q7 := HTL.out
        rw [HL2.out, q5, tot_cons, HT.out] at q7
        omega
      have hsx := siz_mem hmem
      obtain ⟨L1, hL1⟩ : ∃ q, x.body.length = q := ⟨_, rfl⟩
      obtain ⟨nx, hnx⟩ : ∃ q, x.node = q := ⟨_, rfl⟩
      rw [htn] at q0
      rw [hnx] at q1
      rw [hL1] at q2
      have b1 := (Below.refl wr.heap.size wr).alloc (Nat.le_refl _) (.cells #[.int .i64 (tn : Int), .int .i64 nx, .slice a1 L1 c1] 47)
      have XX1 := hiddenN (blkA_new 47 wr #[.int .i64 (tn : Int), .int .i64 nx, .slice a1 L1 c1])
      have XS1 := hiddenN (XS.out.below b1)
      have U1 := hiddenN (HU.out.trans (But.of_below b1))
      have hBw : B ≤ W0.heap.size := by have q := B0.out.size; rw [HRB.out] at q; exact Nat.le_trans hBs q
      have NSL : Hid (NsK (· < B) m W0 (some ⟨b, o, none⟩) (k + 1) r) := NS.out.tl.keep fun j hj => (HU.out.block j (by omega) (by omega)).symm
      have hxs : wr.heap.size ≠ sb := by omega
      have NX : Hid (Nst (· < B) m W0 a1 x.body) := q3.keep fun j hj => (HU.out.block j (by omega) (by omega)).symm
      go_upto_region 6 with fail
      obtain ⟨xb, hxb⟩ : ∃ q, wr.heap.size = q := ⟨_, rfl⟩
      rw [hxb] at XX1 hxs ⊢
      clear b1 q0 q1 q2 q3 NS XS HU hxb
      generalize wr.alloc (.cells #[.int .i64 (tn : Int), .int .i64 nx, .slice a1 L1 c1] 47) = W1 at *
      clear hsw hW0
      have hBs : B ≤ W0.heap.size := hBw
      by_cases hz : L1 = 0
      · subst hz
        have hbd2 : x.body = [] := List.eq_nil_of_length_eq_zero hL1
        have hem : x.body.isEmpty = true := empty_iff.2 hbd2
        have HV1 : Hid (lv1 x = 1) := by show _ = _; unfold lv1; rw [if_pos hem]
        have HD1 : Hid (de1 x = 0) := by show _ = _; unfold de1; rw [if_pos hem]
        have HT1 : Hid (to1 x = tn) := by show _ = _; unfold to1; rw [if_pos hem, htn, Int.toNat_natCast, Nat.mul_one]
        have htt : tt + tn ≤ 2048 := by rw [HT1.out] at hto; exact hto
        have htnI : (tn : Int) ≤ 2048 := by omega
        by_cases hm : (1 : Int) < (tn : Int)
        · have hm' : (tn : Int) > 1 := hm
          have HH1 : Hid (hd1 x = 1) := by show _ = _; unfold hd1; rw [htn, if_pos hm, hbd2, hds_nil]
          clear hmem ht1 hpb htn hto hsx hL1 hnx hbd2 hem
          have y0 := XX1.out.cell (k := 0) rfl
          have y2 := XX1.out.cell (k := 2) rfl
          simp only [List.getElem_toArray, List.getElem_cons_zero, List.getElem_cons_succ] at y0 y2
          have s1 := XS1.out.cell (k := 1) rfl
          simp only [List.getElem_toArray, List.getElem_cons_zero, List.getElem_cons_succ] at s1
          have f1 := XS1.out.frozen 1
          go_upto_region 8 with fail
          have XS2 : Hid (BlkA 31 sb (W1.setCell ⟨sb, 1, none⟩ (.int .i64 ((h : Int) + 1))) #[.int .i64 (f : Int), .int .i64 ((h + 1 : Nat) : Int), .int .i64 (dp : Int), .int .i64 (tt : Int)]) := XS1.out.set 1 _
          have bq := But.set W1 sb 1 (.int .i64 ((h : Int) + 1))
          have U2 := hiddenN (U1.out.trans bq)
          have XX2 := hiddenN (bq.keepB XX1.out (by omega))
          clear bq y0 y2 s1 f1
          generalize W1.setCell ⟨sb, 1, none⟩ (.int .i64 ((h : Int) + 1)) = W2 at *
          have y0 := XX2.out.cell (k := 0) rfl
          have y2 := XX2.out.cell (k := 2) rfl
          simp only [List.getElem_toArray, List.getElem_cons_zero, List.getElem_cons_succ] at y0 y2
          have s0 := XS2.out.cell (k := 0) rfl
          simp only [List.getElem_toArray, List.getElem_cons_zero] at s0
          have f0 := XS2.out.frozen 0
          go_upto_region 10 with fail
          have XS3 : Hid (BlkA 31 sb (W2.setCell ⟨sb, 0, none⟩ (.int .i64 ((f : Int) + 1))) #[.int .i64 ((f + 1 : Nat) : Int), .int .i64 ((h + 1 : Nat) : Int), .int .i64 (dp : Int), .int .i64 (tt : Int)]) := XS2.out.set 0 _
          have bq := But.set W2 sb 0 (.int .i64 ((f : Int) + 1))
          have U3 := hiddenN (U2.out.trans bq)
          have XX3 := hiddenN (bq.keepB XX2.out (by omega))
          clear bq y0 y2 s0 f0
          generalize W2.setCell ⟨sb, 0, none⟩ (.int .i64 ((f : Int) + 1)) = W3 at *
          have y0 := XX3.out.cell (k := 0) rfl
          simp only [List.getElem_toArray, List.getElem_cons_zero] at y0
          have s3 := XS3.out.cell (k := 3) rfl
          simp only [List.getElem_toArray, List.getElem_cons_zero, List.getElem_cons_succ] at s3
          have f3 := XS3.out.frozen 3
          go_upto_region 4 with fail
          have XS4 : Hid (BlkA 31 sb (W3.setCell ⟨sb, 3, none⟩ (.int .i64 ((tt : Int) + (tn : Int)))) #[.int .i64 ((f + 1 : Nat) : Int), .int .i64 ((h + 1 : Nat) : Int), .int .i64 (dp : Int), .int .i64 ((tt + tn : Nat) : Int)]) := XS3.out.set 3 _
          have bq := But.set W3 sb 3 (.int .i64 ((tt : Int) + (tn : Int)))
          have U4 := hiddenN (U3.out.trans bq)
          clear bq y0 s3 f3
          generalize W3.setCell ⟨sb, 3, none⟩ (.int .i64 ((tt : Int) + (tn : Int))) = W4 at *
          have NN := hiddenN (NSL.out.keep fun j hj => U4.out.block j (Nat.lt_of_lt_of_le hj hBs) (by omega))
          go_wp2
          go_roundg r.length
          case measure => simp
          case rel => exact ⟨pre ++ [x], r, k + 1, f + 1, h + 1, dp, tt + tn, by rw [HL2.out]; simp, by rw [List.length_append, HPK.out]; rfl, rfl, by go_num, by rw [lvs_snoc, HF.out, HV1.out], by rw [hds_snoc, HH.out, HH1.out], by rw [dep_snoc, HD.out, HD1.out]; omega, by rw [tot_snoc, HT.out, HT1.out], XS4.out, U4.out, NN.out⟩
        · have hm' : ¬ (tn : Int) > 1 := hm
          have HH1 : Hid (hd1 x = 0) := by show _ = _; unfold hd1; rw [htn, if_neg hm, hbd2, hds_nil]
          clear hmem ht1 hpb htn hto hsx hL1 hnx hbd2 hem
          have y0 := XX1.out.cell (k := 0) rfl
          have y2 := XX1.out.cell (k := 2) rfl
          simp only [List.getElem_toArray, List.getElem_cons_zero, List.getElem_cons_succ] at y0 y2
          go_upto_region 8 with fail
          clear y0 y2
          obtain ⟨W2, hW2⟩ : ∃ q : World, q = W1 := ⟨_, rfl⟩
          subst hW2
          have XS2 := XS1
          have XX2 := XX1
          have U2 := U1
          have y0 := XX2.out.cell (k := 0) rfl
          have y2 := XX2.out.cell (k := 2) rfl
          simp only [List.getElem_toArray, List.getElem_cons_zero, List.getElem_cons_succ] at y0 y2
          have s0 := XS2.out.cell (k := 0) rfl
          simp only [List.getElem_toArray, List.getElem_cons_zero] at s0
          have f0 := XS2.out.frozen 0
          go_upto_region 10 with fail
          have XS3 : Hid (BlkA 31 sb (W2.setCell ⟨sb, 0, none⟩ (.int .i64 ((f : Int) + 1))) #[.int .i64 ((f + 1 : Nat) : Int), .int .i64 (h : Int), .int .i64 (dp : Int), .int .i64 (tt : Int)]) := XS2.out.set 0 _
          have bq := But.set W2 sb 0 (.int .i64 ((f : Int) + 1))
          have U3 := hiddenN (U2.out.trans bq)
          have XX3 := hiddenN (bq.keepB XX2.out (by omega))
          clear bq y0 y2 s0 f0
          generalize W2.setCell ⟨sb, 0, none⟩ (.int .i64 ((f : Int) + 1)) = W3 at *
          have y0 := XX3.out.cell (k := 0) rfl
          simp only [List.getElem_toArray, List.getElem_cons_zero] at y0
          have s3 := XS3.out.cell (k := 3) rfl
          simp only [List.getElem_toArray, List.getElem_cons_zero, List.getElem_cons_succ] at s3
          have f3 := XS3.out.frozen 3
          go_upto_region 4 with fail
          have XS4 : Hid (BlkA 31 sb (W3.setCell ⟨sb, 3, none⟩ (.int .i64 ((tt : Int) + (tn : Int)))) #[.int .i64 ((f + 1 : Nat) : Int), .int .i64 (h : Int), .int .i64 (dp : Int), .int .i64 ((tt + tn : Nat) : Int)]) := XS3.out.set 3 _
          have bq := But.set W3 sb 3 (.int .i64 ((tt : Int) + (tn : Int)))
          have U4 := hiddenN (U3.out.trans bq)
          clear bq y0 s3 f3
          generalize W3.setCell ⟨sb, 3, none⟩ (.int .i64 ((tt : Int) + (tn : Int))) = W4 at *
          have NN := hiddenN (NSL.out.keep fun j hj => U4.out.block j (Nat.lt_of_lt_of_le hj hBs) (by omega))
          go_wp2
          go_roundg r.length
          case measure => simp
          case rel => exact ⟨pre ++ [x], r, k + 1, f + 1, h, dp, tt + tn, by rw [HL2.out]; simp, by rw [List.length_append, HPK.out]; rfl, rfl, by go_num, by rw [lvs_snoc, HF.out, HV1.out], by rw [hds_snoc, HH.out, HH1.out]; rfl, by rw [dep_snoc, HD.out, HD1.out]; omega, by rw [tot_snoc, HT.out, HT1.out], XS4.out, U4.out, NN.out⟩
      · have hbd2 : x.body ≠ [] := fun e => hz (by rw [← hL1, e]; rfl)
        have hem : ¬ x.body.isEmpty = true := fun e => hbd2 (empty_iff.1 e)
        have hzI : ((L1 : Int) == 0) = false := by simpa using hz
        have htb : totZ x.body ≤ 2048 := by
          have q : to1 x = tn * totZ x.body := by unfold to1; rw [if_neg hem, htn, Int.toNat_natCast]
          have q2 : totZ x.body ≤ tn * totZ x.body := Nat.le_mul_of_pos_left _ htn1
          omega
        have hsb2 : sizZ x.body ≤ 1000000 := by have := HSZ.out; omega
        have IHX : Hid (∀ W, Nst (· < B) m W a1 x.body → B ≤ W.heap.size → Calls Try.prog 30 #[.slice a1 L1 c1] W fun e w' => e = .returned (.agg #[.int .i64 (lvsZ x.body : Int), .int .i64 (hdsZ x.body : Int), .int .i64 (depZ x.body : Int), .int .i64 (totZ x.body : Int)]) ∧ Below W.heap.size W w') := fun W h1 h2 => by
          have q := IH.out x hmem B m a1 c1 W h1 h2 hpb htb hsb2
          rwa [hL1] at q
        have hb1 := lvs_siz x.body
        have hb2 := hds_siz x.body
        have hb3 := dep_siz x.body
        have HV1 : Hid (lv1 x = lvsZ x.body) := by show _ = _; unfold lv1; rw [if_neg hem]
        have HD1 : Hid (de1 x = depZ x.body + 1) := by show _ = _; unfold de1; rw [if_neg hem]
        have HT1 : Hid (to1 x = tn * totZ x.body) := by show _ = _; unfold to1; rw [if_neg hem, htn, Int.toNat_natCast]
        obtain ⟨f2, hf2⟩ : ∃ q, lvsZ x.body = q := ⟨_, rfl⟩
        obtain ⟨h2, hh2⟩ : ∃ q, hdsZ x.body = q := ⟨_, rfl⟩
        obtain ⟨d2, hd2⟩ : ∃ q, depZ x.body = q := ⟨_, rfl⟩
        obtain ⟨t2, ht2⟩ : ∃ q, totZ x.body = q := ⟨_, rfl⟩
        rw [hf2, hh2, hd2, ht2] at IHX
        rw [hf2] at HV1 hb1
        rw [hd2] at HD1 hb3
        rw [ht2] at HT1 htb
        rw [hh2] at hb2
        have htt : tt + tn * t2 ≤ 2048 := by rw [HT1.out] at hto; exact hto
        have hwr : wrap64 ((tn : Int) * (t2 : Int)) = ((tn * t2 : Nat) : Int) := by
          have q : ((tn * t2 : Nat) : Int) = (tn : Int) * (t2 : Int) := Int.natCast_mul ..
          rw [← q]
          exact wrap_fit (by omega) (by omega)
        generalize tn * t2 = pr at *
        have HWR : Hid (Value.int .i64 (wrap64 ((tn : Int) * (t2 : Int))) = Value.int .i64 (pr : Int)) := congrArg _ hwr
        have hprI : (pr : Int) ≤ 2048 := by clear hwr HWR; omega
        have hf2I : (f2 : Int) ≤ 1000000 := by omega
        have hh2I : (h2 : Int) ≤ 1000000 := by omega
        have hd2I : (d2 : Int) ≤ 1000000 := by omega
        by_cases hm : (1 : Int) < (tn : Int)
        · have hm' : (tn : Int) > 1 := hm
          have HH1 : Hid (hd1 x = 1 + h2) := by show _ = _; unfold hd1; rw [htn, if_pos hm, hh2]
          clear hwr hmem ht1 hpb htn hto hsx hL1 hnx hbd2 hem hf2 hh2 hd2 ht2 htb hb1 hb2 hb3 hsb2 hz
          have y0 := XX1.out.cell (k := 0) rfl
          have y2 := XX1.out.cell (k := 2) rfl
          simp only [List.getElem_toArray, List.getElem_cons_zero, List.getElem_cons_succ] at y0 y2
          have s1 := XS1.out.cell (k := 1) rfl
          simp only [List.getElem_toArray, List.getElem_cons_zero, List.getElem_cons_succ] at s1
          have f1 := XS1.out.frozen 1
          go_upto_region 8 with fail
          have XS2 : Hid (BlkA 31 sb (W1.setCell ⟨sb, 1, none⟩ (.int .i64 ((h : Int) + 1))) #[.int .i64 (f : Int), .int .i64 ((h + 1 : Nat) : Int), .int .i64 (dp : Int), .int .i64 (tt : Int)]) := XS1.out.set 1 _
          have bq := But.set W1 sb 1 (.int .i64 ((h : Int) + 1))
          have U2 := hiddenN (U1.out.trans bq)
          have XX2 := hiddenN (bq.keepB XX1.out (by omega))
          clear bq y0 y2 s1 f1
          generalize W1.setCell ⟨sb, 1, none⟩ (.int .i64 ((h : Int) + 1)) = W2 at *
          have y0 := XX2.out.cell (k := 0) rfl
          have y2 := XX2.out.cell (k := 2) rfl
          simp only [List.getElem_toArray, List.getElem_cons_zero, List.getElem_cons_succ] at y0 y2
          have SZ : Hid (Calls Try.prog 30 #[.slice a1 L1 c1] W2 fun e w' => e = .returned (.agg #[.int .i64 (f2 : Int), .int .i64 (h2 : Int), .int .i64 (d2 : Int), .int .i64 (t2 : Int)]) ∧ Below W2.heap.size W2 w') := by
            have q := IHX.out W2 (NX.out.keep fun j hj => U2.out.block j (Nat.lt_of_lt_of_le hj hBs) (by omega)) (Nat.le_trans hBs U2.out.size)
            exact q
          go_upto_region 12 with (go_at_call 30; (with_reducible refine SZ.out.mono ?_); rintro e W3 ⟨rfl, b3⟩; have XX3 := hiddenN (XX2.out.below b3); have XS3 := hiddenN (XS2.out.below b3); have U3 := hiddenN (U2.out.trans (But.of_below b3)); clear b3)
          clear y0 y2 SZ
          have b4 := (Below.refl W3.heap.size W3).alloc (Nat.le_refl _) (.cells #[.int .i64 (f2 : Int), .int .i64 (h2 : Int), .int .i64 (d2 : Int), .int .i64 (t2 : Int)] 31)
          have XI4 := hiddenN (blkA_new 31 W3 #[.int .i64 (f2 : Int), .int .i64 (h2 : Int), .int .i64 (d2 : Int), .int .i64 (t2 : Int)])
          have XX4 := hiddenN (XX3.out.below b4)
          have XS4 := hiddenN (XS3.out.below b4)
          have U4 := hiddenN (U3.out.trans (But.of_below b4))
          have hi4 : W3.heap.size ≠ sb := by have := XS3.out.lt; omega
          obtain ⟨ib, hib⟩ : ∃ q, W3.heap.size = q := ⟨_, rfl⟩
          rw [hib] at XI4 hi4 ⊢
          clear b4 hib XX3 XS3 U3
          generalize W3.alloc (.cells #[.int .i64 (f2 : Int), .int .i64 (h2 : Int), .int .i64 (d2 : Int), .int .i64 (t2 : Int)] 31) = W4 at *
          have s0 := XS4.out.cell (k := 0) rfl
          simp only [List.getElem_toArray, List.getElem_cons_zero] at s0
          have g0 := XS4.out.frozen 0
          have i0 := XI4.out.cell (k := 0) rfl
          simp only [List.getElem_toArray, List.getElem_cons_zero] at i0
          go_upto_region 13 with fail
          have XS5 : Hid (BlkA 31 sb (W4.setCell ⟨sb, 0, none⟩ (.int .i64 ((f : Int) + (f2 : Int)))) #[.int .i64 ((f + f2 : Nat) : Int), .int .i64 ((h + 1 : Nat) : Int), .int .i64 (dp : Int), .int .i64 (tt : Int)]) := XS4.out.set 0 _
          have bq := But.set W4 sb 0 (.int .i64 ((f : Int) + (f2 : Int)))
          have U5 := hiddenN (U4.out.trans bq)
          have XX5 := hiddenN (bq.keepB XX4.out (by omega))
          have XI5 := hiddenN (bq.keepB XI4.out (by omega))
          clear bq
          generalize W4.setCell ⟨sb, 0, none⟩ (.int .i64 ((f : Int) + (f2 : Int))) = W5 at *
          clear s0 g0 i0
          have s1 := XS5.out.cell (k := 1) rfl
          simp only [List.getElem_toArray, List.getElem_cons_zero, List.getElem_cons_succ] at s1
          have g1 := XS5.out.frozen 1
          have i1 := XI5.out.cell (k := 1) rfl
          simp only [List.getElem_toArray, List.getElem_cons_zero, List.getElem_cons_succ] at i1
          go_upto_region 14 with fail
          have XS6 : Hid (BlkA 31 sb (W5.setCell ⟨sb, 1, none⟩ (.int .i64 (((h : Int) + 1) + (h2 : Int)))) #[.int .i64 ((f + f2 : Nat) : Int), .int .i64 ((h + 1 + h2 : Nat) : Int), .int .i64 (dp : Int), .int .i64 (tt : Int)]) := XS5.out.set 1 _
          have bq := But.set W5 sb 1 (.int .i64 (((h : Int) + 1) + (h2 : Int)))
          have U6 := hiddenN (U5.out.trans bq)
          have XX6 := hiddenN (bq.keepB XX5.out (by omega))
          have XI6 := hiddenN (bq.keepB XI5.out (by omega))
          clear bq
          generalize W5.setCell ⟨sb, 1, none⟩ (.int .i64 (((h : Int) + 1) + (h2 : Int))) = W6 at *
          clear s1 g1 i1
          have s2 := XS6.out.cell (k := 2) rfl
          simp only [List.getElem_toArray, List.getElem_cons_zero, List.getElem_cons_succ] at s2
          have g2 := XS6.out.frozen 2
          have i2 := XI6.out.cell (k := 2) rfl
          simp only [List.getElem_toArray, List.getElem_cons_zero, List.getElem_cons_succ] at i2
          by_cases hmx : dp < d2 + 1
          · have hmI : (dp : Int) < (d2 : Int) + 1 := by omega
            go_upto_region 15 with fail
            have XS7 : Hid (BlkA 31 sb (W6.setCell ⟨sb, 2, none⟩ (.int .i64 ((d2 : Int) + 1))) #[.int .i64 ((f + f2 : Nat) : Int), .int .i64 ((h + 1 + h2 : Nat) : Int), .int .i64 ((d2 + 1 : Nat) : Int), .int .i64 (tt : Int)]) := XS6.out.set 2 _
            have bq := But.set W6 sb 2 (.int .i64 ((d2 : Int) + 1))
            have U7 := hiddenN (U6.out.trans bq)
            have XX7 := hiddenN (bq.keepB XX6.out (by omega))
            have XI7 := hiddenN (bq.keepB XI6.out (by omega))
            clear bq
            generalize W6.setCell ⟨sb, 2, none⟩ (.int .i64 ((d2 : Int) + 1)) = W7 at *
            clear s2 g2 i2
            have s3 := XS7.out.cell (k := 3) rfl
            simp only [List.getElem_toArray, List.getElem_cons_zero, List.getElem_cons_succ] at s3
            have g3 := XS7.out.frozen 3
            have i3 := XI7.out.cell (k := 3) rfl
            simp only [List.getElem_toArray, List.getElem_cons_zero, List.getElem_cons_succ] at i3
            have y0 := XX7.out.cell (k := 0) rfl
            simp only [List.getElem_toArray, List.getElem_cons_zero] at y0
            have hwr := HWR.out
            go_upto_region 4 with fail
            have XS8 : Hid (BlkA 31 sb (W7.setCell ⟨sb, 3, none⟩ (.int .i64 ((tt : Int) + (pr : Int)))) #[.int .i64 ((f + f2 : Nat) : Int), .int .i64 ((h + 1 + h2 : Nat) : Int), .int .i64 ((d2 + 1 : Nat) : Int), .int .i64 ((tt + pr : Nat) : Int)]) := XS7.out.set 3 _
            have bq := But.set W7 sb 3 (.int .i64 ((tt : Int) + (pr : Int)))
            have U8 := hiddenN (U7.out.trans bq)
            clear bq
            generalize W7.setCell ⟨sb, 3, none⟩ (.int .i64 ((tt : Int) + (pr : Int))) = W8 at *
            clear s3 g3 i3 y0 hwr
            have NN := hiddenN (NSL.out.keep fun j hj => U8.out.block j (Nat.lt_of_lt_of_le hj hBs) (by omega))
            go_wp2
            go_roundg r.length
            case measure => simp
            case rel => exact ⟨pre ++ [x], r, k + 1, f + f2, h + 1 + h2, d2 + 1, tt + pr, by rw [HL2.out]; simp, by rw [List.length_append, HPK.out]; rfl, rfl, by go_num, by rw [lvs_snoc, HF.out, HV1.out], by rw [hds_snoc, HH.out, HH1.out]; omega, by rw [dep_snoc, HD.out, HD1.out]; omega, by rw [tot_snoc, HT.out, HT1.out], XS8.out, U8.out, NN.out⟩
          · have hmI : (d2 : Int) + 1 ≤ (dp : Int) := by omega
            go_upto_region 15 with fail
            have XS7 : Hid (BlkA 31 sb (W6.setCell ⟨sb, 2, none⟩ (.int .i64 (dp : Int))) #[.int .i64 ((f + f2 : Nat) : Int), .int .i64 ((h + 1 + h2 : Nat) : Int), .int .i64 (dp : Int), .int .i64 (tt : Int)]) := XS6.out.set 2 _
            have bq := But.set W6 sb 2 (.int .i64 (dp : Int))
            have U7 := hiddenN (U6.out.trans bq)
            have XX7 := hiddenN (bq.keepB XX6.out (by omega))
            have XI7 := hiddenN (bq.keepB XI6.out (by omega))
            clear bq
            generalize W6.setCell ⟨sb, 2, none⟩ (.int .i64 (dp : Int)) = W7 at *
            clear s2 g2 i2
            have s3 := XS7.out.cell (k := 3) rfl
            simp only [List.getElem_toArray, List.getElem_cons_zero, List.getElem_cons_succ] at s3
            have g3 := XS7.out.frozen 3
            have i3 := XI7.out.cell (k := 3) rfl
            simp only [List.getElem_toArray, List.getElem_cons_zero, List.getElem_cons_succ] at i3
            have y0 := XX7.out.cell (k := 0) rfl
            simp only [List.getElem_toArray, List.getElem_cons_zero] at y0
            have hwr := HWR.out
            go_upto_region 4 with fail
            have XS8 : Hid (BlkA 31 sb (W7.setCell ⟨sb, 3, none⟩ (.int .i64 ((tt : Int) + (pr : Int)))) #[.int .i64 ((f + f2 : Nat) : Int), .int .i64 ((h + 1 + h2 : Nat) : Int), .int .i64 (dp : Int), .int .i64 ((tt + pr : Nat) : Int)]) := XS7.out.set 3 _
            have bq := But.set W7 sb 3 (.int .i64 ((tt : Int) + (pr : Int)))
            have U8 := hiddenN (U7.out.trans bq)
            clear bq
            generalize W7.setCell ⟨sb, 3, none⟩ (.int .i64 ((tt : Int) + (pr : Int))) = W8 at *
            clear s3 g3 i3 y0 hwr
            have NN := hiddenN (NSL.out.keep fun j hj => U8.out.block j (Nat.lt_of_lt_of_le hj hBs) (by omega))
            go_wp2
            go_roundg r.length
            case measure => simp
            case rel => exact ⟨pre ++ [x], r, k + 1, f + f2, h + 1 + h2, dp, tt + pr, by rw [HL2.out]; simp, by rw [List.length_append, HPK.out]; rfl, rfl, by go_num, by rw [lvs_snoc, HF.out, HV1.out], by rw [hds_snoc, HH.out, HH1.out]; omega, by rw [dep_snoc, HD.out, HD1.out]; omega, by rw [tot_snoc, HT.out, HT1.out], XS8.out, U8.out, NN.out⟩
        · have hm' : ¬ (tn : Int) > 1 := hm
          have HH1 : Hid (hd1 x = h2) := by show _ = _; unfold hd1; rw [htn, if_neg hm, hh2]; omega
          clear hwr hmem ht1 hpb htn hto hsx hL1 hnx hbd2 hem hf2 hh2 hd2 ht2 htb hb1 hb2 hb3 hsb2 hz
          have y0 := XX1.out.cell (k := 0) rfl
          have y2 := XX1.out.cell (k := 2) rfl
          simp only [List.getElem_toArray, List.getElem_cons_zero, List.getElem_cons_succ] at y0 y2
          go_upto_region 8 with fail
          clear y0 y2
          obtain ⟨W2, hW2⟩ : ∃ q : World, q = W1 := ⟨_, rfl⟩
          subst hW2
          have XS2 := XS1
          have XX2 := XX1
          have U2 := U1
          have y0 := XX2.out.cell (k := 0) rfl
          have y2 := XX2.out.cell (k := 2) rfl
          simp only [List.getElem_toArray, List.getElem_cons_zero, List.getElem_cons_succ] at y0 y2
          have SZ : Hid (Calls Try.prog 30 #[.slice a1 L1 c1] W2 fun e w' => e = .returned (.agg #[.int .i64 (f2 : Int), .int .i64 (h2 : Int), .int .i64 (d2 : Int), .int .i64 (t2 : Int)]) ∧ Below W2.heap.size W2 w') := by
            have q := IHX.out W2 (NX.out.keep fun j hj => U2.out.block j (Nat.lt_of_lt_of_le hj hBs) (by omega)) (Nat.le_trans hBs U2.out.size)
            exact q
          go_upto_region 12 with (go_at_call 30; (with_reducible refine SZ.out.mono ?_); rintro e W3 ⟨rfl, b3⟩; have XX3 := hiddenN (XX2.out.below b3); have XS3 := hiddenN (XS2.out.below b3); have U3 := hiddenN (U2.out.trans (But.of_below b3)); clear b3)
          clear y0 y2 SZ
          have b4 := (Below.refl W3.heap.size W3).alloc (Nat.le_refl _) (.cells #[.int .i64 (f2 : Int), .int .i64 (h2 : Int), .int .i64 (d2 : Int), .int .i64 (t2 : Int)] 31)
          have XI4 := hiddenN (blkA_new 31 W3 #[.int .i64 (f2 : Int), .int .i64 (h2 : Int), .int .i64 (d2 : Int), .int .i64 (t2 : Int)])
          have XX4 := hiddenN (XX3.out.below b4)
          have XS4 := hiddenN (XS3.out.below b4)
          have U4 := hiddenN (U3.out.trans (But.of_below b4))
          have hi4 : W3.heap.size ≠ sb := by have := XS3.out.lt; omega
          obtain ⟨ib, hib⟩ : ∃ q, W3.heap.size = q := ⟨_, rfl⟩
          rw [hib] at XI4 hi4 ⊢
          clear b4 hib XX3 XS3 U3
          generalize W3.alloc (.cells #[.int .i64 (f2 : Int), .int .i64 (h2 : Int), .int .i64 (d2 : Int), .int .i64 (t2 : Int)] 31) = W4 at *
          have s0 := XS4.out.cell (k := 0) rfl
          simp only [List.getElem_toArray, List.getElem_cons_zero] at s0
          have g0 := XS4.out.frozen 0
          have i0 := XI4.out.cell (k := 0) rfl
          simp only [List.getElem_toArray, List.getElem_cons_zero] at i0
          go_upto_region 13 with fail
          have XS5 : Hid (BlkA 31 sb (W4.setCell ⟨sb, 0, none⟩ (.int .i64 ((f : Int) + (f2 : Int)))) #[.int .i64 ((f + f2 : Nat) : Int), .int .i64 (h : Int), .int .i64 (dp : Int), .int .i64 (tt : Int)]) := XS4.out.set 0 _
          have bq := But.set W4 sb 0 (.int .i64 ((f : Int) + (f2 : Int)))
          have U5 := hiddenN (U4.out.trans bq)
          have XX5 := hiddenN (bq.keepB XX4.out (by omega))
          have XI5 := hiddenN (bq.keepB XI4.out (by omega))
          clear bq
          generalize W4.setCell ⟨sb, 0, none⟩ (.int .i64 ((f : Int) + (f2 : Int))) = W5 at *
          clear s0 g0 i0
          have s1 := XS5.out.cell (k := 1) rfl
          simp only [List.getElem_toArray, List.getElem_cons_zero, List.getElem_cons_succ] at s1
          have g1 := XS5.out.frozen 1
          have i1 := XI5.out.cell (k := 1) rfl
          simp only [List.getElem_toArray, List.getElem_cons_zero, List.getElem_cons_succ] at i1
          go_upto_region 14 with fail
          have XS6 : Hid (BlkA 31 sb (W5.setCell ⟨sb, 1, none⟩ (.int .i64 ((h : Int) + (h2 : Int)))) #[.int .i64 ((f + f2 : Nat) : Int), .int .i64 ((h + h2 : Nat) : Int), .int .i64 (dp : Int), .int .i64 (tt : Int)]) := XS5.out.set 1 _
          have bq := But.set W5 sb 1 (.int .i64 ((h : Int) + (h2 : Int)))
          have U6 := hiddenN (U5.out.trans bq)
          have XX6 := hiddenN (bq.keepB XX5.out (by omega))
          have XI6 := hiddenN (bq.keepB XI5.out (by omega))
          clear bq
          generalize W5.setCell ⟨sb, 1, none⟩ (.int .i64 ((h : Int) + (h2 : Int))) = W6 at *
          clear s1 g1 i1
          have s2 := XS6.out.cell (k := 2) rfl
          simp only [List.getElem_toArray, List.getElem_cons_zero, List.getElem_cons_succ] at s2
          have g2 := XS6.out.frozen 2
          have i2 := XI6.out.cell (k := 2) rfl
          simp only [List.getElem_toArray, List.getElem_cons_zero, List.getElem_cons_succ] at i2
          by_cases hmx : dp < d2 + 1
          · have hmI : (dp : Int) < (d2 : Int) + 1 := by omega
            go_upto_region 15 with fail
            have XS7 : Hid (BlkA 31 sb (W6.setCell ⟨sb, 2, none⟩ (.int .i64 ((d2 : Int) + 1))) #[.int .i64 ((f + f2 : Nat) : Int), .int .i64 ((h + h2 : Nat) : Int), .int .i64 ((d2 + 1 : Nat) : Int), .int .i64 (tt : Int)]) := XS6.out.set 2 _
            have bq := But.set W6 sb 2 (.int .i64 ((d2 : Int) + 1))
            have U7 := hiddenN (U6.out.trans bq)
            have XX7 := hiddenN (bq.keepB XX6.out (by omega))
            have XI7 := hiddenN (bq.keepB XI6.out (by omega))
            clear bq
            generalize W6.setCell ⟨sb, 2, none⟩ (.int .i64 ((d2 : Int) + 1)) = W7 at *
            clear s2 g2 i2
            have s3 := XS7.out.cell (k := 3) rfl
            simp only [List.getElem_toArray, List.getElem_cons_zero, List.getElem_cons_succ] at s3
            have g3 := XS7.out.frozen 3
            have i3 := XI7.out.cell (k := 3) rfl
            simp only [List.getElem_toArray, List.getElem_cons_zero, List.getElem_cons_succ] at i3
            have y0 := XX7.out.cell (k := 0) rfl
            simp only [List.getElem_toArray, List.getElem_cons_zero] at y0
            have hwr := HWR.out
            go_upto_region 4 with fail
            have XS8 : Hid (BlkA 31 sb (W7.setCell ⟨sb, 3, none⟩ (.int .i64 ((tt : Int) + (pr : Int)))) #[.int .i64 ((f + f2 : Nat) : Int), .int .i64 ((h + h2 : Nat) : Int), .int .i64 ((d2 + 1 : Nat) : Int), .int .i64 ((tt + pr : Nat) : Int)]) := XS7.out.set 3 _
            have bq := But.set W7 sb 3 (.int .i64 ((tt : Int) + (pr : Int)))
            have U8 := hiddenN (U7.out.trans bq)
            clear bq
            generalize W7.setCell ⟨sb, 3, none⟩ (.int .i64 ((tt : Int) + (pr : Int))) = W8 at *
            clear s3 g3 i3 y0 hwr
            have NN := hiddenN (NSL.out.keep fun j hj => U8.out.block j (Nat.lt_of_lt_of_le hj hBs) (by omega))
            go_wp2
            go_roundg r.length
            case measure => simp
            case rel => exact ⟨pre ++ [x], r, k + 1, f + f2, h + h2, d2 + 1, tt + pr, by rw [HL2.out]; simp, by rw [List.length_append, HPK.out]; rfl, rfl, by go_num, by rw [lvs_snoc, HF.out, HV1.out], by rw [hds_snoc, HH.out, HH1.out], by rw [dep_snoc, HD.out, HD1.out]; omega, by rw [tot_snoc, HT.out, HT1.out], XS8.out, U8.out, NN.out⟩
          · have hmI : (d2 : Int) + 1 ≤ (dp : Int) := by omega
            go_upto_region 15 with fail
            have XS7 : Hid (BlkA 31 sb (W6.setCell ⟨sb, 2, none⟩ (.int .i64 (dp : Int))) #[.int .i64 ((f + f2 : Nat) : Int), .int .i64 ((h + h2 : Nat) : Int), .int .i64 (dp : Int), .int .i64 (tt : Int)]) := XS6.out.set 2 _
            have bq := But.set W6 sb 2 (.int .i64 (dp : Int))
            have U7 := hiddenN (U6.out.trans bq)
            have XX7 := hiddenN (bq.keepB XX6.out (by omega))
            have XI7 := hiddenN (bq.keepB XI6.out (by omega))
            clear bq
            generalize W6.setCell ⟨sb, 2, none⟩ (.int .i64 (dp : Int)) = W7 at *
            clear s2 g2 i2
            have s3 := XS7.out.cell (k := 3) rfl
            simp only [List.getElem_toArray, List.getElem_cons_zero, List.getElem_cons_succ] at s3
            have g3 := XS7.out.frozen 3
            have i3 := XI7.out.cell (k := 3) rfl
            simp only [List.getElem_toArray, List.getElem_cons_zero, List.getElem_cons_succ] at i3
            have y0 := XX7.out.cell (k := 0) rfl
            simp only [List.getElem_toArray, List.getElem_cons_zero] at y0
            have hwr := HWR.out
            go_upto_region 4 with fail
            have XS8 : Hid (BlkA 31 sb (W7.setCell ⟨sb, 3, none⟩ (.int .i64 ((tt : Int) + (pr : Int)))) #[.int .i64 ((f + f2 : Nat) : Int), .int .i64 ((h + h2 : Nat) : Int), .int .i64 (dp : Int), .int .i64 ((tt + pr : Nat) : Int)]) := XS7.out.set 3 _
            have bq := But.set W7 sb 3 (.int .i64 ((tt : Int) + (pr : Int)))
            have U8 := hiddenN (U7.out.trans bq)
            clear bq
            generalize W7.setCell ⟨sb, 3, none⟩ (.int .i64 ((tt : Int) + (pr : Int))) = W8 at *
            clear s3 g3 i3 y0 hwr
            have NN := hiddenN (NSL.out.keep fun j hj => U8.out.block j (Nat.lt_of_lt_of_le hj hBs) (by omega))
            go_wp2
            go_roundg r.length
            case measure => simp
            case rel => exact ⟨pre ++ [x], r, k + 1, f + f2, h + h2, dp, tt + pr, by rw [HL2.out]; simp, by rw [List.length_append, HPK.out]; rfl, rfl, by go_num, by rw [lvs_snoc, HF.out, HV1.out], by rw [hds_snoc, HH.out, HH1.out], by rw [dep_snoc, HD.out, HD1.out]; omega, by rw [tot_snoc, HT.out, HT1.out], XS8.out, U8.out, NN.out⟩
end Go.Proofs.Ythgmdaaiolgjlaa

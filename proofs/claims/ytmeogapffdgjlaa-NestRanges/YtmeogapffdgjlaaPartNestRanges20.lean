/- Texts of one chain, laid one behind the other. -/
import Derived.Test.YtmeogapffdgjlaaPartNestRanges12
import Derived.Test.YtmeogapffdgjlaaPartNestRanges19
import Derived.Deep.QuietTactic
import Derived.BigQuiet
namespace Go.Proofs.Ytmeogapffdgjlaa
open Go.ChangeShapes Go.WideShapes Go.ChangeAt Go.RowKit
theorem NstR.drew {F : Nat → Prop} {m : Bool} {w : World} {b o : Nat} {l : List Lp} (h : NstR F m w b o l) (n : Nat) : NstR F m (w.drewN n) b o l := NstR.keep (w := w) (w' := w.drewN n) (fun _ _ => rfl) _ _ _ h
theorem NsK.drew {F : Nat → Prop} {m : Bool} {w : World} {a : Option Addr} {k : Nat} {l : List Lp} (h : NsK F m w a k l) (n : Nat) : NsK F m (w.drewN n) a k l := h.keep (fun _ _ => rfl)
theorem Nst.drew {F : Nat → Prop} {m : Bool} {w : World} {a : Option Addr} {l : List Lp} (h : Nst F m w a l) (n : Nat) : Nst F m (w.drewN n) a l := h.keep (fun _ _ => rfl)
def KptOK (l : List Lp) : Prop := ∀ (F G : Nat → Prop) (m : Bool) (b o c : Nat) (a2 : Option Addr) (c2 : Nat) (w : World), NstR F true w b o l → l.length + 1 ≤ c → Nst G m w a2 l → sizZ l ≤ 1000000 → Calls Try.prog 14 #[.slice (some ⟨b, o, none⟩) l.length c, .slice a2 l.length c2] w fun e w' => e = .returned (.bool true) ∧ ∃ n, w' = w.drewN n
set_option maxRecDepth 100000 in
set_option maxHeartbeats 16000000 in
theorem keptZ_any (l : List Lp) : KptOK l := by
  refine nest_ind (fun l ih => ?_) l
  intro F G m b o c a2 c2 w h1 hc h2 hs
  obtain ⟨RE, hRE⟩ : ∃ Q : Ending → World → Prop, (fun e w' => e = .returned (.bool true) ∧ ∃ n, w' = w.drewN n) = Q := ⟨_, rfl⟩
  rw [hRE]
  have HRE := hiddenN hRE
  have IH := hiddenN ih
  have HSZ := hiddenN hs
  obtain ⟨L, hL⟩ : ∃ L, l.length = L := ⟨_, rfl⟩
  have hLm : L ≤ 1000000 := by have := len_siz l; omega
  have hLI : (L : Int) ≤ 1000000 := by omega
  have HL := hiddenN hL
  have N1 : Hid (NstR F true w b (o + 0 * 3) l) := by show NstR _ _ _ _ _ _; rw [Nat.zero_mul]; exact h1
  have N2 := hiddenN (NsK.start h2)
  rw [hL] at hc ⊢
  have hcI : (L : Int) + 1 ≤ (c : Int) := by omega
  have hee : ((L : Int) != (L : Int)) = false := by simp
  clear hRE ih h1 h2 hL hs
  go_enter Try.func14, Try.ntmps14
  go_upto_region 4 with fail
  go_loopg [5] L (fun gk iv wr => ∃ (pre rest : List Lp) (k nn : Nat), l = pre ++ rest ∧ pre.length = k ∧ gk = rest.length ∧ iv = .int .i64 (k : Int) ∧ NstR F true wr b (o + k * 3) rest ∧ NsK G m wr a2 k rest ∧ wr = w.drewN nn)
  case atStart => exact ⟨[], l, 0, 0, rfl, rfl, HL.out.symm, rfl, N1.out, N2.out, rfl⟩
  case round =>
    clear N1 N2
    obtain ⟨pre, rest, k, nn, hl, hk, hgk, rfl, hN1, hN2, hw⟩ := hrel
    subst hgk
    have HL2 := hiddenN hl
    have HPK := hiddenN hk
    have HN1 := hiddenN hN1
    have HN2 := hiddenN hN2
    have HW := hiddenN hw
    have HLK : Hid (L = k + rest.length) := by show _ = _; rw [← HL.out, hl, List.length_append, hk]
    clear hl hk hN1 hN2 hw
    cases rest with
    | nil =>
      have hki : ¬ ((k : Int) < (L : Int)) := by rw [HLK.out]; simp
      have ek : L = k := by have := HLK.out; simpa using this
      have z0 := (nst_nil.1 HN1.out rfl).2
      subst ek
      have hLc : L < L + 1 := Nat.lt_succ_self _
      go_wp2
      rw [← HRE.out]
      exact ⟨rfl, nn, HW.out⟩
    | cons x r =>
      have hki : (k : Int) < (L : Int) := by rw [HLK.out]; simp; omega
      have hkL : k < L := by rw [HLK.out]; simp
      have hkm : (k : Int) ≤ 1000000 := by omega
      obtain ⟨q0, q1, a1, c1, q2, q3⟩ := HN1.out.hd
      have hcap := (nst_cons.1 HN1.out).2.2.2.1
      obtain ⟨bb, oo, a3, c3, rfl, p0, p1, p2, p3⟩ := HN2.out.hd
      have hmem : x ∈ l := by rw [HL2.out]; exact List.mem_append_right _ (List.mem_cons_self ..)
      have hsx := siz_mem hmem
      have HT1 : Hid (∀ n, NstR F true (wr.drewN n) b (o + (k + 1) * 3) r) := fun n => HN1.out.tl.drew n
      have HT2 : Hid (∀ n, NsK G m (wr.drewN n) (some ⟨bb, oo, none⟩) (k + 1) r) := fun n => HN2.out.tl.drew n
      have KX : Hid (x.body ≠ [] → ∀ n, Calls Try.prog 14 #[.slice a1 x.body.length c1, .slice a3 x.body.length c3] (wr.drewN n) fun e w' => e = .returned (.bool true) ∧ ∃ k, w' = (wr.drewN n).drewN k) := fun hne n => by
        obtain ⟨a4, c4, e4, h4⟩ := hcap
        rw [q2] at e4
        cases e4
        rcases h4 with h4 | ⟨b', o', e5, h5, h6⟩
        · exact absurd h4 hne
        · subst e5
          exact IH.out x hmem F G m b' o' c1 a3 c3 _ (h6.drew n) (h5 rfl) (p3.drew n) (by have := HSZ.out; omega)
      obtain ⟨L1, hL1⟩ : ∃ q, x.body.length = q := ⟨_, rfl⟩
      obtain ⟨tx, htx⟩ : ∃ q, x.times = q := ⟨_, rfl⟩
      obtain ⟨nx, hnx⟩ : ∃ q, x.node = q := ⟨_, rfl⟩
      have HNE : Hid (L1 ≠ 0 → x.body ≠ []) := fun h e => h (by rw [← hL1, e]; rfl)
      rw [htx] at q0 p0
      rw [hnx] at q1 p1
      rw [hL1] at q2 p2 KX
      have e0 : (tx != tx) = false := by simp
      have e1 : (nx != nx) = false := by simp
      have e2 : ((L1 : Int) != (L1 : Int)) = false := by simp
      clear q3 p3 hcap hmem hsx htx hnx hL1 HN1 HN2
      go_upto_region 6 with fail
      go_quiet (fail)
      have HW2 : Hid (∃ n, wr.drewN nq = w.drewN n) := ⟨nn + nq, by rw [HW.out, World.drewN_drewN]⟩
      have HT1b : Hid (∀ n, NstR F true ((wr.drewN nq).drewN n) b (o + (k + 1) * 3) r) := fun n => (HT1.out nq).drew n
      have HT2b : Hid (∀ n, NsK G m ((wr.drewN nq).drewN n) (some ⟨bb, oo, none⟩) (k + 1) r) := fun n => (HT2.out nq).drew n
      have q0b : (wr.drewN nq).cell? ⟨b, o + k * 3, none⟩ = some (.int .i64 tx) := q0
      have q2b : (wr.drewN nq).cell? ⟨b, o + k * 3 + 2, none⟩ = some (.slice a1 L1 c1) := q2
      have p2b : (wr.drewN nq).cell? ⟨bb, oo + k * 3 + 2, none⟩ = some (.slice a3 L1 c3) := p2
      have KXb : Hid (L1 ≠ 0 → ∀ n, Calls Try.prog 14 #[.slice a1 L1 c1, .slice a3 L1 c3] ((wr.drewN nq).drewN n) fun e w' => e = .returned (.bool true) ∧ ∃ k, w' = ((wr.drewN nq).drewN n).drewN k) := fun h n => by
        have := KX.out (HNE.out h) (nq + n)
        rwa [← World.drewN_drewN] at this
      clear q0 q1 q2 p0 p1 p2 HT1 HT2 KX HW
      generalize wr.drewN nq = W1 at *
      by_cases hz : L1 = 0
      · subst hz
        go_upto_region 8 with fail
        go_quiet (fail)
        obtain ⟨n1, hn1⟩ := HW2.out
        have HW3 : Hid (W1.drewN nq = w.drewN (n1 + nq)) := by show _ = _; rw [hn1, World.drewN_drewN]
        have T1 := hiddenN (HT1b.out nq)
        have T2 := hiddenN (HT2b.out nq)
        clear hn1 q0b q2b p2b HT1b HT2b HW2 KXb
        generalize W1.drewN nq = W2 at *
        go_wp2
        go_roundg r.length
        case measure => simp
        case rel => exact ⟨pre ++ [x], r, k + 1, n1 + nq, by rw [HL2.out]; simp, by rw [List.length_append, HPK.out]; rfl, rfl, by go_num, T1.out, T2.out, HW3.out⟩
      · have hzI : (L1 : Int) > 0 := by omega
        have hzn : 0 < L1 := by omega
        have hzz : decide (0 < L1) = true := by simpa using hzn
        go_upto_region 8 with fail
        go_quiet (first | (go_at_call 14; (with_reducible refine Calls.quiet_of (KXb.out hz _))))
        obtain ⟨n1, hn1⟩ := HW2.out
        have HW3 : Hid (W1.drewN nq = w.drewN (n1 + nq)) := by show _ = _; rw [hn1, World.drewN_drewN]
        have T1 := hiddenN (HT1b.out nq)
        have T2 := hiddenN (HT2b.out nq)
        clear hn1 q0b q2b p2b HT1b HT2b HW2 KXb
        generalize W1.drewN nq = W2 at *
        go_wp2
        go_roundg r.length
        case measure => simp
        case rel => exact ⟨pre ++ [x], r, k + 1, n1 + nq, by rw [HL2.out]; simp, by rw [List.length_append, HPK.out]; rfl, rfl, by go_num, T1.out, T2.out, HW3.out⟩
theorem tdivZ (n : Nat) : (2048 : Int).tdiv (n : Int) = ((2048 / n : Nat) : Int) := by simpa using (Int.ofNat_tdiv 2048 n).symm
theorem div_fact (n : Nat) : ∃ q, Hid (2048 / n = q) ∧ Hid ((2048 : Int).tdiv (n : Int) = (q : Int)) ∧ q ≤ 2048 := ⟨2048 / n, rfl, tdivZ n, Nat.div_le_self _ _⟩
def TotOK (l : List Lp) : Prop := ∀ (B : Nat) (m : Bool) (a : Option Addr) (c : Nat) (w : World), Nst (· < B) m w a l → B ≤ w.heap.size → posZ l → sizZ l ≤ 1000000 → Calls Try.prog 55 #[.slice a l.length c] w fun e w' => e = .returned (.int .i64 ((min (totZ l) 2049 : Nat) : Int)) ∧ Below w.heap.size w w'
set_option maxRecDepth 100000 in
set_option maxHeartbeats 16000000 in
theorem totalZ_any (l : List Lp) : TotOK l := by
  refine nest_ind (fun l ih => ?_) l
  intro B m a c w hN hBs hp hs
  obtain ⟨RE, hRE⟩ : ∃ Q : Ending → World → Prop, (fun e w' => e = .returned (.int .i64 ((min (totZ l) 2049 : Nat) : Int)) ∧ Below w.heap.size w w') = Q := ⟨_, rfl⟩
  rw [hRE]
  have HRE := hiddenN hRE
  have IH := hiddenN ih
  have HP := hiddenN hp
  have HSZ := hiddenN hs
  have N0 := hiddenN (NsK.start hN)
  obtain ⟨L, hL⟩ : ∃ L, l.length = L := ⟨_, rfl⟩
  have HL := hiddenN hL
  have hLm : L ≤ 1000000 := by have := len_siz l; omega
  have hLI : (L : Int) ≤ 1000000 := by omega
  rw [hL]
  clear hRE ih hN hL hp hs
  go_enter Try.func55, Try.ntmps55
  go_upto_region 3 with fail
  go_loopg [3, 4] L (fun gk nv iv wr => ∃ (pre rest : List Lp) (k nn : Nat), l = pre ++ rest ∧ pre.length = k ∧ gk = rest.length ∧ iv = .int .i64 (k : Int) ∧ nv = .int .i64 (nn : Int) ∧ totZ pre = nn ∧ nn ≤ 2048 ∧ NsK (· < B) m wr a k rest ∧ Below w.heap.size w wr)
  case atStart => exact ⟨[], l, 0, 0, rfl, rfl, HL.out.symm, rfl, rfl, tot_nil, by decide, N0.out, Below.refl _ _⟩
  case round =>
    clear N0
    obtain ⟨pre, rest, k, nn, hl, hk, hgk, rfl, rfl, hT, hn8, hNs, hb⟩ := hrel
    subst hgk
    have NS := hiddenN hNs
    have HB := hiddenN hb
    have HL2 := hiddenN hl
    have HTT := hiddenN hT
    have HPK := hiddenN hk
    have HLK : Hid (L = k + rest.length) := by show _ = _; rw [← HL.out, hl, List.length_append, hk]
    have hnI : (nn : Int) ≤ 2048 := by omega
    clear hNs hb hl hT hk
    cases rest with
    | nil =>
      have hki : ¬ ((k : Int) < (L : Int)) := by rw [HLK.out]; simp
      go_wp2
      rw [← HRE.out]
      have e1 : pre = l := by rw [HL2.out, List.append_nil]
      refine ⟨?_, HB.out⟩
      have h1 := HTT.out
      rw [e1] at h1
      rw [h1, Nat.min_eq_left (by omega)]
    | cons x r =>
      have hki : (k : Int) < (L : Int) := by rw [HLK.out]; simp; omega
      have hkL : k < L := by rw [HLK.out]; simp
      have hkm : (k : Int) ≤ 1000000 := by omega
      obtain ⟨b, o, a1, c1, rfl, c0, q1, q2, q3⟩ := NS.out.hd
      have hmem : x ∈ l := by rw [HL2.out]; exact List.mem_append_right _ (List.mem_cons_self ..)
      have hpx := HP.out
      rw [HL2.out, pos_app, pos_cons] at hpx
      obtain ⟨-, ht1, -, hpb, -⟩ := hpx
      have hTot : totZ l = nn + (to1 x + totZ r) := by rw [HL2.out, tot_app, tot_cons, HTT.out]
      obtain ⟨tn, htn⟩ : ∃ tn : Nat, x.times = (tn : Int) := ⟨x.times.toNat, by omega⟩
      have htn1 : 1 ≤ tn := by omega
      have htx : to1 x = tn * (if x.body.isEmpty then 1 else totZ x.body) := by unfold to1; rw [htn, Int.toNat_natCast]
      rw [htn] at c0
      have hBw : B ≤ wr.heap.size := Nat.le_trans hBs HB.out.size
      by_cases hz : x.body = []
      · have hem : x.body.isEmpty = true := empty_iff.2 hz
        have hl0 : x.body.length = 0 := by rw [hz]; rfl
        rw [if_pos hem, Nat.mul_one] at htx
        rw [hl0] at q2
        have HTB : Hid (2048 < 1 → 2048 < totZ l) := fun h => absurd h (by decide)
        have HTB2 : Hid (1 ≤ 2048 → nn + tn * 1 ≤ totZ l) := fun _ => by omega
        have HPR : Hid (1 ≤ 2048 → to1 x = tn * 1) := fun _ => by omega
        have HBW := HB
        have NW := hiddenN NS.out.tl
        obtain ⟨e1, he1⟩ : ∃ q : Nat, q = 1 := ⟨_, rfl⟩
        have hE1 : 1 ≤ e1 := by omega
        have hEI : ((e1 : Nat) : Int) = 1 := by omega
        rw [← he1] at HTB HTB2 HPR
        clear q3 hmem ht1 hpb hTot htn htx hz hem hl0 NS HB q1
        go_upto_region 8 with fail
        rw [← hEI]
        clear hEI he1 q2
        by_cases hbig : 2048 < e1
        · have hbI : (e1 : Int) > 2048 := by omega
          have HR : Hid (min (totZ l) 2049 = 2049) := by show _ = _; have := HTB.out hbig; omega
          go_quiet (fail)
          have HB2 := hiddenN (drewB HBW.out nq)
          generalize wr.drewN nq = W2 at *
          go_wp2
          rw [← HRE.out]
          exact ⟨by rw [HR.out]; rfl, HB2.out⟩
        · have hbI : ¬ (e1 : Int) > 2048 := by omega
          have hbJ : decide (2048 < e1) = false := by simpa using hbig
          obtain ⟨dq, HDQ, HDV, hd8⟩ := div_fact e1
          have hwd : wrap64 (dq : Int) = (dq : Int) := wrap_fit (by omega) (by omega)
          have hne0 : ¬ ((e1 : Nat) : Int) = 0 := by omega
          have hnn0 : ¬ e1 = 0 := by omega
          by_cases hmany : dq < tn
          · have hmI : (tn : Int) > (dq : Int) := by omega
            have hmJ : decide (dq < tn) = true := by simpa using hmany
            have HR : Hid (min (totZ l) 2049 = 2049) := by
              show _ = _
              have h1 : ¬ tn ≤ 2048 / e1 := by rw [HDQ.out]; omega
              rw [Nat.le_div_iff_mul_le (by omega)] at h1
              have := HTB2.out (by omega)
              omega
            have hdv := HDV.out
            go_quiet (fail)
            have HB2 := hiddenN (drewB HBW.out nq)
            clear hdv
            generalize wr.drewN nq = W2 at *
            go_wp2
            rw [← HRE.out]
            exact ⟨by rw [HR.out]; rfl, HB2.out⟩
          · have hmI : ¬ (tn : Int) > (dq : Int) := by omega
            have hmJ : decide (dq < tn) = false := by simpa using hmany
            have hprod : tn * e1 ≤ 2048 := by
              have h1 : tn ≤ 2048 / e1 := by rw [HDQ.out]; omega
              rwa [Nat.le_div_iff_mul_le (by omega)] at h1
            have HTL := hiddenN (HTB2.out (by omega))
            have hprI : ((tn * e1 : Nat) : Int) ≤ 2048 := by omega
            have HPR2 := hiddenN (HPR.out (by omega))
            clear HPR
            have hwr : wrap64 ((tn : Int) * (e1 : Int)) = ((tn * e1 : Nat) : Int) := by
              have q : ((tn * e1 : Nat) : Int) = (tn : Int) * (e1 : Int) := Int.natCast_mul ..
              rw [← q]
              exact wrap_fit (by omega) (by omega)
            clear HTB2 HTB
            generalize tn * e1 = pr at *
            have HWR : Hid (Value.int .i64 (wrap64 ((tn : Int) * (e1 : Int))) = Value.int .i64 (pr : Int)) := congrArg _ hwr
            clear hwr
            have hdv := HDV.out
            go_quiet (fail)
            clear hdv
            have HB2 := hiddenN (drewB HBW.out nq)
            have c02 : (wr.drewN nq).cell? ⟨b, o + k * 3, none⟩ = some (.int .i64 (tn : Int)) := c0
            have NW2 := hiddenN (NW.out.keep (w' := wr.drewN nq) (fun _ _ => rfl))
            clear c0 NW
            generalize wr.drewN nq = W2 at *
            clear hwd hd8 hmI hmJ hbI hbJ hne0 hnn0 hbig hmany hprod HDQ HDV
            by_cases hsum : 2048 < nn + pr
            · have hsI : (nn : Int) + (pr : Int) > 2048 := by omega
              have HR : Hid (min (totZ l) 2049 = 2049) := by show _ = _; have := HTL.out; omega
              have hwr := HWR.out
              go_wp2
              rw [← HRE.out]
              exact ⟨by rw [HR.out]; rfl, HB2.out⟩
            · have hsI : ¬ (nn : Int) + (pr : Int) > 2048 := by omega
              have hwr := HWR.out
              go_wp2
              clear hwr
              go_roundg r.length
              case measure => simp
              case rel => exact ⟨pre ++ [x], r, k + 1, nn + pr, by rw [HL2.out]; simp, by rw [List.length_append, HPK.out]; rfl, rfl, by go_num, by first | rfl | go_num, by rw [tot_snoc, HTT.out, HPR2.out], by omega, NW2.out, HB2.out⟩
      · have hem : ¬ x.body.isEmpty = true := fun e => hz (empty_iff.1 e)
        rw [if_neg hem] at htx
        have hsx := siz_mem hmem
        have hpt := pos_tot hpb hz
        have TX : Hid (Calls Try.prog 55 #[.slice a1 x.body.length c1] wr fun e w' => e = .returned (.int .i64 ((min (totZ x.body) 2049 : Nat) : Int)) ∧ Below wr.heap.size wr w') := IH.out x hmem B m a1 c1 wr q3 hBw hpb (by have := HSZ.out; omega)
        obtain ⟨e1, he1⟩ : ∃ q, min (totZ x.body) 2049 = q := ⟨_, rfl⟩
        rw [he1] at TX
        have hE1 : 1 ≤ e1 := by omega
        have hE9 : e1 ≤ 2049 := by omega
        have hEI9 : (e1 : Int) ≤ 2049 := by omega
        have hge : totZ x.body ≤ tn * totZ x.body := Nat.le_mul_of_pos_left _ htn1
        have HTB : Hid (2048 < e1 → 2048 < totZ l) := fun h => by omega
        have HTB2 : Hid (e1 ≤ 2048 → nn + tn * e1 ≤ totZ l) := fun h => by
          have : totZ x.body = e1 := by omega
          rw [this] at htx
          omega
        have HPR : Hid (e1 ≤ 2048 → to1 x = tn * e1) := fun h => by
          have : totZ x.body = e1 := by omega
          rw [this] at htx
          exact htx
        obtain ⟨L1, hL1⟩ : ∃ q, x.body.length = q := ⟨_, rfl⟩
        have hl0 : L1 ≠ 0 := fun e => hz (List.eq_nil_of_length_eq_zero (hL1.trans e))
        have hlI : (L1 : Int) > 0 := by omega
        rw [hL1] at q2 TX
        have NW0 := hiddenN NS.out.tl
        have HBW0 := hiddenN hBw
        clear q3 hmem ht1 hpb hTot htn htx hz hem hsx hpt hge he1 hL1 NS q1 hBw
        go_upto_region 8 with (go_at_call 55; (with_reducible refine TX.out.mono ?_); rintro e W1 ⟨rfl, b1⟩; have HBW := hiddenN (HB.out.trans (b1.mono HB.out.size)); have NW := hiddenN (NW0.out.below (b1.mono HBW0.out)); have c0b := cellN_later b1 c0; clear b1)
        clear c0
        have c0 := c0b
        clear c0b q2 HB NW0
        by_cases hbig : 2048 < e1
        · have hbI : (e1 : Int) > 2048 := by omega
          have HR : Hid (min (totZ l) 2049 = 2049) := by show _ = _; have := HTB.out hbig; omega
          go_quiet (fail)
          have HB2 := hiddenN (drewB HBW.out nq)
          generalize W1.drewN nq = W2 at *
          go_wp2
          rw [← HRE.out]
          exact ⟨by rw [HR.out]; rfl, HB2.out⟩
        · have hbI : ¬ (e1 : Int) > 2048 := by omega
          have hbJ : decide (2048 < e1) = false := by simpa using hbig
          obtain ⟨dq, HDQ, HDV, hd8⟩ := div_fact e1
          have hwd : wrap64 (dq : Int) = (dq : Int) := wrap_fit (by omega) (by omega)
          have hne0 : ¬ ((e1 : Nat) : Int) = 0 := by omega
          have hnn0 : ¬ e1 = 0 := by omega
          by_cases hmany : dq < tn
          · have hmI : (tn : Int) > (dq : Int) := by omega
            have hmJ : decide (dq < tn) = true := by simpa using hmany
            have HR : Hid (min (totZ l) 2049 = 2049) := by
              show _ = _
              have h1 : ¬ tn ≤ 2048 / e1 := by rw [HDQ.out]; omega
              rw [Nat.le_div_iff_mul_le (by omega)] at h1
              have := HTB2.out (by omega)
              omega
            have hdv := HDV.out
            go_quiet (fail)
            have HB2 := hiddenN (drewB HBW.out nq)
            clear hdv
            generalize W1.drewN nq = W2 at *
            go_wp2
            rw [← HRE.out]
            exact ⟨by rw [HR.out]; rfl, HB2.out⟩
          · have hmI : ¬ (tn : Int) > (dq : Int) := by omega
            have hmJ : decide (dq < tn) = false := by simpa using hmany
            have hprod : tn * e1 ≤ 2048 := by
              have h1 : tn ≤ 2048 / e1 := by rw [HDQ.out]; omega
              rwa [Nat.le_div_iff_mul_le (by omega)] at h1
            have HTL := hiddenN (HTB2.out (by omega))
            have hprI : ((tn * e1 : Nat) : Int) ≤ 2048 := by omega
            have HPR2 := hiddenN (HPR.out (by omega))
            clear HPR
            have hwr : wrap64 ((tn : Int) * (e1 : Int)) = ((tn * e1 : Nat) : Int) := by
              have q : ((tn * e1 : Nat) : Int) = (tn : Int) * (e1 : Int) := Int.natCast_mul ..
              rw [← q]
              exact wrap_fit (by omega) (by omega)
            clear HTB2 HTB
            generalize tn * e1 = pr at *
            have HWR : Hid (Value.int .i64 (wrap64 ((tn : Int) * (e1 : Int))) = Value.int .i64 (pr : Int)) := congrArg _ hwr
            clear hwr
            have hdv := HDV.out
            go_quiet (fail)
            clear hdv
            have HB2 := hiddenN (drewB HBW.out nq)
            have c02 : (W1.drewN nq).cell? ⟨b, o + k * 3, none⟩ = some (.int .i64 (tn : Int)) := c0
            have NW2 := hiddenN (NW.out.keep (w' := W1.drewN nq) (fun _ _ => rfl))
            clear c0 NW
            generalize W1.drewN nq = W2 at *
            clear hwd hd8 hmI hmJ hbI hbJ hne0 hnn0 hbig hmany hprod HDQ HDV
            by_cases hsum : 2048 < nn + pr
            · have hsI : (nn : Int) + (pr : Int) > 2048 := by omega
              have HR : Hid (min (totZ l) 2049 = 2049) := by show _ = _; have := HTL.out; omega
              have hwr := HWR.out
              go_wp2
              rw [← HRE.out]
              exact ⟨by rw [HR.out]; rfl, HB2.out⟩
            · have hsI : ¬ (nn : Int) + (pr : Int) > 2048 := by omega
              have hwr := HWR.out
              go_wp2
              clear hwr
              go_roundg r.length
              case measure => simp
              case rel => exact ⟨pre ++ [x], r, k + 1, nn + pr, by rw [HL2.out]; simp, by rw [List.length_append, HPK.out]; rfl, rfl, by go_num, by first | rfl | go_num, by rw [tot_snoc, HTT.out, HPR2.out], by omega, NW2.out, HB2.out⟩
set_option maxRecDepth 100000 in
theorem rcheckZ_any (l : List Lp) (m : Bool) (a : Option Addr) (c : Nat) (w : World) (hN : Nst (· < w.heap.size) m w a l) (hs : sizZ l ≤ 1000000) :
    Calls Try.prog 37 #[.slice a l.length c] w fun e w' => e = .returned (.int .i64 (chkZ l : Int)) ∧ Below w.heap.size w w' := by
  have FX : Hid (Calls Try.prog 54 #[.slice a l.length c, .int .i64 0, .int .i64 0] w (FndE l 0 0 w)) := findZ_any l w.heap.size m a c 0 0 w hN (Nat.le_refl _) (by decide) (by decide)
  unfold FndE at FX
  have TX : Hid (errZ 0 0 l = 0 → ∀ u, Below w.heap.size w u → Calls Try.prog 55 #[.slice a l.length c] u fun e w' => e = .returned (.int .i64 ((min (totZ l) 2049 : Nat) : Int)) ∧ Below u.heap.size u w') := fun he u hu => totalZ_any l w.heap.size m a c u (hN.below hu) hu.size (err_pos _ _ _ he) hs
  obtain ⟨E, hE⟩ : ∃ q, errZ 0 0 l = q := ⟨_, rfl⟩
  rw [hE] at FX TX
  have HE := hiddenN hE
  generalize l.length = L at *
  clear hN hE hs
  by_cases he : E = 0
  · subst he
    have TX1 := hiddenN (TX.out rfl)
    obtain ⟨T, hT⟩ : ∃ q, min (totZ l) 2049 = q := ⟨_, rfl⟩
    rw [hT] at TX1
    have HT := hiddenN hT
    clear TX hT
    go_enter Try.func37, Try.ntmps37
    go_wp2_with (first
      | (go_at_call 54; (with_reducible refine FX.out.mono ?_); rintro e W1 ⟨y, rfl, -, b1⟩; have B1 := hiddenN b1; clear b1)
      | (go_at_call 55; (with_reducible refine (TX1.out W1 B1.out).mono ?_); rintro e W2 ⟨rfl, b2⟩; have B2 := hiddenN (B1.out.trans (b2.mono B1.out.size)); clear b2))
    · go_ret
      have h1 : 2048 < T := by omega
      have e0 : chkZ l = 5 := by unfold chkZ; rw [HE.out, if_neg (by decide), if_pos (by have := HT.out; omega)]
      exact ⟨by rw [e0]; rfl, B2.out⟩
    · go_ret
      have h1 : T ≤ 2048 := by omega
      have e0 : chkZ l = 0 := by unfold chkZ; rw [HE.out, if_neg (by decide), if_neg (by have := HT.out; omega)]
      exact ⟨by rw [e0]; rfl, B2.out⟩
  · have hb : ((E : Int) != 0) = true := by simpa using he
    clear TX
    go_enter Try.func37, Try.ntmps37
    go_wp2_with (go_at_call 54; (with_reducible refine FX.out.mono ?_); rintro e W1 ⟨y, rfl, -, b1⟩; have B1 := hiddenN b1; clear b1)
    go_ret
    have e0 : chkZ l = E := by unfold chkZ; rw [HE.out, if_pos he]
    exact ⟨by rw [e0]; rfl, B1.out⟩
end Go.Proofs.Ytmeogapffdgjlaa

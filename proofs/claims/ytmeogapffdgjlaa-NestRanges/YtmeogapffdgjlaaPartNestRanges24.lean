/- Texts of one chain, laid one behind the other. -/
import Derived.Test.YtmeogapffdgjlaaPartNestRanges23
import Derived.Test.YtmeogapffdgjlaaPartNestRanges20
namespace Go.Proofs.Ytmeogapffdgjlaa
open Go.ChangeShapes Go.WideShapes Go.ChangeAt Go.RowKit
def SamOK (l : List Lp) : Prop := ∀ (l2 : List Lp) (F G : Nat → Prop) (m m2 : Bool) (a : Option Addr) (c : Nat) (a2 : Option Addr) (c2 : Nat) (w : World), Nst F m w a l → Nst G m2 w a2 l2 → sizZ l ≤ 1000000 → sizZ l2 ≤ 1000000 → Calls Try.prog 19 #[.slice a l.length c, .slice a2 l2.length c2] w fun e w' => e = .returned (.bool (samZ l l2)) ∧ ∃ n, w' = w.drewN n
theorem sam_len {l m : List Lp} (h : l.length ≠ m.length) : samZ l m = false := by
  cases e : samZ l m with
  | false => rfl
  | true => exact absurd (congrArg List.length ((sam_iff l m).1 e)) h
theorem sam_cons (x y : Lp) (l m : List Lp) : samZ (x :: l) (y :: m) = (decide (x.times = y.times) && (decide (x.node = y.node) && (samZ x.body y.body && samZ l m))) := by
  obtain ⟨t, n, b⟩ := x
  obtain ⟨t', n', b'⟩ := y
  rw [samZ]
set_option maxRecDepth 100000 in
set_option maxHeartbeats 16000000 in
theorem same_anyZ (l : List Lp) : SamOK l := by
  refine nest_ind (fun l ih => ?_) l
  intro l2 F G m m2 a c a2 c2 w h1 h2 hs hs2
  obtain ⟨RE, hRE⟩ : ∃ Q : Ending → World → Prop, (fun e w' => e = .returned (.bool (samZ l l2)) ∧ ∃ n, w' = w.drewN n) = Q := ⟨_, rfl⟩
  rw [hRE]
  have HRE := hiddenN hRE
  have IH := hiddenN ih
  have HSZ := hiddenN hs
  have HSZ2 := hiddenN hs2
  obtain ⟨L, hL⟩ : ∃ L, l.length = L := ⟨_, rfl⟩
  have hLm : L ≤ 1000000 := by have := len_siz l; omega
  have HL := hiddenN hL
  obtain ⟨L2, hL2⟩ : ∃ L, l2.length = L := ⟨_, rfl⟩
  have hL2m : L2 ≤ 1000000 := by have := len_siz l2; omega
  have HLB := hiddenN hL2
  have N1 := hiddenN (NsK.start h1)
  have N2 := hiddenN (NsK.start h2)
  rw [hL, hL2]
  clear hRE ih h1 h2 hL hL2 hs hs2
  by_cases hLL : L = L2
  · subst hLL
    have hee : ((L : Int) != (L : Int)) = false := by simp
    go_enter Try.func19, Try.ntmps19
    go_upto_region 4 with fail
    clear hee
    go_loopg [5] L (fun gk iv wr => ∃ (pre rest pre2 rest2 : List Lp) (k nn : Nat), l = pre ++ rest ∧ l2 = pre2 ++ rest2 ∧ pre.length = k ∧ pre2.length = k ∧ gk = rest.length ∧ iv = .int .i64 (k : Int) ∧ samZ l l2 = samZ rest rest2 ∧ NsK F m wr a k rest ∧ NsK G m2 wr a2 k rest2 ∧ wr = w.drewN nn)
    case atStart => exact ⟨[], l, [], l2, 0, 0, rfl, rfl, rfl, rfl, HL.out.symm, rfl, rfl, N1.out, N2.out, rfl⟩
    case round =>
      clear N1 N2
      obtain ⟨pre, rest, pre2, rest2, k, nn, hl, hl2, hk, hk2, hgk, rfl, hsm, hN1, hN2, hw⟩ := hrel
      subst hgk
      have HL2 := hiddenN hl
      have HLB2 := hiddenN hl2
      have HPK := hiddenN hk
      have HPK2 := hiddenN hk2
      have HN1 := hiddenN hN1
      have HN2 := hiddenN hN2
      have HSM := hiddenN hsm
      have HW := hiddenN hw
      have HLK : Hid (L = k + rest.length) := by show _ = _; rw [← HL.out, hl, List.length_append, hk]
      have HLK2 : Hid (L = k + rest2.length) := by show _ = _; rw [← HLB.out, hl2, List.length_append, hk2]
      clear hl hl2 hk hk2 hN1 hN2 hw hsm
      cases rest with
      | nil =>
        have hki : ¬ ((k : Int) < (L : Int)) := by rw [HLK.out]; simp
        have e2 : rest2 = [] := List.eq_nil_of_length_eq_zero (by have h1 := HLK.out; have h2 := HLK2.out; rw [List.length_nil] at h1; omega)
        subst e2
        go_wp2
        rw [← HRE.out]
        exact ⟨by rw [HSM.out, samZ], nn, HW.out⟩
      | cons x r =>
        have hki : (k : Int) < (L : Int) := by rw [HLK.out]; simp; omega
        have hkL : k < L := by rw [HLK.out]; simp
        have hkm : (k : Int) ≤ 1000000 := by omega
        obtain ⟨y, r2, rfl⟩ : ∃ y r2, rest2 = y :: r2 := by
          cases rest2 with
          | nil => have h1 := HLK.out; have h2 := HLK2.out; rw [List.length_cons] at h1; rw [List.length_nil] at h2; omega
          | cons y r2 => exact ⟨y, r2, rfl⟩
        obtain ⟨b, o, a1, c1, rfl, q0, q1, q2, q3⟩ := HN1.out.hd
        obtain ⟨bb, oo, a3, c3, rfl, p0, p1, p2, p3⟩ := HN2.out.hd
        have hmem : x ∈ l := by rw [HL2.out]; exact List.mem_append_right _ (List.mem_cons_self ..)
        have hmem2 : y ∈ l2 := by rw [HLB2.out]; exact List.mem_append_right _ (List.mem_cons_self ..)
        have hsx := siz_mem hmem
        have hsy := siz_mem hmem2
        have KX : Hid (∀ n, Calls Try.prog 19 #[.slice a1 x.body.length c1, .slice a3 y.body.length c3] (wr.drewN n) fun e w' => e = .returned (.bool (samZ x.body y.body)) ∧ ∃ k, w' = (wr.drewN n).drewN k) := fun n => IH.out x hmem y.body F G m m2 a1 c1 a3 c3 _ (q3.drew n) (p3.drew n) (by have := HSZ.out; omega) (by have := HSZ2.out; omega)
        have HT1 : Hid (∀ n, NsK F m (wr.drewN n) (some ⟨b, o, none⟩) (k + 1) r) := fun n => HN1.out.tl.drew n
        have HT2 : Hid (∀ n, NsK G m2 (wr.drewN n) (some ⟨bb, oo, none⟩) (k + 1) r2) := fun n => HN2.out.tl.drew n
        have SC := hiddenN (sam_cons x y r r2)
        have HDW : Hid (∀ n, wr.drewN n = w.drewN (nn + n)) := fun n => by rw [HW.out, World.drewN_drewN]
        obtain ⟨sb, hsb⟩ : ∃ q, samZ x.body y.body = q := ⟨_, rfl⟩
        obtain ⟨tx, htx⟩ : ∃ q, x.times = q := ⟨_, rfl⟩
        obtain ⟨nx, hnx⟩ : ∃ q, x.node = q := ⟨_, rfl⟩
        obtain ⟨ty, hty⟩ : ∃ q, y.times = q := ⟨_, rfl⟩
        obtain ⟨ny, hny⟩ : ∃ q, y.node = q := ⟨_, rfl⟩
        obtain ⟨M1, hM1⟩ : ∃ q, x.body.length = q := ⟨_, rfl⟩
        obtain ⟨M2, hM2⟩ : ∃ q, y.body.length = q := ⟨_, rfl⟩
        rw [htx] at q0
        rw [hnx] at q1
        rw [hM1] at q2
        rw [hty] at p0
        rw [hny] at p1
        rw [hM2] at p2
        rw [hM1, hM2, hsb] at KX
        rw [htx, hnx, hty, hny, hsb] at SC
        clear q3 p3 hmem hmem2 hsx hsy htx hnx hty hny hM1 hM2 hsb HN1 HN2
        by_cases ht : tx = ty
        · subst ht
          have t1 : (tx != tx) = false := by simp
          by_cases hn : nx = ny
          · subst hn
            have t2 : (nx != nx) = false := by simp
            cases sb with
            | true =>
              have HS2 : Hid (samZ l l2 = samZ r r2) := by show _ = _; rw [HSM.out, SC.out]; simp
              go_wp2
              go_quiet (first | (go_at_call 19; (with_reducible refine Calls.quiet_of (KX.out _))))
              go_wp2
              go_roundg r.length
              case measure => simp
              case rel => exact ⟨pre ++ [x], r, pre2 ++ [y], r2, k + 1, _, by rw [HL2.out]; simp, by rw [HLB2.out]; simp, by rw [List.length_append, HPK.out]; rfl, by rw [List.length_append, HPK2.out]; rfl, rfl, by go_num, HS2.out, HT1.out nq, HT2.out nq, HDW.out nq⟩
            | false =>
              have HS2 : Hid (samZ l l2 = false) := by show _ = _; rw [HSM.out, SC.out]; simp
              go_wp2
              go_quiet (first | (go_at_call 19; (with_reducible refine Calls.quiet_of (KX.out _))))
              go_wp2
              rw [← HRE.out]
              exact ⟨by rw [HS2.out]; rfl, _, HDW.out nq⟩
          · have t2 : (nx != ny) = true := by simpa using hn
            have HS2 : Hid (samZ l l2 = false) := by show _ = _; rw [HSM.out, SC.out]; simp [hn]
            go_wp2
            go_quiet (fail)
            go_wp2
            rw [← HRE.out]
            exact ⟨by rw [HS2.out]; rfl, _, HDW.out nq⟩
        · have t1 : (tx != ty) = true := by simpa using ht
          have HS2 : Hid (samZ l l2 = false) := by show _ = _; rw [HSM.out, SC.out]; simp [ht]
          go_wp2
          go_quiet (fail)
          go_wp2
          rw [← HRE.out]
          exact ⟨by rw [HS2.out]; rfl, _, HDW.out nq⟩
  · have hee : ((L : Int) != (L2 : Int)) = true := by simp; omega
    have HS : Hid (samZ l l2 = false) := sam_len (by rw [HL.out, HLB.out]; exact hLL)
    go_enter Try.func19, Try.ntmps19
    go_wp2
    rw [← HRE.out]
    exact ⟨by rw [HS.out]; rfl, 0, rfl⟩
end Go.Proofs.Ytmeogapffdgjlaa

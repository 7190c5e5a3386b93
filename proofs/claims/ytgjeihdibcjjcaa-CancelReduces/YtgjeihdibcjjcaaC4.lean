/- What cancel's Ratio answers, whatever it is handed. -/
import Derived.Test.YtgjeihdibcjjcaaC3
namespace Go.Proofs.Ytgjeihdibcjjcaa
open Go.ChangeShapes Go.WideShapes Go.ChangeAt Go.RowKit

theorem muls_up {ns : List Nat} (h : Sm ns) (m : Nat) (hm : 1 ≤ m) (hm2 : m ≤ 9223372036854775807) :
    mulsO (m : Int) (up ns) = if fitB ((m * prodN' ns : Nat) : Int) = true then some ((m * prodN' ns : Nat) : Int) else none := by
  induction ns generalizing m with
  | nil =>
    rw [show prodN' [] = 1 from rfl, Nat.mul_one, if_pos (fitB_yes (by omega))]
    rfl
  | cons n ns ih =>
    obtain ⟨h1, h2⟩ := sm_cons.1 h
    have e1 : ((m : Int) * (n : Int)) = ((m * n : Nat) : Int) := (Int.natCast_mul m n).symm
    have e2 : m * prodN' (n :: ns) = m * n * prodN' ns := by rw [prodN', Nat.mul_assoc]
    show (if fitB ((m : Int) * (n : Int)) = true then mulsO ((m : Int) * (n : Int)) (up ns) else none) = _
    rw [e1, e2]
    have hpos : 1 ≤ m * n := Nat.mul_pos hm h1.1
    by_cases hf : m * n ≤ 9223372036854775807
    · rw [if_pos (fitB_yes (by omega))]
      exact ih h2 (m * n) hpos hf
    · have h3 := prod_pos h2.pos
      have h4 : m * n ≤ m * n * prodN' ns := Nat.le_mul_of_pos_right _ h3
      rw [if_neg (by rw [fitB_no (by omega)]; decide), if_neg (by rw [fitB_no (by omega)]; decide)]

/-- The products of what is left. -/
def rP (xs ys : List Int) : Nat := prodN' (redP (nats xs) (nats ys))
def rQ (xs ys : List Int) : Nat := prodN' (redQ (nats xs) (nats ys))
def rtB (xs ys : List Int) : Bool := fitB (rP xs ys : Int) && fitB (rQ xs ys : Int)
def rtE (xs ys : List Int) : Int := if cE xs ys = 0 then (if rtB xs ys then 0 else 4) else cE xs ys
def rtN (xs ys : List Int) : Int := if cE xs ys = 0 then (if rtB xs ys then (rP xs ys : Int) else 0) else 0
def rtD (xs ys : List Int) : Int := if cE xs ys = 0 then (if rtB xs ys then (rQ xs ys : Int) else 0) else 0
theorem rt_bad {xs ys : List Int} (h : cE xs ys ≠ 0) : rtN xs ys = 0 ∧ rtD xs ys = 0 ∧ rtE xs ys = cE xs ys := ⟨if_neg h, if_neg h, if_neg h⟩
theorem rt_big {xs ys : List Int} (h : cE xs ys = 0) (h2 : rtB xs ys = false) : rtN xs ys = 0 ∧ rtD xs ys = 0 ∧ rtE xs ys = 4 := by
  unfold rtN rtD rtE
  rw [if_pos h, if_pos h, if_pos h, h2]
  exact ⟨rfl, rfl, rfl⟩
theorem rt_ok {xs ys : List Int} (h : cE xs ys = 0) (h2 : rtB xs ys = true) : rtN xs ys = (rP xs ys : Int) ∧ rtD xs ys = (rQ xs ys : Int) ∧ rtE xs ys = 0 := by
  unfold rtN rtD rtE
  rw [if_pos h, if_pos h, if_pos h, h2]
  exact ⟨rfl, rfl, rfl⟩
theorem r_facts {xs ys : List Int} (h : cE xs ys = 0) : 1 ≤ rP xs ys ∧ 1 ≤ rQ xs ys ∧ Nat.gcd (rP xs ys) (rQ xs ys) = 1 := by
  obtain ⟨-, -, p1, p2⟩ := cE_zero h
  exact ⟨prod_pos (redP_pos (nats_pos p1)), prod_pos (redQ_pos (nats_pos p2)), red_low (nats_pos p1)⟩
theorem muls_cA {xs ys : List Int} (hx : InR xs) (hy : InR ys) (h : cE xs ys = 0) :
    mulsO 1 (cA xs ys) = (if fitB (rP xs ys : Int) = true then some (rP xs ys : Int) else none) ∧ mulsO 1 (cB xs ys) = (if fitB (rQ xs ys : Int) = true then some (rQ xs ys : Int) else none) := by
  obtain ⟨-, -, p1, p2⟩ := cE_zero h
  obtain ⟨f1, f2⟩ := cA_ok h
  have m1 := muls_up (sm_redP (qs := nats ys) (sm_nats hx p1)) 1 (by decide) (by decide)
  have m2 := muls_up (sm_redQ (ps := nats xs) (sm_nats hy p2)) 1 (by decide) (by decide)
  rw [Nat.one_mul] at m1 m2
  rw [f1, f2]
  exact ⟨m1, m2⟩
theorem cA_in {xs ys : List Int} (hx : InR xs) (hy : InR ys) : InR (cA xs ys) ∧ InR (cB xs ys) := by
  by_cases h : cE xs ys = 0
  · obtain ⟨-, -, p1, p2⟩ := cE_zero h
    obtain ⟨f1, f2⟩ := cA_ok h
    rw [f1, f2]
    exact ⟨sm_in (sm_redP (sm_nats hx p1)), sm_in (sm_redQ (sm_nats hy p2))⟩
  · obtain ⟨f1, f2⟩ := cA_bad h
    rw [f1, f2]
    exact ⟨inR0, inR0⟩
theorem new_low {p q : Nat} (hq : 1 ≤ q) (hg : Nat.gcd p q = 1) (hp2 : (p : Int) ≤ 9223372036854775807) (hq2 : (q : Int) ≤ 9223372036854775807) : newN (p : Int) (q : Int) = p ∧ newD (p : Int) (q : Int) = q ∧ newE (p : Int) (q : Int) = 0 := by
  have g1 : gg (p : Int) (q : Int) = 1 := by unfold gg; rw [Int.natAbs_natCast, Int.natAbs_natCast]; exact hg
  have l1 : lowN (p : Int) (q : Int) = p := by unfold lowN; rw [if_neg (by omega), g1]; exact Int.tdiv_one _
  have l2 : lowD (p : Int) (q : Int) = q := by unfold lowD; rw [if_neg (by omega), g1]; exact Int.tdiv_one _
  have hB : lowB (p : Int) (q : Int) = true := by unfold lowB; rw [l1, l2, fitB_yes (by omega), fitB_yes (by omega)]; rfl
  have := new_yes (n := (p : Int)) (d := (q : Int)) (by omega) hB
  rw [l1, l2] at this
  exact this

def RtEnd (w : World) (xs ys : List Int) (e : Ending) (w' : World) : Prop := e = .returned (.tuple #[.agg #[.int .i64 (rtN xs ys), .int .i64 (rtD xs ys)], .int .i64 (rtE xs ys)]) ∧ Below w.heap.size w w'

set_option maxRecDepth 100000 in
set_option maxHeartbeats 1000000 in
theorem ratio_any (a1 a2 : Option Addr) (xs ys : List Int) (l1 c1 l2 c2 : Nat) (w : World) (hl1 : xs.length = l1) (hl2 : ys.length = l2) (hm1 : l1 ≤ 4611686018427387904) (hm2 : l2 ≤ 4611686018427387904) (hx : InR xs) (hy : InR ys) (h1 : At w a1 xs) (h2 : At w a2 ys) :
    Calls Try.prog 18 #[.slice a1 l1 c1, .slice a2 l2 c2] w (RtEnd w xs ys) := by
  have B0 : Below w.heap.size w (w.alloc (.cells #[.int .i64 0, .int .i64 0] 34)) := (Below.refl _ _).alloc (Nat.le_refl _) _
  have K0 := var2_new w (.int .i64 0) (.int .i64 0) 34
  have hr := reduce_any a1 a2 xs ys l1 c1 l2 c2 _ hl1 hl2 hm1 hm2 hx hy (h1.below B0) (h2.below B0)
  have HL : Hid ((cA xs ys).length ≤ 1024 ∧ (cB xs ys).length ≤ 1024) := cA_len
  have HI : Hid (InR (cA xs ys) ∧ InR (cB xs ys)) := cA_in hx hy
  have HV : Hid (Below w.heap.size w (w.alloc (.cells #[.int .i64 0, .int .i64 0] 34)) ∧ Var2 (w.alloc (.cells #[.int .i64 0, .int .i64 0] 34)) w.heap.size (.int .i64 0) (.int .i64 0)) := ⟨B0, K0⟩
  clear h1 h2 hl1 hl2 hm1 hm2 B0 K0
  by_cases h0 : cE xs ys = 0
  · obtain ⟨k1, k2, k3⟩ := r_facts h0
    have HK : Hid (1 ≤ rP xs ys ∧ 1 ≤ rQ xs ys ∧ Nat.gcd (rP xs ys) (rQ xs ys) = 1) := ⟨k1, k2, k3⟩
    obtain ⟨m1, m2⟩ := muls_cA hx hy h0
    have HM : Hid (mulsO 1 (cA xs ys) = (if fitB (rP xs ys : Int) = true then some (rP xs ys : Int) else none) ∧ mulsO 1 (cB xs ys) = (if fitB (rQ xs ys : Int) = true then some (rQ xs ys : Int) else none)) := ⟨m1, m2⟩
    have e0 : ((cE xs ys) != 0) = false := by rw [h0]; rfl
    have H0 : Hid (cE xs ys = 0) := h0
    clear k1 k2 k3 m1 m2
    have key : ∀ (F G : Bool), fitB (rP xs ys : Int) = F → fitB (rQ xs ys : Int) = G → Hid (∀ (W : World) (a b : Option Addr) (n1 n2 : Nat), OwnS (w.alloc (.cells #[.int .i64 0, .int .i64 0] 34)).heap.size W a n1 n1 (cA xs ys) → OwnS (w.alloc (.cells #[.int .i64 0, .int .i64 0] 34)).heap.size W b n2 n2 (cB xs ys) →
        (Calls Try.prog 31 #[.slice a n1 n1] W fun e w' => e = .returned (.tuple #[.int .i64 (if F = true then (rP xs ys : Int) else 0), .bool F]) ∧ W = w') ∧ (Calls Try.prog 31 #[.slice b n2 n2] W fun e w' => e = .returned (.tuple #[.int .i64 (if G = true then (rQ xs ys : Int) else 0), .bool G]) ∧ W = w')) := by
      intro F G hF hG W a b n1 n2 o1 o2
      have p1 := product_any a (cA xs ys) n1 n1 W o1.1 (by have := HL.out.1; have := o1.1; omega) HI.out.1 o1.at
      have p2 := product_any b (cB xs ys) n2 n2 W o2.1 (by have := HL.out.2; have := o2.1; omega) HI.out.2 o2.at
      rw [HM.out.1, hF] at p1
      rw [HM.out.2, hG] at p2
      refine ⟨?_, ?_⟩
      · cases F <;> exact p1
      · cases G <;> exact p2
    clear h0
    generalize hEE : cE xs ys = E at *
    have HEE : Hid (cE xs ys = E) := hEE
    clear hEE
    cases hF : fitB (rP xs ys : Int)
    · have hk := key false (fitB (rQ xs ys : Int)) hF rfl
      have KE := rt_big (xs := xs) (ys := ys) (by rw [HEE.out]; exact H0.out) (by unfold rtB; rw [hF]; rfl)
      have HKE : Hid (rtN xs ys = 0 ∧ rtD xs ys = 0 ∧ rtE xs ys = 4) := KE
      clear KE key hF
      generalize fitB (rQ xs ys : Int) = G at *
      simp only [Bool.false_eq_true, if_false] at hk
      generalize (if G = true then (rQ xs ys : Int) else 0) = gv at *
      go_enter Try.func18, Try.ntmps18
      go_wp2_with (first
        | (go_at_call 10; refine hr.mono ?_; rintro e w1 ⟨hb, a, b, n1, n2, rfl, o1, o2, -⟩; rw [HEE.out]; obtain ⟨pa, pb⟩ := hk.out w1 a b n1 n2 o1 o2; have R := HV.out.2.later hb HV.out.2.lt; have r0 := R.c0; have r1 := R.c1; have f0 := R.f0; have f1 := R.f1; have hb' := HV.out.1.trans (hb.mono HV.out.1.size))
        | (go_at_call 31; (with_reducible refine pa.mono ?_); rintro e w' ⟨rfl, rfl⟩)
        | (go_at_call 31; (with_reducible refine pb.mono ?_); rintro e w' ⟨rfl, rfl⟩))
      refine bodyPost_ret (v := .tuple #[.agg #[.int .i64 0, .int .i64 0], .int .i64 4]) (by simp [results, Try.results18, go_sem, r0, r1]) rfl ⟨by rw [HKE.out.1, HKE.out.2.1, HKE.out.2.2], ?_⟩
      exact (hb'.setCell (by simp) _).setCell (by simp) _
    · cases hG : fitB (rQ xs ys : Int)
      · have hk := key true false hF hG
        have KE := rt_big (xs := xs) (ys := ys) (by rw [HEE.out]; exact H0.out) (by unfold rtB; rw [hF, hG]; rfl)
        have HKE : Hid (rtN xs ys = 0 ∧ rtD xs ys = 0 ∧ rtE xs ys = 4) := KE
        clear KE key hF hG
        simp only [Bool.false_eq_true, if_false, if_true] at hk
        generalize (rP xs ys : Int) = fv at *
        go_enter Try.func18, Try.ntmps18
        go_wp2_with (first
          | (go_at_call 10; refine hr.mono ?_; rintro e w1 ⟨hb, a, b, n1, n2, rfl, o1, o2, -⟩; rw [HEE.out]; obtain ⟨pa, pb⟩ := hk.out w1 a b n1 n2 o1 o2; have R := HV.out.2.later hb HV.out.2.lt; have r0 := R.c0; have r1 := R.c1; have f0 := R.f0; have f1 := R.f1; have hb' := HV.out.1.trans (hb.mono HV.out.1.size))
          | (go_at_call 31; (with_reducible refine pa.mono ?_); rintro e w' ⟨rfl, rfl⟩)
          | (go_at_call 31; (with_reducible refine pb.mono ?_); rintro e w' ⟨rfl, rfl⟩))
        refine bodyPost_ret (v := .tuple #[.agg #[.int .i64 0, .int .i64 0], .int .i64 4]) (by simp [results, Try.results18, go_sem, r0, r1]) rfl ⟨by rw [HKE.out.1, HKE.out.2.1, HKE.out.2.2], ?_⟩
        exact (hb'.setCell (by simp) _).setCell (by simp) _
      · have hk := key true true hF hG
        have KE := rt_ok (xs := xs) (ys := ys) (by rw [HEE.out]; exact H0.out) (by unfold rtB; rw [hF, hG]; rfl)
        have HKE : Hid (rtN xs ys = (rP xs ys : Int) ∧ rtD xs ys = (rQ xs ys : Int) ∧ rtE xs ys = 0) := KE
        have b1 := (fitB_true.1 hF).2
        have b2 := (fitB_true.1 hG).2
        obtain ⟨n1, n2, n3⟩ := new_low HK.out.2.1 HK.out.2.2 b1 b2
        have hn := fun W => new_any (rP xs ys : Int) (rQ xs ys : Int) W (by omega) (by omega)
        unfold NewEnd at hn
        rw [n1, n2, n3] at hn
        have HN : Hid (∀ W, Calls Try.prog 32 #[.int .i64 (rP xs ys : Int), .int .i64 (rQ xs ys : Int)] W fun e w' => e = .returned (.tuple #[.agg #[.int .i64 (rP xs ys : Int), .int .i64 (rQ xs ys : Int)], .int .i64 0]) ∧ Below W.heap.size W w') := hn
        clear KE key hF hG n1 n2 n3 hn b1 b2 HK
        simp only [if_true] at hk
        generalize (rP xs ys : Int) = fv at *
        generalize (rQ xs ys : Int) = gv at *
        go_enter Try.func18, Try.ntmps18
        go_wp2_with (first
          | (go_at_call 10; refine hr.mono ?_; rintro e w1 ⟨hb, a, b, n1, n2, rfl, o1, o2, -⟩; rw [HEE.out]; obtain ⟨pa, pb⟩ := hk.out w1 a b n1 n2 o1 o2; have R1 := HV.out.2.later hb HV.out.2.lt; have hb' := HV.out.1.trans (hb.mono HV.out.1.size))
          | (go_at_call 31; (with_reducible refine pa.mono ?_); rintro e w' ⟨rfl, rfl⟩)
          | (go_at_call 31; (with_reducible refine pb.mono ?_); rintro e w' ⟨rfl, rfl⟩)
          | (go_at_call 32; (with_reducible refine (HN.out _).mono ?_); rintro e w3 ⟨rfl, hb3⟩; have R := R1.later hb3 R1.lt; have r0 := R.c0; have r1 := R.c1; have f0 := R.f0; have f1 := R.f1; have hb4 := hb'.trans (hb3.mono hb'.size)))
        refine bodyPost_ret (v := .tuple #[.agg #[.int .i64 fv, .int .i64 gv], .int .i64 0]) (by simp [results, Try.results18, go_sem, r0, r1]) rfl ⟨by rw [HKE.out.1, HKE.out.2.1, HKE.out.2.2], ?_⟩
        exact (hb4.setCell (by simp) _).setCell (by simp) _
  · have e0 : ((cE xs ys) != 0) = true := by simpa using h0
    have HKE : Hid (rtN xs ys = 0 ∧ rtD xs ys = 0 ∧ rtE xs ys = cE xs ys) := rt_bad h0
    clear h0
    generalize hEE : cE xs ys = E at *
    have HEE : Hid (cE xs ys = E) := hEE
    clear hEE
    go_enter Try.func18, Try.ntmps18
    go_wp2_with (go_at_call 10; refine hr.mono ?_; rintro e w1 ⟨hb, a, b, n1, n2, rfl, o1, o2, -⟩; rw [HEE.out]; have R := HV.out.2.later hb HV.out.2.lt; have r0 := R.c0; have r1 := R.c1; have f0 := R.f0; have f1 := R.f1; have hb' := HV.out.1.trans (hb.mono HV.out.1.size))
    refine bodyPost_ret (v := .tuple #[.agg #[.int .i64 0, .int .i64 0], .int .i64 E]) (by simp [results, Try.results18, go_sem, r0, r1]) rfl ⟨by rw [HKE.out.1, HKE.out.2.1, HKE.out.2.2], ?_⟩
    exact (hb'.setCell (by simp) _).setCell (by simp) _
end Go.Proofs.Ytgjeihdibcjjcaa

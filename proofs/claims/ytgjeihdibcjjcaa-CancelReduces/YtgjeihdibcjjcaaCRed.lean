/- The document's Reduce of chapter 3 (pianolaref03). -/
import Derived.Test.YtgjeihdibcjjcaaCRef
import Derived.Test.YtgjeihdibcjjcaaOwnC
import Derived.Test.YtgjeihdibcjjcaaRefGcd
namespace Go.Proofs.Ytgjeihdibcjjcaa
open Go.ChangeShapes Go.WideShapes Go.ChangeAt Go.RowKit

/-- How the document's Reduce ends. -/
def RRedEnd (w : World) (xs ys : List Int) (e : Ending) (w' : World) : Prop :=
  Below w.heap.size w w' ∧ ∃ a b c1 c2, e = .returned (.tuple #[.slice a (cA xs ys).length c1, .slice b (cB xs ys).length c2, .int .i64 (cE xs ys)]) ∧ CapR w.heap.size w' a c1 (cA xs ys) ∧ CapR w.heap.size w' b c2 (cB xs ys)

theorem rred_bad {w w' : World} {xs ys : List Int} {E : Int} (hE : cE xs ys = E) (h0 : E ≠ 0) (hb : Below w.heap.size w w') : RRedEnd w xs ys (.returned (.tuple #[.slice none 0 0, .slice none 0 0, .int .i64 E])) w' := by
  obtain ⟨e1, e2⟩ := cA_bad (xs := xs) (ys := ys) (by rw [hE]; exact h0)
  refine ⟨hb, none, none, 0, 0, by rw [hE, e1, e2]; rfl, ?_, ?_⟩
  · rw [e1]; exact World.ownsRow_nil _ _ _ _
  · rw [e2]; exact World.ownsRow_nil _ _ _ _
theorem up_app (xs : List Nat) (p : Nat) (ys : List Nat) : up (xs ++ p :: ys) = up xs ++ (p : Int) :: up ys := by simp [up]

set_option maxRecDepth 100000 in
set_option maxHeartbeats 2000000 in
theorem rreduce_ok (a1 a2 : Option Addr) (ps qs : List Nat) (l1 c1 l2 c2 : Nat) (w : World) (hl1 : ps.length = l1) (hl2 : qs.length = l2) (hm1 : l1 ≤ 1024) (hm2 : l2 ≤ 1024) (h1 : Arg w a1 l1 c1 (up ps)) (h2 : Arg w a2 l2 c2 (up qs)) (hp : Sm ps) (hq : Sm qs)
    (hw : Calls Try.prog 29 #[.slice a1 l1 c1, .slice a2 l2 c2] w fun e w' => e = .returned (.int .i64 0) ∧ w = w') :
    Calls Try.prog 11 #[.slice a1 l1 c1, .slice a2 l2 c2] w fun e w' => Below w.heap.size w w' ∧ ∃ a b d1 d2, e = .returned (.tuple #[.slice a l1 d1, .slice b l2 d2, .int .i64 0]) ∧ CapR w.heap.size w' a d1 (up (redP ps qs)) ∧ CapR w.heap.size w' b d2 (up (redQ ps qs)) := by
  have I1 : Hid (Calls Try.prog 20 #[.slice a1 l1 c1] w (CopiedC w l1 (up ps))) := ints_own a1 (up ps) l1 c1 w h1
  have I2 : Hid (∀ W, Arg W a2 l2 c2 (up qs) → Calls Try.prog 20 #[.slice a2 l2 c2] W (CopiedC W l2 (up qs))) := fun W h => ints_own a2 (up qs) l2 c2 W h
  have HP : Hid (Sm ps) := hp
  have HQ : Hid (Sm qs) := hq
  have H2 : Hid (Arg w a2 l2 c2 (up qs)) := h2
  clear hp hq h1 h2
  go_enter Try.func11, Try.ntmps11
  go_wp2_with (first
    | (go_at_call 29; (with_reducible refine hw.mono ?_); rintro e w' ⟨rfl, rfl⟩)
    | (go_at_call 20; (with_reducible refine I1.out.mono ?_); rintro e w1 ⟨b1, d1, rfl, r1, hb1⟩)
    | (go_at_call 20; (with_reducible refine (I2.out w1 (H2.out.below hb1)).mono ?_); rintro e w2 ⟨b2, d2, rfl, r2, hb2⟩))
  have R1 : CapR w.heap.size w2 b1 d1 (up ps) := r1.later hb2
  have R2 : CapR w.heap.size w2 b2 d2 (up qs) := CapR.mono r2 hb1.size
  have HNE : Hid (∀ x y, b1 = some x → b2 = some y → x.block ≠ y.block) := fun x y hx hy => by
    have := (r1.lt x hx).2
    have := (r2.lt y hy).1
    omega
  have B2 : Below w.heap.size w w2 := hb1.trans (hb2.mono hb1.size)
  clear r1 r2 hb1 hb2 hw I1 I2 H2
  go_loopg [10] l1 (fun gk i wr => ∃ (k : Nat) (os B : List Nat), k ≤ l1 ∧ gk = l1 - k ∧ i = .int .i64 k ∧ os.length = k ∧ B.length = l2 ∧ Sm B ∧ os ++ redP (ps.drop k) B = redP ps qs ∧ redQ (ps.drop k) B = redQ ps qs ∧ CapR w.heap.size wr b1 d1 (up (os ++ ps.drop k)) ∧ CapR w.heap.size wr b2 d2 (up B) ∧ Below w.heap.size w wr)
  case atStart => exact ⟨0, [], qs, Nat.zero_le _, rfl, rfl, rfl, hl2, HQ.out, rfl, rfl, R1, R2, B2⟩
  case round =>
    clear R1 R2 B2
    obtain ⟨k, os, B, hk, rfl, rfl, hos, hBl, hBs, heP, heQ, hrow1, hrow2, hbel⟩ := hrel
    have HO : Hid (os.length = k) := hos
    have HBL : Hid (B.length = l2) := hBl
    have HBS : Hid (Sm B) := hBs
    have HEP : Hid (os ++ redP (ps.drop k) B = redP ps qs) := heP
    have HEQ : Hid (redQ (ps.drop k) B = redQ ps qs) := heQ
    have HR1 : Hid (CapR w.heap.size wr b1 d1 (up (os ++ ps.drop k))) := hrow1
    have HR2 : Hid (CapR w.heap.size wr b2 d2 (up B)) := hrow2
    clear hos hBl hBs heP heQ hrow1 hrow2
    by_cases hlt : k < l1
    · obtain ⟨p0, HD0⟩ := drop_cons' (ps := ps) (k := k) (by omega)
      have HD : Hid (ps.drop k = p0 :: ps.drop (k + 1)) := HD0
      have hp0 : 1 ≤ p0 ∧ p0 ≤ 9223372036854775807 := HP.out p0 (List.mem_of_mem_drop (i := k) (by rw [HD0]; simp))
      have hk1 : (k : Int) < (l1 : Int) := by omega
      clear HD0
      obtain ⟨R, hR⟩ : ∃ R, R = ps.drop (k + 1) := ⟨_, rfl⟩
      have HRR : Hid (R = ps.drop (k + 1)) := hR
      have HR1' : Hid (CapR w.heap.size wr b1 d1 (up (os ++ p0 :: R))) := by have := HR1.out; rw [HD.out, ← hR] at this; exact this
      have HP0 : Hid (1 ≤ p0 ∧ p0 ≤ 9223372036854775807) := hp0
      clear hR HR1 hp0
      go_wp2
      go_loopg [11, 12] l2 (fun gm j _ wr => ∃ (m p : Nat) (ts us : List Nat), m ≤ l2 ∧ gm = l2 - m ∧ j = .int .i64 m ∧ ts.length = m ∧ ts.length + us.length = l2 ∧ (1 ≤ p ∧ p ≤ 9223372036854775807) ∧ Sm us ∧ rowP p us = rowP p0 B ∧ ts ++ rowQ p us = rowQ p0 B ∧ CapR w.heap.size wr b1 d1 (up (os ++ p :: R)) ∧ CapR w.heap.size wr b2 d2 (up (ts ++ us)) ∧ Below w.heap.size w wr)
      case atStart => exact ⟨0, p0, [], B, Nat.zero_le _, rfl, rfl, rfl, by simpa using HBL.out, HP0.out, HBS.out, rfl, rfl, HR1'.out, HR2.out, hbel⟩
      case round =>
        clear HR1' HR2 hbel
        obtain ⟨m, p, ts, us, hm, rfl, rfl, hts, htu, hpp, hus, heP, heQ, hrow1, hrow2, hbel⟩ := hrel
        have HT : Hid (ts.length = m) := hts
        have HTU : Hid (ts.length + us.length = l2) := htu
        have HEP2 : Hid (rowP p us = rowP p0 B) := heP
        have HEQ2 : Hid (ts ++ rowQ p us = rowQ p0 B) := heQ
        have HUS : Hid (Sm us) := hus
        have HPP : Hid (1 ≤ p ∧ p ≤ 9223372036854775807) := hpp
        clear hts htu heP heQ hus hpp
        by_cases hltm : m < l2
        · have hm1 : (m : Int) < (l2 : Int) := by omega
          cases us with
          | nil =>
            exfalso
            have h1 := HTU.out
            have h2 := HT.out
            rw [List.length_nil] at h1
            omega
          | cons q us =>
            have HQQ : Hid ((1 ≤ q ∧ q ≤ 9223372036854775807) ∧ Sm us) := sm_cons.1 HUS.out
            obtain ⟨g1, rfl, hg1, -⟩ := hrow1.there (by simp [up]; omega)
            obtain ⟨g2, rfl, hg2, -⟩ := hrow2.there (by simp [up]; omega)
            have hne : g1 ≠ g2 := HNE.out _ _ rfl rfl
            rw [up_app] at hrow1 hrow2
            have hx0 : 1 ≤ p / Nat.gcd p q ∧ p / Nat.gcd p q ≤ 9223372036854775807 := ⟨quo_pos HPP.out.1, div_le_max HPP.out.2⟩
            have hy0 : 1 ≤ q / Nat.gcd p q ∧ q / Nat.gcd p q ≤ 9223372036854775807 := ⟨quo_pos_right HQQ.out.1.1, div_le_max HQQ.out.1.2⟩
            have HX : Hid ((1 ≤ p / Nat.gcd p q ∧ p / Nat.gcd p q ≤ 9223372036854775807) ∧ rowP (p / Nat.gcd p q) us = rowP p0 B ∧ (ts ++ [q / Nat.gcd p q]) ++ rowQ (p / Nat.gcd p q) us = rowQ p0 B) := by
              refine ⟨hx0, HEP2.out, ?_⟩
              rw [List.append_assoc]
              exact HEQ2.out
            have rc : ∀ W, Calls Try.prog 21 #[.int .u64 (p : Int), .int .u64 (q : Int)] W fun e w' => e = .returned (.int .u64 (Nat.gcd p q : Nat)) ∧ W = w' := fun W => rcommon_any p q W (by have := HPP.out; omega) (by have := HQQ.out; omega)
            have hgp : 1 ≤ Nat.gcd p q := Nat.gcd_pos_of_pos_left q HPP.out.1
            have hgl : Nat.gcd p q ≤ p := Nat.le_of_dvd HPP.out.1 (Nat.gcd_dvd_left p q)
            have ex : (p : Int).tdiv (Nat.gcd p q : Nat) = (p / Nat.gcd p q : Nat) := by rw [Int.tdiv_eq_ediv_of_nonneg (by omega)]; exact (Int.natCast_ediv p (Nat.gcd p q)).symm
            have ey : (q : Int).tdiv (Nat.gcd p q : Nat) = (q / Nat.gcd p q : Nat) := by rw [Int.tdiv_eq_ediv_of_nonneg (by omega)]; exact (Int.natCast_ediv q (Nat.gcd p q)).symm
            generalize p / Nat.gcd p q = x at *
            generalize q / Nat.gcd p q = y at *
            generalize Nat.gcd p q = g at *
            have w1' : IntKind.u64.wrap (p : Int) = (p : Int) := by rw [IntKind.wrap_u64]; have := HPP.out; omega
            have w2' : IntKind.u64.wrap (q : Int) = (q : Int) := by rw [IntKind.wrap_u64]; have := HQQ.out; omega
            have w3' : IntKind.i64.wrap (g : Int) = (g : Int) := by rw [IntKind.wrap_i64]; have := HPP.out; omega
            have w4' : IntKind.i64.wrap (x : Int) = (x : Int) := by rw [IntKind.wrap_i64]; omega
            have w5' : IntKind.i64.wrap (y : Int) = (y : Int) := by rw [IntKind.wrap_i64]; omega
            have w6' : wrap64 (x : Int) = (x : Int) := by unfold wrap64; omega
            have w7' : wrap64 (y : Int) = (y : Int) := by unfold wrap64; omega
            have hg0 : ¬ (g : Int) = 0 := by omega
            have hc1 := hrow1.hd (by simp [up]; exact HO.out)
            have hc2 := hrow2.hd (by simp [up]; exact HT.out)
            have KR1 : Hid (CapR w.heap.size wr (some ⟨g1, 0, none⟩) d1 (up os ++ (p : Int) :: up R)) := hrow1
            have KR2 : Hid (CapR w.heap.size wr (some ⟨g2, 0, none⟩) d2 (up ts ++ (q : Int) :: up us)) := hrow2
            have KB : Hid (Below w.heap.size w wr) := hbel
            have KG : Hid (w.heap.size ≤ g1 ∧ w.heap.size ≤ g2 ∧ g1 ≠ g2) := ⟨hg1, hg2, hne⟩
            clear hrow1 hrow2 hbel hx0 hy0 hgp hgl hg1 hg2 hne
            go_wp2
            go_quiet (first | (go_at_call 21; (with_reducible refine (rc _).mono ?_); rintro e w' ⟨rfl, rfl⟩; exact ⟨rfl, _, rfl⟩))
            have hrow1 := KR1.out.later (bdrew (Below.refl wr.heap.size wr) nq)
            have hrow2 := KR2.out.later (bdrew (Below.refl wr.heap.size wr) nq)
            have hbel := bdrew KB.out nq
            clear hc1 hc2 KR1 KR2 KB
            generalize wr.drewN nq = W at *
            have hc1 := hrow1.hd (k := k) (by simp [up]; exact HO.out)
            have hf1 := hrow1.fz k
            have hro1 := hrow1.set (x : Int) (k := k) (by simp [up]; exact HO.out)
            have hro2 := hrow2.setOther (ad := ⟨g1, k, none⟩) (fun z hz => by cases hz; exact KG.out.2.2.symm) (.int .i64 (x : Int))
            have hc2 := hro2.hd (k := m) (by simp [up]; exact HT.out)
            have hf2 := hro2.fz m
            have hro3 := hro1.setOther (ad := ⟨g2, m, none⟩) (fun z hz => by cases hz; exact KG.out.2.2) (.int .i64 (y : Int))
            have hro4 := hro2.set (y : Int) (k := m) (by simp [up]; exact HT.out)
            rw [← up_app] at hro3 hro4
            have K3 : Hid (CapR w.heap.size ((W.setCell ⟨g1, k, none⟩ (.int .i64 (x : Int))).setCell ⟨g2, m, none⟩ (.int .i64 (y : Int))) (some ⟨g1, 0, none⟩) d1 (up (os ++ x :: R))) := hro3
            have K4 : Hid (CapR w.heap.size ((W.setCell ⟨g1, k, none⟩ (.int .i64 (x : Int))).setCell ⟨g2, m, none⟩ (.int .i64 (y : Int))) (some ⟨g2, 0, none⟩) d2 (up (ts ++ y :: us))) := hro4
            have K5 : Hid (Below w.heap.size w ((W.setCell ⟨g1, k, none⟩ (.int .i64 (x : Int))).setCell ⟨g2, m, none⟩ (.int .i64 (y : Int)))) := (hbel.setCell (p := ⟨g1, k, none⟩) KG.out.1 (.int .i64 (x : Int))).setCell (p := ⟨g2, m, none⟩) KG.out.2.1 (.int .i64 (y : Int))
            clear hrow1 hrow2 hro1 hro2 hro3 hro4 hbel
            go_wp2
            go_roundg (l2 - (m + 1))
            case measure => omega
            case rel =>
              refine ⟨m + 1, x, ts ++ [y], us, by omega, rfl, by go_num, by simp [HT.out], ?_, HX.out.1, HQQ.out.2, HX.out.2.1, HX.out.2.2, K3.out, ?_, K5.out⟩
              · have h1 := HTU.out
                simp at h1 ⊢
                omega
              · rw [List.append_assoc]; exact K4.out
        · have em : l2 = m := by omega
          subst em
          have hmm : ¬ (l2 : Int) < (l2 : Int) := by omega
          have eu : us = [] := by
            have h1 := HTU.out
            have h2 := HT.out
            exact List.eq_nil_of_length_eq_zero (by omega)
          subst eu
          have ep : p = rowP p0 B := HEP2.out
          have et : ts = rowQ p0 B := by have := HEQ2.out; rw [rowQ, List.append_nil] at this; exact this
          subst ep
          subst et
          go_wp2
          go_roundg (l1 - (k + 1))
          case measure => omega
          case rel =>
            refine ⟨k + 1, os ++ [rowP p0 B], rowQ p0 B, by omega, rfl, by go_num, by simp [HO.out], by rw [rowQ_len]; exact HBL.out, sm_rowQ HBS.out, ?_, ?_, ?_, ?_, hbel⟩
            · rw [List.append_assoc]; have := HEP.out; rw [HD.out, redP] at this; exact this
            · have := HEQ.out; rw [HD.out, redQ] at this; exact this
            · rw [List.append_assoc]; rw [HRR.out] at hrow1; exact hrow1
            · rw [List.append_nil] at hrow2; exact hrow2
    · have ek : l1 = k := by omega
      subst ek
      have hkk : ¬ (l1 : Int) < (l1 : Int) := by omega
      have ed : ps.drop l1 = [] := List.drop_eq_nil_of_le (by omega)
      have e1 : os = redP ps qs := by have := HEP.out; rw [ed, redP, List.append_nil] at this; exact this
      have e2 : B = redQ ps qs := by have := HEQ.out; rw [ed, redQ] at this; exact this
      have K1 : Hid (CapR w.heap.size wr b1 d1 (up (redP ps qs))) := by have := HR1.out; rw [ed, List.append_nil, e1] at this; exact this
      have K2 : Hid (CapR w.heap.size wr b2 d2 (up (redQ ps qs))) := by have := HR2.out; rw [e2] at this; exact this
      clear e1 e2 ed HR1 HR2
      go_wp2
      exact bodyPost_ret (v := .tuple #[.slice b1 l1 d1, .slice b2 l2 d2, .int .i64 0]) (by simp [results, Try.results11, go_sem]) rfl ⟨hbel, b1, b2, d1, d2, rfl, K1.out, K2.out⟩

set_option maxRecDepth 100000 in
set_option maxHeartbeats 1000000 in
theorem rreduce_any (a1 a2 : Option Addr) (xs ys : List Int) (l1 c1 l2 c2 : Nat) (w : World) (h1 : Arg w a1 l1 c1 xs) (h2 : Arg w a2 l2 c2 ys) :
    Calls Try.prog 11 #[.slice a1 l1 c1, .slice a2 l2 c2] w (RRedEnd w xs ys) := by
  have hr1 := h1.reach
  have hr2 := h2.reach
  have hw := wrong_any a1 a2 xs ys l1 c1 l2 c2 w h1.size h2.size (by omega) (by omega) h1.lies h2.lies
  by_cases h0 : cE xs ys = 0
  · obtain ⟨z1, z2, p1, p2⟩ := cE_zero h0
    rw [h0] at hw
    have s1 := sm_nats h1.fits p1
    have s2 := sm_nats h2.fits p2
    have e1 := up_nats p1
    have e2 := up_nats p2
    have hl1 := h1.size
    have hl2 := h2.size
    refine (rreduce_ok a1 a2 (nats xs) (nats ys) l1 c1 l2 c2 w (by rw [nats_len]; exact hl1) (by rw [nats_len]; exact hl2) (by omega) (by omega) (by rw [e1]; exact h1) (by rw [e2]; exact h2) s1 s2 hw).mono ?_
    rintro e w' ⟨hb, a, b, d1, d2, rfl, r1, r2⟩
    obtain ⟨f1, f2⟩ := cA_ok h0
    refine ⟨hb, a, b, d1, d2, ?_, by rw [f1]; exact r1, by rw [f2]; exact r2⟩
    rw [f1, f2, h0, up_len, up_len, redP_len, redQ_len, nats_len, nats_len, hl1, hl2]
  · have e0 : ((cE xs ys) != 0) = true := by simpa using h0
    have H0 : Hid (cE xs ys ≠ 0) := h0
    clear h0 h1 h2
    generalize hEE : cE xs ys = E at *
    have HEE : Hid (cE xs ys = E) := hEE
    clear hEE
    go_enter Try.func11, Try.ntmps11
    go_wp2_with (go_at_call 29; (with_reducible refine hw.mono ?_); rintro e w' ⟨rfl, rfl⟩)
    exact bodyPost_ret (v := .tuple #[.slice none 0 0, .slice none 0 0, .int .i64 E]) (by simp [results, Try.results11, go_sem]) rfl (rred_bad HEE.out H0.out (Below.refl _ _))
end Go.Proofs.Ytgjeihdibcjjcaa

/- Texts of one chain, laid one behind the other. -/
import Derived.Test.YthgmdaaiolgjlaaPartNestExpands25
import Derived.Test.YthgmdaaiolgjlaaPartNestExpands8
import Derived.Test.YthgmdaaiolgjlaaPartNestExpands26
import Derived.Test.YthgmdaaiolgjlaaPartNestExpands12
import Derived.Test.YthgmdaaiolgjlaaPartNestExpands13
import Derived.Test.YthgmdaaiolgjlaaPartNestExpands22
namespace Go.Proofs.Ythgmdaaiolgjlaa
open Go.ChangeShapes Go.WideShapes Go.ChangeAt Go.RowKit Go.Shelf
set_option maxRecDepth 100000 in
set_option maxHeartbeats 8000000 in
theorem nestExpands_walk (a : Option Addr) (l : List Lp) (c : Nat) (w : World) (h : Nst (· < w.heap.size) false w a l) : Calls Try.prog 5 #[.slice a l.length c] w fun e w' => e = .returned (.bool true) ∧ Below w.heap.size w w' := by
  have HV := hiddenN (heavyZ_any l (· < w.heap.size) false a c w h)
  have AW := hiddenN awake16
  obtain ⟨RE, hRE⟩ : ∃ Q : Ending → World → Prop, (fun e w' => e = .returned (.bool true) ∧ Below w.heap.size w w') = Q := ⟨_, rfl⟩
  rw [hRE]
  have HRE := hiddenN hRE
  have HN := hiddenN h
  obtain ⟨L, hL⟩ : ∃ q, l.length = q := ⟨_, rfl⟩
  have HL := hiddenN hL
  rw [hL] at HV ⊢
  clear hRE h hL
  go_enter Try.func5, Try.ntmps5
  go_upto_region 3 with (go_at_call 9; (with_reducible refine HV.out.mono ?_); rintro e V0 ⟨b, rfl, hb, hw⟩; subst hw; cases b)
  · have hs : sizZ l ≤ 65536 := by simpa using hb
    have HS : Hid (sizZ l ≤ 1000000) := by show _ ≤ _; omega
    have LE : Hid (Calls Try.prog 10 #[.slice a L c] w (LenE l w)) := by
      have := lentZ_any l w.heap.size false a c w HN.out (Nat.le_refl _) HS.out
      rwa [HL.out] at this
    have EX : Hid (∀ u B g cc, LtdZ B u g cc l → Calls Try.prog 17 #[.slice (some ⟨g, 0, none⟩) L cc] u (ExpE l u)) := fun u B g cc h => by
      have := expandZ_any l true (some ⟨g, 0, none⟩) cc u h.bare HS.out
      rwa [HL.out] at this
    have RX : Hid (∀ u, Below w.heap.size w u → Calls Try.prog 18 #[.slice a L c] u (ExpE l u)) := fun u hu => by
      have := rexpandZ_any l false a c u ((HN.out.below hu).mono fun k hk => Nat.lt_of_lt_of_le hk hu.size) HS.out
      rwa [HL.out] at this
    have KP : Hid (∀ u B g cc, LtdZ B u g cc l → Below w.heap.size w u → Calls Try.prog 14 #[.slice (some ⟨g, 0, none⟩) L cc, .slice a L c] u fun e w' => e = .returned (.bool true) ∧ ∃ n, w' = u.drewN n) := fun u B g cc h hu => by
      have := keptZ_any l (fun k => B ≤ k ∧ TyZ u k) (· < w.heap.size) false g 0 cc a c u h.nst h.cap (HN.out.below hu) HS.out
      rwa [HL.out] at this
    unfold LenE at LE
    unfold ExpE at EX RX
    have hlt := kept_tot l
    rw [← exp_len] at hlt
    obtain ⟨A, hA⟩ : ∃ q, expZ (keptZ l) = q := ⟨_, rfl⟩
    rw [hA] at EX RX hlt
    obtain ⟨NA, hNA⟩ : ∃ q, A.length = q := ⟨_, rfl⟩
    rw [hNA] at EX RX hlt
    have HNA := hiddenN hNA
    obtain ⟨E, hE⟩ : ∃ q, chkZ l = q := ⟨_, rfl⟩
    rw [hE] at EX RX
    have SI : Hid (∀ U x y cx cy, At U x A → At U y A → Calls Try.prog 19 #[.slice x NA cx, .slice y NA cy] U fun e w' => e = .returned (.bool true) ∧ Below U.heap.size U w') := fun U x y cx cy h1 h2 => by
      have := sameN U x y A cx cy (by rw [hNA]; omega) h1 h2
      rwa [hNA] at this
    have e1 : ((E : Int) != (E : Int)) = false := by simp
    clear hb hs hE HV hA hNA
    go_upto_region 4 with (go_at_call 10; (with_reducible refine LE.out.mono ?_); rintro e V1 ⟨g1, c1, rfl, hl, b⟩; rw [HL.out]; have T1 := hiddenN hl; have L1 := hiddenN b; clear hl b)
    go_upto_region 5 with (go_at_call 17; (with_reducible refine (EX.out V1 _ g1 c1 T1.out).mono ?_); rintro e V2 ⟨d2, k2, rfl, hc, b⟩; have O2 := hiddenN b; have H21 := hiddenN b.size; have A2 := hiddenN hc; have T2 := hiddenN (T1.out.later b); clear hc b)
    go_upto_region 6 with (go_at_call 17; (with_reducible refine (EX.out V2 _ g1 c1 T2.out).mono ?_); rintro e V3 ⟨d3, k3, rfl, hc, b⟩; have O3 := hiddenN (O2.out.trans (b.mono O2.out.size)); have A3 := hiddenN hc; have D2 : Hid (∀ x, d2 = some x → x.block < V2.heap.size) := (fun x hx => (A2.out.lt x hx).2); have AA3 := hiddenN (A2.out.later b); have H32 := hiddenN b.size; clear hc b)
    go_upto_region 7 with (go_at_call 18; (with_reducible refine (RX.out V3 (L1.out.trans (O3.out.mono L1.out.size))).mono ?_); rintro e V4 ⟨d4, k4, rfl, hc, b⟩; have O4 := hiddenN (O3.out.trans (b.mono O3.out.size)); have A4 := hiddenN hc.at; have P4 := hiddenN (AA3.out.later b); have Q4 := hiddenN (A3.out.later b); have H42 := hiddenN (Nat.le_trans H32.out b.size); clear hc b)
    clear A2 T2 A3 AA3 H32 O2 O3
    go_upto_region 9 with (first
      | (go_at_call 19; (with_reducible refine (SI.out V5 d3 d4 k3 k4 Q5.out.at A5.out).mono ?_); rintro e V6 ⟨rfl, b⟩; have O6 := hiddenN (O5.out.trans (b.mono O5.out.size)); have P6 := hiddenN (P5.out.later b); have Q6 := hiddenN (Q5.out.later b); have H62 := hiddenN (Nat.le_trans H52.out b.size); clear b)
      | (go_at_call 19; (with_reducible refine (SI.out V4 d2 d4 k2 k4 P4.out.at A4.out).mono ?_); rintro e V5 ⟨rfl, b⟩; have O5 := hiddenN (O4.out.trans (b.mono O4.out.size)); have A5 := hiddenN (A4.out.below b); have P5 := hiddenN (P4.out.later b); have Q5 := hiddenN (Q4.out.later b); have H52 := hiddenN (Nat.le_trans H42.out b.size); clear b))
    have AW6 := hiddenN (AW.out V6)
    have O21 : Hid (V1.heap.size ≤ V2.heap.size) := H21
    clear EX RX LE AW SI A4 P4 Q4 A5 P5 Q5 H42 H52 O4 O5
    go_wp2_with (first
      | (go_at_call 11; (with_reducible refine AW6.out.mono ?_); rintro e V7 ⟨rfl, b⟩; have O7 := hiddenN (O6.out.trans (b.mono O6.out.size)); have AP7 := hiddenN (apart_duoZ (by rw [HNA.out]; omega) (by rw [HNA.out]; omega) (P6.out.later b) (Q6.out.later b) O21.out D2.out O7.out.size NA NA HNA.out HNA.out); clear b)
      | (go_at_call 20; (with_reducible refine AP7.out.mono ?_); rintro e V8 ⟨rfl, b⟩; have O8 := hiddenN (O7.out.trans b); have T8 := hiddenN (T1.out.later O8.out); have L8 := hiddenN (L1.out.trans (O8.out.mono L1.out.size)); have KP8 := hiddenN (KP.out V8 _ g1 c1 T8.out L8.out); clear b)
      | (go_at_call 14; (with_reducible refine KP8.out.mono ?_); rintro e V9 ⟨rfl, n9, hn9⟩; have L9 : Hid (Below w.heap.size w V9) := (by show Below _ _ _; rw [hn9]; exact drewB L8.out n9); clear hn9))
    rw [← HRE.out]
    exact ⟨by first | rfl | simp, L9.out⟩
  · rw [← HRE.out]
    exact ⟨rfl, Below.refl _ _⟩
end Go.Proofs.Ythgmdaaiolgjlaa

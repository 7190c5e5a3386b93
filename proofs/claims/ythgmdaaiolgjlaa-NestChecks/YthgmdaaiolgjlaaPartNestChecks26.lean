/- Texts of one chain, laid one behind the other. -/
import Derived.Test.YthgmdaaiolgjlaaPartNestChecks25
import Derived.Test.YthgmdaaiolgjlaaPartNestChecks20
import Derived.Test.YthgmdaaiolgjlaaPartNestChecks12
import Derived.Test.YthgmdaaiolgjlaaPartNestChecks13
import Derived.Test.YthgmdaaiolgjlaaPartNestChecks22
namespace Go.Proofs.Ythgmdaaiolgjlaa
open Go.ChangeShapes Go.WideShapes Go.ChangeAt Go.RowKit Go.Shelf
set_option maxRecDepth 100000 in
set_option maxHeartbeats 8000000 in
theorem nestChecks_walk (a : Option Addr) (l : List Lp) (c : Nat) (w : World) (h : Nst (· < w.heap.size) false w a l) : Calls Try.prog 3 #[.slice a l.length c] w fun e w' => e = .returned (.bool true) ∧ Below w.heap.size w w' := by
  have HV := hiddenN (heavyZ_any l (· < w.heap.size) false a c w h)
  have AW := hiddenN awake16
  obtain ⟨RE, hRE⟩ : ∃ Q : Ending → World → Prop, (fun e w' => e = .returned (.bool true) ∧ Below w.heap.size w w') = Q := ⟨_, rfl⟩
  rw [hRE]
  have HRE := hiddenN hRE
  have HN := hiddenN h
  obtain ⟨L, hL⟩ : ∃ q, l.length = q := ⟨_, rfl⟩
  have HL := hiddenN hL
  rw [hL] at HV ⊢
  clear hRE h hL
  go_enter Try.func3, Try.ntmps3
  go_upto_region 3 with (go_at_call 9; (with_reducible refine HV.out.mono ?_); rintro e V0 ⟨b, rfl, hb, hw⟩; subst hw; cases b)
  · have hs : sizZ l ≤ 65536 := by simpa using hb
    have HS : Hid (sizZ l ≤ 1000000) := by show _ ≤ _; omega
    have LE : Hid (Calls Try.prog 10 #[.slice a L c] w (LenE l w)) := by
      have := lentZ_any l w.heap.size false a c w HN.out (Nat.le_refl _) HS.out
      rwa [HL.out] at this
    have CK : Hid (∀ u B g cc, LtdZ B u g cc l → Calls Try.prog 12 #[.slice (some ⟨g, 0, none⟩) L cc] u fun e w' => e = .returned (.int .i64 (chkZ l : Int)) ∧ Below u.heap.size u w') := fun u B g cc h => by
      have := checkZ_any l true (some ⟨g, 0, none⟩) cc u h.bare HS.out
      rwa [HL.out] at this
    have RC : Hid (∀ u, Below w.heap.size w u → Calls Try.prog 13 #[.slice a L c] u fun e w' => e = .returned (.int .i64 (chkZ l : Int)) ∧ Below u.heap.size u w') := fun u hu => by
      have := rcheckZ_any l false a c u ((HN.out.below hu).mono fun k hk => Nat.lt_of_lt_of_le hk hu.size) HS.out
      rwa [HL.out] at this
    have KP : Hid (∀ u B g cc, LtdZ B u g cc l → Below w.heap.size w u → Calls Try.prog 14 #[.slice (some ⟨g, 0, none⟩) L cc, .slice a L c] u fun e w' => e = .returned (.bool true) ∧ ∃ n, w' = u.drewN n) := fun u B g cc h hu => by
      have := keptZ_any l (fun k => B ≤ k ∧ TyZ u k) (· < w.heap.size) false g 0 cc a c u h.nst h.cap (HN.out.below hu) HS.out
      rwa [HL.out] at this
    unfold LenE at LE
    obtain ⟨E, hE⟩ : ∃ q, chkZ l = q := ⟨_, rfl⟩
    rw [hE] at CK RC
    have e1 : ((E : Int) == (E : Int)) = true := by simp
    clear hb hs hE HV
    go_upto_region 4 with (go_at_call 10; (with_reducible refine LE.out.mono ?_); rintro e V1 ⟨g1, c1, rfl, hl, b⟩; rw [HL.out]; have T1 := hiddenN hl; have L1 := hiddenN b; clear hl b)
    go_wp2_with (first
      | (go_at_call 11; (with_reducible refine (AW.out V1).mono ?_); rintro e V2 ⟨rfl, b⟩; have L2 := hiddenN (L1.out.trans (b.mono L1.out.size)); have T2 := hiddenN (T1.out.later b); clear b)
      | (go_at_call 12; (with_reducible refine (CK.out V2 _ g1 c1 T2.out).mono ?_); rintro e V3 ⟨rfl, b⟩; have L3 := hiddenN (L2.out.trans (b.mono L2.out.size)); have T3 := hiddenN (T2.out.later b); clear b)
      | (go_at_call 13; (with_reducible refine (RC.out V3 L3.out).mono ?_); rintro e V4 ⟨rfl, b⟩; have L4 := hiddenN (L3.out.trans (b.mono L3.out.size)); have T4 := hiddenN (T3.out.later b); have KP4 := hiddenN (KP.out V4 _ g1 c1 T4.out L4.out); clear b)
      | (go_at_call 14; (with_reducible refine KP4.out.mono ?_); rintro e V5 ⟨rfl, n5, hn5⟩; have L5 : Hid (Below w.heap.size w V5) := (by show Below _ _ _; rw [hn5]; exact drewB L4.out n5); clear hn5))
    rw [← HRE.out]
    exact ⟨by first | rfl | simp, L5.out⟩
  · rw [← HRE.out]
    exact ⟨rfl, Below.refl _ _⟩
end Go.Proofs.Ythgmdaaiolgjlaa

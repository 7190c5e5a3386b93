/- The walk through the statement FracScales. -/
import Derived.Test.YtgjeihdibcjjcabFRefScaleB
import Derived.Test.YtgjeihdibcjjcabFrKeep
import Derived.Test.YtgjeihdibcjjcabFrAwake
import Derived.Test.YtgjeihdibcjjcabApart
namespace Go.Proofs.Ytgjeihdibcjjcab
open Go.ChangeShapes Go.WideShapes Go.ChangeAt Go.RowKit

theorem OwnS.capL {base : Nat} {w : World} {a : Option Addr} {n cap : Nat} {zs : List Int} (h : OwnS base w a n cap zs) (hm : zs.length ≤ 4611686018427387904) : CapR base w a cap zs := by
  obtain ⟨hl, ⟨rfl, h0, rfl⟩ | ⟨g, rfl, hg, hc, hr⟩⟩ := h
  · have : zs = [] := List.eq_nil_of_length_eq_zero (by omega)
    subst this
    exact World.ownsRow_nil _ _ _ _
  · subst hl
    obtain ⟨c, hh, hn, hcell⟩ := hr
    refine ⟨by simp, .inr ⟨g, cap, c, rfl, hg, hh, by omega, by unfold maxLen; omega, by omega, ?_⟩⟩
    rw [Nat.mul_one, List.take_of_length_le (by rw [Array.length_toList]; omega)]
    apply List.ext_getElem?
    intro i
    rw [Array.getElem?_toList]
    by_cases hi : i < zs.length
    · rw [hcell i hi, get_map hi]
    · rw [Array.getElem?_eq_none (by omega), List.getElem?_eq_none (by simp; omega)]
theorem scR_len (fs : List (Int × Int)) : (scR fs).length ≤ fs.length := by
  unfold scR
  cases scOK fs with
  | none => exact Nat.zero_le _
  | some K => rw [scL_len]; exact Nat.le_refl _
def duo {α : Type} (a b : α) (j : Nat) : α := match j with
  | 0 => a
  | _ => b
theorem duo_cases {p : Nat → Prop} (h0 : p 0) (h1 : p 1) : ∀ j, j < 2 → p j := fun j hj => by
  match j, hj with
  | 0, _ => exact h0
  | 1, _ => exact h1
/-- Two rows, one made behind the other, as a table. -/
theorem table_duo {B m : Nat} {w : World} {a b : Option Addr} {n1 n2 : Nat} {P Q : List Int} (hP : P.length * 8 ≤ 140737488351232) (hQ : Q.length * 8 ≤ 140737488351232) (ha : CapR B w a n1 P) (hb : CapR m w b n2 Q) (hBm : B ≤ m) (la : ∀ x, a = some x → x.block < m) (hlow : B ≤ w.heap.size) :
    Table B (w.alloc (.cells #[.slice a P.length n1, .slice b Q.length n2] 22)) w.heap.size 2 (duo a b) (duo P.length Q.length) (duo n1 n2) (duo P Q) := by
  have bel : Below w.heap.size w (w.alloc (.cells #[.slice a P.length n1, .slice b Q.length n2] 22)) := (Below.refl _ _).alloc (Nat.le_refl _) _
  have lt : ∀ j, j < 2 → ∀ x, duo a b j = some x → x.block < w.heap.size := duo_cases (fun x hx => (ha.lt x hx).2) (fun x hx => (hb.lt x hx).2)
  have lb : ∀ x, b = some x → m ≤ x.block := fun x hx => (hb.lt x hx).1
  refine ⟨duo_cases ⟨ha.later bel, rfl⟩ ⟨(hb.mono hBm).later bel, rfl⟩, duo_cases (by simp [duo]) (by simp [duo]), ?_, fun j x hj hx => ?_, by simp, by simp; omega, by decide, duo_cases hP hQ⟩
  · intro j k x y hj hk hjk hx hy
    match j, k, hj, hk, hjk, hx, hy with
    | 0, 0, _, _, h, _, _ => exact absurd rfl h
    | 0, 1, _, _, _, hx, hy => have := la x hx; have := lb y hy; omega
    | 1, 0, _, _, _, hx, hy => have := la y hy; have := lb x hx; omega
    | 1, 1, _, _, h, _, _ => exact absurd rfl h
  · have := lt j hj x hx
    omega

set_option maxRecDepth 100000 in
set_option maxHeartbeats 1000000 in
theorem scales_any (a : Option Addr) (len cap : Nat) (fs : List (Int × Int)) (w : World) (hA : ArgP w a len cap fs) :
    Calls Try.prog 5 #[.slice a len cap] w fun e w' => e = .returned (.bool true) ∧ Below w.heap.size w w' := by
  have HA : Hid (ArgP w a len cap fs) := hA
  have hr := hA.reach
  have hlent := lentP_any a fs len cap w hA
  have h1 : Hid (∀ g capg W, AtP W (some ⟨g, 0, none⟩) fs → Calls Try.prog 18 #[.slice (some ⟨g, 0, none⟩) len capg] W (ScaleEnd W fs)) := fun g capg W h => scale_frac _ fs len capg W hA.size hr hA.fits h
  have h2 : Hid (∀ W, AtP W a fs → Calls Try.prog 19 #[.slice a len cap] W (RScEnd W fs)) := fun W h => rscale_any a fs len cap W hA.size hr hA.fits h
  have K1 : Hid (∀ g capg W, LendP w.heap.size W g fs → ArgP W a len cap fs → len + 1 ≤ capg → Calls Try.prog 21 #[.slice (some ⟨g, 0, none⟩) len capg, .slice a len cap] W (fun e w' => e = .returned (.bool true) ∧ Below W.heap.size W w')) :=
    fun g capg W k1 k2 k3 => (keptP_any g capg a fs len cap w.heap.size W k1 k2 k3).mono fun e w' ⟨n, h1, h2⟩ => ⟨h1, by rw [h2]; exact bdrew (Below.refl _ _) n⟩
  have SA : Hid (∀ (zs : List Int) a b c1 c2 W, zs.length ≤ 4611686018427387904 → At W a zs → At W b zs → Calls Try.prog 20 #[.slice a zs.length c1, .slice b zs.length c2] W (fun e w' => e = .returned (.bool true) ∧ Below W.heap.size W w')) :=
    fun zs a b c1 c2 W hm k1 k2 => (same_any a b zs zs.length c1 c2 W rfl hm k1 k2).mono fun e w' ⟨n, h1, h2⟩ => ⟨h1, by rw [h2]; exact bdrew (Below.refl _ _) n⟩
  have hm : (scR fs).length * 8 ≤ 140737488351232 := by have := scR_len fs; have := hA.size; omega
  clear hA
  unfold ScaleEnd at h1
  unfold RScEnd at h2
  generalize scR fs = P at *
  generalize scK fs = x at *
  generalize scE fs = y at *
  have HM : Hid (P.length * 8 ≤ 140737488351232 ∧ P.length ≤ 4611686018427387904) := ⟨hm, by omega⟩
  clear hm
  have q1 : (x == x) = true := by simp
  have q2 : (y == y) = true := by simp
  go_enter Try.func5, Try.ntmps5
  go_wp2_with (first
    | (go_at_call 21; (with_reducible refine (K1.out g capg w8 (hL.below M8) (HA.out.below (B0.trans (M8.mono B0.size))) hcg).mono ?_); rintro e w9 ⟨rfl, b9⟩; have M9 := M8.trans (b9.mono M8.size))
    | (go_at_call 23; (with_reducible refine (apart_any w0.heap.size _ _ _ _ _ _ _ _ (table_duo HM.out.1 HM.out.1 (C1.later N7) (C2.later N7) b1.size la M7.size)).mono ?_); rintro e w8 ⟨rfl, b8⟩; have M8 := (M7.alloc M7.size _).trans b8)
    | (go_at_call 22; (with_reducible refine (awake2 _).mono ?_); rintro e w7 ⟨rfl, b7⟩; have N7 := N6.trans (b7.mono N6.size); have M7 := M6.trans (b7.mono M6.size))
    | (go_at_call 21; (with_reducible refine (K1.out g capg w5 (hL.below M5) (HA.out.below (B0.trans (M5.mono B0.size))) hcg).mono ?_); rintro e w6 ⟨rfl, b6⟩; have M6 := M5.trans (b6.mono M5.size); have N6 := N5.trans (b6.mono N5.size))
    | (go_at_call 20; (with_reducible refine (SA.out P a2 z _ _ w4 HM.out.2 (C2.at.below N4) (hz.below N4)).mono ?_); rintro e w5 ⟨rfl, b5⟩; have M5 := M4.trans (b5.mono M4.size); have N5 := N4.trans (b5.mono N4.size))
    | (go_at_call 20; (with_reducible refine (SA.out P a1 z _ _ w3 HM.out.2 C1.at hz).mono ?_); rintro e w4 ⟨rfl, b4⟩; have M4 := M3.trans (b4.mono M3.size); have N4 := b4)
    | (go_at_call 19; (with_reducible refine (h2.out w2 (HA.out.below (B0.trans (M2.mono B0.size))).lies).mono ?_); rintro e w3 ⟨b3, v, rfl, hv⟩; obtain ⟨z, cz, rfl, -, hz, -⟩ := owns_at hv; have M3 := M2.trans (b3.mono M2.size); have C1 := (o1.capL HM.out.2).later (b2.trans (b3.mono b2.size)); have C2 := (o2.capL HM.out.2).later b3)
    | (go_at_call 18; (with_reducible refine (h1.out g capg w1 (hL.below b1).at).mono ?_); rintro e w2 ⟨b2, a2, n2, c2, rfl, o2⟩; have M2 := b1.trans (b2.mono b1.size); have e2 : P.length = n2 := o2.1; subst e2)
    | (go_at_call 18; (with_reducible refine (h1.out g capg w0 hL.at).mono ?_); rintro e w1 ⟨b1, a1, n1, c1, rfl, o1⟩; have e1 : P.length = n1 := o1.1; subst e1; have la := fun x hx => ((o1.capL HM.out.2).lt x hx).2)
    | (go_at_call 17; (with_reducible refine hlent.mono ?_); rintro e w0 ⟨g, capg, rfl, hcg, hL, B0⟩))
  go_ret
  exact ⟨rfl, B0.trans (M9.mono B0.size)⟩
end Go.Proofs.Ytgjeihdibcjjcab

/- The walk through the statement CancelReduces. -/
import Derived.Test.YtgjeihdibcjjcaaCRed
import Derived.Test.YtgjeihdibcjjcaaCAwake
import Derived.Test.YtgjeihdibcjjcaaApart
namespace Go.Proofs.Ytgjeihdibcjjcaa
open Go.ChangeShapes Go.WideShapes Go.ChangeAt Go.RowKit

def four {α : Type} (a b c d : α) (j : Nat) : α := match j with
  | 0 => a
  | 1 => b
  | 2 => c
  | _ => d
theorem OwnS.capR {base : Nat} {w : World} {a : Option Addr} {n cap : Nat} {zs : List Int} (h : OwnS base w a n cap zs) (hm : zs.length ≤ 1024) : CapR base w a cap zs := by
  obtain ⟨hl, ⟨rfl, h0, rfl⟩ | ⟨g, rfl, hg, hc, hr⟩⟩ := h
  · have : zs = [] := List.eq_nil_of_length_eq_zero (by omega)
    subst this
    exact World.ownsRow_nil _ _ _ _
  · subst hl
    obtain ⟨c, hh, hn, hcell⟩ := hr
    refine ⟨by simp, .inr ⟨g, cap, c, rfl, hg, hh, by omega, by unfold maxLen; omega, by omega, ?_⟩⟩
    rw [Nat.mul_one, List.take_of_length_le (by rw [Array.length_toList]; omega)]
    apply List.ext_getElem?
    intro i
    rw [Array.getElem?_toList]
    by_cases hi : i < zs.length
    · rw [hcell i hi, get_map hi]
    · rw [Array.getElem?_eq_none (by omega), List.getElem?_eq_none (by simp; omega)]
theorem four_cases {p : Nat → Prop} (h0 : p 0) (h1 : p 1) (h2 : p 2) (h3 : p 3) : ∀ j, j < 4 → p j := fun j hj => by
  match j, hj with
  | 0, _ => exact h0
  | 1, _ => exact h1
  | 2, _ => exact h2
  | 3, _ => exact h3
/-- Four rows, made two by two, as a table. -/
theorem table_four {B m : Nat} {w : World} {a b c d : Option Addr} {n1 n2 : Nat} {P Q : List Int} (hP : P.length ≤ 1024) (hQ : Q.length ≤ 1024) (ha : CapR B w a n1 P) (hb : CapR B w b n2 Q) (hc : CapR m w c n1 P) (hd : CapR m w d n2 Q) (hBm : B ≤ m)
    (hab : ∀ x y, a = some x → b = some y → x.block < y.block) (hcd : ∀ x y, c = some x → d = some y → x.block < y.block) (la : ∀ x, a = some x → x.block < m) (lb : ∀ x, b = some x → x.block < m) (hlow : B ≤ w.heap.size) :
    Table B (w.alloc (.cells #[.slice a P.length n1, .slice b Q.length n2, .slice c P.length n1, .slice d Q.length n2] 22)) w.heap.size 4 (four a b c d) (four P.length Q.length P.length Q.length) (four n1 n2 n1 n2) (four P Q P Q) := by
  have bel : Below w.heap.size w (w.alloc (.cells #[.slice a P.length n1, .slice b Q.length n2, .slice c P.length n1, .slice d Q.length n2] 22)) := (Below.refl _ _).alloc (Nat.le_refl _) _
  have lt : ∀ j, j < 4 → ∀ x, four a b c d j = some x → x.block < w.heap.size := four_cases (fun x hx => (ha.lt x hx).2) (fun x hx => (hb.lt x hx).2) (fun x hx => (hc.lt x hx).2) (fun x hx => (hd.lt x hx).2)
  have lc : ∀ x, c = some x → m ≤ x.block := fun x hx => (hc.lt x hx).1
  have ld : ∀ x, d = some x → m ≤ x.block := fun x hx => (hd.lt x hx).1
  refine ⟨four_cases ⟨ha.later bel, rfl⟩ ⟨hb.later bel, rfl⟩ ⟨(hc.mono hBm).later bel, rfl⟩ ⟨(hd.mono hBm).later bel, rfl⟩, four_cases (by simp [four]) (by simp [four]) (by simp [four]) (by simp [four]), ?_, fun j x hj hx => ?_, by simp, by simp; omega, by decide, four_cases (by show P.length * 8 ≤ _; omega) (by show Q.length * 8 ≤ _; omega) (by show P.length * 8 ≤ _; omega) (by show Q.length * 8 ≤ _; omega)⟩
  · intro j k x y hj hk hjk hx hy
    match j, k, hj, hk, hjk, hx, hy with
    | 0, 0, _, _, h, _, _ => exact absurd rfl h
    | 0, 1, _, _, _, hx, hy => have := hab x y hx hy; omega
    | 0, 2, _, _, _, hx, hy => have := la x hx; have := lc y hy; omega
    | 0, 3, _, _, _, hx, hy => have := la x hx; have := ld y hy; omega
    | 1, 0, _, _, _, hx, hy => have := hab y x hy hx; omega
    | 1, 1, _, _, h, _, _ => exact absurd rfl h
    | 1, 2, _, _, _, hx, hy => have := lb x hx; have := lc y hy; omega
    | 1, 3, _, _, _, hx, hy => have := lb x hx; have := ld y hy; omega
    | 2, 0, _, _, _, hx, hy => have := la y hy; have := lc x hx; omega
    | 2, 1, _, _, _, hx, hy => have := lb y hy; have := lc x hx; omega
    | 2, 2, _, _, h, _, _ => exact absurd rfl h
    | 2, 3, _, _, _, hx, hy => have := hcd x y hx hy; omega
    | 3, 0, _, _, _, hx, hy => have := la y hy; have := ld x hx; omega
    | 3, 1, _, _, _, hx, hy => have := lb y hy; have := ld x hx; omega
    | 3, 2, _, _, _, hx, hy => have := hcd y x hy hx; omega
    | 3, 3, _, _, h, _, _ => exact absurd rfl h
  · have := lt j hj x hx
    omega

set_option maxRecDepth 100000 in
set_option maxHeartbeats 1000000 in
theorem creduces_any (a1 : Option Addr) (len1 cap1 : Nat) (xs : List Int) (a2 : Option Addr) (len2 cap2 : Nat) (ys : List Int) (w : World) (hA1 : Arg w a1 len1 cap1 xs) (hA2 : Arg w a2 len2 cap2 ys) :
    Calls Try.prog 3 #[.slice a1 len1 cap1, .slice a2 len2 cap2] w fun e w' => e = .returned (.bool true) ∧ Below w.heap.size w w' := by
  have hr1 := hA1.reach
  have hr2 := hA2.reach
  have L1 : Hid (∀ W, Arg W a1 len1 cap1 xs → Calls Try.prog 9 #[.slice a1 len1 cap1] W (LentEnd W len1 xs)) := fun W h => lent_any a1 xs len1 cap1 W h
  have L2 : Hid (∀ W, Arg W a2 len2 cap2 ys → Calls Try.prog 9 #[.slice a2 len2 cap2] W (LentEnd W len2 ys)) := fun W h => lent_any a2 ys len2 cap2 W h
  have D1 : Hid (∀ b1 b2 c1 c2 W, At W b1 xs → At W b2 ys → Calls Try.prog 10 #[.slice b1 len1 c1, .slice b2 len2 c2] W (RedEnd W xs ys)) :=
    fun b1 b2 c1 c2 W k1 k2 => reduce_any b1 b2 xs ys len1 c1 len2 c2 W hA1.size hA2.size (by omega) (by omega) hA1.fits hA2.fits k1 k2
  have D2 : Hid (∀ W, Arg W a1 len1 cap1 xs → Arg W a2 len2 cap2 ys → Calls Try.prog 11 #[.slice a1 len1 cap1, .slice a2 len2 cap2] W (RRedEnd W xs ys)) :=
    fun W k1 k2 => rreduce_any a1 a2 xs ys len1 cap1 len2 cap2 W k1 k2
  have HA1 : Hid (Arg w a1 len1 cap1 xs) := hA1
  have HA2 : Hid (Arg w a2 len2 cap2 ys) := hA2
  have K1 : Hid (∀ g b W, Lend b W g len1 xs → Arg W a1 len1 cap1 xs → Calls Try.prog 13 #[.slice (some ⟨g, 0, none⟩) len1 (len1 + 4), .slice a1 len1 cap1] W (fun e w' => e = .returned (.bool true) ∧ Below W.heap.size W w')) :=
    fun g b W k1 k2 => (kept_any g a1 xs len1 cap1 b W k1 k2).mono fun e w' ⟨n, h1, h2⟩ => ⟨h1, by rw [h2]; exact bdrew (Below.refl _ _) n⟩
  have K2 : Hid (∀ g b W, Lend b W g len2 ys → Arg W a2 len2 cap2 ys → Calls Try.prog 13 #[.slice (some ⟨g, 0, none⟩) len2 (len2 + 4), .slice a2 len2 cap2] W (fun e w' => e = .returned (.bool true) ∧ Below W.heap.size W w')) :=
    fun g b W k1 k2 => (kept_any g a2 ys len2 cap2 b W k1 k2).mono fun e w' ⟨n, h1, h2⟩ => ⟨h1, by rw [h2]; exact bdrew (Below.refl _ _) n⟩
  have SA : Hid (∀ (zs : List Int) a b c1 c2 W, zs.length ≤ 1024 → At W a zs → At W b zs → Calls Try.prog 12 #[.slice a zs.length c1, .slice b zs.length c2] W (fun e w' => e = .returned (.bool true) ∧ Below W.heap.size W w')) :=
    fun zs a b c1 c2 W hm k1 k2 => (same_any a b zs zs.length c1 c2 W rfl (by omega) k1 k2).mono fun e w' ⟨n, h1, h2⟩ => ⟨h1, by rw [h2]; exact bdrew (Below.refl _ _) n⟩
  obtain ⟨m1, m2⟩ := cA_len (xs := xs) (ys := ys)
  clear hA1 hA2
  unfold RedEnd at D1
  unfold RRedEnd at D2
  generalize cA xs ys = P at *
  generalize cB xs ys = Q at *
  generalize cE xs ys = f at *
  have HM : Hid (P.length ≤ 1024 ∧ Q.length ≤ 1024) := ⟨m1, m2⟩
  clear m1 m2
  have q2 : (f != f) = false := by simp
  go_enter Try.func3, Try.ntmps3
  go_wp2_with (first
    | (go_at_call 13; (with_reducible refine (K2.out g2 _ w15 (hlend2.below M15) (HA2.out.below (F2.trans (M15.mono F2.size)))).mono ?_); rintro e w16 ⟨rfl, b16⟩; have M16 := M15.trans (b16.mono M15.size))
    | (go_at_call 13; (with_reducible refine (K1.out g1 _ w14 (hl1.below M14) (HA1.out.below (F2.trans (M14.mono F2.size)))).mono ?_); rintro e w15 ⟨rfl, b15⟩; have M15 := M14.trans (b15.mono M14.size))
    | (go_at_call 15; (with_reducible refine (apart_any w2.heap.size _ _ _ _ _ _ _ _ (table_four HM.out.1 HM.out.2 (CA5.later N12) (CB5.later N12) (CC5.later N12) (CD5.later N12) b3.size lt3 lt4 la lb M12.size)).mono ?_); rintro e w14 ⟨rfl, b14⟩; have M14 := (M12.alloc M12.size _).trans b14)
    | (go_at_call 14; (with_reducible refine (awake3 _).mono ?_); rintro e w12 ⟨rfl, b12⟩; have N12 := N11.trans (b12.mono N11.size); have M12 := M11.trans (b12.mono M11.size))
    | (go_at_call 13; (with_reducible refine (K2.out g2 _ w10 (hlend2.below M10) (HA2.out.below (F2.trans (M10.mono F2.size)))).mono ?_); rintro e w11 ⟨rfl, b11⟩; have M11 := M10.trans (b11.mono M10.size); have N11 := N10.trans (b11.mono N10.size))
    | (go_at_call 13; (with_reducible refine (K1.out g1 _ w9 (hl1.below M9) (HA1.out.below (F2.trans (M9.mono F2.size)))).mono ?_); rintro e w10 ⟨rfl, b10⟩; have M10 := M9.trans (b10.mono M9.size); have N10 := N9.trans (b10.mono N9.size))
    | (go_at_call 12; (with_reducible refine (SA.out Q d y _ _ w8 HM.out.2 (CD5.at.below N8) (CY5.at.below N8)).mono ?_); rintro e w9 ⟨rfl, b9⟩; have M9 := M8.trans (b9.mono M8.size); have N9 := N8.trans (b9.mono N8.size))
    | (go_at_call 12; (with_reducible refine (SA.out P c x _ _ w7 HM.out.1 (CC5.at.below N7) (CX5.at.below N7)).mono ?_); rintro e w8 ⟨rfl, b8⟩; have M8 := M7.trans (b8.mono M7.size); have N8 := N7.trans (b8.mono N7.size))
    | (go_at_call 12; (with_reducible refine (SA.out Q b y _ _ w6 HM.out.2 (CB5.at.below N6) (CY5.at.below N6)).mono ?_); rintro e w7 ⟨rfl, b7⟩; have M7 := M6.trans (b7.mono M6.size); have N7 := N6.trans (b7.mono N6.size))
    | (go_at_call 12; (with_reducible refine (SA.out P a x _ _ w5 HM.out.1 CA5.at CX5.at).mono ?_); rintro e w6 ⟨rfl, b6⟩; have N6 := b6; have M6 := M5.trans (b6.mono M5.size))
    | (go_at_call 11; (with_reducible refine (D2.out w4 (HA1.out.below (F2.trans (M4.mono F2.size))) (HA2.out.below (F2.trans (M4.mono F2.size)))).mono ?_); rintro e w5 ⟨b5, x, y, cx, cy, rfl, CX5, CY5⟩; have M5 := M4.trans (b5.mono M4.size); have CA5 := (o1.capR HM.out.1).later (b4.trans (b5.mono b4.size)); have CB5 := (o2.capR HM.out.2).later (b4.trans (b5.mono b4.size)); have CC5 := (o3.capR HM.out.1).later b5; have CD5 := (o4.capR HM.out.2).later b5)
    | (go_at_call 10; (with_reducible refine (D1.out _ _ _ _ w3 (hl1.below b3).at (hlend2.below b3).at).mono ?_); rintro e w4 ⟨b4, c, d, n3, n4, rfl, o3, o4, lt4⟩; have M4 := b3.trans (b4.mono b3.size); have e3 : P.length = n3 := o3.1; have e4 : Q.length = n4 := o4.1; subst e3; subst e4)
    | (go_at_call 10; (with_reducible refine (D1.out _ _ _ _ w2 hl1.at hlend2.at).mono ?_); rintro e w3 ⟨b3, a, b, n1, n2, rfl, o1, o2, lt3⟩; have e1 : P.length = n1 := o1.1; have e2 : Q.length = n2 := o2.1; subst e1; subst e2; have la := fun x hx => ((o1.capR HM.out.1).lt x hx).2; have lb := fun x hx => ((o2.capR HM.out.2).lt x hx).2)
    | (go_at_call 9; (with_reducible refine (L2.out w1 (HA2.out.below hbel1)).mono ?_); rintro e w2 ⟨g2, rfl, hlend2, hbel2⟩; have F2 := hbel1.trans (hbel2.mono hbel1.size); have hl1 := hlend1.below hbel2)
    | (go_at_call 9; (with_reducible refine (L1.out w HA1.out).mono ?_); rintro e w1 ⟨g1, rfl, hlend1, hbel1⟩))
  go_ret
  exact ⟨rfl, F2.trans (M16.mono F2.size)⟩
end Go.Proofs.Ytgjeihdibcjjcaa

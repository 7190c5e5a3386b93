/- Two actors side by side; actors with one parameter. -/
import Derived.Test.YthgblljokonejaaActW
namespace Go.Proofs.Ythgblljokonejaa
open Go.ChangeShapes Go.WideShapes Go.ChangeAt Go.RowKit

theorem new_later {V W : World} {t : Nat} {zs : List Int} {e : Ending} {w' : World} (h : NewEnd W t zs e w') (hb : Below V.heap.size V W) : NewEnd V t zs e w' := by
  rcases h with ⟨h0, h1, h2, B, K, F, he, hB, hF, b⟩ | ⟨h0, he, b⟩
  · exact .inl ⟨h0, h1, h2, B, K, F, he, hB, fun k hk => Nat.le_trans hb.size (hF k hk), hb.trans (b.mono hb.size)⟩
  · exact .inr ⟨h0, he, hb.trans (b.mono hb.size)⟩
theorem new_one (t : Nat) (x : Int) (V : World) (ht : t ≤ 255) (hx : -9223372036854775808 ≤ x ∧ x ≤ 9223372036854775807) : Calls Try.prog 8 #[.int .u8 (t : Int), .slice (some ⟨V.heap.size, 0, none⟩) 1 1] (V.alloc (.cells #[.int .i64 x] 3)) (NewEnd V t [x]) :=
  (new_any t _ [x] 1 1 _ ht rfl (inR_one hx) (fun e => by cases e) (at1n V x 3)).mono fun _ _ h => new_later h ((Below.refl _ _).alloc (Nat.le_refl _) _)
/-- No actor: the parameters may not be. -/
def Refused (w : World) (f : Int) (e : Ending) (w' : World) : Prop := e = .returned (.tuple #[.pointer none, .int .i64 f]) ∧ Below w.heap.size w w'
theorem refused_of {w : World} {t : Nat} {zs : List Int} {f : Int} {e : Ending} {w' : World} (h : NewEnd w t zs e w') (h0 : (ofS t zs).2.2 = f) (hf : f ≠ 0) : Refused w f e w' := by
  subst h0
  rcases h with ⟨h, -⟩ | ⟨-, h⟩
  · exact absurd h hf
  · exact h
theorem of_one_yes {t : Nat} {x m : Int} (ht : 1 ≤ t ∧ t ≤ 11) (hk : okS t [x] = (decide (([x] : List Int).length = 1) && wB (nth [x] 0) m)) (h : 1 ≤ x ∧ x ≤ m) : (ofS t [x]).2.2 = 0 := by
  have h1 : okS t [x] = true := by
    rw [hk]; unfold wB; show (decide (1 = 1) && (decide (1 ≤ x) && decide (x ≤ m))) = true
    rw [decide_eq_true h.1, decide_eq_true h.2]; rfl
  unfold ofS
  rw [if_pos ht, if_pos h1]
theorem of_one_no {t : Nat} {x m : Int} (ht : 1 ≤ t ∧ t ≤ 11) (hk : okS t [x] = (decide (([x] : List Int).length = 1) && wB (nth [x] 0) m)) (h : ¬ (1 ≤ x ∧ x ≤ m)) : (ofS t [x]).2.2 = 61 := by
  have h1 : ¬ okS t [x] = true := by
    rw [hk]; unfold wB; show ¬ (decide (1 = 1) && (decide (1 ≤ x) && decide (x ≤ m))) = true
    intro h2
    rw [Bool.and_eq_true, Bool.and_eq_true, decide_eq_true_iff, decide_eq_true_iff] at h2
    exact h ⟨h2.2.1, of_decide_eq_true h2.2.2⟩
  unfold ofS
  rw [if_pos ht, if_neg h1]
/-- Two actors that share nothing. -/
structure Duo (L : Nat) (F G : Nat → Prop) (w : World) (B1 K1 t1 : Nat) (z1 k1 : List Int) (n1 B2 K2 t2 : Nat) (z2 k2 : List Int) (n2 : Nat) : Prop where
  one : Bod F w B1 K1 t1 z1 k1 n1
  two : Bod G w B2 K2 t2 z2 k2 n2
  s1 : ∀ k, F k → k ≠ K2
  s2 : ∀ k, G k → k ≠ K1
  l1 : L ≤ K1
  l2 : L ≤ K2
theorem Duo.below {L : Nat} {F G : Nat → Prop} {w w' : World} {B1 K1 t1 : Nat} {z1 k1 : List Int} {n1 B2 K2 t2 : Nat} {z2 k2 : List Int} {n2 : Nat} (h : Duo L F G w B1 K1 t1 z1 k1 n1 B2 K2 t2 z2 k2 n2) (hb : Below w.heap.size w w') : Duo L F G w' B1 K1 t1 z1 k1 n1 B2 K2 t2 z2 k2 n2 := ⟨h.one.below hb, h.two.below hb, h.s1, h.s2, h.l1, h.l2⟩
theorem Duo.fire1 {L : Nat} {F F' G : Nat → Prop} {w w' : World} {B1 K1 t1 : Nat} {z1 k1 k1' : List Int} {n1 n1' B2 K2 t2 : Nat} {z2 k2 : List Int} {n2 : Nat} (h : Duo L F G w B1 K1 t1 z1 k1 n1 B2 K2 t2 z2 k2 n2) (h1 : Bod F' w' B1 K1 t1 z1 k1' n1') (hF : ∀ k, F' k → F k ∨ w.heap.size ≤ k) (hb : But K1 w w') : Duo L F' G w' B1 K1 t1 z1 k1' n1' B2 K2 t2 z2 k2 n2 := by
  have m2 := h.two.kin.mem
  refine ⟨h1, h.two.keeps fun k hk => hb.block k (m2.2 k hk) (h.s2 k hk), fun k hk => ?_, h.s2, h.l1, h.l2⟩
  rcases hF k hk with h3 | h3
  · exact h.s1 k h3
  · have := m2.2 K2 m2.1; omega
theorem Duo.swap {L : Nat} {F G : Nat → Prop} {w : World} {B1 K1 t1 : Nat} {z1 k1 : List Int} {n1 B2 K2 t2 : Nat} {z2 k2 : List Int} {n2 : Nat} (h : Duo L F G w B1 K1 t1 z1 k1 n1 B2 K2 t2 z2 k2 n2) : Duo L G F w B2 K2 t2 z2 k2 n2 B1 K1 t1 z1 k1 n1 := ⟨h.two, h.one, h.s2, h.s1, h.l2, h.l1⟩
theorem duo_start {w w1 w2 : World} {F G : Nat → Prop} {B1 K1 t1 : Nat} {z1 k1 : List Int} {n1 B2 K2 t2 : Nat} {z2 k2 : List Int} {n2 : Nat} (h1 : Bod F w1 B1 K1 t1 z1 k1 n1) (hF : ∀ k, F k → w.heap.size ≤ k) (h2 : Bod G w2 B2 K2 t2 z2 k2 n2) (hG : ∀ k, G k → w1.heap.size ≤ k) (hb : Below w1.heap.size w1 w2) : Duo w.heap.size F G w2 B1 K1 t1 z1 k1 n1 B2 K2 t2 z2 k2 n2 := by
  have m1 := h1.kin.mem
  have m2 := h2.kin.mem
  have g2 := hG K2 m2.1
  have g1 := m1.2 K1 m1.1
  refine ⟨h1.below hb, h2, fun k hk => ?_, fun k hk => ?_, hF K1 m1.1, ?_⟩
  · have := m1.2 k hk; omega
  · have := hG k hk; omega
  · have := hF K1 m1.1; omega
end Go.Proofs.Ythgblljokonejaa

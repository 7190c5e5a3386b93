/- Actors at work: single tokens in and out; the statements' own example; a nil Body. -/
import Derived.Test.YthgblljokonejaaActB8
import Derived.Test.YthgblljokonejaaH6
namespace Go.Proofs.Ythgblljokonejaa
open Go.ChangeShapes Go.WideShapes Go.ChangeAt Go.RowKit

theorem arg_tab (V : World) (r : Option Addr) (c : Nat) (L : List Int) (h : At V r L) (hL : InR L) : ArgL (V.alloc (.cells #[.slice r L.length c] 22)) (some ⟨V.heap.size, 0, none⟩) 1 [L] := by
  have hb := (Below.refl V.heap.size V).alloc (Nat.le_refl _) (.cells #[.slice r L.length c] 22)
  refine ⟨rfl, .inr ⟨_, 0, rfl, fun k hk => ?_⟩, fun k => ?_⟩
  · match k, hk with
    | 0, _ => exact ⟨r, c, (blkA_new 22 V #[.slice r L.length c]).cell rfl, h.below hb⟩
  · match k with
    | 0 => exact hL
    | k + 1 => exact inR0
theorem inR_one {x : Int} (h : -9223372036854775808 ≤ x ∧ x ≤ 9223372036854775807) : InR [x] := fun k => by
  cases k with
  | zero => exact h
  | succ k => rw [nth_none (by simp)]; decide
theorem arg_one (V : World) (x : Int) (h : -9223372036854775808 ≤ x ∧ x ≤ 9223372036854775807) : ArgL ((V.alloc (.cells #[.int .i64 x] 3)).alloc (.cells #[.slice (some ⟨V.heap.size, 0, none⟩) 1 1] 22)) (some ⟨V.heap.size + 1, 0, none⟩) 1 [[x]] := by
  have h1 := arg_tab (V.alloc (.cells #[.int .i64 x] 3)) (some ⟨V.heap.size, 0, none⟩) 1 [x] (capR_one V x).at (inR_one h)
  simp only [World.size_alloc] at h1
  exact h1
/-- A firing that gives one row on one port. -/
def OneR (F : Nat → Prop) (V : World) (B K t : Nat) (zs ks : List Int) (m : Nat) (L : List Int) (e : Ending) (w' : World) : Prop :=
  ∃ g c r c2 F', e = .returned (.tuple #[.slice (some ⟨g, 0, none⟩) 1 c, .int .i64 0]) ∧ w'.cell? ⟨g, 0, none⟩ = some (.slice r L.length c2) ∧ At w' r L ∧ Bod F' w' B K t zs ks m ∧ (∀ k, F' k → F k ∨ V.heap.size ≤ k) ∧ But K V w'
theorem one_of {F : Nat → Prop} {V W : World} {B K t : Nat} {zs ks ks' : List Int} {n : Nat} {I : List (List Int)} {L : List Int} {e : Ending} {w' : World} (h : FireEnd F W B K t zs ks n I e w') (hr : fireS t zs ks I = (0, [L], ks')) (hV : Below V.heap.size V W) : OneR F V B K t zs ks' (n + 1) L e w' := by
  unfold FireEnd at h
  rw [hr] at h
  obtain ⟨x, c, A, C, F', he, hO, hB, hF, hb⟩ := h
  rcases hO.tab with h0 | ⟨g, hx, h1, h2, h3, h4⟩
  · cases h0
  · subst hx
    refine ⟨g, c, A 0, C 0, F', he, h3 0 (by simp), (hO.rows 0 (by simp)).at, hB, fun k hk => ?_, (But.of_below hV).trans hb⟩
    rcases hF k hk with h | h
    · exact .inl h
    · exact .inr (Nat.le_trans hV.size h.1)
theorem at_first {w : World} {r : Option Addr} {x : Int} {L : List Int} (h : At w r (x :: L)) : ∃ b off, r = some ⟨b, off, none⟩ ∧ w.cell? ⟨b, off, none⟩ = some (.int .i64 x) := by
  rcases h with h | ⟨b, off, rfl, hc⟩
  · cases h
  · exact ⟨b, off, rfl, hc 0 (by simp)⟩
theorem below_two (V : World) (o o' : Obj) : Below V.heap.size V ((V.alloc o).alloc o') := ((Below.refl _ _).alloc (Nat.le_refl _) _).alloc (by simp) _
theorem but_below {K : Nat} {w0 w w' : World} (h : But K w w') (h0 : Below w0.heap.size w0 w) (hK : w0.heap.size ≤ K) : Below w0.heap.size w0 w' := h0.trans (h.below hK h0.size)
/-- An actor that is made without an error. -/
def Fresh (w : World) (t : Nat) (zs ks : List Int) (e : Ending) (w' : World) : Prop := ∃ B K F, e = .returned (.tuple #[.pointer (some ⟨B, 0, none⟩), .int .i64 0]) ∧ Bod F w' B K t zs ks 0 ∧ (∀ k, F k → w.heap.size ≤ k) ∧ Below w.heap.size w w'
theorem fresh_of {w : World} {t : Nat} {zs ks : List Int} {e : Ending} {w' : World} (h : NewEnd w t zs e w') (h0 : (ofS t zs).2.2 = 0) (hk : keepS t zs = ks) : Fresh w t zs ks e w' := by
  subst hk
  rcases h with ⟨-, -, -, h⟩ | ⟨h, -⟩
  · exact h
  · exact absurd h0 h
set_option maxRecDepth 100000 in
set_option maxHeartbeats 2000000 in
theorem awake7 (w : World) : Calls Try.prog 11 #[] w fun e w' => e = .returned (.bool true) ∧ Below w.heap.size w w' := by
  have NW : Hid (Calls Try.prog 8 #[.int .u8 8, .slice none 0 0] w (Fresh w 8 [] [0])) := (new_any 8 none [] 0 0 w (by decide) rfl inR0 (fun _ => ⟨rfl, rfl⟩) (Or.inl rfl)).mono fun _ _ h => fresh_of h rfl rfl
  have FR : Hid (∀ F V B K, Bod F V B K 8 [] [0] 0 → Calls Try.prog 17 #[.pointer (some ⟨B, 0, none⟩), .slice (some ⟨V.heap.size + 1, 0, none⟩) 1 1] ((V.alloc (.cells #[.int .i64 4] 3)).alloc (.cells #[.slice (some ⟨V.heap.size, 0, none⟩) 1 1] 22)) (OneR F V B K 8 [] [4] 1 [4])) := fun F V B K h =>
    (bfire_8 F _ B K [] [0] 0 _ 1 1 [[4]] (h.below (below_two V _ _)) (arg_one V 4 (by decide)) (by decide)).mono fun _ _ h => one_of h (by decide) (below_two V _ _)
  have FD : Hid (∀ F V B K, Bod F V B K 8 [] [4] 1 → Calls Try.prog 16 #[.pointer (some ⟨B, 0, none⟩)] V fun e w' => e = .returned (.int .i64 1) ∧ w' = V) := fun F V B K h => bfired_8 F V B K [] [4] 1 h
  have SD : Hid (∀ F V B K, Bod F V B K 8 [] [4] 1 → Calls Try.prog 15 #[.pointer (some ⟨B, 0, none⟩)] V (RowEnd V [4])) := fun F V B K h => bstate_8 F V B K [] [4] 1 h
  have S2 : Hid (∀ a c1 V ty, At V a [4] → Calls Try.prog 18 #[.slice a 1 c1, .slice (some ⟨V.heap.size, 0, none⟩) 1 1] (V.alloc (.cells #[.int .i64 4] ty)) fun e w' => e = .returned (.bool true) ∧ Below V.heap.size V w') := fun a c1 V ty h =>
    (same6 [4] a _ c1 1 _ (by simp) (h.below ((Below.refl _ _).alloc (Nat.le_refl _) _)) (at1n V 4 ty)).mono fun _ _ ⟨he, hb⟩ => ⟨he, ((Below.refl V.heap.size V).alloc (Nat.le_refl _) _).trans (hb.mono (by simp))⟩
  go_enter Try.func11, Try.ntmps11
  go_wp2_with (first
    | (go_at_call 18; (with_reducible refine (S2.out x5 c5 w5 _ m5.at).mono ?_); rintro e w6 ⟨rfl, b6⟩)
    | (go_at_call 15; (with_reducible refine (SD.out F2 _ B K (hB2.below b3)).mono ?_); rintro e w5 ⟨x5, c5, rfl, m5, b5⟩)
    | (go_at_call 16; (with_reducible refine (FD.out F2 _ B K (hB2.below b3)).mono ?_); rintro e w4 ⟨rfl, rfl⟩)
    | (go_at_call 18; (with_reducible refine (S2.out r c2 w2 _ hr).mono ?_); rintro e w3 ⟨rfl, b3⟩)
    | (go_at_call 17; (with_reducible refine (FR.out F w1 B K hB).mono ?_); rintro e w2 ⟨g, c, r, c2, F2, rfl, hg, hr, hB2, hF2, b2⟩)
    | (go_at_call 8; (with_reducible refine NW.out.mono ?_); rintro e w1 ⟨B, K, F, rfl, hB, hF, b1⟩))
  go_ret
  have q2 := but_below b2 b1 (hF K hB.kin.mem.1)
  have q3 := q2.trans (b3.mono q2.size)
  have q5 := q3.trans (b5.mono q3.size)
  exact ⟨rfl, q5.trans (b6.mono q5.size)⟩
end Go.Proofs.Ythgblljokonejaa

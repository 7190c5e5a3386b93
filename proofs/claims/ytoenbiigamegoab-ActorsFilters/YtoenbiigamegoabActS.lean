/- The walk through the statement ActorsSumDiff. -/
import Derived.Test.YtoenbiigamegoabActW
import Derived.Test.YtoenbiigamegoabActB1
namespace Go.Proofs.Ytoenbiigamegoab
open Go.ChangeShapes Go.WideShapes Go.ChangeAt Go.RowKit

/-- A firing that fails. -/
def NoneR (F : Nat → Prop) (V : World) (B K t : Nat) (zs ks : List Int) (n : Nat) (e : Ending) (w' : World) : Prop :=
  ∃ x c F', e = .returned (.tuple #[.slice x 0 c, .int .i64 70]) ∧ Bod F' w' B K t zs ks n ∧ (∀ k, F' k → F k ∨ V.heap.size ≤ k) ∧ But K V w'
theorem none_of {F : Nat → Prop} {V W : World} {B K t : Nat} {zs ks : List Int} {n : Nat} {I : List (List Int)} {e : Ending} {w' : World} (h : FireEnd F W B K t zs ks n I e w') (hr : fireS t zs ks I = (70, [], ks)) (hV : Below V.heap.size V W) : NoneR F V B K t zs ks n e w' := by
  unfold FireEnd at h
  rw [hr] at h
  obtain ⟨x, c, A, C, F', he, hO, hB, hF, hb⟩ := h
  refine ⟨x, c, F', he, hB, fun k hk => ?_, (But.of_below hV).trans hb⟩
  rcases hF k hk with h | h
  · exact .inl h
  · exact .inr (Nat.le_trans hV.size h.1)
abbrev W2 (V : World) (x : Int) : World := (V.alloc (.cells #[.int .i64 x] 3)).alloc (.cells #[.slice (some ⟨V.heap.size, 0, none⟩) 1 1] 31)
def OneY (F : Nat → Prop) (V : World) (B K t : Nat) (zs ks : List Int) (m : Nat) (y : Int) (e : Ending) (w' : World) : Prop := ∃ F', e = .returned (.tuple #[.int .i64 y, .bool true]) ∧ Bod F' w' B K t zs ks m ∧ (∀ k, F' k → F k ∨ V.heap.size ≤ k) ∧ But K V w'
def OneN (F : Nat → Prop) (V : World) (B K t : Nat) (zs ks : List Int) (m : Nat) (e : Ending) (w' : World) : Prop := ∃ F', e = .returned (.tuple #[.int .i64 0, .bool false]) ∧ Bod F' w' B K t zs ks m ∧ (∀ k, F' k → F k ∨ V.heap.size ≤ k) ∧ But K V w'
set_option maxRecDepth 100000 in
set_option maxHeartbeats 1000000 in
theorem one_yes (F : Nat → Prop) (V : World) (B K t : Nat) (zs ks : List Int) (m : Nat) (x y : Int) (h : Calls Try.prog 10 #[.pointer (some ⟨B, 0, none⟩), .slice (some ⟨V.heap.size + 1, 0, none⟩) 1 1] (W2 V x) (OneR F V B K t zs ks m [y])) :
    Calls Try.prog 18 #[.pointer (some ⟨B, 0, none⟩), .int .i64 x] V (OneY F V B K t zs ks m y) := by
  have H := hidden6 h
  clear h
  go_enter Try.func18, Try.ntmps18
  go_wp2_with (go_at_call 10; (with_reducible refine H.out.mono ?_); rintro e w1 ⟨g, c, r, c2, F', rfl, hg, hr, hB, hF, b1⟩; obtain ⟨rb, ro, rfl, hr0⟩ := at_first hr)
  go_ret2
  exact ⟨F', rfl, hB, hF, b1⟩
set_option maxRecDepth 100000 in
set_option maxHeartbeats 1000000 in
theorem one_no (F : Nat → Prop) (V : World) (B K t : Nat) (zs ks : List Int) (m : Nat) (x : Int) (h : Calls Try.prog 10 #[.pointer (some ⟨B, 0, none⟩), .slice (some ⟨V.heap.size + 1, 0, none⟩) 1 1] (W2 V x) (NoneR F V B K t zs ks m)) :
    Calls Try.prog 18 #[.pointer (some ⟨B, 0, none⟩), .int .i64 x] V (OneN F V B K t zs ks m) := by
  have H := hidden6 h
  clear h
  go_enter Try.func18, Try.ntmps18
  go_wp2_with (go_at_call 10; (with_reducible refine H.out.mono ?_); rintro e w1 ⟨x1, c, F', rfl, hB, hF, b1⟩)
  go_ret2
  exact ⟨F', rfl, hB, hF, b1⟩
theorem fire_sum {s x : Int} : fireS 8 [] [s] [[x]] = if fitB (s + x) = true then (0, [[s + x]], [s + x]) else (70, [], [s]) := by
  unfold fireS
  rw [if_pos (show takesS 8 [] [[x]] = true from rfl), show giveS 8 [] [s] [[x]] = (if fitB (s + x) = true then some ([[s + x]], [s + x]) else none) from rfl]
  by_cases h : fitB (s + x) = true
  · rw [if_pos h, if_pos h]
  · rw [if_neg h, if_neg h]
theorem fire_filter {taps ks : List Int} {x : Int} : fireS 1 taps ks [[x]] = match dotO 0 taps (x :: ks) with | some y => (0, [[y]], (x :: ks).take ks.length) | none => (70, [], ks) := by
  unfold fireS
  rw [if_pos (show takesS 1 taps [[x]] = true from rfl), show giveS 1 taps ks [[x]] = (dotO 0 taps (x :: ks)).map (fun y => ([[y]], (x :: ks).take ks.length)) from rfl]
  cases dotO 0 taps (x :: ks) <;> rfl
theorem sum_yes (F : Nat → Prop) (V : World) (B K : Nat) (s x : Int) (k : Nat) (hb : Bod F V B K 8 [] [s] k) (hx : -9223372036854775808 ≤ x ∧ x ≤ 9223372036854775807) (hk : k < 4611686018427387904) (hf : fitB (s + x) = true) : Calls Try.prog 18 #[.pointer (some ⟨B, 0, none⟩), .int .i64 x] V (OneY F V B K 8 [] [s + x] (k + 1) (s + x)) :=
  one_yes F V B K 8 [] [s + x] (k + 1) x (s + x) ((bfire_8 F _ B K [] [s] k _ 1 1 [[x]] (hb.below (below_two V _ _)) (arg_one V x hx) hk).mono fun _ _ h => one_of h (by rw [fire_sum, if_pos hf]) (below_two V _ _))
theorem sum_no (F : Nat → Prop) (V : World) (B K : Nat) (s x : Int) (k : Nat) (hb : Bod F V B K 8 [] [s] k) (hx : -9223372036854775808 ≤ x ∧ x ≤ 9223372036854775807) (hk : k < 4611686018427387904) (hf : ¬ fitB (s + x) = true) : Calls Try.prog 18 #[.pointer (some ⟨B, 0, none⟩), .int .i64 x] V (OneN F V B K 8 [] [s] k) :=
  one_no F V B K 8 [] [s] k x ((bfire_8 F _ B K [] [s] k _ 1 1 [[x]] (hb.below (below_two V _ _)) (arg_one V x hx) hk).mono fun _ _ h => none_of h (by rw [fire_sum, if_neg hf]) (below_two V _ _))
theorem filter_yes (F : Nat → Prop) (V : World) (B K : Nat) (zs ks : List Int) (x y : Int) (k : Nat) (hb : Bod F V B K 1 zs ks k) (hx : -9223372036854775808 ≤ x ∧ x ≤ 9223372036854775807) (hk : k < 4611686018427387904) (hd : dotO 0 zs (x :: ks) = some y) : Calls Try.prog 18 #[.pointer (some ⟨B, 0, none⟩), .int .i64 x] V (OneY F V B K 1 zs ((x :: ks).take ks.length) (k + 1) y) :=
  one_yes F V B K 1 zs _ (k + 1) x y ((bfire_1 F _ B K zs ks k _ 1 1 [[x]] (hb.below (below_two V _ _)) (arg_one V x hx) hk).mono fun _ _ h => one_of h (by rw [fire_filter, hd]) (below_two V _ _))
theorem filter_no (F : Nat → Prop) (V : World) (B K : Nat) (zs ks : List Int) (x : Int) (k : Nat) (hb : Bod F V B K 1 zs ks k) (hx : -9223372036854775808 ≤ x ∧ x ≤ 9223372036854775807) (hk : k < 4611686018427387904) (hd : dotO 0 zs (x :: ks) = none) : Calls Try.prog 18 #[.pointer (some ⟨B, 0, none⟩), .int .i64 x] V (OneN F V B K 1 zs ks k) :=
  one_no F V B K 1 zs ks k x ((bfire_1 F _ B K zs ks k _ 1 1 [[x]] (hb.below (below_two V _ _)) (arg_one V x hx) hk).mono fun _ _ h => none_of h (by rw [fire_filter, hd]) (below_two V _ _))
end Go.Proofs.Ytoenbiigamegoab

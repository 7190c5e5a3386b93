/- Shape's Of, whatever the tag and the parameters. -/
import Derived.Test.YthgblljokonejaaH2
namespace Go.Proofs.Ythgblljokonejaa
open Go.ChangeShapes Go.WideShapes Go.ChangeAt Go.RowKit

/-- What Of answers: the two sides' rates, and the error's number. -/
def ofS (t : Nat) (zs : List Int) : List Int × List Int × Int :=
  if 1 ≤ t ∧ t ≤ 11 then (if okS t zs = true then (insS t zs, outsS t zs, 0) else ([], [], 61)) else ([], [], 60)
theorem eleven {p : Nat → Prop} (h1 : p 1) (h2 : p 2) (h3 : p 3) (h4 : p 4) (h5 : p 5) (h6 : p 6) (h7 : p 7) (h8 : p 8) (h9 : p 9) (h10 : p 10) (h11 : p 11) : ∀ t, 1 ≤ t ∧ t ≤ 11 → p t := fun t ht => by
  match t, ht with
  | 0, ht => omega
  | 1, _ => exact h1
  | 2, _ => exact h2
  | 3, _ => exact h3
  | 4, _ => exact h4
  | 5, _ => exact h5
  | 6, _ => exact h6
  | 7, _ => exact h7
  | 8, _ => exact h8
  | 9, _ => exact h9
  | 10, _ => exact h10
  | 11, _ => exact h11
  | n + 12, ht => omega
theorem ok_one {zs : List Int} {len : Nat} {m : Int} (hl : zs.length = len) (h : (decide (zs.length = 1) && wB (nth zs 0) m) = true) : len = 1 ∧ 1 ≤ nth zs 0 ∧ nth zs 0 ≤ m := by
  rw [Bool.and_eq_true, decide_eq_true_iff] at h
  exact ⟨by omega, wB_bound h.2⟩
theorem ok_two {zs : List Int} {len : Nat} (hl : zs.length = len) (h : (decide (zs.length = 2) && wovenB (nth zs 0) (nth zs 1)) = true) : len = 2 ∧ (1 ≤ nth zs 0 ∧ nth zs 0 ≤ 16) ∧ (1 ≤ nth zs 1 ∧ nth zs 1 ≤ 64) := by
  unfold wovenB at h
  rw [Bool.and_eq_true, decide_eq_true_iff, Bool.and_eq_true, Bool.and_eq_true] at h
  exact ⟨by omega, wB_bound h.2.1, wB_bound h.2.2.1⟩
theorem right_any (t : Nat) (ht : 1 ≤ t ∧ t ≤ 11) (a : Option Addr) (zs : List Int) (len cap : Nat) (w : World) (hl : zs.length = len) (h : At w a zs) :
    Calls Try.prog 40 #[.int .u8 (t : Int), .slice a len cap] w fun e w' => e = .returned (.bool (okS t zs)) ∧ Below w.heap.size w w' := by
  revert t
  exact eleven (right_1 a zs len cap w hl) (right_2 a zs len cap w hl h) (right_3 a zs len cap w hl h) (right_4 a zs len cap w hl h) (right_5 a zs len cap w hl h) (right_6 a zs len cap w hl h) (right_7 a zs len cap w hl) (right_8 a zs len cap w hl) (right_9 a zs len cap w hl h) (right_10 a zs len cap w hl) (right_11 a zs len cap w hl h)
theorem rates_any (t : Nat) (ht : 1 ≤ t ∧ t ≤ 11) (a : Option Addr) (zs : List Int) (len cap : Nat) (w : World) (hl : zs.length = len) (h : At w a zs) (hk : okS t zs = true) :
    Calls Try.prog 41 #[.int .u8 (t : Int), .slice a len cap] w (TwoEnd w (insS t zs) (outsS t zs)) := by
  revert hk
  revert t
  exact eleven (fun _ => rates_1 a zs len cap w) (fun k => rates_2 a zs len cap w hl (ok_one hl k).1 h) (fun k => rates_3 a zs len cap w hl (ok_one hl k).1 h) (fun k => rates_4 a zs len cap w hl (ok_two hl k).1 h (ok_two hl k).2) (fun k => rates_5 a zs len cap w hl (ok_two hl k).1 h (ok_two hl k).2)
    (fun k => rates_6 a zs len cap w hl (ok_one hl k).1 h (ok_one hl k).2) (fun _ => rates_7 a zs len cap w) (fun _ => rates_8 a zs len cap w) (fun k => rates_9 a zs len cap w hl (ok_one hl k).1 h (ok_one hl k).2) (fun _ => rates_10 a zs len cap w) (fun k => rates_11 a zs len cap w hl (ok_one hl k).1 h)
/-- How a reading of the table ends. -/
def OfEnd (w : World) (r : List Int × List Int × Int) (e : Ending) (w' : World) : Prop :=
  ∃ a c1 b c2, e = .returned (.tuple #[.slice a r.1.length c1, .slice b r.2.1.length c2, .int .i64 r.2.2]) ∧ CapR w.heap.size w' a c1 r.1 ∧ CapR w.heap.size w' b c2 r.2.1 ∧ (∀ x y, a = some x → b = some y → x.block < y.block) ∧ Below w.heap.size w w'
theorem of_nil {w w' : World} {f : Int} (hb : Below w.heap.size w w') : OfEnd w ([], [], f) (.returned (.tuple #[.slice none 0 0, .slice none 0 0, .int .i64 f])) w' :=
  ⟨none, 0, none, 0, rfl, World.ownsRow_nil _ _ _ _, World.ownsRow_nil _ _ _ _, (fun x y hx => by cases hx), hb⟩
set_option maxRecDepth 100000 in
set_option maxHeartbeats 1000000 in
theorem shapeOf_any (t : Nat) (a : Option Addr) (zs : List Int) (len cap : Nat) (w : World) (ht : t ≤ 255) (hl : zs.length = len) (h : At w a zs) :
    Calls Try.prog 25 #[.int .u8 (t : Int), .slice a len cap] w (OfEnd w (ofS t zs)) := by
  have HK := hidden6 (known_any t w ht)
  unfold ofS
  by_cases h1 : 1 ≤ t ∧ t ≤ 11
  · rw [if_pos h1]
    have e1 : (decide (1 ≤ t) && decide (t ≤ 11)) = true := by rw [decide_eq_true h1.1, decide_eq_true h1.2]; rfl
    rw [e1] at HK
    have HR := hidden6 (right_any t h1 a zs len cap w hl h)
    by_cases h2 : okS t zs = true
    · rw [if_pos h2]
      have HT : Hid (∀ w1, Below w.heap.size w w1 → Calls Try.prog 41 #[.int .u8 (t : Int), .slice a len cap] w1 (TwoEnd w1 (insS t zs) (outsS t zs))) := fun w1 hb => rates_any t h1 a zs len cap w1 hl (h.below hb) h2
      unfold OfEnd
      unfold TwoEnd at HT
      rw [h2] at HR
      generalize insS t zs = P at *
      generalize outsS t zs = Q at *
      clear h e1 h2
      go_enter Try.func25, Try.ntmps25
      go_wp2_with (first
        | (go_at_call 41; (with_reducible refine (HT.out w2 b2).mono ?_); rintro e w3 ⟨x, c1, y, c2, rfl, m1, m2, hxy, b3⟩)
        | (go_at_call 40; (with_reducible refine HR.out.mono ?_); rintro e w2 ⟨rfl, b2⟩)
        | (go_at_call 39; (with_reducible refine HK.out.mono ?_); rintro e w1 ⟨rfl, rfl⟩))
      go_ret3
      exact ⟨x, c1, y, c2, rfl, m1.mono b2.size, m2.mono b2.size, hxy, b2.trans (b3.mono b2.size)⟩
    · rw [if_neg h2]
      have e2 : okS t zs = false := by simpa using h2
      rw [e2] at HR
      clear h e1 h2
      go_enter Try.func25, Try.ntmps25
      go_wp2_with (first
        | (go_at_call 40; (with_reducible refine HR.out.mono ?_); rintro e w2 ⟨rfl, b2⟩)
        | (go_at_call 39; (with_reducible refine HK.out.mono ?_); rintro e w1 ⟨rfl, rfl⟩))
      go_ret3
      exact of_nil b2
  · rw [if_neg h1]
    have e1 : (decide (1 ≤ t) && decide (t ≤ 11)) = false := by
      by_cases h2 : 1 ≤ t
      · rw [decide_eq_false (p := t ≤ 11) (fun h3 => h1 ⟨h2, h3⟩), Bool.and_false]
      · rw [decide_eq_false h2]; rfl
    rw [e1] at HK
    clear h e1 h1
    go_enter Try.func25, Try.ntmps25
    go_wp2_with (go_at_call 39; (with_reducible refine HK.out.mono ?_); rintro e w1 ⟨rfl, rfl⟩)
    go_ret3
    exact of_nil (Below.refl _ _)
end Go.Proofs.Ythgblljokonejaa

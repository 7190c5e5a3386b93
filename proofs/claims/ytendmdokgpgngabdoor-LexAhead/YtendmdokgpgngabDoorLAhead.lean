/- What stands ahead of an error's place, or of a token, is read (LexAhead). -/
import Derived.Test.YtendmdokgpgngabDoorLAheadM
import Derived.Test.YtendmdokgpgngabDoorLJoin
namespace Go.Proofs.YtendmdokgpgngabDoor
open Go.ChangeShapes Go.WideShapes Go.ChangeAt Go.RowKit

theorem tok_errs (r : List UInt8) : (tokO r).err = 0 ∨ (tokO r).err = 40 ∨ (tokO r).err = 41 ∨ (tokO r).err = 42 := by
  unfold tokO
  split
  · unfold wordO; split
    · exact Or.inr (Or.inr (Or.inr rfl))
    · exact Or.inl rfl
  · split
    · unfold numberO
      simp only
      split
      · exact Or.inr (Or.inr (Or.inl rfl))
      · exact Or.inl rfl
    · split
      · exact Or.inl rfl
      · split
        · exact Or.inl rfl
        · exact Or.inr (Or.inl rfl)
theorem all_errs : ∀ (n p : Nat) (x : List UInt8), x.length ≤ n → (allL p x).err = 0 ∨ (allL p x).err = 40 ∨ (allL p x).err = 41 ∨ (allL p x).err = 42
  | n, p, x, hn => by
    by_cases h1 : x.drop (skipN false x) = []
    · rw [allL_end h1]; exact Or.inl rfl
    · by_cases h2 : (tokO (x.drop (skipN false x))).err = 0
      · match n, hn with
        | 0, hn => exact absurd (by rw [List.eq_nil_of_length_eq_zero (Nat.le_zero.1 hn)]; rfl) h1
        | n + 1, hn =>
          obtain ⟨hs1, hs2, -⟩ := tok_some h2
          have hlen : (x.drop (skipN false x)).length = x.length - skipN false x := List.length_drop
          have ih := all_errs n (p + skipN false x + (tokO (x.drop (skipN false x))).n) (x.drop (skipN false x + (tokO (x.drop (skipN false x))).n)) (by rw [List.length_drop]; omega)
          rw [allL_tok h1 h2]
          unfold Got.cons
          split
          · exact Or.inl rfl
          · exact ih
      · rw [allL_err h1 h2]
        exact tok_errs _
theorem str_to (l : List UInt8) (n : Nat) : (str l).extract 0 n = str (l.take n) := by
  have := str_cut l 0 n
  rw [Nat.zero_add, List.drop_zero] at this
  exact this
set_option maxHeartbeats 2000000 in
theorem ahead_long (l : List UInt8) (w : World) (hE : Env w) (h : 1048576 < l.length) : Calls Tryd.prog 3 #[.string (str l)] w (JoinsEnd w) := by
  have e1 := str_size l
  have i1 : (1048576 : Int) < (l.length : Int) := by omega
  have A1 : Hid (∀ W, Env W → Calls Tryd.prog 5 #[.string (str l)] W fun e w' => ∃ a cap, e = .returned (.tuple #[.slice a 0 cap, .agg #[.int .i64 2, .int .i64 1048576]]) ∧ Below W.heap.size W w') := all_fault l 0 _ _ (by unfold textG; rw [if_pos h]; exact ⟨rfl, rfl, rfl⟩)
  have HW := hidden awake_any
  have HE := hidden hE
  clear hE h
  have al : Hid (∀ {w1 : World} (o : Obj), Below w.heap.size w w1 → Below w.heap.size w (w1.alloc o)) := fun o h => h.alloc h.size o
  go_enter Tryd.func3, Tryd.ntmps3
  go_wp2_with (first
    | (go_at_call 6; (with_reducible refine (HW.out _ (HE.out.below (al.out _ B1.out))).mono ?_); rintro e w4 ⟨rfl, hb4⟩; have B4 := hidden ((al.out _ B1.out).trans (hb4.mono (al.out _ B1.out).size)); have D4 := (two_new _ _ _ _).later hb4; have s0 := D4.c0; have s1 := D4.c1; clear hb4 D4)
    | (go_at_call 5; (with_reducible refine (A1.out _ HE.out).mono ?_); rintro e w1 ⟨a1, p1, rfl, hb1⟩; have B1 := hidden hb1; clear hb1))
  go_ret
  exact ⟨rfl, B4.out⟩
set_option maxRecDepth 100000 in
set_option maxHeartbeats 2000000 in
theorem ahead_err (l : List UInt8) (w : World) (hE : Env w) (h : l.length ≤ 1048576) (her : (allL 0 l).err ≠ 0) : Calls Tryd.prog 3 #[.string (str l)] w (JoinsEnd w) := by
  have e1 := str_size l
  obtain ⟨hnil, hp0, hp1⟩ := all_err_nil l.length 0 l (Nat.le_refl _) her
  have hv := all_errs l.length 0 l (Nat.le_refl _)
  have ha := all_ahead_err l.length 0 l (Nat.le_refl _) her (allL 0 l).place.toNat (by omega)
  have A1 : Hid (∀ W, Env W → Calls Tryd.prog 5 #[.string (str l)] W fun e w' => ∃ a cap, e = .returned (.tuple #[.slice a 0 cap, .agg #[.int .i64 (allL 0 l).err, .int .i64 (allL 0 l).place]]) ∧ Below W.heap.size W w') := all_fault l 0 _ _ (by rw [text_short h, hnil]; exact ⟨rfl, rfl, rfl⟩)
  have hz := allL_zero ha
  have A2 : Hid (∀ W, Env W → Calls Tryd.prog 5 #[.string (str (l.take (allL 0 l).place.toNat))] W fun e w' => ∃ a cap, e = .returned (.tuple #[.slice a (allL 0 (l.take (allL 0 l).place.toNat)).toks.length cap, .agg #[.int .i64 0, .int .i64 0]]) ∧ Below W.heap.size W w') := all_fault (l.take (allL 0 l).place.toNat) _ _ _ (by rw [text_short (by rw [List.length_take]; omega)]; exact ⟨ha, hz, rfl⟩)
  have HX := str_to l (allL 0 l).place.toNat
  clear ha hz hnil
  generalize (allL 0 (l.take (allL 0 l).place.toNat)).toks.length = n2 at *
  generalize str (l.take (allL 0 l).place.toNat) = S2 at *
  generalize (allL 0 l).err = er at *
  generalize (allL 0 l).place = pl at *
  have b1 : 0 ≤ pl := by omega
  have b2 : pl < (l.length : Int) := by omega
  have b3 : ¬ (pl < 0) := by omega
  have b3' : decide (pl < 0) = false := decide_eq_false b3
  have b4 : ¬ ((l.length : Int) ≤ pl) := by omega
  have b4' : decide ((l.length : Int) ≤ pl) = false := decide_eq_false b4
  have b5 : pl ≤ (l.length : Int) := by omega
  have v1 : ¬ (er = 2) := by omega
  have v1' : decide (er = 2) = false := decide_eq_false v1
  have her' : decide (er = 0) = false := decide_eq_false her
  clear hv
  have HW := hidden awake_any
  have HE := hidden hE
  clear hE h hp0 hp1
  have al : Hid (∀ {w1 : World} (o : Obj), Below w.heap.size w w1 → Below w.heap.size w (w1.alloc o)) := fun o h => h.alloc h.size o
  go_enter Tryd.func3, Tryd.ntmps3
  go_wp2_with (first
    | (go_at_call 6; (with_reducible refine (HW.out _ (HE.out.below (al.out _ B2.out))).mono ?_); rintro e w4 ⟨rfl, hb4⟩; have B4 := hidden ((al.out _ B2.out).trans (hb4.mono (al.out _ B2.out).size)); have D4 := (two_new _ _ _ _).later hb4; have s0 := D4.c0; have s1 := D4.c1; clear hb4 D4)
    | (go_at_call 5; (with_reducible refine (A2.out _ (HE.out.below (al.out _ B1.out))).mono ?_); rintro e w2 ⟨a2, p2, rfl, hb2⟩; have B2 := hidden ((al.out _ B1.out).trans (hb2.mono (al.out _ B1.out).size)); clear hb2)
    | (go_at_call 5; (with_reducible refine (A1.out _ HE.out).mono ?_); rintro e w1 ⟨a1, p1, rfl, hb1⟩; have B1 := hidden hb1; clear hb1))
  go_ret
  exact ⟨rfl, B4.out⟩
end Go.Proofs.YtendmdokgpgngabDoor

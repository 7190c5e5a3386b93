/- Texts of one chain, laid one behind the other. -/
import Derived.Test.YtnlmbffdeknbjaaPartNetOf24
namespace Go.Proofs.Ytnlmbffdeknbjaa
open Go.ChangeShapes Go.WideShapes Go.ChangeAt Go.RowKit
theorem drewB {B : Nat} {a w : World} (h : Below B a w) (n : Nat) : Below B a (w.drewN n) := h.trans ⟨rfl, rfl, rfl, Nat.le_refl _, fun _ _ => rfl⟩
def netW : NN := ⟨2, [⟨0, 1, 2, 3, 0⟩]⟩
theorem netW_ok : checkN netW = 0 := by decide
theorem netW_f1 : firesN netW [0, 1] [0] [0, 0] = (1, [2], [1, 0]) := by kernel_rfl
theorem netW_s1 : shortN netW [2] 1 = 0 := by decide
theorem netW_f2 : firesN netW [0, 1] [2] [1, 0] = (2, [1], [2, 1]) := by kernel_rfl
theorem at_alloc2 (U : World) (x y : Int) : At (U.alloc (.cells #[.int .i64 x, .int .i64 y] 3)) (some ⟨U.heap.size, 0, none⟩) [x, y] := by
  have b := blkA_new 3 U #[.int .i64 x, .int .i64 y]
  refine .inr ⟨U.heap.size, 0, rfl, fun k hk => ?_⟩
  match k, hk with
  | 0, _ => exact b.cell rfl
  | 1, _ => exact b.cell rfl
theorem at_alloc1 (U : World) (x : Int) : At (U.alloc (.cells #[.int .i64 x] 3)) (some ⟨U.heap.size, 0, none⟩) [x] := by
  have b := blkA_new 3 U #[.int .i64 x]
  refine .inr ⟨U.heap.size, 0, rfl, fun k hk => ?_⟩
  match k, hk with
  | 0, _ => exact b.cell rfl
theorem fireW {B E K : Nat} {T F T' F' : List Int} {c : Nat} (hf : firesN netW [0, 1] T F = (c, T', F')) (U : World) (h : StE B E U K netW T F) :
    Calls Try.prog 13 #[.pointer (some ⟨K, 0, none⟩), .slice (some ⟨U.heap.size, 0, none⟩) 2 2] (U.alloc (.cells #[.int .i64 0, .int .i64 1] 3)) fun e w' => e = .returned (.int .i64 (c : Int)) ∧ StE B E w' K netW T' F' ∧ Below B U w' := by
  have ba := (Below.refl U.heap.size U).alloc (Nat.le_refl _) (.cells #[.int .i64 0, .int .i64 1] 3)
  have hlow := h.low
  have r := fires_any (U.alloc (.cells #[.int .i64 0, .int .i64 1] 3)) K netW T F (h.below ba) (some ⟨U.heap.size, 0, none⟩) 2 [0, 1] (at_alloc2 U 0 1) (by decide) (fun x hx _ => by cases hx; exact .inr hlow.2)
  rw [hf] at r
  refine r.mono ?_
  rintro e w' ⟨h1, h2, h3⟩
  exact ⟨h1, h2, (ba.mono hlow.1).trans (h3.below (Nat.le_trans hlow.1 ba.size))⟩
set_option maxRecDepth 100000 in
set_option maxHeartbeats 8000000 in
theorem awakeN (w : World) : Calls Try.prog 7 #[] w fun e w' => e = .returned (.bool true) ∧ Below w.heap.size w w' := by
  have ba := (Below.refl w.heap.size w).alloc (Nat.le_refl _) (.cells #[.int .i64 0, .int .i64 1, .int .i64 2, .int .i64 3, .int .i64 0] 46)
  have bx := blkA_new 46 w #[.int .i64 0, .int .i64 1, .int .i64 2, .int .i64 3, .int .i64 0]
  have hA : AtN (w.alloc (.cells #[.int .i64 0, .int .i64 1, .int .i64 2, .int .i64 3, .int .i64 0] 46)) (some ⟨w.heap.size, 0, none⟩) netW.arcs := by
    refine .inr ⟨w.heap.size, 0, rfl, fun k hk => ?_⟩
    match k, hk with
    | 0, _ => exact ⟨bx.cell rfl, bx.cell rfl, bx.cell rfl, bx.cell rfl, bx.cell rfl⟩
  have NW : Hid (Calls Try.prog 12 #[.agg #[.int .i64 2, .slice (some ⟨w.heap.size, 0, none⟩) 1 1]] (w.alloc (.cells #[.int .i64 0, .int .i64 1, .int .i64 2, .int .i64 3, .int .i64 0] 46)) fun e w' => ∃ K B E, e = .returned (.tuple #[.pointer (some ⟨K, 0, none⟩), .int .i64 0]) ∧ w.heap.size ≤ B ∧ StE B E w' K netW [0] [0, 0] ∧ Below w.heap.size w w') := by
    refine (new_any netW (some ⟨w.heap.size, 0, none⟩) 1 _ hA (by decide) (fun e => by cases e)).mono ?_
    intro e w' h
    unfold NewE at h
    rw [if_pos netW_ok] at h
    obtain ⟨K, E, h1, h2, h3⟩ := h
    exact ⟨K, _, E, h1, ba.size, h2, ba.trans (h3.mono ba.size)⟩
  have F1 : Hid (∀ (B E K : Nat) (U : World), StE B E U K netW [0] [0, 0] → Calls Try.prog 13 #[.pointer (some ⟨K, 0, none⟩), .slice (some ⟨U.heap.size, 0, none⟩) 2 2] (U.alloc (.cells #[.int .i64 0, .int .i64 1] 3)) fun e w' => e = .returned (.int .i64 1) ∧ StE B E w' K netW [2] [1, 0] ∧ Below B U w') := fun B E K U h => fireW netW_f1 U h
  have F2 : Hid (∀ (B E K : Nat) (U : World), StE B E U K netW [2] [1, 0] → Calls Try.prog 13 #[.pointer (some ⟨K, 0, none⟩), .slice (some ⟨U.heap.size, 0, none⟩) 2 2] (U.alloc (.cells #[.int .i64 0, .int .i64 1] 3)) fun e w' => e = .returned (.int .i64 2) ∧ StE B E w' K netW [1] [2, 1] ∧ Below B U w') := fun B E K U h => fireW netW_f2 U h
  have SH : Hid (∀ (B E K : Nat) (U : World), StE B E U K netW [2] [1, 0] → Calls Try.prog 14 #[.pointer (some ⟨K, 0, none⟩), .int .i64 1] U fun e w' => e = .returned (.int .i64 0) ∧ StE B E w' K netW [2] [1, 0] ∧ Below U.heap.size U w') := fun B E K U h => by
    have r := short_any U K netW [2] [1, 0] h 1
    rw [netW_s1] at r
    exact r.mono fun e w' hh => ⟨hh.1, h.below hh.2, hh.2⟩
  have CO : Hid (∀ (B E K : Nat) (U : World), StE B E U K netW [1] [2, 1] → Calls Try.prog 16 #[.pointer (some ⟨K, 0, none⟩)] U fun e w' => ∃ a c, e = .returned (.slice a 1 c) ∧ At w' a [1] ∧ StE B E w' K netW [1] [2, 1] ∧ Below U.heap.size U w') := fun B E K U h => (counts_any U K netW [1] [2, 1] h).mono fun e w' hh => by
    obtain ⟨a, c, h1, h2, h3⟩ := hh
    exact ⟨a, c, h1, h2.at, h.below h3, h3⟩
  have FD : Hid (∀ (B E K : Nat) (U : World), StE B E U K netW [1] [2, 1] → Calls Try.prog 17 #[.pointer (some ⟨K, 0, none⟩)] U fun e w' => ∃ a c, e = .returned (.slice a 2 c) ∧ At w' a [2, 1] ∧ StE B E w' K netW [1] [2, 1] ∧ Below U.heap.size U w') := fun B E K U h => (fired_any U K netW [1] [2, 1] h).mono fun e w' hh => by
    obtain ⟨a, c, h1, h2, h3⟩ := hh
    exact ⟨a, c, h1, h2.at, h.below h3, h3⟩
  have S1 : Hid (∀ (U : World) (a : Option Addr) (c : Nat), At U a [1] → Calls Try.prog 15 #[.slice a 1 c, .slice (some ⟨U.heap.size, 0, none⟩) 1 1] (U.alloc (.cells #[.int .i64 1] 3)) fun e w' => e = .returned (.bool true) ∧ Below U.heap.size U w') := fun U a c h => by
    have bb := (Below.refl U.heap.size U).alloc (Nat.le_refl _) (.cells #[.int .i64 1] 3)
    exact (same_any a (some ⟨U.heap.size, 0, none⟩) [1] 1 c 1 _ rfl (by decide) (h.below bb) (at_alloc1 U 1)).mono fun e w' hh => by
      obtain ⟨n, h1, rfl⟩ := hh
      exact ⟨h1, drewB bb n⟩
  have S2 : Hid (∀ (U : World) (a : Option Addr) (c : Nat), At U a [2, 1] → Calls Try.prog 15 #[.slice a 2 c, .slice (some ⟨U.heap.size, 0, none⟩) 2 2] (U.alloc (.cells #[.int .i64 2, .int .i64 1] 3)) fun e w' => e = .returned (.bool true) ∧ Below U.heap.size U w') := fun U a c h => by
    have bb := (Below.refl U.heap.size U).alloc (Nat.le_refl _) (.cells #[.int .i64 2, .int .i64 1] 3)
    exact (same_any a (some ⟨U.heap.size, 0, none⟩) [2, 1] 2 c 2 _ rfl (by decide) (h.below bb) (at_alloc2 U 2 1)).mono fun e w' hh => by
      obtain ⟨n, h1, rfl⟩ := hh
      exact ⟨h1, drewB bb n⟩
  clear ba bx hA
  go_enter Try.func7, Try.ntmps7
  go_wp2_with (first
    | (go_at_call 12; (with_reducible refine NW.out.mono ?_); rintro e w1 ⟨K, B, E, rfl, hB, s1, b1⟩; have T1 := hiddenN s1; have L1 := hiddenN b1; clear s1 b1 NW)
    | (go_at_call 13; (with_reducible refine (F1.out B E K _ T1.out).mono ?_); rintro e w2 ⟨rfl, s2, b2⟩; have T2 := hiddenN s2; have L2 := hiddenN (L1.out.trans (b2.mono hB)); clear s2 b2 T1 F1)
    | (go_at_call 14; (with_reducible refine (SH.out B E K _ T2.out).mono ?_); rintro e w3 ⟨rfl, s3, b3⟩; have T3 := hiddenN s3; have L3 := hiddenN (L2.out.trans (b3.mono L2.out.size)); clear s3 b3 T2 SH)
    | (go_at_call 13; (with_reducible refine (F2.out B E K _ T3.out).mono ?_); rintro e w4 ⟨rfl, s4, b4⟩; have T4 := hiddenN s4; have L4 := hiddenN (L3.out.trans (b4.mono hB)); clear s4 b4 T3 F2)
    | (go_at_call 16; (with_reducible refine (CO.out B E K _ T4.out).mono ?_); rintro e w5 ⟨a5, c5, rfl, h5, s5, b5⟩; have A5 := hiddenN h5; have T5 := hiddenN s5; have L5 := hiddenN (L4.out.trans (b5.mono L4.out.size)); clear h5 s5 b5 T4 CO)
    | (go_at_call 15; (with_reducible refine (S1.out _ a5 c5 A5.out).mono ?_); rintro e w6 ⟨rfl, b6⟩; have T6 := hiddenN (T5.out.below b6); have L6 := hiddenN (L5.out.trans (b6.mono L5.out.size)); clear b6 S1 A5 T5)
    | (go_at_call 17; (with_reducible refine (FD.out B E K _ T6.out).mono ?_); rintro e w7 ⟨a7, c7, rfl, h7, s7, b7⟩; have A7 := hiddenN h7; have L7 := hiddenN (L6.out.trans (b7.mono L6.out.size)); clear h7 s7 b7 T6 FD)
    | (go_at_call 15; (with_reducible refine (S2.out _ a7 c7 A7.out).mono ?_); rintro e w8 ⟨rfl, b8⟩; have L8 := hiddenN (L7.out.trans (b8.mono L7.out.size)); clear b8 S2 A7))
  go_ret
  exact ⟨by first | rfl | simp, L8.out⟩
end Go.Proofs.Ytnlmbffdeknbjaa

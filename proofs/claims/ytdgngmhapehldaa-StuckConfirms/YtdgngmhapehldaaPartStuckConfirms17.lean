/- Texts of one chain, laid one behind the other. -/
import Derived.Test.YtdgngmhapehldaaPartStuckConfirms13
import Derived.Test.YtdgngmhapehldaaPartStuckConfirms15
namespace Go.Proofs.Ytdgngmhapehldaa
open Go.ChangeShapes Go.WideShapes Go.ChangeAt Go.RowKit
theorem atK_new (U : World) (b : BK) : AtK (U.alloc (.cells (bkA b) 42)) (some ⟨U.heap.size, 0, none⟩) [b] := by
  have x := blkA_new 42 U (bkA b)
  refine .inr ⟨U.heap.size, 0, rfl, fun k hk => ?_⟩
  match k, hk with
  | 0, _ => exact ⟨x.cell rfl, x.cell rfl, x.cell rfl⟩
theorem conf_new (n : NN) (a : Option Addr) (c : Nat) (b : BK) (U : World) (hA : AtN U a n.arcs) (hl : n.arcs.length ≤ 4611686018427387904) (hI : InK b) :
    Calls Try.prog 9 #[.agg #[.int .i64 n.nodes, .slice a n.arcs.length c], .slice (some ⟨U.heap.size, 0, none⟩) 1 1] (U.alloc (.cells (bkA b) 42)) (ConE U (conK n [b])) := by
  have ba := (Below.refl U.heap.size U).alloc (Nat.le_refl _) (.cells (bkA b) 42)
  refine (confirm_any n a c [b] _ 1 1 _ (hA.below ba) hl rfl (by decide) (atK_new U b) (fun x hx => by rw [List.mem_singleton.1 hx]; exact hI)).mono fun e w' h => ⟨h.1, ba.trans (h.2.mono ba.size)⟩
theorem conf_nil (n : NN) (a : Option Addr) (c : Nat) (U : World) (hA : AtN U a n.arcs) (hl : n.arcs.length ≤ 4611686018427387904) :
    Calls Try.prog 9 #[.agg #[.int .i64 n.nodes, .slice a n.arcs.length c], .slice none 0 0] U (ConE U (conK n [])) :=
  confirm_any n a c [] none 0 0 U hA hl rfl (by decide) (.inl rfl) (fun x hx => by cases hx)
def netA : NN := ⟨1, [⟨0, 0, 1, 1, 0⟩]⟩
def netB : NN := ⟨1, [⟨0, 0, 1, 1, 1⟩]⟩
theorem conA : conK netA [⟨0, 0, 0⟩] = 0 := by decide
theorem conB : conK netB [⟨0, 0, 0⟩] = 141 := by decide
theorem conC : conK netA [] = 140 := by decide
theorem atN_one (U : World) (x : NA) : AtN (U.alloc (.cells #[.int .i64 x.f, .int .i64 x.t, .int .i64 x.g, .int .i64 x.k, .int .i64 x.s] 45)) (some ⟨U.heap.size, 0, none⟩) [x] := by
  have b := blkA_new 45 U #[.int .i64 x.f, .int .i64 x.t, .int .i64 x.g, .int .i64 x.k, .int .i64 x.s]
  refine .inr ⟨U.heap.size, 0, rfl, fun k hk => ?_⟩
  match k, hk with
  | 0, _ => exact ⟨b.cell rfl, b.cell rfl, b.cell rfl, b.cell rfl, b.cell rfl⟩
set_option maxRecDepth 100000 in
set_option maxHeartbeats 8000000 in
theorem awake14 (w : World) : Calls Try.prog 13 #[] w fun e w' => e = .returned (.bool true) ∧ Below w.heap.size w w' := by
  have C1 : Hid (∀ x U, AtN U (some x) netA.arcs → Calls Try.prog 9 #[.agg #[.int .i64 1, .slice (some x) 1 1], .slice (some ⟨U.heap.size, 0, none⟩) 1 1] (U.alloc (.cells #[.int .i64 0, .int .i64 0, .int .i64 0] 42)) (ConE U 0)) := fun x U h => by
    have := conf_new netA (some x) 1 ⟨0, 0, 0⟩ U h (by decide) (by unfold InK; decide)
    rw [conA] at this
    exact this
  have C2 : Hid (∀ x U, AtN U (some x) netB.arcs → Calls Try.prog 9 #[.agg #[.int .i64 1, .slice (some x) 1 1], .slice (some ⟨U.heap.size, 0, none⟩) 1 1] (U.alloc (.cells #[.int .i64 0, .int .i64 0, .int .i64 0] 42)) (ConE U 141)) := fun x U h => by
    have := conf_new netB (some x) 1 ⟨0, 0, 0⟩ U h (by decide) (by unfold InK; decide)
    rw [conB] at this
    exact this
  have C3 : Hid (∀ x U, AtN U (some x) netA.arcs → Calls Try.prog 9 #[.agg #[.int .i64 1, .slice (some x) 1 1], .slice none 0 0] U (ConE U 140)) := fun x U h => by
    have := conf_nil netA (some x) 1 U h (by decide)
    rw [conC] at this
    exact this
  have b1 := (Below.refl w.heap.size w).alloc (Nat.le_refl _) (.cells #[.int .i64 0, .int .i64 0, .int .i64 1, .int .i64 1, .int .i64 0] 45)
  have H1 : AtN (w.alloc (.cells #[.int .i64 0, .int .i64 0, .int .i64 1, .int .i64 1, .int .i64 0] 45)) (some ⟨w.heap.size, 0, none⟩) netA.arcs := atN_one w ⟨0, 0, 1, 1, 0⟩
  have hs1 : (w.alloc (.cells #[.int .i64 0, .int .i64 0, .int .i64 1, .int .i64 1, .int .i64 0] 45)).heap.size = w.heap.size + 1 := World.size_alloc _ _
  have b2 := (Below.refl (w.alloc (.cells #[.int .i64 0, .int .i64 0, .int .i64 1, .int .i64 1, .int .i64 0] 45)).heap.size (w.alloc (.cells #[.int .i64 0, .int .i64 0, .int .i64 1, .int .i64 1, .int .i64 0] 45))).alloc (Nat.le_refl _) (.cells #[.int .i64 1, .slice (some ⟨w.heap.size, 0, none⟩) 1 1] 24)
  have X2 := blkA_new 24 (w.alloc (.cells #[.int .i64 0, .int .i64 0, .int .i64 1, .int .i64 1, .int .i64 0] 45)) #[.int .i64 1, .slice (some ⟨w.heap.size, 0, none⟩) 1 1]
  rw [hs1] at X2
  have HN1 := hiddenN (H1.below b2)
  have HX1 := hiddenN X2
  have B2 := hiddenN (b1.trans (b2.mono b1.size))
  clear b1 b2 H1 hs1 X2
  go_enter Try.func13, Try.ntmps13
  go_upto_region 2 with fail
  generalize (w.alloc (.cells #[.int .i64 0, .int .i64 0, .int .i64 1, .int .i64 1, .int .i64 0] 45)).alloc (.cells #[.int .i64 1, .slice (some ⟨w.heap.size, 0, none⟩) 1 1] 24) = W2 at *
  have b3 := (Below.refl W2.heap.size W2).alloc (Nat.le_refl _) (.cells #[.int .i64 0, .int .i64 0, .int .i64 1, .int .i64 1, .int .i64 1] 45)
  have H3 : AtN (W2.alloc (.cells #[.int .i64 0, .int .i64 0, .int .i64 1, .int .i64 1, .int .i64 1] 45)) (some ⟨W2.heap.size, 0, none⟩) netB.arcs := atN_one W2 ⟨0, 0, 1, 1, 1⟩
  have hs3 : (W2.alloc (.cells #[.int .i64 0, .int .i64 0, .int .i64 1, .int .i64 1, .int .i64 1] 45)).heap.size = W2.heap.size + 1 := World.size_alloc _ _
  have b4 := (Below.refl (W2.alloc (.cells #[.int .i64 0, .int .i64 0, .int .i64 1, .int .i64 1, .int .i64 1] 45)).heap.size (W2.alloc (.cells #[.int .i64 0, .int .i64 0, .int .i64 1, .int .i64 1, .int .i64 1] 45))).alloc (Nat.le_refl _) (.cells #[.int .i64 1, .slice (some ⟨W2.heap.size, 0, none⟩) 1 1] 24)
  have X4 := blkA_new 24 (W2.alloc (.cells #[.int .i64 0, .int .i64 0, .int .i64 1, .int .i64 1, .int .i64 1] 45)) #[.int .i64 1, .slice (some ⟨W2.heap.size, 0, none⟩) 1 1]
  rw [hs3] at X4
  have b34 := b3.trans (b4.mono b3.size)
  have HN2 := hiddenN (H3.below b4)
  have HX2 := hiddenN X4
  have HM1 := hiddenN (HN1.out.below b34)
  have HY1 := hiddenN (HX1.out.below b34)
  have B4 := hiddenN (B2.out.trans (b34.mono B2.out.size))
  clear b3 b4 b34 H3 hs3 X4 HN1 HX1 B2
  go_upto_region 3 with fail
  generalize (W2.alloc (.cells #[.int .i64 0, .int .i64 0, .int .i64 1, .int .i64 1, .int .i64 1] 45)).alloc (.cells #[.int .i64 1, .slice (some ⟨W2.heap.size, 0, none⟩) 1 1] 24) = W4 at *
  obtain ⟨g2, hg2⟩ : ∃ q, W2.heap.size = q := ⟨_, rfl⟩
  obtain ⟨g1, hg1⟩ : ∃ q, w.heap.size = q := ⟨_, rfl⟩
  rw [hg2] at HN2 HX2 ⊢
  rw [hg1] at HM1 HY1 ⊢
  clear hg1 hg2
  have u0 := HY1.out.cell (k := 0) rfl
  have u1 := HY1.out.cell (k := 1) rfl
  simp only [List.getElem_toArray, List.getElem_cons_zero, List.getElem_cons_succ] at u0 u1
  go_wp2_with (first
    | (go_at_call 9; (with_reducible refine (C1.out _ _ HM1.out).mono ?_); rintro e w5 ⟨rfl, b5⟩; have HM5 := hiddenN (HM1.out.below b5); have HY5 := hiddenN (HY1.out.below b5); have HN5 := hiddenN (HN2.out.below b5); have HX5 := hiddenN (HX2.out.below b5); have B5 := hiddenN (B4.out.trans (b5.mono B4.out.size)); have v0 := HX5.out.cell (k := 0) rfl; have v1 := HX5.out.cell (k := 1) rfl; simp only [List.getElem_toArray, List.getElem_cons_zero, List.getElem_cons_succ] at v0 v1; clear b5 C1 HM1 HY1 HN2 HX2)
    | (go_at_call 9; (with_reducible refine (C2.out _ _ HN5.out).mono ?_); rintro e w6 ⟨rfl, b6⟩; have HM6 := hiddenN (HM5.out.below b6); have HY6 := hiddenN (HY5.out.below b6); have B6 := hiddenN (B5.out.trans (b6.mono B5.out.size)); have t0 := HY6.out.cell (k := 0) rfl; have t1 := HY6.out.cell (k := 1) rfl; simp only [List.getElem_toArray, List.getElem_cons_zero, List.getElem_cons_succ] at t0 t1; clear b6 C2 HM5 HY5 HN5 HX5)
    | (go_at_call 9; (with_reducible refine (C3.out _ _ HM6.out).mono ?_); rintro e w7 ⟨rfl, b7⟩; have B7 := hiddenN (B6.out.trans (b7.mono B6.out.size)); clear b7 C3))
  go_ret
  exact ⟨by first | rfl | simp, B7.out⟩
end Go.Proofs.Ytdgngmhapehldaa

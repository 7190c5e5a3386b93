/- Texts of one chain, laid one behind the other. -/
import Derived.Test.YthgblljokonejaaGreatDoorPartSketchPrints6
import Derived.Test.YthgblljokonejaaGreatDoorPartSketchPrints10
import Derived.Test.YthgblljokonejaaGreatDoorPartSketchPrints12
/- The walk through the statement SketchPrints. -/
namespace Go.Proofs.YthgblljokonejaaGreatDoor
open Go.ChangeShapes Go.WideShapes Go.ChangeAt Go.RowKit

theorem printO_map {nm : List UInt8} {L M : List (Itm × Value)} (h : M.map Prod.fst = L.map Prod.fst) : printO nm M = printO nm L := by rw [print_items, print_items, h]
set_option maxRecDepth 100000 in
set_option maxHeartbeats 4000000 in
theorem sketchPrints_walk (nm : List UInt8) (a : Option Addr) (n c : Nat) (L : List (Itm × Value)) (w : World) (h : ArgS w a n L) (hE : Env w) (hT : Tab w.heap.size w) :
    Calls Tryz.prog 4 #[.agg #[.string (str nm), .slice a n c]] w fun e w' => e = .returned (.bool true) ∧ Below w.heap.size w w' := by
  have B0 := hidden ((Below.refl w.heap.size w).alloc (Nat.le_refl _) (.cells #[.string (str nm), .slice a n c] 24))
  have AW : Hid (∀ W, Below w.heap.size w W → Calls Tryz.prog 8 #[] W fun e w' => e = .returned (.bool true) ∧ Below W.heap.size W w') := fun W hb => awake5 W (hE.below hb) (hT.on5 hb)
  have A1 : Hid (∀ W, Below w.heap.size w W → Calls Tryz.prog 10 #[.agg #[.string (str nm), .slice a n c]] W (HeavyEnd W n L)) := fun W hb => heavy_any nm a n c L W (h.below hb)
  have A2 : Hid (∀ W, Below w.heap.size w W → (n ≤ 1048576 ∧ ∀ p ∈ L, p.1.nums.length ≤ 1048576) → Calls Tryz.prog 11 #[.agg #[.string (str nm), .slice a n c]] W (LentM W nm n L)) := fun W hb hh => lent5m_any nm a n c L W (h.below hb) hh.1 hh.2
  obtain ⟨tx, er, hp⟩ : ∃ tx er, printO nm L = (tx, er) := ⟨_, _, rfl⟩
  have A3 : Hid (∀ V a' c' M, Below w.heap.size w V → (n ≤ 1048576 ∧ ∀ p ∈ L, p.1.nums.length ≤ 1048576) → M.map Prod.fst = L.map Prod.fst → M.length = n → ItR V a' M → Calls Tryz.prog 12 #[.agg #[.string (str nm), .slice a' n c']] V fun e w' => e = .returned (.tuple #[.string (str tx), .int .i64 er]) ∧ Below V.heap.size V w') := fun V a' c' M hb hh hM hl hi => by
    have := print_any nm a' n c' M V hl hi (by omega) (lent_fits h hh.2 hM) (hT.on5 hb)
    rw [printO_map hM, hp] at this
    exact this
  have A4 : Hid (∀ V, Below w.heap.size w V → (n ≤ 1048576 ∧ ∀ p ∈ L, p.1.nums.length ≤ 1048576) → Calls Tryz.prog 13 #[.agg #[.string (str nm), .slice a n c]] V fun e w' => e = .returned (.tuple #[.string (str tx), .int .i64 er]) ∧ Below V.heap.size V w') := fun V hb hh => by
    have := rprint_any nm a n c L V h.size (h.lies.below hb) hh.1 (lent_fits h hh.2 rfl) hh.2
    rw [hp] at this
    exact this
  have A5 : Hid (∀ V a' c' M B, Below w.heap.size w V → (n ≤ 1048576 ∧ ∀ p ∈ L, p.1.nums.length ≤ 1048576) → M.map Prod.fst = L.map Prod.fst → M.length = n → ItR V a' (M ++ [(markI, Value.slice none 0 0)]) → LM B V M → n + 1 ≤ c' → Calls Tryz.prog 14 #[.agg #[.string (str nm), .slice a' n c'], .agg #[.string (str nm), .slice a n c]] V fun e w' => e = .returned (.bool true) ∧ Below V.heap.size V w') := fun V a' c' M B hb hh hM hl hi hLM hc => kept5_any nm a' a n c' c B M L V hl hM hi hLM hc (h.below hb) hh.1 hh.2
  have s1 := str_list tx
  have s2 : (tx == tx) = true := by simp
  have s3 : (er == er) = true := by simp
  clear h hE hT hp
  go_enter Tryz.func4, Tryz.ntmps4
  go_wp2_with (go_at_call 10; (with_reducible refine (A1.out _ B0.out).mono ?_); rintro e w1 ⟨b, rfl, hh, b1⟩; have HH := hidden hh; have B1 := hidden (B0.out.trans (b1.mono B0.out.size)); have x0 : w1.cell? ⟨w.heap.size, 0, none⟩ = some (.string (str nm)) := cell_keep b1 (by simp); have x1 : w1.cell? ⟨w.heap.size, 1, none⟩ = some (.slice a n c) := cell_keep b1 (by simp); clear b1 hh)
  · go_wp2
    go_ret
    exact ⟨by first | rfl | simp, B1.out⟩
  · have HQ := hidden (HH.out (by assumption))
    clear HH
    go_wp2_with (first
      | (go_at_call 14; (with_reducible refine (A5.out _ _ _ M _ B6.out HQ.out HM.out HL.out (HI.out.below Q6.out) (HLM.out.below Q6.out) HC.out).mono ?_); rintro e w7 ⟨rfl, b7⟩)
      | (go_at_call 8; (with_reducible refine (AW.out _ B4.out).mono ?_); rintro e w6 ⟨rfl, b6⟩; have B6 := hidden (B4.out.trans (b6.mono B4.out.size)); have Q6 := hidden (Q4.out.trans (b6.mono Q4.out.size)); have x4 := cell_keep b6 x2; have x5 := cell_keep b6 x3; have u4 := cell_keep b6 u2; have u5 := cell_keep b6 u3; clear b6)
      | (go_at_call 13; (with_reducible refine (A4.out _ B3.out HQ.out).mono ?_); rintro e w4 ⟨rfl, b4⟩; have B4 := hidden (B3.out.trans (b4.mono B3.out.size)); have Q4 := hidden (Q3.out.trans (b4.mono Q3.out.size)); have x2 := cell_keep b4 y2; have x3 := cell_keep b4 y3; have u2 := cell_keep b4 v2; have u3 := cell_keep b4 v3; clear b4)
      | (go_at_call 12; (with_reducible refine (A3.out _ _ _ M B2'.out HQ.out HM.out HL.out (HI.out.pre.below Q2.out)).mono ?_); rintro e w3 ⟨rfl, b3⟩; have B3 := hidden (B2'.out.trans (b3.mono B2'.out.size)); have Q3 := hidden (Q2.out.trans (b3.mono Q2.out.size)); have y2 := cell_keep b3 z2; have y3 := cell_keep b3 z3; have v2 : w3.cell? ⟨w2.heap.size, 0, none⟩ = some (.string (str nm)) := cell_keep b3 (by simp); have v3 : w3.cell? ⟨w2.heap.size, 1, none⟩ = some (.slice a' n c') := cell_keep b3 (by simp); clear b3)
      | (go_at_call 11; (with_reducible refine (A2.out _ B1.out HQ.out).mono ?_); rintro e w2 ⟨a', c', M, rfl, hM, hl, hi, hlm, hc, b2⟩; have HM := hidden hM; have HL := hidden hl; have HI := hidden hi; have HLM := hidden hlm; have HC := hidden hc; have B2 := hidden (B1.out.trans (b2.mono B1.out.size)); have Q2 := hidden ((Below.refl w2.heap.size w2).alloc (Nat.le_refl _) (.cells #[.string (str nm), .slice a' n c'] 24)); have B2' := hidden (B2.out.trans (Q2.out.mono B2.out.size)); have z2 := cell_keep Q2.out (cell_keep b2 x0); have z3 := cell_keep Q2.out (cell_keep b2 x1); clear hM hl hi hlm hc b2))
    go_ret
    exact ⟨by first | rfl | simp, B6.out.trans (b7.mono B6.out.size)⟩
end Go.Proofs.YthgblljokonejaaGreatDoor

/- The walk through the statement ShapeKeeps. -/
import Derived.Test.YtlnodnkfagehgabH3b
import Derived.Test.YtlnodnkfagehgabH6
namespace Go.Proofs.Ytlnodnkfagehgab
open Go.ChangeShapes Go.WideShapes Go.ChangeAt Go.RowKit

set_option maxRecDepth 100000 in
set_option maxHeartbeats 1000000 in
theorem shapeKeeps_walk (t : Nat) (a : Option Addr) (len cap : Nat) (zs : List Int) (w : World) (ht : t ≤ 255) (hA : Arg w a len cap zs) : Calls Try.prog 4 #[.int .u8 (t : Int), .slice a len cap] w fun e w' => e = .returned (.bool true) ∧ Below w.heap.size w w' := by
  have L1 := hidden6 (lent_any a zs len cap w hA)
  have HA := hidden6 hA
  have O1 : Hid (∀ b c V, At V b zs → Calls Try.prog 9 #[.int .u8 (t : Int), .slice b len c] V (OfEnd V (ofS t zs))) := fun b c V h => of_any t b zs len c V ht HA.out.size h
  have O2 : Hid (∀ b c V, At V b zs → Calls Try.prog 8 #[.int .u8 (t : Int), .slice b len c] V (OfEnd V (ofS t zs))) := fun b c V h => rof_any t b zs len c V ht HA.out.size h
  have K1 : Hid (∀ g b W, Lend b W g len zs → Arg W a len cap zs → Calls Try.prog 13 #[.slice (some ⟨g, 0, none⟩) len (len + 4), .slice a len cap] W (fun e w' => e = .returned (.bool true) ∧ Below W.heap.size W w')) :=
    fun g b W k1 k2 => (kept_any g a zs len cap b W k1 k2).mono fun e w' ⟨n, h1, h2⟩ => ⟨h1, by rw [h2]; exact bdrew (Below.refl _ _) n⟩
  unfold LentEnd at L1
  unfold OfEnd at O1 O2
  generalize ofS t zs = r at *
  obtain ⟨P, Q, f⟩ := r
  simp only at O1 O2
  have q1 : (f == f) = true := by simp
  clear hA
  go_enter Try.func4, Try.ntmps4
  go_wp2_with (first
    | (go_at_call 12; (with_reducible refine (awake6 _).mono ?_); rintro e w5 ⟨rfl, b5⟩)
    | (go_at_call 13; (with_reducible refine (K1.out g _ w3 ((hlend.below b2).below b3) ((HA.out.below b1).below (q3.mono (Nat.le_refl _)))).mono ?_); rintro e w4 ⟨rfl, b4⟩)
    | (go_at_call 8; (with_reducible refine (O2.out a cap w2 ((HA.out.lies.below b1).below b2)).mono ?_); rintro e w3 ⟨x3, c3, y3, d3, rfl, -, -, -, b3⟩; have q3 := b2.trans (b3.mono b2.size))
    | (go_at_call 9; (with_reducible refine (O1.out (some ⟨g, 0, none⟩) (len + 4) w1 hlend.at).mono ?_); rintro e w2 ⟨x2, c2, y2, d2, rfl, -, -, -, b2⟩)
    | (go_at_call 7; (with_reducible refine L1.out.mono ?_); rintro e w1 ⟨g, rfl, hlend, b1⟩))
  go_ret
  have p3 := b1.trans (q3.mono b1.size)
  have p4 := p3.trans (b4.mono p3.size)
  exact ⟨rfl, p4.trans (b5.mono p4.size)⟩
end Go.Proofs.Ytlnodnkfagehgab

/- The walk through the statement ShapeOf. -/
import Derived.Test.YtlnodnkfagehgabH8
import Derived.Test.YtlnodnkfagehgabApart
namespace Go.Proofs.Ytlnodnkfagehgab
open Go.ChangeShapes Go.WideShapes Go.ChangeAt Go.RowKit

def three {α : Type} (a b c : α) (j : Nat) : α := match j with
  | 0 => a
  | 1 => b
  | _ => c
theorem three_cases {p : Nat → Prop} (h0 : p 0) (h1 : p 1) (h2 : p 2) : ∀ j, j < 3 → p j := fun j hj => by
  match j, hj with
  | 0, _ => exact h0
  | 1, _ => exact h1
  | 2, _ => exact h2
theorem three_ne {a b c : Option Addr} {k : Nat} (h0 : ∀ y, a = some y → y.block ≠ k) (h1 : ∀ y, b = some y → y.block ≠ k) (h2 : ∀ y, c = some y → y.block ≠ k) : ∀ j x, j < 3 → three a b c j = some x → x.block ≠ k := fun j x hj hx => by
  match j, hj, hx with
  | 0, _, hx => exact h0 x hx
  | 1, _, hx => exact h1 x hx
  | 2, _, hx => exact h2 x hx
theorem of_len (t : Nat) (zs : List Int) : (ofS t zs).1.length ≤ 16 ∧ (ofS t zs).2.1.length ≤ 16 := by
  unfold ofS
  by_cases h1 : 1 ≤ t ∧ t ≤ 11
  · rw [if_pos h1]
    by_cases h2 : okS t zs = true
    · rw [if_pos h2]
      revert h2
      revert t
      have r16 : ∀ (n : Int) (x : Int), n ≤ 16 → (rep n x).length ≤ 16 := fun n x h => by unfold rep; rw [List.length_replicate]; omega
      refine eleven ?_ ?_ ?_ ?_ ?_ ?_ ?_ ?_ ?_ ?_ ?_
      · exact fun _ => ⟨by show 1 ≤ 16; decide, by show 1 ≤ 16; decide⟩
      · exact fun _ => ⟨by show 1 ≤ 16; decide, by show 1 ≤ 16; decide⟩
      · exact fun _ => ⟨by show 1 ≤ 16; decide, by show 1 ≤ 16; decide⟩
      · exact fun h => ⟨r16 _ _ (ok_two rfl h).2.1.2, by show 1 ≤ 16; decide⟩
      · exact fun h => ⟨by show 1 ≤ 16; decide, r16 _ _ (ok_two rfl h).2.1.2⟩
      · exact fun h => ⟨r16 _ _ (ok_one rfl h).2.2, by show 1 ≤ 16; decide⟩
      · exact fun _ => ⟨by show 2 ≤ 16; decide, by show 1 ≤ 16; decide⟩
      · exact fun _ => ⟨by show 1 ≤ 16; decide, by show 1 ≤ 16; decide⟩
      · exact fun h => ⟨by show 1 ≤ 16; decide, r16 _ _ (ok_one rfl h).2.2⟩
      · exact fun _ => ⟨by show 0 ≤ 16; decide, by show 1 ≤ 16; decide⟩
      · exact fun _ => ⟨by show 1 ≤ 16; decide, by show 0 ≤ 16; decide⟩
    · rw [if_neg h2]; exact ⟨by decide, by decide⟩
  · rw [if_neg h1]; exact ⟨by decide, by decide⟩
theorem table_three {B : Nat} {w : World} {a b c : Option Addr} {n1 n2 n3 len : Nat} {P Q R : List Int} (hP : P.length ≤ 16) (hQ : Q.length ≤ 16) (hR : R.length = len) (hR8 : len * 8 ≤ 140737488351232) (ha : CapR B w a n1 P) (hb : CapR B w b n2 Q) (hc : CapR B w c n3 R) (hlow : B ≤ w.heap.size)
    (hab : ∀ x y, a = some x → b = some y → x.block < y.block) (hca : ∀ x y, c = some x → a = some y → x.block < y.block) (hcb : ∀ x y, c = some x → b = some y → x.block < y.block) :
    Table B (w.alloc (.cells #[.slice a P.length n1, .slice b Q.length n2, .slice c len n3] 22)) w.heap.size 3 (three a b c) (three P.length Q.length len) (three n1 n2 n3) (three P Q R) := by
  have bel : Below w.heap.size w (w.alloc (.cells #[.slice a P.length n1, .slice b Q.length n2, .slice c len n3] 22)) := (Below.refl _ _).alloc (Nat.le_refl _) _
  have lt : ∀ j, j < 3 → ∀ x, three a b c j = some x → x.block < w.heap.size := three_cases (fun x hx => (ha.lt x hx).2) (fun x hx => (hb.lt x hx).2) (fun x hx => (hc.lt x hx).2)
  refine ⟨three_cases ⟨ha.later bel, rfl⟩ ⟨hb.later bel, rfl⟩ ⟨hc.later bel, hR⟩, three_cases (by simp [three]) (by simp [three]) (by simp [three]), ?_, fun j x hj hx => ?_, by simp, by simp; omega, by decide, three_cases (by show P.length * 8 ≤ _; omega) (by show Q.length * 8 ≤ _; omega) (by show len * 8 ≤ _; omega)⟩
  · intro j k x y hj hk hjk hx hy
    match j, k, hj, hk, hjk, hx, hy with
    | 0, 0, _, _, h, _, _ => exact absurd rfl h
    | 0, 1, _, _, _, hx, hy => have := hab x y hx hy; omega
    | 0, 2, _, _, _, hx, hy => have := hca y x hy hx; omega
    | 1, 0, _, _, _, hx, hy => have := hab y x hy hx; omega
    | 1, 1, _, _, h, _, _ => exact absurd rfl h
    | 1, 2, _, _, _, hx, hy => have := hcb y x hy hx; omega
    | 2, 0, _, _, _, hx, hy => have := hca x y hx hy; omega
    | 2, 1, _, _, _, hx, hy => have := hcb x y hx hy; omega
    | 2, 2, _, _, h, _, _ => exact absurd rfl h
  · have := lt j hj x hx
    omega
set_option maxRecDepth 100000 in
set_option maxHeartbeats 1000000 in
theorem shapeOf_walk (t : Nat) (a : Option Addr) (len cap : Nat) (zs : List Int) (w : World) (ht : t ≤ 255) (hA : Arg w a len cap zs) : Calls Try.prog 3 #[.int .u8 (t : Int), .slice a len cap] w fun e w' => e = .returned (.bool true) ∧ Below w.heap.size w w' := by
  have L1 := hidden6 (lent_full a zs len cap w hA)
  have HA := hidden6 hA
  have O1 : Hid (∀ b c V, At V b zs → Calls Try.prog 9 #[.int .u8 (t : Int), .slice b len c] V (OfEnd V (ofS t zs))) := fun b c V h => of_any t b zs len c V ht HA.out.size h
  have O2 : Hid (∀ b c V, At V b zs → Calls Try.prog 8 #[.int .u8 (t : Int), .slice b len c] V (OfEnd V (ofS t zs))) := fun b c V h => rof_any t b zs len c V ht HA.out.size h
  have hlen := of_len t zs
  unfold OfEnd at O1 O2
  generalize ofS t zs = r at *
  obtain ⟨P, Q, f⟩ := r
  simp only at O1 O2 hlen
  have HLEN := hidden6 hlen
  have SP := hidden6 (fun a b c1 c2 W => same6 P a b c1 c2 W (by have := HLEN.out.1; omega))
  have SQ := hidden6 (fun a b c1 c2 W => same6 Q a b c1 c2 W (by have := HLEN.out.2; omega))
  have q1 : (f == f) = true := by simp
  have q2 : (f != f) = false := by simp
  clear hA hlen ht
  go_enter Try.func3, Try.ntmps3
  go_wp2_with (first
    | (go_at_call 12; (with_reducible refine (awake6 _).mono ?_); rintro e w10 ⟨rfl, b10⟩)
    | (go_at_call 10; (with_reducible refine (SQ.out y1 y3 _ _ w8 (NY1.out.below (b7.trans (b8.mono b7.size))) (ny3.at.below b8)).mono ?_); rintro e w9 ⟨rfl, b9⟩)
    | (go_at_call 10; (with_reducible refine (SP.out x1 x3 _ _ w7 (NX1.out.below b7) nx3.at).mono ?_); rintro e w8 ⟨rfl, b8⟩)
    | (go_at_call 9; (with_reducible refine (O1.out a cap w6 (HA.out.lies.below F6.out)).mono ?_); rintro e w7 ⟨x3, c3, y3, d3, rfl, nx3, ny3, -, b7⟩)
    | (go_at_call 11; ((with_reducible refine (apart_keeps w.heap.size _ _ _ _ _ _ _ _ (table_three HLEN.out.1 HLEN.out.2 HA.out.size HA.out.reach ((nx2.later B5.out).mono M2.out.size) ((ny2.later B5.out).mono M2.out.size) (own1.later (T2.out.trans (B5.out.mono T2.out.size))) F5.out.size lt2 (fun x y hx hy => by have := (CapR.lt own1 x hx).2; have := (nx2.lt y hy).1; have := b2.size; omega) (fun x y hx hy => by have := (CapR.lt own1 x hx).2; have := (ny2.lt y hy).1; have := b2.size; omega))).mono ?_); rintro e w6 ⟨rfl, b6, k6⟩; have F6 := hidden6 ((F5.out.alloc F5.out.size _).trans b6); have NX1 : Hid (At w6 x1 P) := At.block (((nx1.at.below b3).below B5.out).below ((Below.refl w5.heap.size w5).alloc (Nat.le_refl _) _)) (fun x hx => k6 x.block (by have := (nx1.lt x hx).2; have := b3.size; have := B5.out.size; simp; omega) (three_ne (fun y hy => by have := (nx2.lt y hy).1; have := (nx1.lt x hx).2; omega) (fun y hy => by have := (ny2.lt y hy).1; have := (nx1.lt x hx).2; omega) (fun y hy => by have := (CapR.lt own1 y hy).2; have := (nx1.lt x hx).1; omega))); have NY1 : Hid (At w6 y1 Q) := At.block (((ny1.at.below b3).below B5.out).below ((Below.refl w5.heap.size w5).alloc (Nat.le_refl _) _)) (fun x hx => k6 x.block (by have := (ny1.lt x hx).2; have := b3.size; have := B5.out.size; simp; omega) (three_ne (fun y hy => by have := (nx2.lt y hy).1; have := (ny1.lt x hx).2; omega) (fun y hy => by have := (ny2.lt y hy).1; have := (ny1.lt x hx).2; omega) (fun y hy => by have := (CapR.lt own1 y hy).2; have := (ny1.lt x hx).1; omega)))))
    | (go_at_call 10; (with_reducible refine (SQ.out y1 y2 _ _ w4 ((ny1.at.below b3).below b4) (ny2.at.below b4)).mono ?_); rintro e w5 ⟨rfl, b5⟩; have B5 := hidden6 (b4.trans (b5.mono b4.size)); have F5 := hidden6 (F3.out.trans (B5.out.mono F3.out.size)))
    | (go_at_call 10; (with_reducible refine (SP.out x1 x2 _ _ w3 (nx1.at.below b3) nx2.at).mono ?_); rintro e w4 ⟨rfl, b4⟩)
    | (go_at_call 9; (with_reducible refine (O1.out (some ⟨g, 0, none⟩) (len + 4) w2 (hlend.at.below b2)).mono ?_); rintro e w3 ⟨x2, c2, y2, d2, rfl, nx2, ny2, lt2, b3⟩; have T2 := hidden6 (b2.trans (b3.mono b2.size)); have F3 := hidden6 (M2.out.trans (b3.mono M2.out.size)))
    | (go_at_call 8; (with_reducible refine (O2.out a cap w1 (HA.out.lies.below b1)).mono ?_); rintro e w2 ⟨x1, c1, y1, d1, rfl, nx1, ny1, -, b2⟩; have M2 := hidden6 (b1.trans (b2.mono b1.size)))
    | (go_at_call 7; (with_reducible refine L1.out.mono ?_); rintro e w1 ⟨g, rfl, hlend, b1, own0⟩; have own1 : CapR w.heap.size w1 (some ⟨g, 0, none⟩) (len + 4) zs := (by unfold CapR; rw [HA.out.size]; exact own0)))
  go_ret
  have p7 := F6.out.trans (b7.mono F6.out.size)
  have p8 := p7.trans (b8.mono p7.size)
  have p9 := p8.trans (b9.mono p8.size)
  exact ⟨rfl, p9.trans (b10.mono p9.size)⟩
end Go.Proofs.Ytlnodnkfagehgab

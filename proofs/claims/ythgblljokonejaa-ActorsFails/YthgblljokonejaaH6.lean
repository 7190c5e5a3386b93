/- The statements' own examples of shapes. -/
import Derived.Test.YthgblljokonejaaH4
import Derived.Test.YthgblljokonejaaKeep
namespace Go.Proofs.Ythgblljokonejaa
open Go.ChangeShapes Go.WideShapes Go.ChangeAt Go.RowKit

theorem same6 (zs : List Int) (a b : Option Addr) (c1 c2 : Nat) (W : World) (hm : zs.length ≤ 1024) (k1 : At W a zs) (k2 : At W b zs) : Calls Try.prog 18 #[.slice a zs.length c1, .slice b zs.length c2] W (fun e w' => e = .returned (.bool true) ∧ Below W.heap.size W w') :=
  (same_any a b zs zs.length c1 c2 W rfl (by omega) k1 k2).mono fun e w' ⟨n, h1, h2⟩ => ⟨h1, by rw [h2]; exact bdrew (Below.refl _ _) n⟩
/-- How a call of Of with numbers laid for it ends. -/
theorem of_two (t : Nat) (x y : Int) (V : World) (ty : TypeId) (ht : t ≤ 255) : Calls Try.prog 25 #[.int .u8 (t : Int), .slice (some ⟨V.heap.size, 0, none⟩) 2 2] (V.alloc (.cells #[.int .i64 x, .int .i64 y] ty)) (OfEnd V (ofS t [x, y])) :=
  (shapeOf_any t _ [x, y] 2 2 _ ht rfl (at2n rfl)).mono fun _ _ ⟨a, c1, b, c2, he, m1, m2, hx, hb⟩ => ⟨a, c1, b, c2, he, m1.mono (by simp), m2.mono (by simp), hx, ((Below.refl V.heap.size V).alloc (Nat.le_refl _) _).trans (hb.mono (by simp))⟩
theorem of_one (t : Nat) (x : Int) (V : World) (ty : TypeId) (ht : t ≤ 255) : Calls Try.prog 25 #[.int .u8 (t : Int), .slice (some ⟨V.heap.size, 0, none⟩) 1 1] (V.alloc (.cells #[.int .i64 x] ty)) (OfEnd V (ofS t [x])) :=
  (shapeOf_any t _ [x] 1 1 _ ht rfl (at1n V x ty)).mono fun _ _ ⟨a, c1, b, c2, he, m1, m2, hx, hb⟩ => ⟨a, c1, b, c2, he, m1.mono (by simp), m2.mono (by simp), hx, ((Below.refl V.heap.size V).alloc (Nat.le_refl _) _).trans (hb.mono (by simp))⟩
end Go.Proofs.Ythgblljokonejaa

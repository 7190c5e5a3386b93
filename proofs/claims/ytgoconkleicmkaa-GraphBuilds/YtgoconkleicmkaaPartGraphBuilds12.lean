/- Texts of one chain. -/
import Derived.Test.YtgoconkleicmkaaPartGraphBuilds9
import Derived.Laws.Strings
set_option maxHeartbeats 1000000
namespace Go.Proofs.Ytgoconkleicmkaa
open Go.ChangeShapes Go.WideShapes Go.ChangeAt Go.RowKit
def vU (l : List UInt8) : ByteArray := ⟨l.toArray⟩
theorem rP (l : List UInt8) : (vU l).toList = l := ByteArray.toList_mk l
def yB (t : Nat) : List UInt8 :=
 match t with
 | 1 => [102, 105, 108, 116, 101, 114]
 | 2 => [117, 112]
 | 3 => [100, 111, 119, 110]
 | 4 => [119, 101, 97, 118, 101]
 | 5 => [117, 110, 119, 101, 97, 118, 101]
 | 6 => [97, 100, 100]
 | 7 => [113, 117, 111, 116]
 | 8 => [115, 117, 109]
 | 9 => [99, 111, 112, 121]
 | 10 => [116, 105, 99, 107]
 | 11 => [100, 114, 111, 112]
 | _ => []
def nT : Nat -> Nat -> List UInt8 -> Nat × Int
 | 0, _, _ => (0, 60)
 | f + 1, t, x => if yB t = x then (t, 0) else nT f (t + 1) x
def uY (x : List UInt8) : Nat × Int := nT 11 1 x
def pQ (t : Nat) : List UInt8 × Int := if 1 <= t /\ t <= 11 then (yB t, 0) else ([], 60)
theorem kO (l m : List UInt8) : (l == m) = decide (l = m) := by
 by_cases h : l = m
 ·simp [h]
 rw [decide_eq_false h]; simpa using h
theorem XD (w : World) : Calls Try.prog 60 #[.int .u8 1] w fun e w' => e = .returned (.string (vU (yB 1))) /\ Below w.heap.size w w' := by
 have B : Hid (∀ o, Below w.heap.size w (w.alloc o)) := fun o => (Below.refl _ _).alloc (Nat.le_refl _) o
 go_enter Try.func60, Try.ntmps60
 go_wp2
 go_ret
 exact ⟨rfl, by first | exact B.out _ | exact (B.out _).setCell (Nat.le_refl _) _⟩
theorem XC (w : World) : Calls Try.prog 60 #[.int .u8 2] w fun e w' => e = .returned (.string (vU (yB 2))) /\ Below w.heap.size w w' := by
 have B : Hid (∀ o, Below w.heap.size w (w.alloc o)) := fun o => (Below.refl _ _).alloc (Nat.le_refl _) o
 go_enter Try.func60, Try.ntmps60
 go_wp2
 go_ret
 exact ⟨rfl, by first | exact B.out _ | exact (B.out _).setCell (Nat.le_refl _) _⟩
theorem XA (w : World) : Calls Try.prog 60 #[.int .u8 3] w fun e w' => e = .returned (.string (vU (yB 3))) /\ Below w.heap.size w w' := by
 have B : Hid (∀ o, Below w.heap.size w (w.alloc o)) := fun o => (Below.refl _ _).alloc (Nat.le_refl _) o
 go_enter Try.func60, Try.ntmps60
 go_wp2
 go_ret
 exact ⟨rfl, by first | exact B.out _ | exact (B.out _).setCell (Nat.le_refl _) _⟩
theorem WZ (w : World) : Calls Try.prog 60 #[.int .u8 4] w fun e w' => e = .returned (.string (vU (yB 4))) /\ Below w.heap.size w w' := by
 have B : Hid (∀ o, Below w.heap.size w (w.alloc o)) := fun o => (Below.refl _ _).alloc (Nat.le_refl _) o
 go_enter Try.func60, Try.ntmps60
 go_wp2
 go_ret
 exact ⟨rfl, by first | exact B.out _ | exact (B.out _).setCell (Nat.le_refl _) _⟩
theorem WY (w : World) : Calls Try.prog 60 #[.int .u8 5] w fun e w' => e = .returned (.string (vU (yB 5))) /\ Below w.heap.size w w' := by
 have B : Hid (∀ o, Below w.heap.size w (w.alloc o)) := fun o => (Below.refl _ _).alloc (Nat.le_refl _) o
 go_enter Try.func60, Try.ntmps60
 go_wp2
 go_ret
 exact ⟨rfl, by first | exact B.out _ | exact (B.out _).setCell (Nat.le_refl _) _⟩
theorem WX (w : World) : Calls Try.prog 60 #[.int .u8 6] w fun e w' => e = .returned (.string (vU (yB 6))) /\ Below w.heap.size w w' := by
 have B : Hid (∀ o, Below w.heap.size w (w.alloc o)) := fun o => (Below.refl _ _).alloc (Nat.le_refl _) o
 go_enter Try.func60, Try.ntmps60
 go_wp2
 go_ret
 exact ⟨rfl, by first | exact B.out _ | exact (B.out _).setCell (Nat.le_refl _) _⟩
theorem WW (w : World) : Calls Try.prog 60 #[.int .u8 7] w fun e w' => e = .returned (.string (vU (yB 7))) /\ Below w.heap.size w w' := by
 have B : Hid (∀ o, Below w.heap.size w (w.alloc o)) := fun o => (Below.refl _ _).alloc (Nat.le_refl _) o
 go_enter Try.func60, Try.ntmps60
 go_wp2
 go_ret
 exact ⟨rfl, by first | exact B.out _ | exact (B.out _).setCell (Nat.le_refl _) _⟩
theorem WV (w : World) : Calls Try.prog 60 #[.int .u8 8] w fun e w' => e = .returned (.string (vU (yB 8))) /\ Below w.heap.size w w' := by
 have B : Hid (∀ o, Below w.heap.size w (w.alloc o)) := fun o => (Below.refl _ _).alloc (Nat.le_refl _) o
 go_enter Try.func60, Try.ntmps60
 go_wp2
 go_ret
 exact ⟨rfl, by first | exact B.out _ | exact (B.out _).setCell (Nat.le_refl _) _⟩
theorem WU (w : World) : Calls Try.prog 60 #[.int .u8 9] w fun e w' => e = .returned (.string (vU (yB 9))) /\ Below w.heap.size w w' := by
 have B : Hid (∀ o, Below w.heap.size w (w.alloc o)) := fun o => (Below.refl _ _).alloc (Nat.le_refl _) o
 go_enter Try.func60, Try.ntmps60
 go_wp2
 go_ret
 exact ⟨rfl, by first | exact B.out _ | exact (B.out _).setCell (Nat.le_refl _) _⟩
theorem aL (w : World) : Calls Try.prog 60 #[.int .u8 10] w fun e w' => e = .returned (.string (vU (yB 10))) /\ Below w.heap.size w w' := by
 have B : Hid (∀ o, Below w.heap.size w (w.alloc o)) := fun o => (Below.refl _ _).alloc (Nat.le_refl _) o
 go_enter Try.func60, Try.ntmps60
 go_wp2
 go_ret
 exact ⟨rfl, by first | exact B.out _ | exact (B.out _).setCell (Nat.le_refl _) _⟩
theorem aK (w : World) : Calls Try.prog 60 #[.int .u8 11] w fun e w' => e = .returned (.string (vU (yB 11))) /\ Below w.heap.size w w' := by
 have B : Hid (∀ o, Below w.heap.size w (w.alloc o)) := fun o => (Below.refl _ _).alloc (Nat.le_refl _) o
 go_enter Try.func60, Try.ntmps60
 go_wp2
 go_ret
 exact ⟨rfl, by first | exact B.out _ | exact (B.out _).setCell (Nat.le_refl _) _⟩
theorem kN (t : Nat) (ht : 1 <= t /\ t <= 11) (w : World) : Calls Try.prog 60 #[.int .u8 (t : Int)] w fun e w' => e = .returned (.string (vU (yB t))) /\ Below w.heap.size w w' := by
 revert t
 exact sD (XD w) (XC w) (XA w) (WZ w) (WY w) (WX w) (WW w) (WV w) (WU w) (aL w) (aK w)
theorem WT (x : List UInt8) (w : World) : Calls Try.prog 35 #[.string (vU x)] w fun e w' => e = .returned (.tuple #[.int .u8 ((uY x).1 : Int), .int .i64 (uY x).2]) /\ Below w.heap.size w w' := by
 have HK : Hid (∀ (t : Nat) w1, t <= 255 -> Calls Try.prog 59 #[.int .u8 (t : Int)] w1 fun e w' => e = .returned (.bool (decide (1 <= t) && decide (t <= 11))) /\ w' = w1) := fun t w1 h => oT t w1 h
 have HS : Hid (∀ (t : Nat) w1, 1 <= t /\ t <= 11 -> Calls Try.prog 60 #[.int .u8 (t : Int)] w1 fun e w' => e = .returned (.string (vU (yB t))) /\ Below w1.heap.size w1 w') := fun t w1 h => kN t h w1
 have HX : Hid (uY x = nT (12 - 1) 1 x) := yH rfl
 go_enter Try.func35, Try.ntmps35
 go_wp2
 go_loopg [4] 11 (fun gk v wr => ∃ t : Nat, 1 <= t /\ t <= 12 /\ gk = 12 - t /\ v = .int .u8 (t : Int) /\ uY x = nT (12 - t) t x /\ Below w.heap.size w wr)
 case atStart => exact ⟨1, by omega, by omega, rfl, rfl, HX.out, Below.refl _ _⟩
 case round =>
  clear HX
  obtain ⟨t, h1, h12, rfl, rfl, hx, hB⟩ := hrel
  have HB := yH hB
  clear hB
  by_cases hlt : t <= 11
  ·have e1 : (decide (1 <= t) && decide (t <= 11)) = true := by rw [decide_eq_true h1, decide_eq_true hlt]; rfl
   have HKt := yH (HK.out t wr (by omega))
   rw [e1] at HKt
   have HSt := yH (HS.out t wr ⟨h1, hlt⟩)
   have s1 := rP (yB t)
   have s2 := rP x
   have s3 := kO (yB t) x
   have e2 : 12 - t = (11 - t) + 1 := by omega
   rw [e2] at hx
   unfold nT at hx
   by_cases hw : yB t = x
   ·rw [if_pos hw] at hx
    rw [decide_eq_true hw] at s3
    have HX2 := yH hx
    clear hx e1 hw
    generalize yB t = y at *
    go_wp2_with (first
     | (go_at_call 60; (with_reducible refine HSt.out.mono ?_); rintro e w2 ⟨rfl, b2⟩)
     | (go_at_call 59; (with_reducible refine HKt.out.mono ?_); rintro e w1 ⟨rfl, rfl⟩))
    go_ret2
    exact ⟨by rw [HX2.out]; rfl, HB.out.trans (b2.mono HB.out.size)⟩
   rw [if_neg hw] at hx
   rw [decide_eq_false hw] at s3
   have HX2 : Hid (uY x = nT (12 - (t + 1)) (t + 1) x) := by
    show _ = _
    rw [hx, show 12 - (t + 1) = 11 - t by omega]
   clear hx e1 hw
   generalize yB t = y at *
   go_wp2_with (first
    | (go_at_call 60; (with_reducible refine HSt.out.mono ?_); rintro e w2 ⟨rfl, b2⟩)
    | (go_at_call 59; (with_reducible refine HKt.out.mono ?_); rintro e w1 ⟨rfl, rfl⟩))
   go_roundg (12 - (t + 1))
   case measure => omega
   case rel => exact ⟨t + 1, by omega, by omega, rfl, by go_num, HX2.out, HB.out.trans (b2.mono HB.out.size)⟩
  have e12 : t = 12 := by omega
  subst e12
  have HKt : Hid (Calls Try.prog 59 #[.int .u8 12] wr fun e w' => e = .returned (.bool false) /\ w' = wr) := HK.out 12 wr (by omega)
  have e12 : ((12 : Nat) : Int) = 12 := rfl
  rw [e12]
  have HX2 : Hid (uY x = (0, 60)) := hx
  clear hx
  go_wp2_with (go_at_call 59; (with_reducible refine HKt.out.mono ?_); rintro e w1 ⟨rfl, rfl⟩)
  go_ret2
  exact ⟨by rw [HX2.out]; rfl, HB.out⟩
theorem aJ (t : Nat) (w : World) (ht : t <= 255) : Calls Try.prog 76 #[.int .u8 (t : Int)] w fun e w' => e = .returned (.tuple #[.string (vU (pQ t).1), .int .i64 (pQ t).2]) /\ Below w.heap.size w w' := by
 have HK := yH (oT t w ht)
 unfold pQ
 by_cases h1 : 1 <= t /\ t <= 11
 ·rw [if_pos h1]
  have e1 : (decide (1 <= t) && decide (t <= 11)) = true := by rw [decide_eq_true h1.1, decide_eq_true h1.2]; rfl
  rw [e1] at HK
  have HS := yH (kN t h1 w)
  generalize yB t = y at *
  clear e1 h1
  go_enter Try.func76, Try.ntmps76
  go_wp2_with (first
   | (go_at_call 60; (with_reducible refine HS.out.mono ?_); rintro e w2 ⟨rfl, b2⟩)
   | (go_at_call 59; (with_reducible refine HK.out.mono ?_); rintro e w1 ⟨rfl, rfl⟩))
  go_ret2
  exact ⟨rfl, b2⟩
 rw [if_neg h1]
 have e1 : (decide (1 <= t) && decide (t <= 11)) = false := by
  by_cases h2 : 1 <= t
  ·rw [decide_eq_false (p := t <= 11) (fun h3 => h1 ⟨h2, h3⟩), Bool.and_false]
  rw [decide_eq_false h2]; rfl
 rw [e1] at HK
 clear e1 h1
 go_enter Try.func76, Try.ntmps76
 go_wp2_with (go_at_call 59; (with_reducible refine HK.out.mono ?_); rintro e w1 ⟨rfl, rfl⟩)
 go_ret2
 exact ⟨rfl, Below.refl _ _⟩
def sW (w : World) (g : Nat) : Prop := ∀ t, 1 <= t /\ t <= 11 -> w.cell? ⟨g, t - 1, none⟩ = some (.string (vU (yB t)))
theorem sW.below {w w' : World} {g : Nat} (h : sW w g) (hb : Below w.heap.size w w') : sW w' g := fun t ht => zA hb (h t ht)
theorem cO (V : World) (ty : TypeId) : sW (V.alloc (.cells #[.string ⟨#[102, 105, 108, 116, 101, 114]⟩, .string ⟨#[117, 112]⟩, .string ⟨#[100, 111, 119, 110]⟩, .string ⟨#[119, 101, 97, 118, 101]⟩, .string ⟨#[117, 110, 119, 101, 97, 118, 101]⟩, .string ⟨#[97, 100, 100]⟩, .string ⟨#[113, 117, 111, 116]⟩, .string ⟨#[115, 117, 109]⟩, .string ⟨#[99, 111, 112, 121]⟩, .string ⟨#[116, 105, 99, 107]⟩, .string ⟨#[100, 114, 111, 112]⟩] ty)) V.heap.size :=
 sD (by simp [yB, vU]) (by simp [yB, vU]) (by simp [yB, vU]) (by simp [yB, vU]) (by simp [yB, vU]) (by simp [yB, vU]) (by simp [yB, vU]) (by simp [yB, vU]) (by simp [yB, vU]) (by simp [yB, vU]) (by simp [yB, vU])
theorem cN (w : World) : Calls Try.prog 67 #[] w fun e w' => ∃ g, e = .returned (.slice (some ⟨g, 0, none⟩) 11 11) /\ sW w' g /\ Below w.heap.size w w' := by
 have HW : Hid (∀ ty, sW (w.alloc (.cells #[.string ⟨#[102, 105, 108, 116, 101, 114]⟩, .string ⟨#[117, 112]⟩, .string ⟨#[100, 111, 119, 110]⟩, .string ⟨#[119, 101, 97, 118, 101]⟩, .string ⟨#[117, 110, 119, 101, 97, 118, 101]⟩, .string ⟨#[97, 100, 100]⟩, .string ⟨#[113, 117, 111, 116]⟩, .string ⟨#[115, 117, 109]⟩, .string ⟨#[99, 111, 112, 121]⟩, .string ⟨#[116, 105, 99, 107]⟩, .string ⟨#[100, 114, 111, 112]⟩] ty)) w.heap.size) := fun ty => cO w ty
 have HB : Hid (∀ o, Below w.heap.size w (w.alloc o)) := fun o => (Below.refl _ _).alloc (Nat.le_refl _) o
 go_enter Try.func67, Try.ntmps67
 go_wp2
 go_ret
 exact ⟨_, rfl, HW.out _, HB.out _⟩
theorem aI (x : List UInt8) (w : World) : Calls Try.prog 45 #[.string (vU x)] w fun e w' => e = .returned (.tuple #[.int .u8 ((uY x).1 : Int), .int .i64 (uY x).2]) /\ Below w.heap.size w w' := by
 have HX : Hid (uY x = nT (12 - 1) 1 x) := yH rfl
 go_enter Try.func45, Try.ntmps45
 go_wp2_with (go_at_call 67; (with_reducible refine (cN _).mono ?_); rintro e w0 ⟨g, rfl, hw0, b0⟩)
 have HW0 := yH hw0
 clear hw0
 go_loopg [5] 11 (fun gk v wr => ∃ t : Nat, 1 <= t /\ t <= 12 /\ gk = 12 - t /\ v = .int .i64 ((t : Int) - 1) /\ uY x = nT (12 - t) t x /\ sW wr g /\ Below w.heap.size w wr)
 case atStart => exact ⟨1, by omega, by omega, rfl, rfl, HX.out, HW0.out, b0⟩
 case round =>
  clear HX HW0 b0
  obtain ⟨t, h1, h12, rfl, rfl, hx, hW, hB⟩ := hrel
  have HB := yH hB
  have HW := yH hW
  clear hB hW
  by_cases hlt : t <= 11
  ·obtain ⟨k, rfl⟩ : ∃ k, t = k + 1 := ⟨t - 1, by omega⟩
   have c0 := HW.out (k + 1) ⟨h1, hlt⟩
   rw [Nat.add_sub_cancel] at c0
   have ek : ((k + 1 : Nat) : Int) - 1 = (k : Int) := by omega
   rw [ek]
   have l1 : (k : Int) < 11 := by omega
   have l2 : k < 11 := by omega
   have s1 := rP (yB (k + 1))
   have s2 := rP x
   have s3 := kO (yB (k + 1)) x
   have e2 : 12 - (k + 1) = (11 - (k + 1)) + 1 := by omega
   rw [e2] at hx
   unfold nT at hx
   by_cases hw : yB (k + 1) = x
   ·rw [if_pos hw] at hx
    rw [decide_eq_true hw] at s3
    have HX2 := yH hx
    clear hx hw
    generalize yB (k + 1) = y at *
    have hcv : IntKind.u8.wrap ((k : Int) + 1) = (k : Int) + 1 := by rw [IntKind.wrap_u8]; omega
    go_wp2
    go_ret2
    exact ⟨by rw [HX2.out]; rfl, HB.out⟩
   rw [if_neg hw] at hx
   rw [decide_eq_false hw] at s3
   have HX2 : Hid (uY x = nT (12 - (k + 1 + 1)) (k + 1 + 1) x) := by
    show _ = _
    rw [hx, show 12 - (k + 1 + 1) = 11 - (k + 1) by omega]
   clear hx hw
   generalize yB (k + 1) = y at *
   go_wp2
   go_roundg (12 - (k + 1 + 1))
   case measure => omega
   case rel => exact ⟨k + 1 + 1, by omega, by omega, rfl, by go_num, HX2.out, HW.out, HB.out⟩
  have e12 : t = 12 := by omega
  subst e12
  have HX2 : Hid (uY x = (0, 60)) := hx
  clear hx
  have e12 : ((12 : Nat) : Int) - 1 = 11 := rfl
  rw [e12]
  go_wp2
  go_ret2
  exact ⟨by rw [HX2.out]; rfl, HB.out⟩
end Go.Proofs.Ytgoconkleicmkaa

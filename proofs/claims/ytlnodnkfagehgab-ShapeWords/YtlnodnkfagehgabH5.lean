/- The document's words of tags. (Written by tmpl/mkH5.py.) -/
import Derived.Test.YtlnodnkfagehgabH4
namespace Go.Proofs.Ytlnodnkfagehgab
open Go.ChangeShapes Go.WideShapes Go.ChangeAt Go.RowKit

/-- The eleven words lie there. -/
def WordsAt (w : World) (g : Nat) : Prop := ∀ t, 1 ≤ t ∧ t ≤ 11 → w.cell? ⟨g, t - 1, none⟩ = some (.string (str6 (wordS t)))
theorem WordsAt.below {w w' : World} {g : Nat} (h : WordsAt w g) (hb : Below w.heap.size w w') : WordsAt w' g := fun t ht => cell_keep6 hb (h t ht)
theorem words_new (V : World) (ty : TypeId) : WordsAt (V.alloc (.cells #[.string ⟨#[102, 105, 108, 116, 101, 114]⟩, .string ⟨#[117, 112]⟩, .string ⟨#[100, 111, 119, 110]⟩, .string ⟨#[119, 101, 97, 118, 101]⟩, .string ⟨#[117, 110, 119, 101, 97, 118, 101]⟩, .string ⟨#[97, 100, 100]⟩, .string ⟨#[113, 117, 111, 116]⟩, .string ⟨#[115, 117, 109]⟩, .string ⟨#[99, 111, 112, 121]⟩, .string ⟨#[116, 105, 99, 107]⟩, .string ⟨#[100, 114, 111, 112]⟩] ty)) V.heap.size :=
  eleven (by simp [wordS, str6]) (by simp [wordS, str6]) (by simp [wordS, str6]) (by simp [wordS, str6]) (by simp [wordS, str6]) (by simp [wordS, str6]) (by simp [wordS, str6]) (by simp [wordS, str6]) (by simp [wordS, str6]) (by simp [wordS, str6]) (by simp [wordS, str6])
theorem words_any (w : World) : Calls Try.prog 23 #[] w fun e w' => ∃ g, e = .returned (.slice (some ⟨g, 0, none⟩) 11 11) ∧ WordsAt w' g ∧ Below w.heap.size w w' := by
  have HW : Hid (∀ ty, WordsAt (w.alloc (.cells #[.string ⟨#[102, 105, 108, 116, 101, 114]⟩, .string ⟨#[117, 112]⟩, .string ⟨#[100, 111, 119, 110]⟩, .string ⟨#[119, 101, 97, 118, 101]⟩, .string ⟨#[117, 110, 119, 101, 97, 118, 101]⟩, .string ⟨#[97, 100, 100]⟩, .string ⟨#[113, 117, 111, 116]⟩, .string ⟨#[115, 117, 109]⟩, .string ⟨#[99, 111, 112, 121]⟩, .string ⟨#[116, 105, 99, 107]⟩, .string ⟨#[100, 114, 111, 112]⟩] ty)) w.heap.size) := fun ty => words_new w ty
  have HB : Hid (∀ o, Below w.heap.size w (w.alloc o)) := fun o => (Below.refl _ _).alloc (Nat.le_refl _) o
  go_enter Try.func23, Try.ntmps23
  go_wp2
  go_ret
  exact ⟨_, rfl, HW.out _, HB.out _⟩
set_option maxHeartbeats 1000000 in
theorem rtag_any (x : List UInt8) (w : World) : Calls Try.prog 14 #[.string (str6 x)] w fun e w' => e = .returned (.tuple #[.int .u8 ((tagS x).1 : Int), .int .i64 (tagS x).2]) ∧ Below w.heap.size w w' := by
  have HX : Hid (tagS x = tagG (12 - 1) 1 x) := hidden6 rfl
  go_enter Try.func14, Try.ntmps14
  go_wp2_with (go_at_call 23; (with_reducible refine (words_any _).mono ?_); rintro e w0 ⟨g, rfl, hw0, b0⟩)
  have HW0 := hidden6 hw0
  clear hw0
  go_loopg [5] 11 (fun gk v wr => ∃ t : Nat, 1 ≤ t ∧ t ≤ 12 ∧ gk = 12 - t ∧ v = .int .i64 ((t : Int) - 1) ∧ tagS x = tagG (12 - t) t x ∧ WordsAt wr g ∧ Below w.heap.size w wr)
  case atStart => exact ⟨1, by omega, by omega, rfl, rfl, HX.out, HW0.out, b0⟩
  case round =>
    clear HX HW0 b0
    obtain ⟨t, h1, h12, rfl, rfl, hx, hW, hB⟩ := hrel
    have HB := hidden6 hB
    have HW := hidden6 hW
    clear hB hW
    by_cases hlt : t ≤ 11
    · obtain ⟨k, rfl⟩ : ∃ k, t = k + 1 := ⟨t - 1, by omega⟩
      have c0 := HW.out (k + 1) ⟨h1, hlt⟩
      rw [Nat.add_sub_cancel] at c0
      have ek : ((k + 1 : Nat) : Int) - 1 = (k : Int) := by omega
      rw [ek]
      have l1 : (k : Int) < 11 := by omega
      have l2 : k < 11 := by omega
      have s1 := str6_list (wordS (k + 1))
      have s2 := str6_list x
      have s3 := list_dec6 (wordS (k + 1)) x
      have e2 : 12 - (k + 1) = (11 - (k + 1)) + 1 := by omega
      rw [e2] at hx
      unfold tagG at hx
      by_cases hw : wordS (k + 1) = x
      · rw [if_pos hw] at hx
        rw [decide_eq_true hw] at s3
        have HX2 := hidden6 hx
        clear hx hw
        generalize wordS (k + 1) = y at *
        have hcv : IntKind.u8.wrap ((k : Int) + 1) = (k : Int) + 1 := by rw [IntKind.wrap_u8]; omega
        go_wp2
        go_ret2
        exact ⟨by rw [HX2.out]; rfl, HB.out⟩
      · rw [if_neg hw] at hx
        rw [decide_eq_false hw] at s3
        have HX2 : Hid (tagS x = tagG (12 - (k + 1 + 1)) (k + 1 + 1) x) := by
          show _ = _
          rw [hx, show 12 - (k + 1 + 1) = 11 - (k + 1) by omega]
        clear hx hw
        generalize wordS (k + 1) = y at *
        go_wp2
        go_roundg (12 - (k + 1 + 1))
        case measure => omega
        case rel => exact ⟨k + 1 + 1, by omega, by omega, rfl, by go_num, HX2.out, HW.out, HB.out⟩
    · have e12 : t = 12 := by omega
      subst e12
      have HX2 : Hid (tagS x = (0, 60)) := hx
      clear hx
      have e12 : ((12 : Nat) : Int) - 1 = 11 := rfl
      rw [e12]
      go_wp2
      go_ret2
      exact ⟨by rw [HX2.out]; rfl, HB.out⟩
set_option maxHeartbeats 1000000 in
theorem rword_any (t : Nat) (w : World) (ht : t ≤ 255) : Calls Try.prog 16 #[.int .u8 (t : Int)] w fun e w' => e = .returned (.tuple #[.string (str6 (wordE t).1), .int .i64 (wordE t).2]) ∧ Below w.heap.size w w' := by
  unfold wordE
  by_cases h1 : 1 ≤ t ∧ t ≤ 11
  · rw [if_pos h1]
    obtain ⟨k, rfl⟩ : ∃ k, t = k + 1 := ⟨t - 1, by omega⟩
    have g1 : ¬ (((k + 1 : Nat) : Int) < 1) := by omega
    have g2 : ¬ (((k + 1 : Nat) : Int) > 11) := by omega
    have ek : ((k + 1 : Nat) : Int) - 1 = (k : Int) := by omega
    have l1 : (k : Int) < 11 := by omega
    have l2 : k < 11 := by omega
    have hcv : IntKind.i64.wrap ((k + 1 : Nat) : Int) = ((k + 1 : Nat) : Int) := wrap_id (by omega) (by omega)
    have hcw : IntKind.i64.wrap (((k + 1 : Nat) : Int) - 1) = (k : Int) := by rw [ek]; exact wrap_id (by omega) (by omega)
    generalize ((k + 1 : Nat) : Int) = T at *
    go_enter Try.func16, Try.ntmps16
    go_wp2_with (go_at_call 23; (with_reducible refine (words_any _).mono ?_); rintro e w0 ⟨g, rfl, hw0, b0⟩; have c0 := hw0 (k + 1) h1; rw [Nat.add_sub_cancel] at c0; clear hw0)
    go_ret2
    exact ⟨rfl, b0⟩
  · rw [if_neg h1]
    by_cases g1 : (t : Int) < 1
    · clear h1
      go_enter Try.func16, Try.ntmps16
      go_wp2
      go_ret2
      exact ⟨rfl, Below.refl _ _⟩
    · have g2 : (t : Int) > 11 := by omega
      clear h1
      go_enter Try.func16, Try.ntmps16
      go_wp2
      go_ret2
      exact ⟨rfl, Below.refl _ _⟩
end Go.Proofs.Ytlnodnkfagehgab

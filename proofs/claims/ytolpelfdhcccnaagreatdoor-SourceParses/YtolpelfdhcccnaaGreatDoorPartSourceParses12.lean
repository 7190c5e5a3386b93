/- Texts of one chain, laid one behind the other. -/
import Derived.Test.YtolpelfdhcccnaaGreatDoorPartSourceParses10
import Derived.Laws.Strings
namespace Go.Proofs.YtolpelfdhcccnaaGreatDoor
open Go.ChangeShapes Go.WideShapes Go.ChangeAt Go.RowKit
def str6 (l : List UInt8) : ByteArray := ⟨l.toArray⟩
theorem str6_list (l : List UInt8) : (str6 l).toList = l := ByteArray.toList_mk l
def wordS (t : Nat) : List UInt8 :=
  match t with
  | 1 => [102, 105, 108, 116, 101, 114]
  | 2 => [117, 112]
  | 3 => [100, 111, 119, 110]
  | 4 => [119, 101, 97, 118, 101]
  | 5 => [117, 110, 119, 101, 97, 118, 101]
  | 6 => [97, 100, 100]
  | 7 => [113, 117, 111, 116]
  | 8 => [115, 117, 109]
  | 9 => [99, 111, 112, 121]
  | 10 => [116, 105, 99, 107]
  | 11 => [100, 114, 111, 112]
  | _ => []
/-- The tag of a word, and the error's number, looked for from a tag on. -/
def tagG : Nat → Nat → List UInt8 → Nat × Int
  | 0, _, _ => (0, 60)
  | f + 1, t, x => if wordS t = x then (t, 0) else tagG f (t + 1) x
def tagS (x : List UInt8) : Nat × Int := tagG 11 1 x
def wordE (t : Nat) : List UInt8 × Int := if 1 ≤ t ∧ t ≤ 11 then (wordS t, 0) else ([], 60)
theorem list_dec6 (l m : List UInt8) : (l == m) = decide (l = m) := by
  by_cases h : l = m
  · simp [h]
  · rw [decide_eq_false h]; simpa using h
theorem spelt_1 (w : World) : Calls Tryz.prog 144 #[.int .u8 1] w fun e w' => e = .returned (.string (str6 (wordS 1))) ∧ Below w.heap.size w w' := by
  have B : Hid (∀ o, Below w.heap.size w (w.alloc o)) := fun o => (Below.refl _ _).alloc (Nat.le_refl _) o
  go_enter Tryz.func144, Tryz.ntmps144
  go_wp2
  go_ret
  exact ⟨rfl, by first | exact B.out _ | exact (B.out _).setCell (Nat.le_refl _) _⟩
theorem spelt_2 (w : World) : Calls Tryz.prog 144 #[.int .u8 2] w fun e w' => e = .returned (.string (str6 (wordS 2))) ∧ Below w.heap.size w w' := by
  have B : Hid (∀ o, Below w.heap.size w (w.alloc o)) := fun o => (Below.refl _ _).alloc (Nat.le_refl _) o
  go_enter Tryz.func144, Tryz.ntmps144
  go_wp2
  go_ret
  exact ⟨rfl, by first | exact B.out _ | exact (B.out _).setCell (Nat.le_refl _) _⟩
theorem spelt_3 (w : World) : Calls Tryz.prog 144 #[.int .u8 3] w fun e w' => e = .returned (.string (str6 (wordS 3))) ∧ Below w.heap.size w w' := by
  have B : Hid (∀ o, Below w.heap.size w (w.alloc o)) := fun o => (Below.refl _ _).alloc (Nat.le_refl _) o
  go_enter Tryz.func144, Tryz.ntmps144
  go_wp2
  go_ret
  exact ⟨rfl, by first | exact B.out _ | exact (B.out _).setCell (Nat.le_refl _) _⟩
theorem spelt_4 (w : World) : Calls Tryz.prog 144 #[.int .u8 4] w fun e w' => e = .returned (.string (str6 (wordS 4))) ∧ Below w.heap.size w w' := by
  have B : Hid (∀ o, Below w.heap.size w (w.alloc o)) := fun o => (Below.refl _ _).alloc (Nat.le_refl _) o
  go_enter Tryz.func144, Tryz.ntmps144
  go_wp2
  go_ret
  exact ⟨rfl, by first | exact B.out _ | exact (B.out _).setCell (Nat.le_refl _) _⟩
theorem spelt_5 (w : World) : Calls Tryz.prog 144 #[.int .u8 5] w fun e w' => e = .returned (.string (str6 (wordS 5))) ∧ Below w.heap.size w w' := by
  have B : Hid (∀ o, Below w.heap.size w (w.alloc o)) := fun o => (Below.refl _ _).alloc (Nat.le_refl _) o
  go_enter Tryz.func144, Tryz.ntmps144
  go_wp2
  go_ret
  exact ⟨rfl, by first | exact B.out _ | exact (B.out _).setCell (Nat.le_refl _) _⟩
theorem spelt_6 (w : World) : Calls Tryz.prog 144 #[.int .u8 6] w fun e w' => e = .returned (.string (str6 (wordS 6))) ∧ Below w.heap.size w w' := by
  have B : Hid (∀ o, Below w.heap.size w (w.alloc o)) := fun o => (Below.refl _ _).alloc (Nat.le_refl _) o
  go_enter Tryz.func144, Tryz.ntmps144
  go_wp2
  go_ret
  exact ⟨rfl, by first | exact B.out _ | exact (B.out _).setCell (Nat.le_refl _) _⟩
theorem spelt_7 (w : World) : Calls Tryz.prog 144 #[.int .u8 7] w fun e w' => e = .returned (.string (str6 (wordS 7))) ∧ Below w.heap.size w w' := by
  have B : Hid (∀ o, Below w.heap.size w (w.alloc o)) := fun o => (Below.refl _ _).alloc (Nat.le_refl _) o
  go_enter Tryz.func144, Tryz.ntmps144
  go_wp2
  go_ret
  exact ⟨rfl, by first | exact B.out _ | exact (B.out _).setCell (Nat.le_refl _) _⟩
theorem spelt_8 (w : World) : Calls Tryz.prog 144 #[.int .u8 8] w fun e w' => e = .returned (.string (str6 (wordS 8))) ∧ Below w.heap.size w w' := by
  have B : Hid (∀ o, Below w.heap.size w (w.alloc o)) := fun o => (Below.refl _ _).alloc (Nat.le_refl _) o
  go_enter Tryz.func144, Tryz.ntmps144
  go_wp2
  go_ret
  exact ⟨rfl, by first | exact B.out _ | exact (B.out _).setCell (Nat.le_refl _) _⟩
theorem spelt_9 (w : World) : Calls Tryz.prog 144 #[.int .u8 9] w fun e w' => e = .returned (.string (str6 (wordS 9))) ∧ Below w.heap.size w w' := by
  have B : Hid (∀ o, Below w.heap.size w (w.alloc o)) := fun o => (Below.refl _ _).alloc (Nat.le_refl _) o
  go_enter Tryz.func144, Tryz.ntmps144
  go_wp2
  go_ret
  exact ⟨rfl, by first | exact B.out _ | exact (B.out _).setCell (Nat.le_refl _) _⟩
theorem spelt_10 (w : World) : Calls Tryz.prog 144 #[.int .u8 10] w fun e w' => e = .returned (.string (str6 (wordS 10))) ∧ Below w.heap.size w w' := by
  have B : Hid (∀ o, Below w.heap.size w (w.alloc o)) := fun o => (Below.refl _ _).alloc (Nat.le_refl _) o
  go_enter Tryz.func144, Tryz.ntmps144
  go_wp2
  go_ret
  exact ⟨rfl, by first | exact B.out _ | exact (B.out _).setCell (Nat.le_refl _) _⟩
theorem spelt_11 (w : World) : Calls Tryz.prog 144 #[.int .u8 11] w fun e w' => e = .returned (.string (str6 (wordS 11))) ∧ Below w.heap.size w w' := by
  have B : Hid (∀ o, Below w.heap.size w (w.alloc o)) := fun o => (Below.refl _ _).alloc (Nat.le_refl _) o
  go_enter Tryz.func144, Tryz.ntmps144
  go_wp2
  go_ret
  exact ⟨rfl, by first | exact B.out _ | exact (B.out _).setCell (Nat.le_refl _) _⟩
theorem spelt_any (t : Nat) (ht : 1 ≤ t ∧ t ≤ 11) (w : World) : Calls Tryz.prog 144 #[.int .u8 (t : Int)] w fun e w' => e = .returned (.string (str6 (wordS t))) ∧ Below w.heap.size w w' := by
  revert t
  exact eleven (spelt_1 w) (spelt_2 w) (spelt_3 w) (spelt_4 w) (spelt_5 w) (spelt_6 w) (spelt_7 w) (spelt_8 w) (spelt_9 w) (spelt_10 w) (spelt_11 w)
set_option maxHeartbeats 1000000 in
theorem tag_any (x : List UInt8) (w : World) : Calls Tryz.prog 90 #[.string (str6 x)] w fun e w' => e = .returned (.tuple #[.int .u8 ((tagS x).1 : Int), .int .i64 (tagS x).2]) ∧ Below w.heap.size w w' := by
  have HK : Hid (∀ (t : Nat) w1, t ≤ 255 → Calls Tryz.prog 143 #[.int .u8 (t : Int)] w1 fun e w' => e = .returned (.bool (decide (1 ≤ t) && decide (t ≤ 11))) ∧ w' = w1) := fun t w1 h => known_any t w1 h
  have HS : Hid (∀ (t : Nat) w1, 1 ≤ t ∧ t ≤ 11 → Calls Tryz.prog 144 #[.int .u8 (t : Int)] w1 fun e w' => e = .returned (.string (str6 (wordS t))) ∧ Below w1.heap.size w1 w') := fun t w1 h => spelt_any t h w1
  have HX : Hid (tagS x = tagG (12 - 1) 1 x) := hidden6 rfl
  go_enter Tryz.func90, Tryz.ntmps90
  go_wp2
  go_loopg [4] 11 (fun gk v wr => ∃ t : Nat, 1 ≤ t ∧ t ≤ 12 ∧ gk = 12 - t ∧ v = .int .u8 (t : Int) ∧ tagS x = tagG (12 - t) t x ∧ Below w.heap.size w wr)
  case atStart => exact ⟨1, by omega, by omega, rfl, rfl, HX.out, Below.refl _ _⟩
  case round =>
    clear HX
    obtain ⟨t, h1, h12, rfl, rfl, hx, hB⟩ := hrel
    have HB := hidden6 hB
    clear hB
    by_cases hlt : t ≤ 11
    · have e1 : (decide (1 ≤ t) && decide (t ≤ 11)) = true := by rw [decide_eq_true h1, decide_eq_true hlt]; rfl
      have HKt := hidden6 (HK.out t wr (by omega))
      rw [e1] at HKt
      have HSt := hidden6 (HS.out t wr ⟨h1, hlt⟩)
      have s1 := str6_list (wordS t)
      have s2 := str6_list x
      have s3 := list_dec6 (wordS t) x
      have e2 : 12 - t = (11 - t) + 1 := by omega
      rw [e2] at hx
      unfold tagG at hx
      by_cases hw : wordS t = x
      · rw [if_pos hw] at hx
        rw [decide_eq_true hw] at s3
        have HX2 := hidden6 hx
        clear hx e1 hw
        generalize wordS t = y at *
        go_wp2_with (first
          | (go_at_call 144; (with_reducible refine HSt.out.mono ?_); rintro e w2 ⟨rfl, b2⟩)
          | (go_at_call 143; (with_reducible refine HKt.out.mono ?_); rintro e w1 ⟨rfl, rfl⟩))
        go_ret2
        exact ⟨by rw [HX2.out]; rfl, HB.out.trans (b2.mono HB.out.size)⟩
      · rw [if_neg hw] at hx
        rw [decide_eq_false hw] at s3
        have HX2 : Hid (tagS x = tagG (12 - (t + 1)) (t + 1) x) := by
          show _ = _
          rw [hx, show 12 - (t + 1) = 11 - t by omega]
        clear hx e1 hw
        generalize wordS t = y at *
        go_wp2_with (first
          | (go_at_call 144; (with_reducible refine HSt.out.mono ?_); rintro e w2 ⟨rfl, b2⟩)
          | (go_at_call 143; (with_reducible refine HKt.out.mono ?_); rintro e w1 ⟨rfl, rfl⟩))
        go_roundg (12 - (t + 1))
        case measure => omega
        case rel => exact ⟨t + 1, by omega, by omega, rfl, by go_num, HX2.out, HB.out.trans (b2.mono HB.out.size)⟩
    · have e12 : t = 12 := by omega
      subst e12
      have HKt : Hid (Calls Tryz.prog 143 #[.int .u8 12] wr fun e w' => e = .returned (.bool false) ∧ w' = wr) := HK.out 12 wr (by omega)
      have e12 : ((12 : Nat) : Int) = 12 := rfl
      rw [e12]
      have HX2 : Hid (tagS x = (0, 60)) := hx
      clear hx
      go_wp2_with (go_at_call 143; (with_reducible refine HKt.out.mono ?_); rintro e w1 ⟨rfl, rfl⟩)
      go_ret2
      exact ⟨by rw [HX2.out]; rfl, HB.out⟩
set_option maxHeartbeats 1000000 in
theorem word_any (t : Nat) (w : World) (ht : t ≤ 255) : Calls Tryz.prog 109 #[.int .u8 (t : Int)] w fun e w' => e = .returned (.tuple #[.string (str6 (wordE t).1), .int .i64 (wordE t).2]) ∧ Below w.heap.size w w' := by
  have HK := hidden6 (known_any t w ht)
  unfold wordE
  by_cases h1 : 1 ≤ t ∧ t ≤ 11
  · rw [if_pos h1]
    have e1 : (decide (1 ≤ t) && decide (t ≤ 11)) = true := by rw [decide_eq_true h1.1, decide_eq_true h1.2]; rfl
    rw [e1] at HK
    have HS := hidden6 (spelt_any t h1 w)
    generalize wordS t = y at *
    clear e1 h1
    go_enter Tryz.func109, Tryz.ntmps109
    go_wp2_with (first
      | (go_at_call 144; (with_reducible refine HS.out.mono ?_); rintro e w2 ⟨rfl, b2⟩)
      | (go_at_call 143; (with_reducible refine HK.out.mono ?_); rintro e w1 ⟨rfl, rfl⟩))
    go_ret2
    exact ⟨rfl, b2⟩
  · rw [if_neg h1]
    have e1 : (decide (1 ≤ t) && decide (t ≤ 11)) = false := by
      by_cases h2 : 1 ≤ t
      · rw [decide_eq_false (p := t ≤ 11) (fun h3 => h1 ⟨h2, h3⟩), Bool.and_false]
      · rw [decide_eq_false h2]; rfl
    rw [e1] at HK
    clear e1 h1
    go_enter Tryz.func109, Tryz.ntmps109
    go_wp2_with (go_at_call 143; (with_reducible refine HK.out.mono ?_); rintro e w1 ⟨rfl, rfl⟩)
    go_ret2
    exact ⟨rfl, Below.refl _ _⟩
/-- The eleven words lie there. -/
def WordsAt (w : World) (g : Nat) : Prop := ∀ t, 1 ≤ t ∧ t ≤ 11 → w.cell? ⟨g, t - 1, none⟩ = some (.string (str6 (wordS t)))
theorem WordsAt.below {w w' : World} {g : Nat} (h : WordsAt w g) (hb : Below w.heap.size w w') : WordsAt w' g := fun t ht => cell_keep6 hb (h t ht)
theorem words_new (V : World) (ty : TypeId) : WordsAt (V.alloc (.cells #[.string ⟨#[102, 105, 108, 116, 101, 114]⟩, .string ⟨#[117, 112]⟩, .string ⟨#[100, 111, 119, 110]⟩, .string ⟨#[119, 101, 97, 118, 101]⟩, .string ⟨#[117, 110, 119, 101, 97, 118, 101]⟩, .string ⟨#[97, 100, 100]⟩, .string ⟨#[113, 117, 111, 116]⟩, .string ⟨#[115, 117, 109]⟩, .string ⟨#[99, 111, 112, 121]⟩, .string ⟨#[116, 105, 99, 107]⟩, .string ⟨#[100, 114, 111, 112]⟩] ty)) V.heap.size :=
  eleven (by simp [wordS, str6]) (by simp [wordS, str6]) (by simp [wordS, str6]) (by simp [wordS, str6]) (by simp [wordS, str6]) (by simp [wordS, str6]) (by simp [wordS, str6]) (by simp [wordS, str6]) (by simp [wordS, str6]) (by simp [wordS, str6]) (by simp [wordS, str6])
theorem words_any (w : World) : Calls Tryz.prog 116 #[] w fun e w' => ∃ g, e = .returned (.slice (some ⟨g, 0, none⟩) 11 11) ∧ WordsAt w' g ∧ Below w.heap.size w w' := by
  have HW : Hid (∀ ty, WordsAt (w.alloc (.cells #[.string ⟨#[102, 105, 108, 116, 101, 114]⟩, .string ⟨#[117, 112]⟩, .string ⟨#[100, 111, 119, 110]⟩, .string ⟨#[119, 101, 97, 118, 101]⟩, .string ⟨#[117, 110, 119, 101, 97, 118, 101]⟩, .string ⟨#[97, 100, 100]⟩, .string ⟨#[113, 117, 111, 116]⟩, .string ⟨#[115, 117, 109]⟩, .string ⟨#[99, 111, 112, 121]⟩, .string ⟨#[116, 105, 99, 107]⟩, .string ⟨#[100, 114, 111, 112]⟩] ty)) w.heap.size) := fun ty => words_new w ty
  have HB : Hid (∀ o, Below w.heap.size w (w.alloc o)) := fun o => (Below.refl _ _).alloc (Nat.le_refl _) o
  go_enter Tryz.func116, Tryz.ntmps116
  go_wp2
  go_ret
  exact ⟨_, rfl, HW.out _, HB.out _⟩
set_option maxHeartbeats 1000000 in
theorem rtag_any (x : List UInt8) (w : World) : Calls Tryz.prog 98 #[.string (str6 x)] w fun e w' => e = .returned (.tuple #[.int .u8 ((tagS x).1 : Int), .int .i64 (tagS x).2]) ∧ Below w.heap.size w w' := by
  have HX : Hid (tagS x = tagG (12 - 1) 1 x) := hidden6 rfl
  go_enter Tryz.func98, Tryz.ntmps98
  go_wp2_with (go_at_call 116; (with_reducible refine (words_any _).mono ?_); rintro e w0 ⟨g, rfl, hw0, b0⟩)
  have HW0 := hidden6 hw0
  clear hw0
  go_loopg [5] 11 (fun gk v wr => ∃ t : Nat, 1 ≤ t ∧ t ≤ 12 ∧ gk = 12 - t ∧ v = .int .i64 ((t : Int) - 1) ∧ tagS x = tagG (12 - t) t x ∧ WordsAt wr g ∧ Below w.heap.size w wr)
  case atStart => exact ⟨1, by omega, by omega, rfl, rfl, HX.out, HW0.out, b0⟩
  case round =>
    clear HX HW0 b0
    obtain ⟨t, h1, h12, rfl, rfl, hx, hW, hB⟩ := hrel
    have HB := hidden6 hB
    have HW := hidden6 hW
    clear hB hW
    by_cases hlt : t ≤ 11
    · obtain ⟨k, rfl⟩ : ∃ k, t = k + 1 := ⟨t - 1, by omega⟩
      have c0 := HW.out (k + 1) ⟨h1, hlt⟩
      rw [Nat.add_sub_cancel] at c0
      have ek : ((k + 1 : Nat) : Int) - 1 = (k : Int) := by omega
      rw [ek]
      have l1 : (k : Int) < 11 := by omega
      have l2 : k < 11 := by omega
      have s1 := str6_list (wordS (k + 1))
      have s2 := str6_list x
      have s3 := list_dec6 (wordS (k + 1)) x
      have e2 : 12 - (k + 1) = (11 - (k + 1)) + 1 := by omega
      rw [e2] at hx
      unfold tagG at hx
      by_cases hw : wordS (k + 1) = x
      · rw [if_pos hw] at hx
        rw [decide_eq_true hw] at s3
        have HX2 := hidden6 hx
        clear hx hw
        generalize wordS (k + 1) = y at *
        have hcv : IntKind.u8.wrap ((k : Int) + 1) = (k : Int) + 1 := by rw [IntKind.wrap_u8]; omega
        go_wp2
        go_ret2
        exact ⟨by rw [HX2.out]; rfl, HB.out⟩
      · rw [if_neg hw] at hx
        rw [decide_eq_false hw] at s3
        have HX2 : Hid (tagS x = tagG (12 - (k + 1 + 1)) (k + 1 + 1) x) := by
          show _ = _
          rw [hx, show 12 - (k + 1 + 1) = 11 - (k + 1) by omega]
        clear hx hw
        generalize wordS (k + 1) = y at *
        go_wp2
        go_roundg (12 - (k + 1 + 1))
        case measure => omega
        case rel => exact ⟨k + 1 + 1, by omega, by omega, rfl, by go_num, HX2.out, HW.out, HB.out⟩
    · have e12 : t = 12 := by omega
      subst e12
      have HX2 : Hid (tagS x = (0, 60)) := hx
      clear hx
      have e12 : ((12 : Nat) : Int) - 1 = 11 := rfl
      rw [e12]
      go_wp2
      go_ret2
      exact ⟨by rw [HX2.out]; rfl, HB.out⟩
end Go.Proofs.YtolpelfdhcccnaaGreatDoor

/- Texts of one chain, laid one behind the other. -/
import Derived.Test.YthgblljokonejaaGreatDoorChain11
import Derived.Test.YthgblljokonejaaGreatDoorChain21
import Derived.Test.YthgblljokonejaaGreatDoorChain22
import Derived.Laws.IdiomStrings
/- The document's Digits, Spelt; the statements' right. -/
namespace Go.Proofs.YthgblljokonejaaGreatDoor
open Go.ChangeShapes Go.WideShapes Go.ChangeAt Go.RowKit

theorem wrap_byte {x : Nat} (h : x < 256) : IntKind.u8.wrap (x : Int) = (x : Int) := by
  simp only [IntKind.wrap]
  show ((x : Int) % 256) = _
  omega
theorem conv_one (W : World) (k : Nat) (hk : k < 10) : (convert 67 9 (.slice (some ⟨W.heap.size, 0, none⟩) 1 1)).run Tryz.prog (W.alloc (.cells #[.int .u8 (((48 + k : Nat)) : Int)] 5)) = .ok (.string (str [dig k])) (W.alloc (.cells #[.int .u8 (((48 + k : Nat)) : Int)] 5)) := by
  refine run_convert_bytes_back (W.alloc (.cells #[.int .u8 (((48 + k : Nat)) : Int)] 5)) 67 9 5 ⟨W.heap.size, 0, none⟩ 1 [dig k] Tryz.underlying67 Tryz.underlying5 Tryz.underlying9 ?_
  intro j hj
  have : j = 0 := by simp at hj; exact hj
  subst this
  show (W.alloc _).cell? ⟨W.heap.size, 0, none⟩ = some (.int .u8 ((dig k).toNat : Int))
  rw [dig_nat hk]
  simp
theorem str_cons (c : UInt8) (s : List UInt8) : str [c] ++ str s = str (c :: s) := ByteArray.mk_append_mk [c] s
theorem natS_len : ∀ (m n : Nat), n < 10 ^ m → (natS n).length ≤ m
  | 0, n, h => by
    have : n = 0 := by simp at h; exact h
    subst this; rw [natS_zero]; simp
  | m + 1, n, h => by
    by_cases h0 : n = 0
    · subst h0; rw [natS_zero]; simp
    · rw [natS_pos h0, List.length_append]
      have := natS_len m (n / 10) (by rw [Nat.pow_succ] at h; omega)
      simp; omega
set_option maxRecDepth 100000 in
set_option maxHeartbeats 2000000 in
theorem digits_pos (n : Nat) (w : World) (h0 : 0 < n) (hn : n ≤ 9223372036854775807) : Calls Tryz.prog 56 #[.int .i64 (n : Int)] w fun e w' => e = .returned (.string (str (natS n))) ∧ Below w.heap.size w w' := by
  have HL := hidden (natS_len 19 n (by omega))
  have hn0 : ¬ ((n : Int) = 0) := by omega
  have hn0' : decide ((n : Int) = 0) = false := decide_eq_false hn0
  have hn1 : ¬ ((n : Int) < 0) := by omega
  have hn1' : decide ((n : Int) < 0) = false := decide_eq_false hn1
  go_enter Tryz.func56, Tryz.ntmps56
  go_wp2
  go_loopg [3, 4] n (fun gk s k wr => ∃ (ds : List UInt8), gk ≤ n ∧ k = .int .i64 (gk : Int) ∧ s = .string (str ds) ∧ natS gk ++ ds = natS n ∧ Below w.heap.size w wr)
  case atStart => exact ⟨[], Nat.le_refl _, rfl, rfl, by simp, Below.refl _ _⟩
  case round =>
    obtain ⟨ds, hgn, rfl, rfl, heq, hb⟩ := hrel
    have HEQ := hidden heq
    have HB := hidden hb
    clear heq hb
    by_cases hz : gk = 0
    · subst hz
      have HE : Hid (ds = natS n) := by have := HEQ.out; rw [natS_zero, List.nil_append] at this; exact this
      go_wp2
      go_ret
      refine ⟨?_, HB.out⟩
      show Ending.returned (Value.string (str ds)) = _
      rw [HE.out]
    · have m0 : ¬ ((gk : Int) = 0) := by omega
      have m0' : decide ((gk : Int) = 0) = false := decide_eq_false m0
      have m1 : ((gk : Int) == 0) = false := by simp; omega
      obtain ⟨d, hd⟩ : ∃ d : Nat, gk % 10 = d := ⟨_, rfl⟩
      have hd10 : d < 10 := by omega
      have t1 : (gk : Int) % 10 = (d : Int) := by omega
      have t2 : (gk : Int).tmod 10 = (d : Int) := by rw [Int.tmod_eq_emod_of_nonneg (by omega)]; exact t1
      have t3 : ¬ ((d : Int) < 0) := by omega
      have t3' : decide ((d : Int) < 0) = false := decide_eq_false t3
      have t4 : (48 : Int) + (d : Int) = ((48 + d : Nat) : Int) := by omega
      have t5 : IntKind.u8.wrap (((48 + d : Nat)) : Int) = ((48 + d : Nat) : Int) := wrap_byte (by omega)
      obtain ⟨k2, hk2⟩ : ∃ k2 : Nat, gk / 10 = k2 := ⟨_, rfl⟩
      have hk3 : k2 < gk := by omega
      have t6 : (gk : Int) / 10 = (k2 : Int) := by omega
      have t7 : (gk : Int).tdiv 10 = (k2 : Int) := by rw [Int.tdiv_eq_ediv_of_nonneg (by omega)]; exact t6
      have HC := conv_one wr d hd10
      have HD : Hid (natS k2 ++ (dig d :: ds) = natS n) := by
        have := HEQ.out
        rw [natS_pos hz, hd, hk2, List.append_assoc] at this
        exact this
      have HX := str_cons (dig d) ds
      have z1 := str_size [dig d]
      have z2 := str_size ds
      have hl : ds.length ≤ 19 := by have := congrArg List.length HEQ.out; rw [List.length_append] at this; have := HL.out; omega
      have z3 : ¬ (9223372036854775807 < 1 + ds.length) := by omega
      obtain ⟨c, hc⟩ : ∃ c : Nat, 48 + d = c := ⟨_, rfl⟩
      rw [hc] at t4 t5 HC
      have hc2 : c < 58 := by omega
      have hkn : (k2 : Int) ≤ 9223372036854775807 := by omega
      clear hc hd hk2
      go_wp2
      go_roundg k2
      case measure => omega
      case rel => exact ⟨dig d :: ds, by omega, rfl, rfl, HD.out, HB.out.alloc HB.out.size _⟩
set_option maxRecDepth 100000 in
set_option maxHeartbeats 2000000 in
theorem digits_neg (n : Nat) (w : World) (h0 : 0 < n) (hn : n ≤ 9223372036854775808) : Calls Tryz.prog 56 #[.int .i64 (-(n : Int))] w fun e w' => e = .returned (.string (str (45 :: natS n))) ∧ Below w.heap.size w w' := by
  have HL := hidden (natS_len 19 n (by omega))
  have hn0 : ¬ ((n : Int) = 0) := by omega
  have hn0' : decide (-(n : Int) = 0) = false := decide_eq_false (by omega)
  have hn1 : 0 < (n : Int) := by omega
  have hn1' : -(n : Int) < 0 := by omega
  go_enter Tryz.func56, Tryz.ntmps56
  go_wp2
  go_loopg [3, 4] n (fun gk s k wr => ∃ (ds : List UInt8), gk ≤ n ∧ k = .int .i64 (-(gk : Int)) ∧ s = .string (str ds) ∧ natS gk ++ ds = natS n ∧ Below w.heap.size w wr)
  case atStart => exact ⟨[], Nat.le_refl _, rfl, rfl, by simp, Below.refl _ _⟩
  case round =>
    obtain ⟨ds, hgn, rfl, rfl, heq, hb⟩ := hrel
    have HEQ := hidden heq
    have HB := hidden hb
    clear heq hb
    by_cases hz : gk = 0
    · subst hz
      have HE : Hid (ds = natS n) := by have := HEQ.out; rw [natS_zero, List.nil_append] at this; exact this
      have z0 : (ByteArray.mk #[45]).size = 1 := rfl
      have z1 : ByteArray.mk #[45] ++ str ds = str (45 :: ds) := ByteArray.mk_append_mk [45] ds
      have z2 := str_size ds
      have hl : ds.length ≤ 19 := by have := HL.out; rw [← HE.out] at this; exact this
      have z3 : ¬ (9223372036854775807 < 1 + ds.length) := by omega
      have y1 : (-((0 : Nat) : Int)) = 0 := rfl
      rw [y1]
      go_wp2
      go_ret
      refine ⟨?_, HB.out⟩
      show Ending.returned (Value.string (str (45 :: ds))) = _
      rw [HE.out]
    · have m0 : ¬ ((gk : Int) = 0) := by omega
      have m0' : decide (-(gk : Int) = 0) = false := decide_eq_false (by omega)
      have m1 : (-(gk : Int) == 0) = false := by simp; omega
      obtain ⟨d, hd⟩ : ∃ d : Nat, gk % 10 = d := ⟨_, rfl⟩
      have hd10 : d < 10 := by omega
      have t2 : (-(gk : Int)).tmod 10 = -(d : Int) := by rw [Int.neg_tmod, Int.tmod_eq_emod_of_nonneg (by omega)]; omega
      obtain ⟨k2, hk2⟩ : ∃ k2 : Nat, gk / 10 = k2 := ⟨_, rfl⟩
      have hk3 : k2 < gk := by omega
      have t7 : (-(gk : Int)).tdiv 10 = -(k2 : Int) := by rw [Int.neg_tdiv, Int.tdiv_eq_ediv_of_nonneg (by omega)]; omega
      have t1 : (gk : Int) % 10 = (d : Int) := by omega
      have t6 : (gk : Int) / 10 = (k2 : Int) := by omega
      have t4 : (48 : Int) + (d : Int) = ((48 + d : Nat) : Int) := by omega
      have t5 : IntKind.u8.wrap (((48 + d : Nat)) : Int) = ((48 + d : Nat) : Int) := wrap_byte (by omega)
      have HC := conv_one wr d hd10
      have HD : Hid (natS k2 ++ (dig d :: ds) = natS n) := by
        have := HEQ.out
        rw [natS_pos hz, hd, hk2, List.append_assoc] at this
        exact this
      have HX := str_cons (dig d) ds
      have z1 := str_size [dig d]
      have z2 := str_size ds
      have hl : ds.length ≤ 19 := by have := congrArg List.length HEQ.out; rw [List.length_append] at this; have := HL.out; omega
      have z3 : ¬ (9223372036854775807 < 1 + ds.length) := by omega
      have hkn : (k2 : Int) ≤ 922337203685477581 := by omega
      by_cases hd0 : d = 0
      · subst hd0
        have y1 : (-((0 : Nat) : Int)) = 0 := rfl
        rw [y1] at t2
        have HC0 : (convert 67 9 (.slice (some ⟨wr.heap.size, 0, none⟩) 1 1)).run Tryz.prog (wr.alloc (.cells #[.int .u8 48] 5)) = .ok (.string (str [dig 0])) (wr.alloc (.cells #[.int .u8 48] 5)) := HC
        clear hd hk2 t4 t5 HC
        go_wp2
        go_roundg k2
        case measure => omega
        case rel => exact ⟨dig 0 :: ds, by omega, rfl, rfl, HD.out, HB.out.alloc HB.out.size _⟩
      · have t3 : -(d : Int) < 0 := by omega
        have t3' : 0 < (d : Int) := by omega
        obtain ⟨c, hc⟩ : ∃ c : Nat, 48 + d = c := ⟨_, rfl⟩
        rw [hc] at t4 t5 HC
        have hc2 : c < 58 := by omega
        clear hc hd hk2
        go_wp2
        go_roundg k2
        case measure => omega
        case rel => exact ⟨dig d :: ds, by omega, rfl, rfl, HD.out, HB.out.alloc HB.out.size _⟩
theorem digits_any (v : Int) (w : World) (hv : fits8 v = true) : Calls Tryz.prog 56 #[.int .i64 v] w fun e w' => e = .returned (.string (str (intS v))) ∧ Below w.heap.size w w' := by
  unfold fits8 at hv
  rw [Bool.and_eq_true, decide_eq_true_iff, decide_eq_true_iff] at hv
  by_cases h0 : v = 0
  · subst h0
    go_enter Tryz.func56, Tryz.ntmps56
    go_wp2
    go_ret
    exact ⟨rfl, Below.refl _ _⟩
  · unfold intS
    rw [if_neg h0]
    by_cases h1 : v < 0
    · rw [decide_eq_true h1]
      have e : v = -(v.natAbs : Int) := by omega
      have := digits_neg v.natAbs w (by omega) (by omega)
      rw [← e] at this
      exact this
    · rw [decide_eq_false h1]
      have e : v = (v.natAbs : Int) := by omega
      have := digits_pos v.natAbs w (by omega) (by omega)
      rw [← e] at this
      exact this
end Go.Proofs.YthgblljokonejaaGreatDoor

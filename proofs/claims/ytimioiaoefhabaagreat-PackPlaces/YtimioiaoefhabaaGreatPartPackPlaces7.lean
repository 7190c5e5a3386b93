/- Texts of one chain, laid one behind the other. -/
import Derived.Test.YtimioiaoefhabaaGreatPartPackPlaces6
import Derived.Deep.LoopGhost
import Derived.Deep.DeepCutAuto
namespace Go.Proofs.YtimioiaoefhabaaGreat
open Go.ChangeShapes Go.WideShapes Go.ChangeAt Go.RowKit
/-- A list that was lent: a row of its own with these numbers, four marks behind them, all in one array of just that size. -/
def Lend (base : Nat) (w : World) (g len : Nat) (zs : List Int) : Prop :=
  base ≤ g ∧ zs.length = len ∧ At w (some ⟨g, 0, none⟩) (zs ++ [-7770777, -7770777, -7770777, -7770777])
def LentEnd (w : World) (len : Nat) (zs : List Int) (e : Ending) (w' : World) : Prop :=
  ∃ g, e = .returned (.slice (some ⟨g, 0, none⟩) len (len + 4)) ∧ Lend w.heap.size w' g len zs ∧ Below w.heap.size w w'
/-- The head of a row of a call's own is one, too. -/
theorem owns_prefix {w : World} {base g n cap : Nat} {xs ys : List Value} (h : w.ownsRow base 3 1 (.slice (some ⟨g, 0, none⟩) n cap) n (xs ++ ys)) : w.ownsRow base 3 1 (.slice (some ⟨g, 0, none⟩) xs.length cap) xs.length xs := by
  obtain ⟨h1, h2⟩ := h
  have hl : xs.length + ys.length = n := by simpa using h1
  refine ⟨by simp, ?_⟩
  rcases h2 with ⟨hv, -⟩ | ⟨g', c, cur, hv, hg, hh, hc, hm, hs, ht⟩
  · cases hv
  · cases hv
    refine .inr ⟨_, _, cur, rfl, hg, hh, by omega, hm, hs, ?_⟩
    have h3 := congrArg (List.take (xs.length * 1)) ht
    rw [List.take_take, Nat.min_eq_left (by omega)] at h3
    rw [h3, Nat.mul_one, List.take_left]
set_option maxRecDepth 100000 in
set_option maxHeartbeats 1000000 in
theorem lent_full (a : Option Addr) (zs : List Int) (len cap : Nat) (w : World) (h : Arg w a len cap zs) :
    Calls Tryz.prog 7 #[.slice a len cap] w (fun e w' => ∃ g, e = .returned (.slice (some ⟨g, 0, none⟩) len (len + 4)) ∧ Lend w.heap.size w' g len zs ∧ Below w.heap.size w w' ∧ w'.ownsRow w.heap.size 3 1 (.slice (some ⟨g, 0, none⟩) len (len + 4)) len (zs.map (Value.int .i64))) := by
  obtain ⟨hl, hr, hn, -, hat, -⟩ := h
  obtain ⟨i0, hi, hz0, hz1, hz2⟩ := info_parts Tryz.info3
  go_enter Tryz.func7, Tryz.ntmps7
  go_wp2_with (first
    | (at_make; refine wpList_make_own _ rfl _ _ 25 rfl w.heap.size 3 i0 (.int .i64 0) 1 Tryz.underlying25 hi hz0 hz1 _ _ _ (len + 4) rfl rfl (by omega) (by rw [hz2]; omega) (by unfold maxLen; omega) (Nat.le_refl _) ?_; intro w0 hown0 hgrow0; have hbel0 := (Below.refl w.heap.size w).grown hgrow0 (Nat.le_refl _) (fun k h => by cases h); have hat0 := At.below hat hbel0)
    | (at_builtin; refine wpList_append_fits_any _ rfl (.tmp 9) (.tmp 10) 25 rfl w.heap.size 3 i0 1 Tryz.underlying25 hi hz1 w.heap.size 0 (len + 4) _ rfl hown0 a len cap (zs.map (Value.int .i64)) rfl (by simp [hl]) hn (fun ad e => lies_new (e ▸ hat0)) (ints_oneCell _ _) (by omega) ?_; intro w1 hown1 hgrow1))
  have hbel1 : Below w.heap.size w w1 := hbel0.grown hgrow1 hbel0.size (fun k h => by cases h; exact Nat.le_refl _)
  have hown1' : w1.ownsRow w.heap.size 3 1 (.slice (some ⟨w.heap.size, 0, none⟩) (len + 0) (len + 4)) (len + 0) ((zs ++ List.replicate 0 (-7770777)).map (Value.int .i64)) := by simpa using hown1
  clear hown1 hown0 hgrow0 hgrow1 hat0
  go_loopw [3, 4] (fun v i wr => ∃ j : Nat, j ≤ 4 ∧ i = .int .i64 j ∧ v = .slice (some ⟨w.heap.size, 0, none⟩) (len + j) (len + 4) ∧
      wr.ownsRow w.heap.size 3 1 (.slice (some ⟨w.heap.size, 0, none⟩) (len + j) (len + 4)) (len + j) ((zs ++ List.replicate j (-7770777)).map (Value.int .i64)) ∧ Below w.heap.size w wr) (fun _ i _ => 4 - (intOf i).toNat)
  case atStart => exact ⟨0, by omega, rfl, rfl, hown1', hbel1⟩
  case round =>
    obtain ⟨j, hj, rfl, rfl, hown, hbel⟩ := hrel
    clear hown1' hbel1
    have hsz := hbel.size
    by_cases hlt : j < 4
    · go_wp2_with (at_builtin; refine wpList_append_fits _ rfl (.tmp 16) (.tmp 17) 25 rfl w.heap.size 3 i0 1 Tryz.underlying25 hi hz1 w.heap.size (len + j) (len + 4) _ rfl (hown.alloc _) ⟨wr.heap.size, 0, none⟩ 1 1 [.int .i64 (-7770777)] rfl rfl (by intro t u ht; match t, ht with | 0, ht => simp at ht; subst ht; simp [Addr.add]) (by intro u hu; simp at hu; subst hu; rfl) (by omega) ?_; intro w2 hown2 hgrow2)
      go_roundw
      case rel => exact ⟨j + 1, by omega, by go_num, rfl, by rw [List.replicate_succ', ← List.append_assoc, List.map_append]; exact hown2, (hbel.alloc hsz _).grown hgrow2 (by simp; omega) (fun k h => by cases h; exact Nat.le_refl _)⟩
      case measure => simp [intOf]; omega
    · have e : j = 4 := by omega
      subst e
      go_wp2
      go_ret
      refine ⟨w.heap.size, rfl, ⟨Nat.le_refl _, hl, ?_⟩, hbel, ?_⟩
      · obtain ⟨a', cap', hv, -, hat', -⟩ := owns_at hown
        cases hv
        exact hat'
      · rw [List.map_append] at hown
        have h2 := owns_prefix (xs := zs.map (Value.int .i64)) hown
        rw [List.length_map, hl] at h2
        exact h2
theorem lent_any (a : Option Addr) (zs : List Int) (len cap : Nat) (w : World) (h : Arg w a len cap zs) :
    Calls Tryz.prog 7 #[.slice a len cap] w (LentEnd w len zs) :=
  (lent_full a zs len cap w h).mono fun _ _ ⟨g, h1, h2, h3, _⟩ => ⟨g, h1, h2, h3⟩
theorem nth_append_left {xs ys : List Int} {k : Nat} (h : k < xs.length) : nth (xs ++ ys) k = nth xs k := by
  unfold nth
  rw [List.getD_eq_getElem?_getD, List.getD_eq_getElem?_getD, List.getElem?_append_left h]
theorem nth_marks {xs : List Int} {k : Nat} (h : xs.length ≤ k) (h2 : k < xs.length + 4) : nth (xs ++ [-7770777, -7770777, -7770777, -7770777]) k = -7770777 := by
  unfold nth
  rw [List.getD_eq_getElem?_getD, List.getElem?_append_right h]
  have : k - xs.length < 4 := by omega
  match k - xs.length, this with
  | 0, _ => rfl
  | 1, _ => rfl
  | 2, _ => rfl
  | 3, _ => rfl
theorem Lend.cells {base : Nat} {w : World} {g len : Nat} {zs : List Int} (h : Lend base w g len zs) :
    (∀ k, k < len → w.cell? ⟨g, k, none⟩ = some (.int .i64 (nth zs k))) ∧ (∀ k, len ≤ k → k < len + 4 → w.cell? ⟨g, k, none⟩ = some (.int .i64 (-7770777))) := by
  obtain ⟨-, hl, hat⟩ := h
  rcases hat with h0 | ⟨b, off, e, hc⟩
  · have := congrArg List.length h0
    simp at this
  · cases e
    refine ⟨fun k hk => ?_, fun k h1 h2 => ?_⟩
    · have := hc k (by simp; omega)
      rwa [Nat.zero_add, nth_append_left (by omega)] at this
    · have := hc k (by simp; omega)
      rwa [Nat.zero_add, nth_marks (by omega) (by omega)] at this
theorem Lend.at {base : Nat} {w : World} {g len : Nat} {zs : List Int} (h : Lend base w g len zs) : At w (some ⟨g, 0, none⟩) zs := by
  refine Or.inr ⟨g, 0, rfl, fun k hk => ?_⟩
  rw [Nat.zero_add]
  exact h.cells.1 k (by have := h.2.1; omega)
theorem Lend.below {base : Nat} {w w' : World} {g len : Nat} {zs : List Int} (h : Lend base w g len zs) (hb : Below w.heap.size w w') : Lend base w' g len zs :=
  ⟨h.1, h.2.1, h.2.2.below hb⟩
set_option maxHeartbeats 400000 in
theorem same_any (a1 a2 : Option Addr) (zs : List Int) (len cap1 cap2 : Nat) (w : World) (hl : zs.length = len) (hm : len ≤ 4611686018427387904) (h1 : At w a1 zs) (h2 : At w a2 zs) :
    Calls Tryz.prog 28 #[.slice a1 len cap1, .slice a2 len cap2] w fun e w' => ∃ n : Nat, e = .returned (.bool true) ∧ w' = w.drewN n := by
  have hee : ((len : Int) != (len : Int)) = false := by simp
  rcases h1 with h | ⟨b1, off1, rfl, hc1⟩
  · subst h
    subst hl
    go_enter Tryz.func28, Tryz.ntmps28
    go_wp2
    go_loop [5] (fun i => i = .int .i64 0) (fun _ => 0)
    case atStart => exact rfl
    case round =>
      subst hrel
      go_wp2
      go_ret
      first | exact ⟨0, rfl, rfl⟩ | exact ⟨rfl, 0, rfl⟩
  · rcases h2 with h | ⟨b2, off2, rfl, hc2⟩
    · subst h
      subst hl
      clear hc1
      go_enter Tryz.func28, Tryz.ntmps28
      go_wp2
      go_loop [5] (fun i => i = .int .i64 0) (fun _ => 0)
      case atStart => exact rfl
      case round =>
        subst hrel
        go_wp2
        go_ret
        first | exact ⟨0, rfl, rfl⟩ | exact ⟨rfl, 0, rfl⟩
    · go_enter Tryz.func28, Tryz.ntmps28
      go_wp2
      go_loopw [5] (fun i wr => ∃ k n : Nat, k ≤ len ∧ wr = w.drewN n ∧ i = .int .i64 k) (fun i _ => len - (intOf i).toNat)
      case atStart => exact ⟨0, 0, Nat.zero_le _, rfl, rfl⟩
      case round =>
        obtain ⟨k, n, hk, rfl, rfl⟩ := hrel
        by_cases hlt : k < len
        · have g1 := hc1 k (by omega)
          have g2 := hc2 k (by omega)
          have hki : (k : Int) < (len : Int) := by omega
          have hnn : (nth zs k != nth zs k) = false := by simp
          go_wp2
          go_quiet (fail)
          go_wp2
          go_roundw
          case rel => exact ⟨k + 1, n + nq, by omega, rfl, by go_num⟩
          case measure => simp [intOf]; omega
        · go_wp2
          go_ret
          first | exact ⟨n, rfl, rfl⟩ | exact ⟨rfl, n, rfl⟩
set_option maxHeartbeats 1000000 in
theorem kept_any (g : Nat) (a : Option Addr) (zs : List Int) (len cap base : Nat) (w : World) (h1 : Lend base w g len zs) (h2 : Arg w a len cap zs) :
    Calls Tryz.prog 13 #[.slice (some ⟨g, 0, none⟩) len (len + 4), .slice a len cap] w fun e w' => ∃ n : Nat, e = .returned (.bool true) ∧ w' = w.drewN n := by
  have hr := h2.reach
  have hs := same_any (some ⟨g, 0, none⟩) a zs len (len + 4) cap w h2.size (by omega) h1.at h2.lies
  have HC : Hid (∀ k, len ≤ k → k < len + 4 → w.cell? ⟨g, k, none⟩ = some (.int .i64 (-7770777))) := h1.cells.2
  clear h1 h2
  go_enter Tryz.func13, Tryz.ntmps13
  go_wp2_with (go_at_call 28; refine hs.mono ?_; rintro e w' ⟨n, rfl, rfl⟩)
  go_loop [6] (fun i => ∃ k : Nat, len ≤ k ∧ k ≤ len + 4 ∧ i = .int .i64 k) (fun i => len + 4 - (intOf i).toNat)
  case atStart => exact ⟨len, Nat.le_refl _, by omega, rfl⟩
  case round =>
    obtain ⟨k, hk1, hk2, rfl⟩ := hrel
    by_cases hlt : k < len + 4
    · have hc := HC.out k hk1 hlt
      have hlt' : (k : Int) < (len : Int) + 4 := by omega
      go_wp2
      go_round
      case rel => exact ⟨k + 1, by omega, by omega, by go_num⟩
      case measure => simp [intOf]; omega
    · have hlt' : ¬ (k : Int) < (len : Int) + 4 := by omega
      go_wp2
      go_ret
      first | exact ⟨n, rfl, rfl⟩ | exact ⟨rfl, n, rfl⟩
end Go.Proofs.YtimioiaoefhabaaGreat

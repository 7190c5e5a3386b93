/- Texts of one chain, laid one behind the other. -/
import Derived.Test.YtdjplmlfcolklaaPartCodeChecks6
import Derived.Deep.LoopGhost
import Derived.Deep.DeepCutAuto
namespace Go.Proofs.Ytdjplmlfcolklaa
open Go.ChangeShapes Go.WideShapes Go.ChangeAt Go.RowKit
/-- A list that was lent: a row of its own with these numbers, four marks behind them, all in one array of just that size. -/
def Lend (base : Nat) (w : World) (g len : Nat) (zs : List Int) : Prop :=
  base ≤ g ∧ zs.length = len ∧ At w (some ⟨g, 0, none⟩) (zs ++ [-7770777, -7770777, -7770777, -7770777])
theorem nth_append_left {xs ys : List Int} {k : Nat} (h : k < xs.length) : nth (xs ++ ys) k = nth xs k := by
  unfold nth
  rw [List.getD_eq_getElem?_getD, List.getD_eq_getElem?_getD, List.getElem?_append_left h]
theorem nth_marks {xs : List Int} {k : Nat} (h : xs.length ≤ k) (h2 : k < xs.length + 4) : nth (xs ++ [-7770777, -7770777, -7770777, -7770777]) k = -7770777 := by
  unfold nth
  rw [List.getD_eq_getElem?_getD, List.getElem?_append_right h]
  have : k - xs.length < 4 := by omega
  match k - xs.length, this with
  | 0, _ => rfl
  | 1, _ => rfl
  | 2, _ => rfl
  | 3, _ => rfl
theorem Lend.cells {base : Nat} {w : World} {g len : Nat} {zs : List Int} (h : Lend base w g len zs) :
    (∀ k, k < len → w.cell? ⟨g, k, none⟩ = some (.int .i64 (nth zs k))) ∧ (∀ k, len ≤ k → k < len + 4 → w.cell? ⟨g, k, none⟩ = some (.int .i64 (-7770777))) := by
  obtain ⟨-, hl, hat⟩ := h
  rcases hat with h0 | ⟨b, off, e, hc⟩
  · have := congrArg List.length h0
    simp at this
  · cases e
    refine ⟨fun k hk => ?_, fun k h1 h2 => ?_⟩
    · have := hc k (by simp; omega)
      rwa [Nat.zero_add, nth_append_left (by omega)] at this
    · have := hc k (by simp; omega)
      rwa [Nat.zero_add, nth_marks (by omega) (by omega)] at this
theorem Lend.at {base : Nat} {w : World} {g len : Nat} {zs : List Int} (h : Lend base w g len zs) : At w (some ⟨g, 0, none⟩) zs := by
  refine Or.inr ⟨g, 0, rfl, fun k hk => ?_⟩
  rw [Nat.zero_add]
  exact h.cells.1 k (by have := h.2.1; omega)
theorem Lend.below {base : Nat} {w w' : World} {g len : Nat} {zs : List Int} (h : Lend base w g len zs) (hb : Below w.heap.size w w') : Lend base w' g len zs :=
  ⟨h.1, h.2.1, h.2.2.below hb⟩
set_option maxHeartbeats 400000 in
theorem same_any (a1 a2 : Option Addr) (zs : List Int) (len cap1 cap2 : Nat) (w : World) (hl : zs.length = len) (hm : len ≤ 4611686018427387904) (h1 : At w a1 zs) (h2 : At w a2 zs) :
    Calls Try.prog 25 #[.slice a1 len cap1, .slice a2 len cap2] w fun e w' => ∃ n : Nat, e = .returned (.bool true) ∧ w' = w.drewN n := by
  have hee : ((len : Int) != (len : Int)) = false := by simp
  rcases h1 with h | ⟨b1, off1, rfl, hc1⟩
  · subst h
    subst hl
    go_enter Try.func25, Try.ntmps25
    go_wp2
    go_loop [5] (fun i => i = .int .i64 0) (fun _ => 0)
    case atStart => exact rfl
    case round =>
      subst hrel
      go_wp2
      go_ret
      first | exact ⟨0, rfl, rfl⟩ | exact ⟨rfl, 0, rfl⟩
  · rcases h2 with h | ⟨b2, off2, rfl, hc2⟩
    · subst h
      subst hl
      clear hc1
      go_enter Try.func25, Try.ntmps25
      go_wp2
      go_loop [5] (fun i => i = .int .i64 0) (fun _ => 0)
      case atStart => exact rfl
      case round =>
        subst hrel
        go_wp2
        go_ret
        first | exact ⟨0, rfl, rfl⟩ | exact ⟨rfl, 0, rfl⟩
    · go_enter Try.func25, Try.ntmps25
      go_wp2
      go_loopw [5] (fun i wr => ∃ k n : Nat, k ≤ len ∧ wr = w.drewN n ∧ i = .int .i64 k) (fun i _ => len - (intOf i).toNat)
      case atStart => exact ⟨0, 0, Nat.zero_le _, rfl, rfl⟩
      case round =>
        obtain ⟨k, n, hk, rfl, rfl⟩ := hrel
        by_cases hlt : k < len
        · have g1 := hc1 k (by omega)
          have g2 := hc2 k (by omega)
          have hki : (k : Int) < (len : Int) := by omega
          have hnn : (nth zs k != nth zs k) = false := by simp
          go_wp2
          go_quiet (fail)
          go_wp2
          go_roundw
          case rel => exact ⟨k + 1, n + nq, by omega, rfl, by go_num⟩
          case measure => simp [intOf]; omega
        · go_wp2
          go_ret
          first | exact ⟨n, rfl, rfl⟩ | exact ⟨rfl, n, rfl⟩
end Go.Proofs.Ytdjplmlfcolklaa

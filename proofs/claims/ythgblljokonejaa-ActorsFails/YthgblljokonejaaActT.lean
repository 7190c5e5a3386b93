/- A table of rows while it is filled. -/
import Derived.Test.YthgblljokonejaaActF2
namespace Go.Proofs.Ythgblljokonejaa
open Go.ChangeShapes Go.WideShapes Go.ChangeAt Go.RowKit

structure TabS (B : Nat) (w wr : World) (H N : Nat) (D : Nat → Option Addr) (E : Nat → Nat) (Y : Nat → List Int) : Prop where
  own : ∀ j, j < N → CapR B wr (D j) (E j) (Y j)
  long : wr.rowIs H 22 N (fun j => .slice (D j) (Y j).length (E j))
  dd : ∀ j k x y, j < N → k < N → j ≠ k → D j = some x → D k = some y → x.block ≠ y.block
  dt : ∀ j x, j < N → D j = some x → x.block ≠ H
  bel : Below B w wr
  low : B ≤ H
theorem tabS_start (w : World) (N : Nat) : TabS w.heap.size w (w.alloc (.cells (madeCells #[.slice none 0 0] N) 22)) w.heap.size N (fun _ => none) (fun _ => 0) (fun _ => []) :=
  ⟨fun _ _ => CapR.nil _ _, World.rowIs_made w (.slice none 0 0) N 22, (fun _ _ _ _ _ _ _ h => by cases h), (fun _ _ _ h => by cases h), (Below.refl _ _).alloc (Nat.le_refl _) _, Nat.le_refl _⟩
theorem TabS.put {B : Nat} {w wr w2 : World} {H N i c : Nat} {D : Nat → Option Addr} {E : Nat → Nat} {Y : Nat → List Int} {d : Option Addr} {L : List Int} (h : TabS B w wr H N D E Y) (hi : i < N) (hd : CapR B w2 d c L) (hk : ∀ k, k < wr.heap.size → (∀ y, D i = some y → y.block ≠ k) → w2.heap[k]? = wr.heap[k]?) (hb : Below B wr w2) (hn : ∀ z, d = some z → D i = some z ∨ wr.heap.size ≤ z.block) :
    TabS B w (w2.setCell ⟨H, i, none⟩ (.slice d L.length c)) H N (upd D i d) (upd E i c) (upd Y i L) := by
  have hH := h.long.lt
  have dH : ∀ z, d = some z → z.block ≠ H := fun z hz => by
    rcases hn z hz with h1 | h1
    · exact h.dt i z hi h1
    · omega
  have far : ∀ j x z, j < N → j ≠ i → D j = some x → d = some z → x.block ≠ z.block := fun j x z hj hji hx hz => by
    rcases hn z hz with h1 | h1
    · exact h.dd j i x z hj hi hji hx h1
    · have := ((h.own j hj).lt x hx).2; omega
  refine ⟨fun j hj => ?_, ?_, fun j k x y hj hk' hjk hx hy => ?_, fun j x hj hx => ?_, (h.bel.trans hb).setCell (p := ⟨H, i, none⟩) h.low _, h.low⟩
  · by_cases e : j = i
    · subst e
      rw [upd_eq, upd_eq, upd_eq]
      exact hd.setOther (ad := ⟨H, j, none⟩) dH _
    · rw [upd_ne e, upd_ne e, upd_ne e]
      refine ((h.own j hj).keep fun x hx => hk _ ((h.own j hj).lt x hx).2 fun y hy => (h.dd j i x y hj hi e hx hy).symm).setOther (ad := ⟨H, i, none⟩) (fun x hx => h.dt j x hj hx) _
  · refine ((h.long.of_block (hk H hH fun y hy => h.dt i y hi hy)).set i _).congr fun j hj => ?_
    by_cases e : j = i
    · subst e; rw [if_pos rfl, upd_eq, upd_eq, upd_eq]
    · rw [if_neg e, upd_ne e, upd_ne e, upd_ne e]
  · by_cases e : j = i
    · subst e
      rw [upd_eq] at hx
      rw [upd_ne (Ne.symm hjk)] at hy
      exact (far k y x hk' (Ne.symm hjk) hy hx).symm
    · rw [upd_ne e] at hx
      by_cases e2 : k = i
      · subst e2
        rw [upd_eq] at hy
        exact far j x y hj e hx hy
      · rw [upd_ne e2] at hy
        exact h.dd j k x y hj hk' hjk hx hy
  · by_cases e : j = i
    · subst e; rw [upd_eq] at hx; exact dH x hx
    · rw [upd_ne e] at hx; exact h.dt j x hj hx
theorem TabS.out {B : Nat} {w wr : World} {H N : Nat} {D : Nat → Option Addr} {E : Nat → Nat} {Y : Nat → List Int} (h : TabS B w wr H N D E Y) : OutT B wr D E (some ⟨H, 0, none⟩) ((List.range N).map Y) := by
  have hl : ((List.range N).map Y).length = N := by simp
  refine ⟨fun j hj => ?_, fun j k y z hj hk => h.dd j k y z (by omega) (by omega), .inr ⟨H, rfl, h.low, h.long.lt, fun j hj => ?_, fun j y hj hy => h.dt j y (by omega) hy⟩⟩
  · rw [nthL_map (by omega)]; exact h.own j (by omega)
  · rw [nthL_map (by omega)]; exact h.long.cell (by omega)
/-- How many of the first k places belong to port j. -/
def cntS (N k j : Nat) : Nat := k / N + if j < k % N then 1 else 0
theorem cnt_step {N k : Nat} (hN : 0 < N) : ∀ j, j < N → cntS N (k + 1) j = cntS N k j + if j = k % N then 1 else 0 := by
  intro j hj
  have e := Nat.div_add_mod k N
  have hp := Nat.mod_lt k hN
  unfold cntS
  generalize k / N = a at *
  generalize k % N = p at *
  subst e
  by_cases h1 : p + 1 < N
  · rw [Nat.add_assoc, Nat.mul_add_div hN, Nat.mul_add_mod, Nat.div_eq_of_lt h1, Nat.mod_eq_of_lt h1]
    split <;> split <;> split <;> omega
  · have h2 : p + 1 = N := by omega
    rw [Nat.add_assoc, h2, ← Nat.mul_succ, Nat.mul_div_cancel_left _ hN, Nat.mul_mod_right]
    split <;> split <;> split <;> omega
theorem cnt_end {N M j : Nat} (hN : 0 < N) : cntS N (N * M) j = M := by
  unfold cntS
  rw [Nat.mul_div_cancel_left _ hN, Nat.mul_mod_right]
  simp
theorem cnt_here {N k : Nat} : cntS N k (k % N) = k / N := by unfold cntS; simp
end Go.Proofs.Ythgblljokonejaa

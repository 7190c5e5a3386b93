/- Texts of one chain, laid one behind the other. -/
import Derived.Test.YtdifaobfomfieaaPartWitnessDenies12
import Derived.Handy
import Derived.WalkSpells
import Derived.Test.YtdifaobfomfieaaPartWitnessDenies3
namespace Go.Proofs.Ytdifaobfomfieaa
open Go.ChangeShapes Go.WideShapes Go.ChangeAt Go.RowKit
def fiveN (a : NA) : List Value := [.int .i64 a.f, .int .i64 a.t, .int .i64 a.g, .int .i64 a.k, .int .i64 a.s]
/-- A table of rows, as it lies: H the table's block, D the rows'. -/
structure TabN (B : Nat) (w : World) (H N : Nat) (D : Nat → Option Addr) (E : Nat → Nat) (Y : Nat → List Int) : Prop where
  own : ∀ j, j < N → CapR B w (D j) (E j) (Y j)
  long : w.rowIs H 26 N (fun j => .slice (D j) (Y j).length (E j))
  dd : ∀ j k x y, j < N → k < N → j ≠ k → D j = some x → D k = some y → x.block ≠ y.block
  dt : ∀ j x, j < N → D j = some x → x.block ≠ H
  low : B ≤ H
/-- Its blocks. -/
def ofT (N H : Nat) (D : Nat → Option Addr) (k : Nat) : Prop := k = H ∨ ∃ j x, j < N ∧ D j = some x ∧ x.block = k
theorem TabN.lt {B : Nat} {w : World} {H N : Nat} {D : Nat → Option Addr} {E : Nat → Nat} {Y : Nat → List Int} (h : TabN B w H N D E Y) {k : Nat} (hk : ofT N H D k) : B ≤ k ∧ k < w.heap.size := by
  rcases hk with rfl | ⟨j, x, hj, hx, rfl⟩
  · exact ⟨h.low, h.long.lt⟩
  · exact (h.own j hj).lt x hx
theorem TabN.keep {B : Nat} {w w' : World} {H N : Nat} {D : Nat → Option Addr} {E : Nat → Nat} {Y : Nat → List Int} (h : TabN B w H N D E Y) (hk : ∀ k, ofT N H D k → w'.heap[k]? = w.heap[k]?) : TabN B w' H N D E Y :=
  ⟨fun j hj => (h.own j hj).keep fun x hx => hk _ (.inr ⟨j, x, hj, hx, rfl⟩), h.long.of_block (hk H (.inl rfl)), h.dd, h.dt, h.low⟩
theorem TabN.below {B : Nat} {w w' : World} {H N : Nat} {D : Nat → Option Addr} {E : Nat → Nat} {Y : Nat → List Int} (h : TabN B w H N D E Y) (hb : Below w.heap.size w w') : TabN B w' H N D E Y := h.keep fun k hk => hb.block k (h.lt hk).2
/-- A row has grown: which blocks may have changed. -/
theorem TabN.put {B : Nat} {wr w2 : World} {H N i c : Nat} {D : Nat → Option Addr} {E : Nat → Nat} {Y : Nat → List Int} {d : Option Addr} {L : List Int} (h : TabN B wr H N D E Y) (hi : i < N) (hd : CapR B w2 d c L) (hk : ∀ k, k < wr.heap.size → (∀ y, D i = some y → y.block ≠ k) → w2.heap[k]? = wr.heap[k]?) (hn : ∀ z, d = some z → D i = some z ∨ wr.heap.size ≤ z.block) :
    TabN B (w2.setCell ⟨H, i, none⟩ (.slice d L.length c)) H N (upd D i d) (upd E i c) (upd Y i L) := by
  have hH := h.long.lt
  have dH : ∀ z, d = some z → z.block ≠ H := fun z hz => by
    rcases hn z hz with h1 | h1
    · exact h.dt i z hi h1
    · omega
  have far : ∀ j x z, j < N → j ≠ i → D j = some x → d = some z → x.block ≠ z.block := fun j x z hj hji hx hz => by
    rcases hn z hz with h1 | h1
    · exact h.dd j i x z hj hi hji hx h1
    · have := ((h.own j hj).lt x hx).2; omega
  refine ⟨fun j hj => ?_, ?_, fun j k x y hj hk' hjk hx hy => ?_, fun j x hj hx => ?_, h.low⟩
  · by_cases e : j = i
    · subst e
      rw [upd_eq, upd_eq, upd_eq]
      exact hd.setOther (ad := ⟨H, j, none⟩) dH _
    · rw [upd_ne e, upd_ne e, upd_ne e]
      refine ((h.own j hj).keep fun x hx => hk _ ((h.own j hj).lt x hx).2 fun y hy => (h.dd j i x y hj hi e hx hy).symm).setOther (ad := ⟨H, i, none⟩) (fun x hx => h.dt j x hj hx) _
  · refine ((h.long.of_block (hk H hH fun y hy => h.dt i y hi hy)).set i _).congr fun j hj => ?_
    by_cases e : j = i
    · subst e; rw [if_pos rfl, upd_eq, upd_eq, upd_eq]
    · rw [if_neg e, upd_ne e, upd_ne e, upd_ne e]
  · by_cases e : j = i
    · subst e
      rw [upd_eq] at hx
      rw [upd_ne (Ne.symm hjk)] at hy
      exact (far k y x hk' (Ne.symm hjk) hy hx).symm
    · rw [upd_ne e] at hx
      by_cases e2 : k = i
      · subst e2
        rw [upd_eq] at hy
        exact far j x y hj e hx hy
      · rw [upd_ne e2] at hy
        exact h.dd j k x y hj hk' hjk hx hy
  · by_cases e : j = i
    · subst e; rw [upd_eq] at hx; exact dH x hx
    · rw [upd_ne e] at hx; exact h.dt j x hj hx
end Go.Proofs.Ytdifaobfomfieaa

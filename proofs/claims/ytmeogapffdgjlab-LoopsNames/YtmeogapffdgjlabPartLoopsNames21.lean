/- Texts of one chain, laid one behind the other. -/
import Derived.Test.YtmeogapffdgjlabPartLoopsNames20
import Derived.Maps.AppendAt
namespace Go.Proofs.Ytmeogapffdgjlab
open Go.ChangeShapes Go.WideShapes Go.ChangeAt Go.RowKit Go.Shelf
attribute [local go_sem] Oper.semAt_some
/-- The nest that All keeps. -/
def keptZ (l : List Lp) : List Lp := if chkZ l = 0 then l else []
/-- What All answers: a function value over a box that holds a copy. -/
structure AllZ (B : Nat) (w : World) (kb : Nat) (l : List Lp) : Prop where
  lo : B ≤ kb
  box : ∃ (q : Option Addr) (c : Nat), BlkA 23 kb w #[.slice q (keptZ l).length c] ∧ Nst (fun k => B ≤ k ∧ TyZ w k) false w q (keptZ l)
theorem AllZ.later {B : Nat} {w w' : World} {kb : Nat} {l : List Lp} (h : AllZ B w kb l) (hb : Below w.heap.size w w') : AllZ B w' kb l := by
  obtain ⟨h1, q, c, h2, h3⟩ := h
  exact ⟨h1, q, c, h2.below hb, (h3.keep fun k hk => hb.block k hk.2.lt).mono fun k hk => ⟨hk.1, hk.2.keep (hb.block k hk.2.lt)⟩⟩
/-- A box that holds a row of numbers of a call's own, while they are collected. -/
structure ColZ (B : Nat) (w0 W0 : World) (lb : Nat) (pre : List Int) (W : World) : Prop where
  box : ∃ v, Boxed W lb 22 v ∧ W.ownsRow B 3 1 v pre.length (pre.map (Value.int .i64)) ∧ (v = .slice none 0 0 → pre = [])
  below : Below B w0 W
  keeps : KpZ (TyZ W0) W0 W
theorem ColZ.own {B : Nat} {w0 W0 : World} {lb : Nat} (hB : B ≤ W0.heap.size) (hw : B ≤ w0.heap.size) : OwnFrom W0.heap.size (ColZ B w0 W0 lb) := by
  intro s W W' row h hg hr
  obtain ⟨h1, h2, h3⟩ := h
  refine ⟨holdsRow_own B lb 22 3 1 (fun pre : List Int => pre.length) (fun pre => pre.map (Value.int .i64)) (fun pre v => v = .slice none 0 0 → pre = []) s W W' row h1 hg (fun r e => (hr r e).2), ?_, ?_⟩
  · exact h2.grown hg (Nat.le_trans hw h2.size) (fun k e => Nat.le_trans hB (hr k e).1)
  · refine h3.trans ⟨⟨hg.size, fun k hk => ?_⟩, fun k cs hk => ?_⟩
    · obtain ⟨cs, hk⟩ := hk
      have := h3.2 k cs hk
      refine hg.block k this.lt (fun e => ?_)
      obtain ⟨-, o, ho, hc⟩ := hr k e.symm
      rw [show W.heap[k]? = _ from this] at ho
      cases ho; cases hc
    · refine hk.keep (hg.block k hk.lt (fun e => ?_))
      obtain ⟨-, o, ho, hc⟩ := hr k e.symm
      rw [show W.heap[k]? = _ from hk] at ho
      cases ho; cases hc
/-- One more number. -/
theorem ColZ.step {B : Nat} {w0 W0 W w1 : World} {lb : Nat} {pre : List Int} {x : Int} {v v' : Value} {tmp : Obj} (h : ColZ B w0 W0 lb pre W) (hv : Boxed W lb 22 v) (hrow : W.ownsRow B 3 1 v pre.length (pre.map (Value.int .i64))) (hlb : B ≤ lb) (hBW : B ≤ W.heap.size) (hv' : v' ≠ .slice none 0 0)
    (hown' : w1.ownsRow B 3 1 v' (pre.length + 1) (pre.map (Value.int .i64) ++ [.int .i64 x])) (hgrow : (W.alloc tmp).grownBy w1 v.ownBlock) :
    Boxed w1 lb 22 v ∧ KeepsFrom W0.heap.size W (w1.setCell ⟨lb, 0, none⟩ v') ∧ KpZ (TyZ W0) W (w1.setCell ⟨lb, 0, none⟩ v') ∧ ColZ B w0 W0 lb (pre ++ [x]) (w1.setCell ⟨lb, 0, none⟩ v') := by
  obtain ⟨hv1, hv2, hr2, hk2, hb2⟩ := hv.appended (by decide) hrow hBW hlb hown' hgrow
  have hty : ∀ k cs, BlkA 29 k W cs → BlkA 29 k (w1.setCell ⟨lb, 0, none⟩ v') cs := fun k cs hk => by
    have a1 : BlkA 29 k (W.alloc tmp) cs := hk.below ((Below.refl _ _).alloc (Nat.le_refl _) tmp)
    have n1 : some k ≠ v.ownBlock := by
      rcases (hrow.alloc tmp).2 with ⟨rfl, _⟩ | ⟨g, cap, cur, rfl, _, hgb, _⟩
      · simp [Value.ownBlock]
      · intro e
        obtain rfl : k = g := by simpa [Value.ownBlock] using e
        have := (show (W.alloc tmp).heap[k]? = _ from a1).symm.trans hgb
        simp at this
    have a2 : BlkA 29 k w1 cs := a1.keep (hgrow.block k a1.lt n1)
    refine a2.keep (Below.heap_setCell _ _ _ _ ?_)
    intro e
    have e' : k = lb := e
    subst e'
    have := (show w1.heap[k]? = _ from a2).symm.trans hv1
    simp at this
  have hkp : KpZ (TyZ W0) W (w1.setCell ⟨lb, 0, none⟩ v') := by
    refine ⟨⟨hb2.size, fun k hk => ?_⟩, hty⟩
    obtain ⟨cs, hk⟩ := hk
    have q1 := h.keeps.2 k cs hk
    exact (show _ = _ from hty k cs q1).trans (show W.heap[k]? = _ from q1).symm
  refine ⟨hv1, hk2.from _, hkp, ⟨⟨v', hv2, ?_, fun e => absurd e hv'⟩, h.below.trans hb2, h.keeps.trans hkp⟩⟩
  simpa using hr2
end Go.Proofs.Ytmeogapffdgjlab

/- Texts of one chain, laid one behind the other. -/
import Derived.Test.YtigodedloogbcaaPartSimulTimes29
import Derived.Test.YtigodedloogbcaaPartSimulTimes32
namespace Go.Proofs.Ytigodedloogbcaa
open Go.ChangeShapes Go.WideShapes Go.ChangeAt Go.RowKit
theorem SoundN.taken {n : NN} (h : SoundN n) {x : Int × Bool} (hx : inW n.arcs x = true) : (1 ≤ (tkW n.arcs x).g ∧ (tkW n.arcs x).g ≤ 64) ∧ (1 ≤ (tkW n.arcs x).k ∧ (tkW n.arcs x).k ≤ 64) ∧ (0 ≤ stW n.arcs x ∧ stW n.arcs x < n.nodes) ∧ (0 ≤ enW n.arcs x ∧ enW n.arcs x < n.nodes) := by
  obtain ⟨h1, h2⟩ := inW_iff.1 hx
  have hs := h.arcs x.1.toNat (by omega)
  unfold stW enW tkW
  split
  · exact ⟨hs.k, hs.g, hs.t, hs.f⟩
  · exact ⟨hs.g, hs.k, hs.f, hs.t⟩
/-- The least counts hold. -/
theorem ho_least {n : NN} (hc : checkN n = 0) (hb : bigA n = false) (hf : fuB n.arcs (cnt n) = none) : hoB n (rowF n.nodes.toNat (cnt n)) = true ∧ hoE n (rowF n.nodes.toNat (cnt n)) = 0 := by
  have hS := check_sound hc
  have SB := hS.souB
  have hN := hS.nodes
  have hw : winB (rowF n.nodes.toNat (cnt n)) = true := by
    show winB (rowF n.nodes.toNat (cntB n.arcs n.arcs.length)) = true
    rw [win_row fun v => cntB_pos SB.rat (Nat.le_refl _) v]
    have : bigN (cntB n.arcs n.arcs.length) n.nodes.toNat = false := hb
    rw [this]
    rfl
  obtain ⟨e1, e2⟩ := ho_fu (R := rowF n.nodes.toNat (cnt n)) hc (by rw [rowF_len]; omega) hw
  refine ⟨?_, e2⟩
  rw [e1]
  have : fuB n.arcs (natB (rowF n.nodes.toNat (cnt n))) = none := fuB_none fun j hj => by
    obtain ⟨q1, q2⟩ := SB.arc j hj
    have q := fuB_all hf j hj
    unfold EvB at q ⊢
    have k : ∀ v, v < n.nodes.toNat → natB (rowF n.nodes.toNat (cnt n)) v = cnt n v := fun v hv => by
      unfold natB
      rw [rowF_nth hv]
      rfl
    rw [k _ q1, k _ q2]
    exact q
  rw [this]
  rfl
end Go.Proofs.Ytigodedloogbcaa

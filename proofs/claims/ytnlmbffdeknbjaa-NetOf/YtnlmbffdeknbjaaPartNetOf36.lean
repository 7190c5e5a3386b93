/- Texts of one chain, laid one behind the other. -/
import Derived.Test.YtnlmbffdeknbjaaPartNetOf35
import Derived.Test.YtnlmbffdeknbjaaPartNetOf25
namespace Go.Proofs.Ytnlmbffdeknbjaa
open Go.ChangeShapes Go.WideShapes Go.ChangeAt Go.RowKit
/-- The net that is answered: where the graph is not sound, one of noughts. -/
def ansG (gr : GG) : NN := if (firstF gr).code = 0 then netG gr else ⟨0, []⟩
def AnsE (gr : GG) (w : World) (e : Ending) (w' : World) : Prop := ∃ d c, e = .returned (.tuple #[.agg #[.int .i64 (ansG gr).nodes, .slice d (ansG gr).arcs.length c], .int .i64 (firstF gr).code]) ∧ AtN w' d (ansG gr).arcs ∧ Below w.heap.size w w'
theorem ans_of {gr : GG} {w : World} {e : Ending} {w' : World} (h : OfNE gr w e w') : AnsE gr w e w' := by
  unfold OfNE at h
  unfold AnsE ansG
  split at h
  · rename_i hc
    obtain ⟨d, c, h1, h2, h3⟩ := h
    rw [if_pos hc, hc]
    refine ⟨d, c, ?_, h2, h3⟩
    rw [h1]
    show _ = Ending.returned (.tuple #[.agg #[.int .i64 (gr.actors.length : Int), .slice d (gr.edges.map (arcG gr)).length c], .int .i64 0])
    rw [List.length_map]
  · rename_i hc
    rw [if_neg hc]
    exact ⟨none, 0, h.1, .inl rfl, h.2⟩
theorem ans_few (gr : GG) : (ansG gr).arcs.length ≤ 96 := by
  unfold ansG
  split
  · rename_i hc
    have hed := (head_ok ((sound_iff gr).1 hc).head).2.2.2.1
    show (gr.edges.map (arcG gr)).length ≤ 96
    rw [List.length_map]
    omega
  · exact Nat.zero_le _
set_option maxRecDepth 100000 in
set_option maxHeartbeats 8000000 in
theorem netOf_walk (g : GG) (a1 a2 a3 a4 : Option Addr) (c1 c2 c3 c4 : Nat) (w : World) (h : ArgG w a1 a2 a3 a4 c3 c4 g) :
    Calls Try.prog 3 #[.agg #[.string (str g.name), .slice a1 g.actors.length c1, .slice a2 g.edges.length c2, .slice a3 g.ins.length c3, .slice a4 g.outs.length c4]] w fun e w' => e = .returned (.bool true) ∧ Below w.heap.size w w' := by
  have ba := (Below.refl w.heap.size w).alloc (Nat.le_refl _) (.cells #[.string (str g.name), .slice a1 g.actors.length c1, .slice a2 g.edges.length c2, .slice a3 g.ins.length c3, .slice a4 g.outs.length c4] 26)
  have BA := hiddenN ba
  have X0 := hiddenN (blkA_new 26 w #[.string (str g.name), .slice a1 g.actors.length c1, .slice a2 g.edges.length c2, .slice a3 g.ins.length c3, .slice a4 g.outs.length c4])
  have HA := hiddenN h
  have AW : Hid (∀ U, Calls Try.prog 7 #[] U fun e w' => e = .returned (.bool true) ∧ Below U.heap.size U w') := fun U => awakeN U
  have RO : Hid (∀ U, Below w.heap.size w U → Calls Try.prog 4 #[.agg #[.string (str g.name), .slice a1 g.actors.length c1, .slice a2 g.edges.length c2, .slice a3 g.ins.length c3, .slice a4 g.outs.length c4]] U (AnsE g U)) := fun U hb => (rofN_any g a1 a2 a3 a4 c1 c2 c3 c4 U (HA.out.gr.below hb)).mono fun _ _ q => ans_of q
  have PO : Hid (∀ U, Below w.heap.size w U → Calls Try.prog 5 #[.agg #[.string (str g.name), .slice a1 g.actors.length c1, .slice a2 g.edges.length c2, .slice a3 g.ins.length c3, .slice a4 g.outs.length c4]] U (AnsE g U)) := fun U hb => (ofN_any g a1 a2 a3 a4 c1 c2 c3 c4 U (HA.out.gr.below hb)).mono fun _ _ q => ans_of q
  have SN : Hid (∀ U (x y : Option Addr) (cx cy : Nat), AtN U x (ansG g).arcs → AtN U y (ansG g).arcs → Calls Try.prog 6 #[.agg #[.int .i64 (ansG g).nodes, .slice x (ansG g).arcs.length cx], .agg #[.int .i64 (ansG g).nodes, .slice y (ansG g).arcs.length cy]] U fun e w' => e = .returned (.bool true) ∧ Below U.heap.size U w') := fun U x y cx cy h1 h2 => sameNet_any (ansG g) x y cx cy U h1 h2 (by have := ans_few g; omega)
  unfold AnsE at RO PO
  generalize ansG g = nn at *
  generalize (firstF g).code = cd at *
  have y0 := X0.out.cell (k := 0) rfl
  have y1 := X0.out.cell (k := 1) rfl
  have y2 := X0.out.cell (k := 2) rfl
  have y3 := X0.out.cell (k := 3) rfl
  have y4 := X0.out.cell (k := 4) rfl
  simp only [List.getElem_toArray, List.getElem_cons_zero, List.getElem_cons_succ] at y0 y1 y2 y3 y4
  clear ba h HA
  go_enter Try.func3, Try.ntmps3
  go_upto_region 1 with fail
  generalize w.alloc (.cells #[.string (str g.name), .slice a1 g.actors.length c1, .slice a2 g.edges.length c2, .slice a3 g.ins.length c3, .slice a4 g.outs.length c4] 26) = W0 at *
  go_upto_region 2 with (go_at_call 4; (with_reducible refine (RO.out _ BA.out).mono ?_); rintro e W1 ⟨d, c, rfl, q1, b1⟩; have L1 := hiddenN (BA.out.trans (b1.mono BA.out.size)); have X1 := hiddenN (X0.out.below b1); have Q1 := hiddenN q1; clear q1 b1 y0 y1 y2 y3 y4)
  have b2 := (Below.refl W1.heap.size W1).alloc (Nat.le_refl _) (.cells #[.int .i64 nn.nodes, .slice d nn.arcs.length c] 29)
  have L2 := hiddenN (L1.out.trans (b2.mono L1.out.size))
  have X2 := hiddenN (X1.out.below b2)
  have Q2 := hiddenN (Q1.out.below b2)
  have N2 := hiddenN (blkA_new 29 W1 #[.int .i64 nn.nodes, .slice d nn.arcs.length c])
  clear b2 L1 X1 Q1 X0
  obtain ⟨nb, hnb⟩ : ∃ q, W1.heap.size = q := ⟨_, rfl⟩
  rw [hnb] at N2 ⊢
  generalize W1.alloc (.cells #[.int .i64 nn.nodes, .slice d nn.arcs.length c] 29) = W2 at *
  have y0 := X2.out.cell (k := 0) rfl
  have y1 := X2.out.cell (k := 1) rfl
  have y2 := X2.out.cell (k := 2) rfl
  have y3 := X2.out.cell (k := 3) rfl
  have y4 := X2.out.cell (k := 4) rfl
  simp only [List.getElem_toArray, List.getElem_cons_zero, List.getElem_cons_succ] at y0 y1 y2 y3 y4
  go_upto_region 3 with (go_at_call 5; (with_reducible refine (PO.out _ L2.out).mono ?_); rintro e W3 ⟨d', c', rfl, q1, b1⟩; have L3 := hiddenN (L2.out.trans (b1.mono L2.out.size)); have N3 := hiddenN (N2.out.below b1); have Q3 := hiddenN (Q2.out.below b1); have P3 := hiddenN q1; clear q1 b1 y0 y1 y2 y3 y4)
  have b4 := (Below.refl W3.heap.size W3).alloc (Nat.le_refl _) (.cells #[.int .i64 nn.nodes, .slice d' nn.arcs.length c'] 29)
  have L4 := hiddenN (L3.out.trans (b4.mono L3.out.size))
  have N4 := hiddenN (N3.out.below b4)
  have Q4 := hiddenN (Q3.out.below b4)
  have P4 := hiddenN (P3.out.below b4)
  have M4 := hiddenN (blkA_new 29 W3 #[.int .i64 nn.nodes, .slice d' nn.arcs.length c'])
  clear b4 L3 N3 Q3 P3 N2 Q2 X2 L2
  obtain ⟨mb, hmb⟩ : ∃ q, W3.heap.size = q := ⟨_, rfl⟩
  rw [hmb] at M4 ⊢
  generalize W3.alloc (.cells #[.int .i64 nn.nodes, .slice d' nn.arcs.length c'] 29) = W4 at *
  have y0 := N4.out.cell (k := 0) rfl
  have y1 := N4.out.cell (k := 1) rfl
  have z0 := M4.out.cell (k := 0) rfl
  have z1 := M4.out.cell (k := 1) rfl
  simp only [List.getElem_toArray, List.getElem_cons_zero, List.getElem_cons_succ] at y0 y1 z0 z1
  go_wp2_with (first
    | (go_at_call 7; (with_reducible refine (AW.out _).mono ?_); rintro e W6 ⟨rfl, b6⟩; have L6 := hiddenN (L5.out.trans (b6.mono L5.out.size)); clear b6)
    | (go_at_call 6; (with_reducible refine (SN.out _ _ _ _ _ Q4.out P4.out).mono ?_); rintro e W5 ⟨rfl, b5⟩; have L5 := hiddenN (L4.out.trans (b5.mono L4.out.size)); clear b5))
  go_ret
  exact ⟨rfl, L6.out⟩
end Go.Proofs.Ytnlmbffdeknbjaa

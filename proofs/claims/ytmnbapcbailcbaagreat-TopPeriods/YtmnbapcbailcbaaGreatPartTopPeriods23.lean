/- Texts of one chain, laid one behind the other. -/
import Derived.Test.YtmnbapcbailcbaaGreatPartTopPeriods19
import Derived.Test.YtmnbapcbailcbaaGreatPartTopPeriods3
namespace Go.Proofs.YtmnbapcbailcbaaGreat
open Go.ChangeShapes Go.WideShapes Go.ChangeAt Go.RowKit
theorem sizeA : ∀ w, (sizeOf 65).run Tryz.prog w = .ok 3 w := fun _ => by kernel_rfl
theorem wpList_storeA (w : World) {ops : Array Oper} {rest : List Oper} {o : Oper} {a : Act} {Q : Exit → Act → World → Prop} (hgd : o.guard = none) (x y : Operand) (ho : o.op = .store 65 x y) (hdst : o.dst = none)
    (b : Nat) (c0 c1 c2 : Value) (s0 : ByteArray) (t1 : Int) (p2 : Option Addr) (l2 k2 : Nat) (hx : a.eval x = .pointer (some ⟨b, 0, none⟩)) (hy : a.eval y = .agg #[.string s0, .int .u8 t1, .slice p2 l2 k2]) (hB : BlkA 65 b w #[c0, c1, c2])
    (h : ∀ w', BlkA 65 b w' #[.string s0, .int .u8 t1, .slice p2 l2 k2] → But b w w' → wpList Tryz.prog ops Q rest a w') : wpList Tryz.prog ops Q (o :: rest) a w := by
  refine wpList_plain hgd fun K hK => ?_
  have z0 : w.cell? ⟨b, 0, none⟩ = some c0 := hB.cell rfl
  have f0 := hB.frozen 0
  have z1 : w.cell? ⟨b, 1, none⟩ = some c1 := hB.cell rfl
  have f1 := hB.frozen 1
  have z2 : w.cell? ⟨b, 2, none⟩ = some c2 := hB.cell rfl
  have f2 := hB.frozen 2
  have hs : BlkA 65 b (((w.setCell ⟨b, 0, none⟩ (.string s0)).setCell ⟨b, 1, none⟩ (.int .u8 t1)).setCell ⟨b, 2, none⟩ (.slice p2 l2 k2)) #[.string s0, .int .u8 t1, .slice p2 l2 k2] ∧ But b w (((w.setCell ⟨b, 0, none⟩ (.string s0)).setCell ⟨b, 1, none⟩ (.int .u8 t1)).setCell ⟨b, 2, none⟩ (.slice p2 l2 k2)) := ⟨(((hB.set 0 (.string s0)).set 1 (.int .u8 t1)).set 2 (.slice p2 l2 k2)), (((But.set w b 0 (.string s0)).trans (But.set _ b 1 (.int .u8 t1))).trans (But.set _ b 2 (.slice p2 l2 k2)))⟩
  have hsz := sizeA
  unfold Oper.wp execOp
  simp only [ho, hx, hy]
  simp [go_sem, hsz, hdst, z0, f0, z1, f1, z2, f2, Oper.upon]
  exact hK _ _ (h _ hs.1 hs.2)
theorem sizeE : ∀ w, (sizeOf 59).run Tryz.prog w = .ok 5 w := fun _ => by kernel_rfl
theorem wpList_storeE (w : World) {ops : Array Oper} {rest : List Oper} {o : Oper} {a : Act} {Q : Exit → Act → World → Prop} (hgd : o.guard = none) (x y : Operand) (ho : o.op = .store 59 x y) (hdst : o.dst = none)
    (b : Nat) (c0 c1 c2 c3 c4 : Value) (t0 : Int) (t1 : Int) (t2 : Int) (t3 : Int) (p4 : Option Addr) (l4 k4 : Nat) (hx : a.eval x = .pointer (some ⟨b, 0, none⟩)) (hy : a.eval y = .agg #[.int .i64 t0, .int .i64 t1, .int .i64 t2, .int .i64 t3, .slice p4 l4 k4]) (hB : BlkA 59 b w #[c0, c1, c2, c3, c4])
    (h : ∀ w', BlkA 59 b w' #[.int .i64 t0, .int .i64 t1, .int .i64 t2, .int .i64 t3, .slice p4 l4 k4] → But b w w' → wpList Tryz.prog ops Q rest a w') : wpList Tryz.prog ops Q (o :: rest) a w := by
  refine wpList_plain hgd fun K hK => ?_
  have z0 : w.cell? ⟨b, 0, none⟩ = some c0 := hB.cell rfl
  have f0 := hB.frozen 0
  have z1 : w.cell? ⟨b, 1, none⟩ = some c1 := hB.cell rfl
  have f1 := hB.frozen 1
  have z2 : w.cell? ⟨b, 2, none⟩ = some c2 := hB.cell rfl
  have f2 := hB.frozen 2
  have z3 : w.cell? ⟨b, 3, none⟩ = some c3 := hB.cell rfl
  have f3 := hB.frozen 3
  have z4 : w.cell? ⟨b, 4, none⟩ = some c4 := hB.cell rfl
  have f4 := hB.frozen 4
  have hs : BlkA 59 b (((((w.setCell ⟨b, 0, none⟩ (.int .i64 t0)).setCell ⟨b, 1, none⟩ (.int .i64 t1)).setCell ⟨b, 2, none⟩ (.int .i64 t2)).setCell ⟨b, 3, none⟩ (.int .i64 t3)).setCell ⟨b, 4, none⟩ (.slice p4 l4 k4)) #[.int .i64 t0, .int .i64 t1, .int .i64 t2, .int .i64 t3, .slice p4 l4 k4] ∧ But b w (((((w.setCell ⟨b, 0, none⟩ (.int .i64 t0)).setCell ⟨b, 1, none⟩ (.int .i64 t1)).setCell ⟨b, 2, none⟩ (.int .i64 t2)).setCell ⟨b, 3, none⟩ (.int .i64 t3)).setCell ⟨b, 4, none⟩ (.slice p4 l4 k4)) := ⟨(((((hB.set 0 (.int .i64 t0)).set 1 (.int .i64 t1)).set 2 (.int .i64 t2)).set 3 (.int .i64 t3)).set 4 (.slice p4 l4 k4)), (((((But.set w b 0 (.int .i64 t0)).trans (But.set _ b 1 (.int .i64 t1))).trans (But.set _ b 2 (.int .i64 t2))).trans (But.set _ b 3 (.int .i64 t3))).trans (But.set _ b 4 (.slice p4 l4 k4)))⟩
  have hsz := sizeE
  unfold Oper.wp execOp
  simp only [ho, hx, hy]
  simp [go_sem, hsz, hdst, z0, f0, z1, f1, z2, f2, z3, f3, z4, f4, Oper.upon]
  exact hK _ _ (h _ hs.1 hs.2)
theorem sizeP : ∀ w, (sizeOf 67).run Tryz.prog w = .ok 3 w := fun _ => by kernel_rfl
theorem wpList_storeP (w : World) {ops : Array Oper} {rest : List Oper} {o : Oper} {a : Act} {Q : Exit → Act → World → Prop} (hgd : o.guard = none) (x y : Operand) (ho : o.op = .store 67 x y) (hdst : o.dst = none)
    (b : Nat) (c0 c1 c2 : Value) (s0 : ByteArray) (t1 : Int) (t2 : Int) (hx : a.eval x = .pointer (some ⟨b, 0, none⟩)) (hy : a.eval y = .agg #[.string s0, .int .i64 t1, .int .i64 t2]) (hB : BlkA 67 b w #[c0, c1, c2])
    (h : ∀ w', BlkA 67 b w' #[.string s0, .int .i64 t1, .int .i64 t2] → But b w w' → wpList Tryz.prog ops Q rest a w') : wpList Tryz.prog ops Q (o :: rest) a w := by
  refine wpList_plain hgd fun K hK => ?_
  have z0 : w.cell? ⟨b, 0, none⟩ = some c0 := hB.cell rfl
  have f0 := hB.frozen 0
  have z1 : w.cell? ⟨b, 1, none⟩ = some c1 := hB.cell rfl
  have f1 := hB.frozen 1
  have z2 : w.cell? ⟨b, 2, none⟩ = some c2 := hB.cell rfl
  have f2 := hB.frozen 2
  have hs : BlkA 67 b (((w.setCell ⟨b, 0, none⟩ (.string s0)).setCell ⟨b, 1, none⟩ (.int .i64 t1)).setCell ⟨b, 2, none⟩ (.int .i64 t2)) #[.string s0, .int .i64 t1, .int .i64 t2] ∧ But b w (((w.setCell ⟨b, 0, none⟩ (.string s0)).setCell ⟨b, 1, none⟩ (.int .i64 t1)).setCell ⟨b, 2, none⟩ (.int .i64 t2)) := ⟨(((hB.set 0 (.string s0)).set 1 (.int .i64 t1)).set 2 (.int .i64 t2)), (((But.set w b 0 (.string s0)).trans (But.set _ b 1 (.int .i64 t1))).trans (But.set _ b 2 (.int .i64 t2)))⟩
  have hsz := sizeP
  unfold Oper.wp execOp
  simp only [ho, hx, hy]
  simp [go_sem, hsz, hdst, z0, f0, z1, f1, z2, f2, Oper.upon]
  exact hK _ _ (h _ hs.1 hs.2)
theorem sizeF : ∀ w, (sizeOf 104).run Tryz.prog w = .ok 4 w := fun _ => by kernel_rfl
theorem wpList_storeF (w : World) {ops : Array Oper} {rest : List Oper} {o : Oper} {a : Act} {Q : Exit → Act → World → Prop} (hgd : o.guard = none) (x y : Operand) (ho : o.op = .store 104 x y) (hdst : o.dst = none)
    (b : Nat) (c0 c1 c2 c3 : Value) (t0 : Int) (t1 : Int) (t2 : Int) (t3 : Int) (hx : a.eval x = .pointer (some ⟨b, 0, none⟩)) (hy : a.eval y = .agg #[.int .i64 t0, .int .u8 t1, .int .i64 t2, .int .u8 t3]) (hB : BlkA 104 b w #[c0, c1, c2, c3])
    (h : ∀ w', BlkA 104 b w' #[.int .i64 t0, .int .u8 t1, .int .i64 t2, .int .u8 t3] → But b w w' → wpList Tryz.prog ops Q rest a w') : wpList Tryz.prog ops Q (o :: rest) a w := by
  refine wpList_plain hgd fun K hK => ?_
  have z0 : w.cell? ⟨b, 0, none⟩ = some c0 := hB.cell rfl
  have f0 := hB.frozen 0
  have z1 : w.cell? ⟨b, 1, none⟩ = some c1 := hB.cell rfl
  have f1 := hB.frozen 1
  have z2 : w.cell? ⟨b, 2, none⟩ = some c2 := hB.cell rfl
  have f2 := hB.frozen 2
  have z3 : w.cell? ⟨b, 3, none⟩ = some c3 := hB.cell rfl
  have f3 := hB.frozen 3
  have hs : BlkA 104 b ((((w.setCell ⟨b, 0, none⟩ (.int .i64 t0)).setCell ⟨b, 1, none⟩ (.int .u8 t1)).setCell ⟨b, 2, none⟩ (.int .i64 t2)).setCell ⟨b, 3, none⟩ (.int .u8 t3)) #[.int .i64 t0, .int .u8 t1, .int .i64 t2, .int .u8 t3] ∧ But b w ((((w.setCell ⟨b, 0, none⟩ (.int .i64 t0)).setCell ⟨b, 1, none⟩ (.int .u8 t1)).setCell ⟨b, 2, none⟩ (.int .i64 t2)).setCell ⟨b, 3, none⟩ (.int .u8 t3)) := ⟨((((hB.set 0 (.int .i64 t0)).set 1 (.int .u8 t1)).set 2 (.int .i64 t2)).set 3 (.int .u8 t3)), ((((But.set w b 0 (.int .i64 t0)).trans (But.set _ b 1 (.int .u8 t1))).trans (But.set _ b 2 (.int .i64 t2))).trans (But.set _ b 3 (.int .u8 t3)))⟩
  have hsz := sizeF
  unfold Oper.wp execOp
  simp only [ho, hx, hy]
  simp [go_sem, hsz, hdst, z0, f0, z1, f1, z2, f2, z3, f3, Oper.upon]
  exact hK _ _ (h _ hs.1 hs.2)
theorem sizeL : ∀ w, (sizeOf 142).run Tryz.prog w = .ok 3 w := fun _ => by kernel_rfl
theorem wpList_storeL (w : World) {ops : Array Oper} {rest : List Oper} {o : Oper} {a : Act} {Q : Exit → Act → World → Prop} (hgd : o.guard = none) (x y : Operand) (ho : o.op = .store 142 x y) (hdst : o.dst = none)
    (b : Nat) (c0 c1 c2 : Value) (m0 : Nat) (p1 : Option Addr) (l1 k1 : Nat) (p2 : Option Addr) (l2 k2 : Nat) (hx : a.eval x = .pointer (some ⟨b, 0, none⟩)) (hy : a.eval y = .agg #[.map (some m0), .slice p1 l1 k1, .slice p2 l2 k2]) (hB : BlkA 142 b w #[c0, c1, c2])
    (h : ∀ w', BlkA 142 b w' #[.map (some m0), .slice p1 l1 k1, .slice p2 l2 k2] → But b w w' → wpList Tryz.prog ops Q rest a w') : wpList Tryz.prog ops Q (o :: rest) a w := by
  refine wpList_plain hgd fun K hK => ?_
  have z0 : w.cell? ⟨b, 0, none⟩ = some c0 := hB.cell rfl
  have f0 := hB.frozen 0
  have z1 : w.cell? ⟨b, 1, none⟩ = some c1 := hB.cell rfl
  have f1 := hB.frozen 1
  have z2 : w.cell? ⟨b, 2, none⟩ = some c2 := hB.cell rfl
  have f2 := hB.frozen 2
  have hs : BlkA 142 b (((w.setCell ⟨b, 0, none⟩ (.map (some m0))).setCell ⟨b, 1, none⟩ (.slice p1 l1 k1)).setCell ⟨b, 2, none⟩ (.slice p2 l2 k2)) #[.map (some m0), .slice p1 l1 k1, .slice p2 l2 k2] ∧ But b w (((w.setCell ⟨b, 0, none⟩ (.map (some m0))).setCell ⟨b, 1, none⟩ (.slice p1 l1 k1)).setCell ⟨b, 2, none⟩ (.slice p2 l2 k2)) := ⟨(((hB.set 0 (.map (some m0))).set 1 (.slice p1 l1 k1)).set 2 (.slice p2 l2 k2)), (((But.set w b 0 (.map (some m0))).trans (But.set _ b 1 (.slice p1 l1 k1))).trans (But.set _ b 2 (.slice p2 l2 k2)))⟩
  have hsz := sizeL
  unfold Oper.wp execOp
  simp only [ho, hx, hy]
  simp [go_sem, hsz, hdst, z0, f0, z1, f1, z2, f2, Oper.upon]
  exact hK _ _ (h _ hs.1 hs.2)
end Go.Proofs.YtmnbapcbailcbaaGreat

/- Texts of one chain, laid one behind the other. -/
import Derived.Test.YtdjplmlfcolklaaPartCodeChecks14
import Derived.Test.YtdjplmlfcolklaaPartCodeChecks4
import Derived.Laws.Tables
namespace Go.Proofs.Ytdjplmlfcolklaa
open Go.ChangeShapes Go.WideShapes Go.ChangeAt Go.RowKit
theorem setRow_butC (w : World) (b : Nat) (cs : Array Value) : But b w (w.setRow b cs) := by
  refine ⟨rfl, rfl, rfl, by simp [World.setRow], fun k hk hn => ?_⟩
  simp only [World.setRow, Array.getElem?_modify]
  rw [if_neg (Ne.symm hn)]
theorem run_storeW (w : World) {o : Oper} {ρ : Operand → Value} (T : TypeId) (x y : Operand) (ho : o.op = .store T x y) (b : Nat) (S : TypeId) (old cells : Array Value) (hx : ρ x = .pointer (some ⟨b, 0, none⟩)) (hy : ρ y = .agg cells) (hB : BlkA S b w old) (hi : (Try.prog.info? T).map (·.size) = some cells.size) (hold : old.size = cells.size) (h1 : cells.all (·.oneCell') = true) :
    (execOp ρ o).run Try.prog w = .ok .skip (w.setRow b cells) := by
  unfold execOp
  simp only [ho, hx, hy, Instr.storeAt, Instr.sureAddr, Sem.run_bind, Sem.run_pure, Result.andThen_ok, run_storeVar_row w b S T old cells hB hi hold h1]
theorem mark_storeC {w : World} {o : Oper} {ρ : Operand → Value} (T : TypeId) (x y : Operand) (ho : o.op = .store T x y) (b : Nat) (S : TypeId) (old cells : Array Value) (hx : ρ x = .pointer (some ⟨b, 0, none⟩)) (hy : ρ y = .agg cells) (hB : BlkA S b w old) (hi : (Try.prog.info? T).map (·.size) = some cells.size) (hold : old.size = cells.size) (h1 : cells.all (·.oneCell') = true)
    {Z : List PanicEntry → World → Prop} {U : World → Value → Prop} (h : ∀ w', BlkA S b w' cells → But b w w' → U w' undef) : markUponP Try.prog w Z U ((execOp ρ o).run Try.prog w) := by
  rw [run_storeW w T x y ho b S old cells hx hy hB hi hold h1]
  exact h _ (setRow_heap w b old cells S _ hB) (setRow_butC w b cells)
theorem mark_enter {P : Program} {w : World} {Z : List PanicEntry → World → Prop} {T : World → Value → Prop} {r : Result Next} {f : FuncId} {args : Array Value} (hr : r = .ok (.enter f args) w) (h : Calls P f args w (fun e w'' => (∃ v, e = .returned v ∧ T w'' v) ∨ (∃ c, e = .panicked c ∧ Z c w''))) : markUponP P w Z T r := by
  rw [hr]; exact ⟨rfl, h⟩
end Go.Proofs.Ytdjplmlfcolklaa

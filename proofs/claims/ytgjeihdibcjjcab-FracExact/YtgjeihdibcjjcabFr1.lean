/- frac's inner functions: a number that fits or a panic; what is tried, and the panic caught. -/
import Derived.Test.YtgjeihdibcjjcabFrMath
import Derived.Test.YtgjeihdibcjjcabOwn
import Derived.Test.YtgjeihdibcjjcabEnds
import Derived.Recover
import Derived.Laws.Pointers
import Derived.Laws.NewBlocks
namespace Go.Proofs.Ytgjeihdibcjjcab
open Go.ChangeShapes Go.WideShapes Go.ChangeAt Go.RowKit

/-- The panic that gives up a number that does not fit. -/
def bigPanic : List PanicEntry := [{ v := .iface 25 (.int .i64 4), recovered := false }]

theorem fit_yes (x : Int) (w : World) : Calls Try.prog 51 #[.int .i64 x, .bool true] w fun e w' => e = .returned (.int .i64 x) ∧ w = w' := by
  go_enter Try.func51, Try.ntmps51
  go_wp2
  go_ret
  exact ⟨rfl, rfl⟩

theorem fit_no (x : Int) (w : World) : Calls Try.prog 51 #[.int .i64 x, .bool false] w fun e w' => e = .panicked bigPanic ∧ w = w' := by
  have hp : ∀ w : World, (Instr.panic (.iface 25 (.int .i64 4))).run Try.prog w = .halt (.panic (.iface 25 (.int .i64 4))) w := fun _ => rfl
  go_enter Try.func51, Try.ntmps51
  go_wp2
  exact ⟨rfl, rfl, rfl⟩

theorem catch_panicking (p : Addr) (x : Int) (w : World) (hc : w.cell? p = some (.int .i64 x)) (hz : w.frozen? p = false) :
    CallsD Try.prog 50 #[.pointer (some p)] (.panicking bigPanic) w fun e u' w' =>
      e = .returned (.tuple #[]) ∧ u' = .panicking [{ v := .iface 25 (.int .i64 4), recovered := true }] ∧ w' = w.setCell p (.int .i64 4) := by
  refine callsD_of_wpS Try.func50 rfl fun c₀ cs hu => ?_
  apply wpS_seq
  apply wpS_region
  simp [wpOpsS, go_sem, recoverD, hu, Try.ntmps50, Exit.thenS, bigPanic]
  refine wpS_cond (t := true) (by simp [Act.eval, Array.replicate]) ?_
  simp only [if_true]
  apply wpS_region
  simp [wpOpsS, go_sem, hc, hz, bodyPostS, results, Try.results50]

theorem catch_idle (p : Addr) (w : World) :
    CallsD Try.prog 50 #[.pointer (some p)] .returning w fun e u' w' => e = .returned (.tuple #[]) ∧ u' = .returning ∧ w' = w := by
  refine callsD_of_wpS Try.func50 rfl fun c₀ cs hu => ?_
  apply wpS_seq
  apply wpS_region
  simp [wpOpsS, go_sem, recoverD, hu, Try.ntmps50, Exit.thenS]
  refine wpS_cond (t := false) (by simp [Act.eval, Array.replicate]) ?_
  simp only [Bool.false_eq_true, if_false]
  refine wpS_of_wp (wp_skip ?_)
  cases c₀
  simp_all [bodyPostS, results, Try.results50]

/-- The greatest common divisor of two, where it fits. -/
theorem divisor_yes (a b : Int) (w : World) (ha : -9223372036854775808 ≤ a ∧ a ≤ 9223372036854775807) (hb : -9223372036854775808 ≤ b ∧ b ≤ 9223372036854775807) (hg : gg a b ≤ 9223372036854775807) :
    Calls Try.prog 45 #[.int .i64 a, .int .i64 b] w fun e w' => e = .returned (.int .i64 (gg a b : Nat)) ∧ Below w.heap.size w w' := by
  have r := inR2 ha hb
  have e1 : gcdO 0 [a, b] = gg a b := by simp [gcdO, gg]
  have v : gcdV [a, b] = (gg a b : Nat) := by rw [gcdV, e1]; exact fitV_yes (by omega)
  have f : gcdB [a, b] = true := by rw [gcdB, e1]; exact fitB_yes (by omega)
  have hgcd := fun x w => gcd_any x [a, b] 2 2 w rfl (by decide) r
  rw [v, f] at hgcd
  clear v f e1 r
  go_enter Try.func45, Try.ntmps45
  go_wp2_with (first
    | (go_at_call 49; refine (hgcd _ _ (at2n ?_)).mono ?_; (simp); rintro e w' ⟨n1, rfl, rfl⟩)
    | (go_at_call 51; refine (fit_yes _ _).mono ?_; rintro e w' ⟨rfl, rfl⟩))
  go_ret
  exact ⟨rfl, bdrew ((Below.refl _ _).alloc (Nat.le_refl _) _) n1⟩

/-- A new variable of two cells, and of one, behind calls that turned nothing old. -/
structure Var2 (w : World) (b : Nat) (x y : Value) : Prop where
  c0 : w.cell? ⟨b, 0, none⟩ = some x
  c1 : w.cell? ⟨b, 1, none⟩ = some y
  f0 : w.frozen? ⟨b, 0, none⟩ = false
  f1 : w.frozen? ⟨b, 1, none⟩ = false
  lt : b < w.heap.size
theorem Var2.later {w w' : World} {b : Nat} {x y : Value} (h : Var2 w b x y) {B : Nat} (hb : Below B w w') (hB : b < B) : Var2 w' b x y :=
  ⟨(hb.cell (p := ⟨b, 0, none⟩) hB).trans h.c0, (hb.cell (p := ⟨b, 1, none⟩) hB).trans h.c1, (hb.frozen (p := ⟨b, 0, none⟩) hB).trans h.f0, (hb.frozen (p := ⟨b, 1, none⟩) hB).trans h.f1, Nat.lt_of_lt_of_le h.lt hb.size⟩
theorem var2_new (w : World) (x y : Value) (t : TypeId) : Var2 (w.alloc (.cells #[x, y] t)) w.heap.size x y := ⟨by simp, by simp, by simp, by simp, by simp⟩
structure Var1 (w : World) (b : Nat) (x : Value) : Prop where
  c0 : w.cell? ⟨b, 0, none⟩ = some x
  f0 : w.frozen? ⟨b, 0, none⟩ = false
  lt : b < w.heap.size
theorem Var1.later {w w' : World} {b : Nat} {x : Value} (h : Var1 w b x) {B : Nat} (hb : Below B w w') (hB : b < B) : Var1 w' b x :=
  ⟨(hb.cell (p := ⟨b, 0, none⟩) hB).trans h.c0, (hb.frozen (p := ⟨b, 0, none⟩) hB).trans h.f0, Nat.lt_of_lt_of_le h.lt hb.size⟩
theorem var1_new (w : World) (x : Value) (t : TypeId) : Var1 (w.alloc (.cells #[x] t)) w.heap.size x := ⟨by simp, by simp, by simp⟩
theorem Var1.alloc {w : World} {b : Nat} {x : Value} (h : Var1 w b x) (o : Obj) : Var1 (w.alloc o) b x := h.later ((Below.refl w.heap.size w).alloc (Nat.le_refl _) o) h.lt
theorem Var2.alloc {w : World} {b : Nat} {x y : Value} (h : Var2 w b x y) (o : Obj) : Var2 (w.alloc o) b x y := h.later ((Below.refl w.heap.size w).alloc (Nat.le_refl _) o) h.lt
theorem var1_at (w : World) (x : Value) (t : TypeId) {b : Nat} (h : b = w.heap.size) : Var1 (w.alloc (.cells #[x] t)) b x := h ▸ var1_new w x t
theorem var2_at (w : World) (x y : Value) (t : TypeId) {b : Nat} (h : b = w.heap.size) : Var2 (w.alloc (.cells #[x, y] t)) b x y := h ▸ var2_new w x y t
/-- A store elsewhere turns it not; a store into it is read there. -/
theorem size_set (w : World) (p : Addr) (v : Value) : (w.setCell p v).heap.size = w.heap.size := by simp [World.setCell]
theorem Var1.other {w : World} {b : Nat} {x : Value} (h : Var1 w b x) {p : Addr} (hp : p.block ≠ b) (v : Value) : Var1 (w.setCell p v) b x :=
  ⟨by rw [World.cell?_setCell_other _ _ _ _ (fun e => hp (by rw [e]))]; exact h.c0, by rw [World.frozen?_setCell]; exact h.f0, by rw [size_set]; exact h.lt⟩
theorem Var2.other {w : World} {b : Nat} {x y : Value} (h : Var2 w b x y) {p : Addr} (hp : p.block ≠ b) (v : Value) : Var2 (w.setCell p v) b x y :=
  ⟨by rw [World.cell?_setCell_other _ _ _ _ (fun e => hp (by rw [e]))]; exact h.c0, by rw [World.cell?_setCell_other _ _ _ _ (fun e => hp (by rw [e]))]; exact h.c1,
    by rw [World.frozen?_setCell]; exact h.f0, by rw [World.frozen?_setCell]; exact h.f1, by rw [size_set]; exact h.lt⟩
theorem Var1.put {w : World} {b : Nat} {x : Value} (h : Var1 w b x) (v : Value) : Var1 (w.setCell ⟨b, 0, none⟩ v) b v :=
  ⟨World.cell?_setCell_same _ _ _ h.c0, by rw [World.frozen?_setCell]; exact h.f0, by rw [size_set]; exact h.lt⟩
theorem Var2.put {w : World} {b : Nat} {x y : Value} (h : Var2 w b x y) (u v : Value) : Var2 ((w.setCell ⟨b, 0, none⟩ u).setCell ⟨b, 1, none⟩ v) b u v :=
  ⟨by rw [World.cell?_setCell_other _ _ _ _ (by simp)]; exact World.cell?_setCell_same _ _ _ h.c0, World.cell?_setCell_same _ _ _ ((World.cell?_setCell_other _ _ _ _ (by simp)).trans h.c1), by rw [World.frozen?_setCell, World.frozen?_setCell]; exact h.f0, by rw [World.frozen?_setCell, World.frozen?_setCell]; exact h.f1, by rw [size_set, size_set]; exact h.lt⟩

/-- How a try ends: OK, or ErrBig where what was tried panicked; behind it the error's own variable alone is written. -/
def Tried (w : World) (Z : Bool → World → Prop) (e : Ending) (w' : World) : Prop :=
  ∃ (ok : Bool) (w1 : World), Z ok w1 ∧ e = .returned (.int .i64 (if ok then 0 else 4)) ∧ w' = w1.setCell ⟨w.heap.size, 0, none⟩ (.int .i64 (if ok then 0 else 4))
def Trial (w : World) (Z : Bool → World → Prop) (e : Ending) (w' : World) : Prop :=
  Var1 w' w.heap.size (.int .i64 0) ∧ ((e = .returned (.tuple #[]) ∧ Z true w') ∨ (e = .panicked bigPanic ∧ Z false w'))

/-- What is tried, by its own contract: OK, or ErrBig where it panics. -/
theorem attempt_any (K : FuncId) (caps : Array Value) (w : World) (Z : Bool → World → Prop)
    (hK : ∀ w', (callFunc K caps).run Try.prog w' = .ok (.enter K caps) w') (h : Calls Try.prog K caps (w.alloc (.cells #[.int .i64 0] 25)) (Trial w Z)) :
    Calls Try.prog 35 #[.func (.func K) #[] caps] w (Tried w Z) := by
  have hmf : ∀ (fn : Fn) (first cap : Array Value) (w : World), (Instr.makeFunc fn first cap).run Try.prog w = .ok (.func fn first cap) w := fun _ _ _ _ => rfl
  go_enter_defers Try.func35, Try.ntmps35
  go_wp2
  refine h.mono ?_
  rintro e w1 ⟨⟨hc, hf, -⟩, hz⟩
  rcases hz with ⟨rfl, hz⟩ | ⟨rfl, hz⟩
  · go_wp2
    refine leaves_cons (f := 50) (args := #[.pointer (some ⟨w.heap.size, 0, none⟩)]) (by simp) (by simp [go_sem]) ?_
    refine (catch_idle ⟨w.heap.size, 0, none⟩ _).mono ?_
    rintro e u' w'' ⟨rfl, rfl, rfl⟩
    simp [Leaves, settle, results, Try.results35, go_sem, hc]
    exact ⟨true, w1, hz, rfl, rfl⟩
  · refine leaves_cons (f := 50) (args := #[.pointer (some ⟨w.heap.size, 0, none⟩)]) (by simp [bigPanic]) (by simp [go_sem]) ?_
    refine (catch_panicking ⟨w.heap.size, 0, none⟩ 0 _ hc hf).mono ?_
    rintro e u' w'' ⟨rfl, rfl, rfl⟩
    simp [Leaves, settle, results, Try.results35, go_sem, hc]
    exact ⟨false, w1, hz, rfl, rfl⟩
end Go.Proofs.Ytgjeihdibcjjcab

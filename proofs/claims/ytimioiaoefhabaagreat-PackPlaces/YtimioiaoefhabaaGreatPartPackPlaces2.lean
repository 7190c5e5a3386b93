/- Texts of one chain, laid one behind the other. -/
import Derived.Test.YtimioiaoefhabaaGreatRows
import Derived.Test.YtimioiaoefhabaaGreatPartPackPlaces1
import Derived.WalkKit
import Derived.ProofKit
import Derived.OpenShut
import Derived.BigQuiet
import Derived.Outline
namespace Go.Proofs.YtimioiaoefhabaaGreat
open Go.ChangeShapes Go.WideShapes Go.ChangeAt Go.RowKit
/-- A row of numbers lies in memory where a slice says. -/
def At (w : World) (a : Option Addr) (zs : List Int) : Prop :=
  zs = [] ∨ ∃ b off, a = some ⟨b, off, none⟩ ∧ ∀ k, k < zs.length → w.cell? ⟨b, off + k, none⟩ = some (.int .i64 (nth zs k))
end Go.Proofs.YtimioiaoefhabaaGreat
namespace Go.Proofs.YtimioiaoefhabaaGreat
open Go Go.ChangeShapes Go.WideShapes Go.ChangeAt Go.RowKit
section
variable {P : Program} {ops : Array Oper} {md : Region.Mode} {C : World → Prop} {chain : List PanicEntry} {p : Nat} {d : List Deferred}
/-- Operation p is a call that panics, in every world of the class. -/
def EndsAt (P : Program) (ops : Array Oper) (C : World → Prop) (chain : List PanicEntry) (p : Nat) (a : Act) : Prop :=
  ∃ o, ops[p]? = some o ∧ Region.wanted o (yielded ops a.tmps) = true ∧ ∀ w, C w → ∃ f args, (execOp a.eval o).run P w = .ok (.enter f args) w ∧ Calls P f args w (fun e w' => e = .panicked chain ∧ C w')
/-- Whatever is picked from here on: each operation is quiet, or it is the one that panics, which comes up at the last. -/
def AnyEnds (P : Program) (md : Region.Mode) (ops : Array Oper) (C : World → Prop) (chain : List PanicEntry) (p : Nat) (d : List Deferred) : Nat → Array Bool → Act → Prop
  | 0, listed, a => a.defers = d ∧ Region.ready md ops listed = [p] ∧ EndsAt P ops C chain p a
  | f + 1, listed, a => a.defers = d ∧ Region.ready md ops listed ≠ [] ∧
      ∀ i ∈ Region.ready md ops listed, (i = p ∧ EndsAt P ops C chain p a) ∨ qOp P ops C i (AnyEnds P md ops C chain p d f (listed.setIfInBounds i true)) a
theorem put_defers (a : Act) (x : Option Tmp) (v : Value) : (a.put x v).defers = a.defers := by cases x <;> rfl
theorem EndsAt.wpOp {Q' : Exit → Act → World → Prop} {K : Act → World → Prop} {a : Act} {w : World} (h : EndsAt P ops C chain p a) (hw : C w) (hQ : ∀ w, C w → Q' (.panic chain) a w) : wpOp P ops Q' p K a w := by
  obtain ⟨o, ho, hwant, hr⟩ := h
  obtain ⟨f, args, hrun, hc⟩ := hr w hw
  unfold Go.wpOp
  simp only [ho, hwant, if_true]
  refine .inl ?_
  unfold Oper.wp
  rw [hrun]
  exact hc.mono fun e w' ⟨he, hw'⟩ => by subst he; exact hQ _ hw'
theorem AnyEnds.any {Q' : Exit → Act → World → Prop} (hQ : ∀ a w, a.defers = d → C w → Q' (.panic chain) a w) (g : Nat) : ∀ (f : Nat) (listed : Array Bool) (a : Act) (w : World), C w →
    AnyEnds P md ops C chain p d f listed a → wpAny P md ops Q' (f + (g + 1)) listed a w
  | 0, listed, a, w, hw, h => by
    rw [Nat.zero_add]
    refine ⟨fun h0 => (by rw [h.2.1] at h0; cases h0), fun i hi => ?_⟩
    rw [h.2.1] at hi
    have e : i = p := by simpa using hi
    subst e
    exact h.2.2.wpOp hw (fun w' hw' => hQ _ _ h.1 hw')
  | f + 1, listed, a, w, hw, h => by
    rw [show f + 1 + (g + 1) = (f + (g + 1)) + 1 by omega]
    refine ⟨fun h0 => absurd h0 h.2.1, fun i hi => ?_⟩
    rcases h.2.2 i hi with ⟨e, he⟩ | hq
    · subst e
      exact he.wpOp hw (fun w' hw' => hQ _ _ h.1 hw')
    · exact wpOp_of_qOp hw (fun a' w' hw' k => AnyEnds.any hQ g f _ a' w' hw' k) hq
/-- It panics, too, where an operation that is apart from it has not come up yet. -/
theorem EndsAt.back {oi op : Oper} {v : Value} {a : Act} (hp : ops[p]? = some op) (hap : oi.apart ops op = true) (hsp : ∀ cs b, op.op ≠ .select cs b) (h : EndsAt P ops C chain p (a.put oi.dst v)) : EndsAt P ops C chain p a := by
  obtain ⟨h1, -, -⟩ := Oper.apart_spec hap
  obtain ⟨o, ho, hwant, hr⟩ := h
  have e : o = op := Option.some.inj (ho.symm.trans hp)
  subst e
  rw [wanted_put o a oi.dst v h1] at hwant
  refine ⟨o, ho, hwant, fun w hw => ?_⟩
  have := hr w hw
  rwa [execOp_put o hsp a oi.dst v h1] at this
theorem AnyEnds.first {i : Nat} {oi : Oper} {v : Value} (hi : ops[i]? = some oi) (hsel : ∀ (j : Nat) (o : Oper) cs b, ops[j]? = some o → o.op ≠ .select cs b) (hip : i ≠ p) :
    ∀ (f : Nat) (listed : Array Bool) (a : Act),
      (∀ j oj, ops[j]? = some oj → j ≠ i → listed.getD j true = false → (∀ e ∈ oj.after, Region.binds md e = true → e.on ≠ i) → oi.apart ops oj = true) →
      i ∈ Region.ready md ops listed → YieldsIn P ops C oi v a →
      AnyEnds P md ops C chain p d f (listed.setIfInBounds i true) (a.put oi.dst v) → AnyEnds P md ops C chain p d (f + 1) listed a := by
  intro f
  -- an operation that may come up now, i not listed: it does not wait for i, so it is apart from i
  have apart : ∀ (listed : Array Bool), (∀ j oj, ops[j]? = some oj → j ≠ i → listed.getD j true = false → (∀ e ∈ oj.after, Region.binds md e = true → e.on ≠ i) → oi.apart ops oj = true) →
      i ∈ Region.ready md ops listed → ∀ j, j ∈ Region.ready md ops listed → j ≠ i → ∃ oj, ops[j]? = some oj ∧ oi.apart ops oj = true ∧ listed.getD j true = false := by
    intro listed hfree hr j hj hji
    obtain ⟨hjun, oj, hoj, hall⟩ := mem_ready.1 hj
    refine ⟨oj, hoj, hfree j oj hoj hji hjun fun e he hb heq => ?_, hjun⟩
    have h1 := hall e he hb
    have h0 := (mem_ready.1 hr).1
    rw [heq] at h1
    rcases Nat.lt_or_ge i listed.size with h' | h'
    · simp [h'] at h0 h1; rw [h0] at h1; cases h1
    · simp [Array.getElem?_eq_none h'] at h1
  induction f with
  | zero =>
    intro listed a hfree hr hy H
    refine ⟨by rw [← put_defers a oi.dst v]; exact H.1, fun h => (by rw [h] at hr; cases hr), fun j hj => ?_⟩
    by_cases hji : j = i
    · subst hji; exact .inr (hy.qOp hi H)
    · have hm := ready_mono hj hji
      rw [H.2.1] at hm
      have e : j = p := by simpa using hm
      obtain ⟨oj, hoj, hap, -⟩ := apart listed hfree hr j hj hji
      subst e
      exact .inl ⟨rfl, H.2.2.back hoj hap (fun cs b => hsel j oj cs b hoj)⟩
  | succ f ih =>
    intro listed a hfree hr hy H
    refine ⟨by rw [← put_defers a oi.dst v]; exact H.1, fun h => (by rw [h] at hr; cases hr), fun j hj => ?_⟩
    by_cases hji : j = i
    · subst hji; exact .inr (hy.qOp hi H)
    · obtain ⟨oj, hoj, hap, hjun⟩ := apart listed hfree hr j hj hji
      rcases H.2.2 j (ready_mono hj hji) with ⟨e, he⟩ | hq
      · subst e
        exact .inl ⟨rfl, he.back hoj hap (fun cs b => hsel j oj cs b hoj)⟩
      · refine .inr (qOp_mono (fun a' h3 => ih (listed.setIfInBounds j true) a' (fun k ok hk hki hun hno => hfree k ok hk hki ?_ hno) (ready_mono hr (Ne.symm hji)) h3.1 ?_)
          (qOp_put hoj hap (fun cs b => hsel i oi cs b hi) (fun cs b => hsel j oj cs b hoj) hy hq))
        · by_cases hjk : j = k
          · subst hjk; exact hjun
          · rwa [getD_set_ne true hjk] at hun
        · rw [Array.setIfInBounds_comm _ _ hji]
          exact h3.2
end
theorem gTA {α : Type} {xs : List α} {i : Nat} : xs.toArray[i]? = xs[i]? := List.getElem?_toArray
theorem gCZ {α : Type} {a : α} {l : List α} : (a :: l)[0]? = some a := List.getElem?_cons_zero
theorem gCS {α : Type} {a : α} {l : List α} {i : Nat} : (a :: l)[i + 1]? = l[i]? := List.getElem?_cons_succ
theorem gSI {α : Type} {a b : α} : (some a = some b) = (a = b) := Option.some.injEq a b
end Go.Proofs.YtimioiaoefhabaaGreat

/- Texts of one chain, laid one behind the other. -/
import Derived.Test.YtkkccomdclklhaaPartSimulAny10
import Derived.Test.YtkkccomdclklhaaPartSimulAny12
import Derived.Maps.OwnSet
namespace Go.Proofs.Ytkkccomdclklhaa
open Go.ChangeShapes Go.WideShapes Go.ChangeAt Go.RowKit
def bkA (b : BK) : Array Value := #[.int .i64 b.n, .int .i64 b.f, .int .i64 b.a]
def bkV (b : BK) : Value := .agg (bkA b)
def InK (b : BK) : Prop := (-9223372036854775808 ≤ b.n ∧ b.n ≤ 9223372036854775807) ∧ (-9223372036854775808 ≤ b.f ∧ b.f ≤ 9223372036854775807) ∧ (-9223372036854775808 ≤ b.a ∧ b.a ≤ 9223372036854775807)
def AtK (w : World) (a : Option Addr) (L : List BK) : Prop := L = [] ∨ ∃ b off, a = some ⟨b, off, none⟩ ∧ ∀ k, k < L.length → w.cell? ⟨b, off + k * 3, none⟩ = some (.int .i64 (nthBk L k).n) ∧ w.cell? ⟨b, off + k * 3 + 1, none⟩ = some (.int .i64 (nthBk L k).f) ∧ w.cell? ⟨b, off + k * 3 + 2, none⟩ = some (.int .i64 (nthBk L k).a)
theorem AtK.below {w w' : World} {a : Option Addr} {L : List BK} (h : AtK w a L) (hb : Below w.heap.size w w') : AtK w' a L := by
  rcases h with h | ⟨b, off, h1, h2⟩
  · exact .inl h
  · refine .inr ⟨b, off, h1, fun k hk => ?_⟩
    obtain ⟨c0, c1, c2⟩ := h2 k hk
    exact ⟨cellN_later hb c0, cellN_later hb c1, cellN_later hb c2⟩
/-- How an element reads: as itself. -/
def heldK (v : Value) : Option (DataW Value × List MemPlace) := some (.held v, [])
def MapK (w : World) (m : Nat) (L : List BK) : Prop :=
  ∃ (n : Nat) (D : DataW Value), w.ownsMap Try.prog 3 heldK m n D ∧ n ≤ L.length ∧ Maps.IsMap D ∧ ∀ v : Int, Maps.has D (.int .i64 v) = hasK L v ∧ D.atKey (.int .i64 v) (.held (bkV ⟨0, 0, 0⟩)) = .held (bkV (atK L v))
theorem MapK.lt {w : World} {m : Nat} {L : List BK} (h : MapK w m L) : m < w.heap.size := by
  obtain ⟨n, D, h1, -⟩ := h
  exact h1.lt
theorem MapK.keep {w w' : World} {m : Nat} {L : List BK} (h : MapK w m L) (hb : w'.heap[m]? = w.heap[m]?) : MapK w' m L := by
  obtain ⟨n, D, ⟨es, clock, h1, h2⟩, h3⟩ := h
  exact ⟨n, D, ⟨es, clock, hb.trans h1, h2⟩, h3⟩
theorem MapK.below {w w' : World} {m : Nat} {L : List BK} (h : MapK w m L) (hb : Below w.heap.size w w') : MapK w' m L := h.keep (hb.block m h.lt)
theorem keyed3 : Maps.Keyed Try.prog 3 := Maps.int_keyed Try.underlying3
theorem keyK {v : Int} (h : -9223372036854775808 ≤ v ∧ v ≤ 9223372036854775807) : keyOf Try.prog 3 (.int .i64 v) = some (.int .i64 v) := Maps.keyOf_int_mk Try.underlying3 (WalkArith.wf_i64 h)
theorem atK_app {L : List BK} {b : BK} (h : hasK L b.n = false) (v : Int) : atK (L ++ [b]) v = if v = b.n then b else atK L v := by
  unfold atK
  rw [List.find?_append]
  by_cases e : v = b.n
  · subst e
    rw [if_pos rfl, List.find?_eq_none.2 (fun c hc e => hasK_no h c hc (isK_iff.1 e))]
    simp [isK]
  · rw [if_neg e]
    have : [b].find? (isK v) = none := by simp [isK]; exact fun h => e h.symm
    rw [this]
    simp
theorem hasK_app {L : List BK} {b : BK} (v : Int) : hasK (L ++ [b]) v = (hasK L v || decide (b.n = v)) := by
  unfold hasK
  rw [List.any_append]
  simp [isK]
theorem mapK_put {D : DataW Value} {L : List BK} {b : BK} (hD : Maps.IsMap D) (hn : hasK L b.n = false) (h : ∀ v : Int, Maps.has D (.int .i64 v) = hasK L v ∧ D.atKey (.int .i64 v) (.held (bkV ⟨0, 0, 0⟩)) = .held (bkV (atK L v))) (v : Int) :
    Maps.has (D.put (.int .i64 b.n) (.held (bkV b))) (.int .i64 v) = hasK (L ++ [b]) v ∧ (D.put (.int .i64 b.n) (.held (bkV b))).atKey (.int .i64 v) (.held (bkV ⟨0, 0, 0⟩)) = .held (bkV (atK (L ++ [b]) v)) := by
  rw [atK_app hn, hasK_app]
  by_cases e : v = b.n
  · subst e
    rw [Maps.has_put_same hD (by trivial), Maps.atKey_put_same hD (by trivial), if_pos rfl]
    exact ⟨by simp, rfl⟩
  · have e' : ¬ b.n = v := fun h => e h.symm
    rw [Maps.has_put_other (by simpa using e), Maps.atKey_put_other (by simpa using e), if_neg e, (h v).1, (h v).2]
    exact ⟨by simp [e'], rfl⟩
/-- A block is put into the map. -/
theorem MapK.put {w : World} {m : Nat} {L : List BK} (h : MapK w m L) (b : BK) (hv : -9223372036854775808 ≤ b.n ∧ b.n ≤ 9223372036854775807) (hn : hasK L b.n = false) (hl : L.length ≤ 4611686018427387904) :
    ∃ w', (Instr.mapUpdate 65 (.map (some m)) (.int .i64 b.n) (bkV b)).run Try.prog w = .ok () w' ∧ MapK w' m (L ++ [b]) ∧ But m w w' := by
  obtain ⟨n, D, h1, h2, h3, h4⟩ := h
  obtain ⟨w', hrun, hown, hg⟩ := h1.update keyed3 Try.underlying65 (by unfold maxLen; omega) (keyK hv) (d := .held (bkV b)) (ps := []) (val := bkV b) rfl
  refine ⟨w', hrun, ⟨n + 1, _, hown, by simp; exact h2, h3.put _ _, fun v => mapK_put h3 hn h4 v⟩, ⟨hg.os, hg.tape, hg.output, hg.size, fun k hk hne => hg.block k hk (by simpa using hne)⟩⟩
end Go.Proofs.Ytkkccomdclklhaa

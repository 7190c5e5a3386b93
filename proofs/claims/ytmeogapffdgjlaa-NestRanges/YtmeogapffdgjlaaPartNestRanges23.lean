/- Texts of one chain, laid one behind the other. -/
import Derived.Test.YtmeogapffdgjlaaPartNestRanges1
import Derived.Test.YtmeogapffdgjlaaPartNestRanges13
import Derived.Maps.OwnSet
import Derived.DeepKeys4
import Derived.Test.YtmeogapffdgjlaaPartNestRanges11
namespace Go.Proofs.Ytmeogapffdgjlaa
open Go.ChangeShapes Go.WideShapes Go.ChangeAt Go.RowKit
def kvM (q : List Int) : Value := .agg (q.map (Value.int .i64)).toArray
def heldM (v : Value) : Option (DataW Value × List MemPlace) := some (.held v, [])
theorem kv_inj {q r : List Int} (h : kvM q = kvM r) : q = r := by
  unfold kvM at h
  have h1 : q.map (Value.int .i64) = r.map (Value.int .i64) := by simpa using h
  exact (List.map_inj_right (fun a b e => by cases e; rfl)).1 h1
/-- A map that tells each of these keys its place, counted from off. -/
def MapI (K : TypeId) (off : Nat) (w : World) (m : Nat) (Ks : List (List Int)) : Prop :=
  ∃ (s : Nat) (D : DataW Value), w.ownsMap Try.prog K heldM m s D ∧ s ≤ Ks.length ∧ Maps.size D = Ks.length ∧ ∀ (q : List Int) (l : Lit), keyOf Try.prog K (kvM q) = some l → Maps.has D l = decide (q ∈ Ks) ∧ D.atKey l (.held (.int .i64 0)) = .held (.int .i64 (if q ∈ Ks then ((idxM Ks q + off : Nat) : Int) else 0))
theorem MapI.lt {K : TypeId} {off : Nat} {w : World} {m : Nat} {Ks : List (List Int)} (h : MapI K off w m Ks) : m < w.heap.size := by
  obtain ⟨n, D, h1, -⟩ := h
  exact h1.lt
theorem MapI.keep {K : TypeId} {off : Nat} {w w' : World} {m : Nat} {Ks : List (List Int)} (h : MapI K off w m Ks) (hb : w'.heap[m]? = w.heap[m]?) : MapI K off w' m Ks := by
  obtain ⟨n, D, ⟨es, clock, h1, h2⟩, h3⟩ := h
  exact ⟨n, D, ⟨es, clock, hb.trans h1, h2⟩, h3⟩
theorem MapI.is {K : TypeId} {off : Nat} {w : World} {m : Nat} {Ks : List (List Int)} (h : MapI K off w m Ks) : ∃ es clock, w.heap[m]? = some (.map es clock) := by
  obtain ⟨n, D, ⟨es, clock, h1, h2⟩, h3⟩ := h
  exact ⟨es, clock, h1⟩
theorem zero3Q (w : World) : (zeroValue 3).run Try.prog w = .ok (.int .i64 0) w := by kernel_rfl
theorem MapI.look {K T : TypeId} {off : Nat} {w : World} {m : Nat} {Ks : List (List Int)} (h : MapI K off w m Ks) (hK : Maps.Keyed Try.prog K) (hT : Try.prog.underlying T = some (.map K 3)) {q : List Int} {l : Lit} (hl : keyOf Try.prog K (kvM q) = some l) : (Instr.lookup T (.map (some m)) (kvM q) false).run Try.prog w = .ok (.int .i64 (if q ∈ Ks then ((idxM Ks q + off : Nat) : Int) else 0)) w := by
  obtain ⟨n, D, h1, -, -, h4⟩ := h
  obtain ⟨x, ps, hrun, hx⟩ := h1.lookup hK hT (zero3Q w) (zd := .held (.int .i64 0)) (zp := []) rfl hl
  rw [(h4 q l hl).2] at hx
  have e : x = .int .i64 (if q ∈ Ks then ((idxM Ks q + off : Nat) : Int) else 0) := DataW.held.inj (congrArg Prod.fst (Option.some.inj hx))
  rw [hrun, e]
theorem MapI.len {K T : TypeId} {off : Nat} {w : World} {m : Nat} {Ks : List (List Int)} (h : MapI K off w m Ks) (hT : Try.prog.underlying T = some (.map K 3)) (ty : TypeId) : (Builtin.len_ #[T] ty #[.map (some m)]).run Try.prog w = .ok (.int .i64 (Ks.length : Int)) w := by
  obtain ⟨n, D, h1, -, h3, -⟩ := h
  rw [h1.len hT ty, h3]
/-- A key is put in. -/
theorem MapI.put {K T : TypeId} {off : Nat} {w : World} {m : Nat} {Ks : List (List Int)} (h : MapI K off w m Ks) (hK : Maps.Keyed Try.prog K) (hT : Try.prog.underlying T = some (.map K 3)) {q : List Int} {l : Lit} (hl : keyOf Try.prog K (kvM q) = some l) (hn : q ∉ Ks) (hs : Ks.length ≤ 4611686018427387904) :
    ∃ w', (Instr.mapUpdate T (.map (some m)) (kvM q) (.int .i64 ((Ks.length + off : Nat) : Int))).run Try.prog w = .ok () w' ∧ MapI K off w' m (Ks ++ [q]) ∧ But m w w' := by
  obtain ⟨n, D, h1, h2, h3, h4⟩ := h
  obtain ⟨w', hrun, hown, hg⟩ := h1.update hK hT (by unfold maxLen; omega) hl (d := .held (.int .i64 ((Ks.length + off : Nat) : Int))) (ps := []) (val := .int .i64 ((Ks.length + off : Nat) : Int)) rfl
  have hno : Maps.has D l = false := by rw [(h4 q l hl).1]; simpa using hn
  refine ⟨w', hrun, ⟨n + 1, _, hown, by simp; exact h2, ?_, fun r k hk => ?_⟩, ⟨hg.os, hg.tape, hg.output, hg.size, fun k hk hne => hg.block k hk (by simpa using hne)⟩⟩
  · rw [Maps.size_put (h1.tidy hK), hno, h3]
    simp
  · by_cases e : r = q
    · subst e
      rw [hl] at hk
      cases hk
      rw [Maps.has_put_same h1.isMap (hK.key hl), Maps.atKey_put_same h1.isMap (hK.key hl), if_pos (List.mem_append_right _ (List.mem_singleton.2 rfl)), idxM_snoc hn]
      exact ⟨by simp, rfl⟩
    · have hne : k ≠ l := fun e2 => by
        subst e2
        exact e (kv_inj (hK.inj hk hl))
      have hmem : (r ∈ Ks ++ [q]) ↔ r ∈ Ks := by simp [e]
      rw [Maps.has_put_other hne, Maps.atKey_put_other hne, (h4 r k hk).1, (h4 r k hk).2]
      by_cases hr : r ∈ Ks
      · rw [if_pos hr, if_pos (hmem.2 hr), idxM_other hr]
        exact ⟨by simp [hr], rfl⟩
      · rw [if_neg hr, if_neg (fun k => hr (hmem.1 k))]
        exact ⟨by simp [hr, e], rfl⟩
end Go.Proofs.Ytmeogapffdgjlaa
namespace Go.Proofs.Ytmeogapffdgjlaa
/-- Whether two nests are the same. -/
def samZ : List Lp → List Lp → Bool
  | [], [] => true
  | ⟨t, n, b⟩ :: l, ⟨t', n', b'⟩ :: l' => decide (t = t') && (decide (n = n') && (samZ b b' && samZ l l'))
  | _, _ => false
theorem sam_iff : ∀ (l m : List Lp), samZ l m = true ↔ l = m := by
  refine nest_two ?_ ?_
  · intro m
    cases m <;> simp [samZ]
  · intro t n b r hb hr m
    cases m with
    | nil => simp [samZ]
    | cons y m =>
      obtain ⟨t', n', b'⟩ := y
      rw [samZ]
      simp only [Bool.and_eq_true, decide_eq_true_eq, hb, hr, List.cons.injEq, Lp.mk.injEq]
      constructor
      · rintro ⟨rfl, rfl, rfl, rfl⟩; exact ⟨⟨rfl, rfl, rfl⟩, rfl⟩
      · rintro ⟨⟨rfl, rfl, rfl⟩, rfl⟩; exact ⟨rfl, rfl, rfl, rfl⟩
end Go.Proofs.Ytmeogapffdgjlaa

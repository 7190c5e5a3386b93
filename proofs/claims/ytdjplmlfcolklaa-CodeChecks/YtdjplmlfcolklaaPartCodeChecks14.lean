/- Texts of one chain, laid one behind the other. -/
import Derived.Test.YtdjplmlfcolklaaPartCodeChecks12
import Derived.Test.YtdjplmlfcolklaaPartCodeChecks4
namespace Go.Proofs.Ytdjplmlfcolklaa
open Go.ChangeShapes Go.WideShapes Go.ChangeAt Go.RowKit
theorem doneC_eq (d : Nat → Bool) (i : Nat) : doneAt d i i = true := by unfold doneAt; rw [if_pos rfl]
theorem doneC_ne (d : Nat → Bool) {i j : Nat} (h : j ≠ i) : doneAt d i j = d j := by unfold doneAt; rw [if_neg h]
/-- All old blocks stay but K and the row's. -/
structure StaV (K : Nat) (d : Option Addr) (w w' : World) : Prop where
  os : w'.os = w.os
  tape : w'.tape = w.tape
  output : w'.output = w.output
  size : w.heap.size ≤ w'.heap.size
  block : ∀ k, k < w.heap.size → k ≠ K → (∀ y, d = some y → y.block ≠ k) → w'.heap[k]? = w.heap[k]?
theorem StaV.of_below {K : Nat} {d : Option Addr} {w w' : World} (h : Below w.heap.size w w') : StaV K d w w' := ⟨h.os, h.tape, h.output, h.size, fun k hk _ _ => h.block k hk⟩
theorem StaV.trans {K : Nat} {d : Option Addr} {a b c : World} (h : StaV K d a b) (k : StaV K d b c) : StaV K d a c :=
  ⟨k.os.trans h.os, k.tape.trans h.tape, k.output.trans h.output, Nat.le_trans h.size k.size, fun i hi h1 h2 => (k.block i (by have := h.size; omega) h1 h2).trans (h.block i hi h1 h2)⟩
theorem StaV.later {K : Nat} {d : Option Addr} {a b c : World} (h : StaV K d a b) (k : Below b.heap.size b c) : StaV K d a c := h.trans (.of_below k)
theorem StaV.set {K : Nat} {d : Option Addr} {a b : World} (h : StaV K d a b) (k : Nat) (u : Value) : StaV K d a (b.setCell ⟨K, k, none⟩ u) :=
  h.trans ⟨rfl, rfl, rfl, by simp [World.setCell], fun i _ hn _ => Below.heap_setCell _ _ _ _ hn⟩
theorem StaV.below {K B : Nat} {d : Option Addr} {w w' : World} (h : StaV K d w w') (hK : B ≤ K) (hd : ∀ y, d = some y → B ≤ y.block) (hB : B ≤ w.heap.size) : Below B w w' :=
  ⟨h.os, h.tape, h.output, h.size, fun k hk => h.block k (by omega) (by omega) (fun y hy => by have := hd y hy; omega)⟩
theorem StaV.cell {K : Nat} {d : Option Addr} {w w' : World} {p : Addr} {v : Value} (h : StaV K d w w') (hc : w.cell? p = some v) (h1 : p.block ≠ K) (h2 : ∀ y, d = some y → y.block ≠ p.block) : w'.cell? p = some v :=
  (World.cell?_of_block (w := w) (h.block p.block (block_lt_C hc) h1 h2)).trans hc
section
variable {α : Type} {f : α → List Value} {c : Nat} {T : TypeId}
/-- A list of this one element, just laid. -/
def ElV (f : α → List Value) (x : α) (u : World) (z : Value) : Prop := ∃ g, z = .slice (some ⟨g, 0, none⟩) 1 1 ∧ ∀ j v, (f x)[j]? = some v → u.cell? ⟨g, j, none⟩ = some v
theorem ElV.later {x : α} {u u' : World} {z : Value} (h : ElV f x u z) (hb : Below u.heap.size u u') : ElV f x u' z := by
  obtain ⟨g, e, h0⟩ := h
  exact ⟨g, e, fun j v hv => cellC_later hb (h0 j v hv)⟩
theorem elV_new {x : α} (u : World) (t : TypeId) (cs : Array Value) (e : cs.toList = f x) : ElV f x (u.alloc (.cells cs t)) (.slice (some ⟨u.heap.size, 0, none⟩) 1 1) := by
  refine ⟨_, rfl, fun j v hv => (blkA_new t u cs).cell ?_⟩
  rw [← Array.getElem?_toList, e]; exact hv
/-- What the append has answered. -/
def SlV (T : TypeId) (f : α → List Value) (c B K : Nat) (d0 : Option Addr) (Z : Nat) (L : List α) (u : World) (z : Value) : Prop := ∃ d k, z = .slice d L.length k ∧ CapV T f c B u d k L ∧ (∀ y, d = some y → y.block ≠ K) ∧ ∀ y, d = some y → d0 = some y ∨ Z ≤ y.block
theorem SlV.later {B K Z : Nat} {d0 : Option Addr} {L : List α} {u u' : World} {z : Value} (h : SlV T f c B K d0 Z L u z) (hb : Below u.heap.size u u') : SlV T f c B K d0 Z L u' z := by
  obtain ⟨d, k, e, h1, h2⟩ := h
  exact ⟨d, k, e, h1.later hb, h2⟩
/-- The struct whose field holds the row: its cells but the field, the row as it now is. -/
def BoxV (BT : TypeId) (K fld : Nat) (cs : Array Value) (T : TypeId) (f : α → List Value) (c B : Nat) (d0 : Option Addr) (Z : Nat) (L : List α) (u : World) : Prop :=
  ∃ d k, BlkA BT K u (cs.setIfInBounds fld (.slice d L.length k)) ∧ CapV T f c B u d k L ∧ (∀ y, d = some y → y.block ≠ K) ∧ ∀ y, d = some y → d0 = some y ∨ Z ≤ y.block
theorem BoxV.later {BT : TypeId} {K fld : Nat} {cs : Array Value} {B Z : Nat} {d0 : Option Addr} {L : List α} {u u' : World} (h : BoxV BT K fld cs T f c B d0 Z L u) (hb : Below u.heap.size u u') : BoxV BT K fld cs T f c B d0 Z L u' := by
  obtain ⟨d, k, h0, h1, h2⟩ := h
  exact ⟨d, k, h0.below hb, h1.later hb, h2⟩
theorem mark_appV {V w : World} {o : Oper} {ρ : Operand → Value} (s x : Operand) (t : TypeId) (ho : o.op = .call { callee := .builtin .append, args := #[s, x], argTypes := #[t, t] }) (ht : Try.prog.underlying t = some (.slice T))
    (z : Value) (bytes : Nat) (hI : (Try.prog.info? T).map (fun i => (i.zero, i.size, i.bytes)) = some (some z, c, bytes)) (hz : z.cells.size = c) (hc0 : 0 < c) (hbt : bytes ≤ 1000) (hf : ∀ x, (f x).length = c) (h1 : ∀ x, ∀ u ∈ f x, u.oneCell' = true)
    {B K c0 : Nat} {d0 : Option Addr} {zs : List α} {b : α} (hs : ρ s = .slice d0 zs.length c0) (hown : CapV T f c B w d0 c0 zs) (hK : ∀ y, d0 = some y → y.block ≠ K) (hKw : K < w.heap.size) (hst : StaV K d0 V w) (hx : ElV f b w (ρ x)) (hn : zs.length ≤ 100000000000) (hB : B ≤ w.heap.size)
    {U : World → Value → Prop} (h : ∀ u v, SlV T f c B K d0 V.heap.size (zs ++ [b]) u v → StaV K d0 V u → u.heap[K]? = w.heap[K]? → U u v) : markUpon Try.prog w U ((execOp ρ o).run Try.prog w) := by
  obtain ⟨g, hx, h0⟩ := hx
  obtain ⟨i1, hi1, hy0, hy1, hy2⟩ := info_parts hI
  obtain ⟨v', w', hr, h2, h3⟩ := run_append_told (P := Try.prog) w B t o.type T i1 z c bytes ht hi1 hy0 hy1 hy2 hz hc0 (.slice d0 zs.length c0) zs.length _ hown ⟨g, 0, none⟩ 1 1 (by decide) (f b) (by rw [hf, Nat.one_mul]) (fun k u hu => by
    have e : (⟨g, 0, none⟩ : Addr).add k = ⟨g, k, none⟩ := by
      unfold Addr.add
      by_cases h0 : k = 0
      · subst h0; rfl
      · simp [h0]
    rw [e]; exact h0 k u hu) (h1 b) (by unfold maxLen; omega) (by
      have h2 : (zs.length + 1) * bytes ≤ (100000000000 + 1) * 1000 := Nat.mul_le_mul (by omega) hbt
      omega) hB
  have h2' : w'.ownsRow B T c v' (zs ++ [b]).length ((zs ++ [b]).flatMap f) := by rw [List.flatMap_append, List.length_append]; simpa using h2
  unfold execOp
  simp only [ho, resolve, invoke, builtin, Sem.run_bind, Sem.run_pure, Result.andThen_ok, List.map_toArray, List.map_cons, List.map_nil, hs, hx, hr]
  rcases h3 with ⟨g1, cap, e1, rfl, hg⟩ | ⟨cap, rfl, hg⟩
  · simp at e1
    have hg1 : g1 ≠ K := hK ⟨g1, 0, none⟩ e1.1
    refine h w' _ ⟨_, _, by rw [List.length_append]; rfl, by unfold CapV; rw [List.length_append] at h2' ⊢; exact h2', (fun y hy => by cases hy; exact hg1), fun y hy => by cases hy; exact .inl e1.1⟩ (hst.trans ⟨hg.os, hg.tape, hg.output, hg.size, fun k hk _ hne => hg.block k hk (fun e => by cases e; exact hne _ e1.1 rfl)⟩) (hg.block K hKw (fun e => by cases e; exact hg1 rfl))
  · refine h w' _ ⟨_, _, by rw [List.length_append]; rfl, by unfold CapV; rw [List.length_append] at h2' ⊢; exact h2', (fun y hy => by cases hy; show w.heap.size ≠ K; omega), fun y hy => by cases hy; exact .inr hst.size⟩ (hst.trans ⟨hg.os, hg.tape, hg.output, hg.size, fun k hk _ hne => hg.block k hk (fun e => by cases e)⟩) (hg.block K hKw (fun e => by cases e))
/-- What holds at every moment of such a region: ia the append, is the store. -/
structure GoV (BT : TypeId) (K fld : Nat) (cs : Array Value) (T : TypeId) (f : α → List Value) (c B : Nat) (d0 : Option Addr) (c0 : Nat) (zs : List α) (b : α) (V : World) (ia is : Nat) (d : Nat → Bool) (u : World) : Prop where
  sta : StaV K d0 V u
  row : d ia = false → CapV T f c B u d0 c0 zs
  box : d is = false → BlkA BT K u cs
  fin : d is = true → BoxV BT K fld cs T f c B d0 V.heap.size (zs ++ [b]) u
variable {BT : TypeId} {K fld B c0 ia is : Nat} {cs : Array Value} {d0 : Option Addr} {zs : List α} {b : α} {V : World}
theorem GoV.later {d : Nat → Bool} {u u' : World} (h : GoV BT K fld cs T f c B d0 c0 zs b V ia is d u) (hb : Below u.heap.size u u') : GoV BT K fld cs T f c B d0 c0 zs b V ia is d u' :=
  ⟨h.sta.later hb, fun e => (h.row e).later hb, fun e => (h.box e).below hb, fun e => (h.fin e).later hb⟩
theorem GoV.start (h1 : CapV T f c B V d0 c0 zs) (h2 : BlkA BT K V cs) : GoV BT K fld cs T f c B d0 c0 zs b V ia is (fun _ => false) V :=
  ⟨.of_below (Below.refl _ _), fun _ => h1, fun _ => h2, fun e => absurd e (by decide)⟩
theorem GoV.app {d : Nat → Bool} {w u : World} (h : GoV BT K fld cs T f c B d0 c0 zs b V ia is d w) (hne : is ≠ ia) (hs : d is = false) (h1 : StaV K d0 V u) (h2 : u.heap[K]? = w.heap[K]?) : GoV BT K fld cs T f c B d0 c0 zs b V ia is (doneAt d ia) u :=
  ⟨h1, fun e => absurd e (by rw [doneC_eq]; decide), fun _ => (h.box hs).keep h2, fun e => absurd ((doneC_ne d hne).symm.trans e) (by rw [hs]; decide)⟩
theorem GoV.store {d : Nat → Bool} {w : World} {z : Value} (h : GoV BT K fld cs T f c B d0 c0 zs b V ia is d w) (hne : ia ≠ is) (ha : d ia = true) (hs : d is = false) (hz : SlV T f c B K d0 V.heap.size (zs ++ [b]) w z) : GoV BT K fld cs T f c B d0 c0 zs b V ia is (doneAt d is) (w.setCell ⟨K, fld, none⟩ z) := by
  obtain ⟨d1, k1, rfl, h1, h2, h3⟩ := hz
  exact ⟨h.sta.set fld _, fun e => absurd ((doneC_ne d hne).symm.trans e) (by rw [ha]; decide), fun e => absurd e (by rw [doneC_eq]; decide),
    fun _ => ⟨d1, k1, (h.box hs).set fld _, h1.but (But.set w K fld _) h2, h2, h3⟩⟩
end
end Go.Proofs.Ytdjplmlfcolklaa

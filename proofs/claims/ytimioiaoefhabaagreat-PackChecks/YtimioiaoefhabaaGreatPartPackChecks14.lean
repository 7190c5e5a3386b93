/- Texts of one chain, laid one behind the other. -/
import Derived.Test.YtimioiaoefhabaaGreatPartPackChecks5
import Derived.Test.YtimioiaoefhabaaGreatPartPackChecks10
namespace Go.Proofs.YtimioiaoefhabaaGreat
open Go.ChangeShapes Go.WideShapes Go.ChangeAt Go.RowKit
theorem block_lt_C {w : World} {p : Addr} {v : Value} (h : w.cell? p = some v) : p.block < w.heap.size := World.block_lt_of_cell? _ _ h
theorem cellC_later {w w' : World} {p : Addr} {v : Value} (hb : Below w.heap.size w w') (h : w.cell? p = some v) : w'.cell? p = some v := (hb.cell (block_lt_C h)).trans h
theorem cellC_but {K : Nat} {w w' : World} {p : Addr} {v : Value} (hb : But K w w') (hp : p.block ≠ K) (h : w.cell? p = some v) : w'.cell? p = some v :=
  (World.cell?_of_block (w := w) (hb.block p.block (block_lt_C h) hp)).trans h
theorem BlkA.but {T : TypeId} {n K : Nat} {w w' : World} {cs : Array Value} (h : BlkA T n w cs) (hb : But K w w') (hn : n ≠ K) : BlkA T n w' cs := h.keep (hb.block n h.lt hn)
theorem But.refl (K : Nat) (w : World) : But K w w := ⟨rfl, rfl, rfl, Nat.le_refl _, fun _ _ _ => rfl⟩
theorem But.drew (K : Nat) (w : World) (n : Nat) : But K w (w.drewN n) := ⟨rfl, rfl, rfl, Nat.le_refl _, fun _ _ _ => rfl⟩
theorem But.alloc (K : Nat) (w : World) (o : Obj) : But K w (w.alloc o) := .of_below ((Below.refl w.heap.size w).alloc (Nat.le_refl _) o)
section
variable {α : Type} {f : α → List Value} {c : Nat}
theorem flatV_len (hf : ∀ x, (f x).length = c) : ∀ (L : List α), (L.flatMap f).length = L.length * c
  | [] => by simp
  | x :: L => by rw [List.flatMap_cons, List.length_append, flatV_len hf L, hf, List.length_cons, Nat.add_mul, Nat.one_mul, Nat.add_comm]
theorem flatV_get (hf : ∀ x, (f x).length = c) : ∀ {L : List α} {k j : Nat} {x : α}, L[k]? = some x → j < c → (L.flatMap f)[k * c + j]? = (f x)[j]?
  | [], k, j, x, h, _ => by simp at h
  | y :: L, 0, j, x, h, hj => by
    simp at h
    subst h
    rw [List.flatMap_cons, Nat.zero_mul, Nat.zero_add, List.getElem?_append_left (by rw [hf]; exact hj)]
  | y :: L, k + 1, j, x, h, hj => by
    have e : (k + 1) * c = k * c + c := by rw [Nat.add_mul, Nat.one_mul]
    rw [List.flatMap_cons, List.getElem?_append_right (by rw [hf]; omega), hf, show (k + 1) * c + j - c = k * c + j by omega]
    exact flatV_get hf (by simpa using h) hj
/-- Elements as they lie. -/
def AtV (f : α → List Value) (c : Nat) (w : World) (a : Option Addr) (L : List α) : Prop := L = [] ∨ ∃ b off, a = some ⟨b, off, none⟩ ∧ ∀ k x, L[k]? = some x → ∀ j u, (f x)[j]? = some u → w.cell? ⟨b, off + k * c + j, none⟩ = some u
theorem AtV.below {w w' : World} {a : Option Addr} {L : List α} (h : AtV f c w a L) (hb : Below w.heap.size w w') : AtV f c w' a L := by
  rcases h with h | ⟨b, off, e, hc⟩
  · exact .inl h
  · exact .inr ⟨b, off, e, fun k x hx j u hu => cellC_later hb (hc k x hx j u hu)⟩
theorem AtV.but {K : Nat} {w w' : World} {a : Option Addr} {L : List α} (h : AtV f c w a L) (hb : But K w w') (hK : ∀ x, a = some x → x.block ≠ K) : AtV f c w' a L := by
  rcases h with h | ⟨b, off, e, hc⟩
  · exact .inl h
  · exact .inr ⟨b, off, e, fun k x hx j u hu => cellC_but hb (show b ≠ K from hK ⟨b, off, none⟩ e) (hc k x hx j u hu)⟩
/-- A row of those of a call's own, with room behind it. -/
def CapV (T : TypeId) (f : α → List Value) (c B : Nat) (w : World) (a : Option Addr) (cap : Nat) (L : List α) : Prop := w.ownsRow B T c (.slice a L.length cap) L.length (L.flatMap f)
variable {T : TypeId} {B : Nat} {w w' : World} {a : Option Addr} {cap : Nat} {L : List α}
theorem CapV.nil (B : Nat) (w : World) : CapV T f c B w none 0 ([] : List α) := World.ownsRow_nil _ _ _ _
theorem CapV.at (hf : ∀ x, (f x).length = c) (h : CapV T f c B w a cap L) : AtV f c w a L := by
  rcases h.2 with ⟨hv, hn⟩ | ⟨g, cap', cur, hv, hg, hh, hc, hm, hs, ht⟩
  · exact .inl (List.eq_nil_of_length_eq_zero hn)
  · cases hv
    refine .inr ⟨g, 0, rfl, fun k x hx j u hu => ?_⟩
    have hj : j < c := by rw [← hf x]; exact (List.getElem?_eq_some_iff.1 hu).1
    have hk : k < L.length := (List.getElem?_eq_some_iff.1 hx).1
    have hlt : k * c + j < L.length * c := by
      have : (k + 1) * c ≤ L.length * c := Nat.mul_le_mul_right _ hk
      rw [Nat.add_mul, Nat.one_mul] at this
      omega
    rw [Nat.zero_add, h.cellAt (k * c + j) hlt, flatV_get hf hx hj, hu]
theorem CapV.lt (h : CapV T f c B w a cap L) : ∀ x, a = some x → B ≤ x.block ∧ x.block < w.heap.size := by
  intro x hx
  rcases h.2 with ⟨hv, hn⟩ | ⟨g, cap', cur, hv, hg, hh, hc, hm, hs, ht⟩
  · simp at hv; rw [hv.1] at hx; cases hx
  · cases hv
    cases hx
    exact ⟨hg, (Array.getElem?_eq_some_iff.1 hh).1⟩
theorem CapV.off (h : CapV T f c B w a cap L) : ∀ x, a = some x → x.off = 0 ∧ x.spot = none := by
  intro x hx
  rcases h.2 with ⟨hv, hn⟩ | ⟨g, cap', cur, hv, -⟩
  · simp at hv; rw [hv.1] at hx; cases hx
  · cases hv
    cases hx
    exact ⟨rfl, rfl⟩
theorem CapV.none (h : CapV T f c B w a cap L) : a = Option.none → L = [] ∧ cap = 0 := by
  intro e
  rcases h.2 with ⟨hv, hn⟩ | ⟨g, cap', cur, hv, -⟩
  · simp at hv; exact ⟨List.eq_nil_of_length_eq_zero hn, hv.2.2⟩
  · subst e; cases hv
theorem CapV.room (h : CapV T f c B w a cap L) : L.length ≤ cap := by
  rcases h.2 with ⟨hv, hn⟩ | ⟨g, cap', cur, hv, hg, hh, hc, -⟩
  · omega
  · cases hv; exact hc
theorem CapV.keep (h : CapV T f c B w a cap L) (hk : ∀ x, a = some x → w'.heap[x.block]? = w.heap[x.block]?) : CapV T f c B w' a cap L := by
  refine ⟨h.1, ?_⟩
  rcases h.2 with h2 | ⟨g, cap', cur, hv, hg, hh, r⟩
  · exact .inl h2
  · refine .inr ⟨g, cap', cur, hv, hg, ?_, r⟩
    cases hv
    rw [hk _ rfl]; exact hh
theorem CapV.later (h : CapV T f c B w a cap L) (hb : Below w.heap.size w w') : CapV T f c B w' a cap L := h.keep fun x hx => hb.block _ (h.lt x hx).2
theorem CapV.but {K : Nat} (h : CapV T f c B w a cap L) (hb : But K w w') (hK : ∀ x, a = some x → x.block ≠ K) : CapV T f c B w' a cap L := h.keep fun x hx => hb.block _ (h.lt x hx).2 (hK x hx)
theorem CapV.mono {B' : Nat} (h : CapV T f c B w a cap L) (hB : B' ≤ B) : CapV T f c B' w a cap L := by
  refine ⟨h.1, ?_⟩
  rcases h.2 with h2 | ⟨g, cap', cur, hv, hg, r⟩
  · exact .inl h2
  · exact .inr ⟨g, cap', cur, hv, Nat.le_trans hB hg, r⟩
/-- A row has grown; all else stays. -/
structure GrwV (T : TypeId) (f : α → List Value) (c B : Nat) (V : World) (d0 : Option Addr) (L : List α) (u : World) (d : Option Addr) (cap : Nat) : Prop where
  own : CapV T f c B u d cap L
  keep : ∀ k, k < V.heap.size → (∀ y, d0 = some y → y.block ≠ k) → u.heap[k]? = V.heap[k]?
  new : ∀ z, d = some z → d0 = some z ∨ V.heap.size ≤ z.block
  size : V.heap.size ≤ u.heap.size
  os : u.os = V.os
  tape : u.tape = V.tape
  output : u.output = V.output
theorem GrwV.below {Q : Nat} {V u : World} {d0 d : Option Addr} {cap : Nat} (h : GrwV T f c B V d0 L u d cap) (hQ : Q ≤ V.heap.size) (h0 : ∀ y, d0 = some y → Q ≤ y.block) : Below Q V u :=
  ⟨h.os, h.tape, h.output, h.size, fun k hk => h.keep k (by omega) (fun y hy => by have := h0 y hy; omega)⟩
end
end Go.Proofs.YtimioiaoefhabaaGreat

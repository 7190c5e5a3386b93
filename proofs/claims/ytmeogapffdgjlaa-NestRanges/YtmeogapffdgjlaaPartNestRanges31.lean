/- Texts of one chain, laid one behind the other. -/
import Derived.Test.YtmeogapffdgjlaaPartNestRanges23
import Derived.Test.YtmeogapffdgjlaaPartNestRanges30
import Derived.Test.YtmeogapffdgjlaaPartNestRanges3
import Derived.BigQuiet
import Derived.Deep.QuietTactic
import Derived.Test.YtmeogapffdgjlaaPartNestRanges24
import Derived.Test.YtmeogapffdgjlaaPartNestRanges11
import Derived.Test.YtmeogapffdgjlaaPartNestRanges13
import Derived.Test.YtmeogapffdgjlaaPartNestRanges17
import Derived.Test.YtmeogapffdgjlaaPartNestRanges20
import Derived.Test.YtmeogapffdgjlaaPartNestRanges26
import Derived.Test.YtmeogapffdgjlaaPartNestRanges22
import Derived.Test.YtmeogapffdgjlaaPartNestRanges12
import Derived.Test.YtmeogapffdgjlaaPartNestRanges15
import Derived.Test.YtmeogapffdgjlaaPartNestRanges29
namespace Go.Proofs.Ytmeogapffdgjlaa
open Go.ChangeShapes Go.WideShapes Go.ChangeAt Go.RowKit
/-- A row of known loops of a call's own, with room behind it. -/
def CapK (B : Nat) (w : World) (a : Option Addr) (c : Nat) (L : List Lv) : Prop := w.ownsRow B 95 3 (.slice a L.length c) L.length (flatZ L)
theorem CapK.nil (B : Nat) (w : World) : CapK B w none 0 [] := World.ownsRow_nil _ _ _ _
theorem CapK.cell {B : Nat} {w : World} {g c : Nat} {L : List Lv} (h : CapK B w (some ⟨g, 0, none⟩) c L) {k j : Nat} (hk : k < L.length) (hj : j < 3) : w.cell? ⟨g, k * 3 + j, none⟩ = some (celZ (nthZ L k) j) := by
  rw [World.ownsRow.cellAt h (k * 3 + j) (by omega), flatZ_get hk hj]
theorem CapK.there {B : Nat} {w : World} {a : Option Addr} {c : Nat} {L : List Lv} (h : CapK B w a c L) (h0 : L ≠ []) : ∃ g, a = some ⟨g, 0, none⟩ := by
  rcases h.2 with ⟨hv, hn⟩ | ⟨g, cap, cur, hv, hg, hh, hc, hm, hs, ht⟩
  · exact absurd (List.eq_nil_of_length_eq_zero hn) h0
  · cases hv; exact ⟨g, rfl⟩
theorem CapK.lt {B : Nat} {w : World} {a : Option Addr} {c : Nat} {L : List Lv} (h : CapK B w a c L) : ∀ x, a = some x → B ≤ x.block ∧ x.block < w.heap.size := by
  intro x hx
  rcases h.2 with ⟨hv, hn⟩ | ⟨g, cap, cur, hv, hg, hh, hc, hm, hs, ht⟩
  · simp at hv; rw [hv.1] at hx; cases hx
  · cases hv
    cases hx
    exact ⟨hg, (Array.getElem?_eq_some_iff.1 hh).1⟩
theorem CapK.keep {B : Nat} {w w' : World} {a : Option Addr} {c : Nat} {L : List Lv} (h : CapK B w a c L) (hk : ∀ x, a = some x → w'.heap[x.block]? = w.heap[x.block]?) : CapK B w' a c L := by
  refine ⟨h.1, ?_⟩
  rcases h.2 with h2 | ⟨g, cap, cur, hv, hg, hh, r⟩
  · exact .inl h2
  · refine .inr ⟨g, cap, cur, hv, hg, ?_, r⟩
    cases hv
    rw [hk _ rfl]; exact hh
theorem CapK.later {B : Nat} {w w' : World} {a : Option Addr} {c : Nat} {L : List Lv} (h : CapK B w a c L) (hb : Below w.heap.size w w') : CapK B w' a c L := h.keep fun x hx => hb.block _ (h.lt x hx).2
theorem CapK.room {B : Nat} {w : World} {a : Option Addr} {c : Nat} {L : List Lv} (h : CapK B w a c L) : L.length ≤ c := by
  rcases h.2 with ⟨hv, hn⟩ | ⟨g, cap, cur, hv, hg, hh, hc, hm, r⟩
  · simp at hv; omega
  · cases hv; exact hc
/-- A row that has grown; all else is as it was. -/
structure GrwK (B : Nat) (V : World) (d0 : Option Addr) (L : List Lv) (u : World) (d : Option Addr) (c : Nat) : Prop where
  own : CapK B u d c L
  keep : ∀ k, k < V.heap.size → (∀ y, d0 = some y → y.block ≠ k) → u.heap[k]? = V.heap[k]?
  new : ∀ z, d = some z → d0 = some z ∨ V.heap.size ≤ z.block
  size : V.heap.size ≤ u.heap.size
  os : u.os = V.os
  tape : u.tape = V.tape
  output : u.output = V.output
theorem GrwK.below {B : Nat} {V u : World} {d0 d : Option Addr} {L : List Lv} {c : Nat} (h : GrwK B V d0 L u d c) (h0 : ∀ y, d0 = some y → B ≤ y.block) (hB : B ≤ V.heap.size) : Below B V u :=
  ⟨h.os, h.tape, h.output, h.size, fun k hk => h.keep k (Nat.lt_of_lt_of_le hk hB) fun y hy e => by have := h0 y hy; omega⟩
theorem CapK.ty {B : Nat} {w : World} {g c : Nat} {L : List Lv} (h : CapK B w (some ⟨g, 0, none⟩) c L) : ∃ cs, BlkA 95 g w cs := by
  rcases h.2 with ⟨hv, -⟩ | ⟨g', cap, cur, hv, hg, hh, r⟩
  · cases hv
  · cases hv; exact ⟨cur, hh⟩
theorem CapK.at0 {B : Nat} {w : World} {a : Option Addr} {c : Nat} {L : List Lv} (h : CapK B w a c L) : ∀ x, a = some x → x = ⟨x.block, 0, none⟩ := by
  intro x hx
  rcases h.2 with ⟨hv, hn⟩ | ⟨g, cap, cur, hv, hg, hh, hc, hm, hs, ht⟩
  · simp at hv; rw [hv.1] at hx; cases hx
  · cases hv; cases hx; rfl
/-! ### rows of numbers -/
def IntB (w : World) (k : Nat) : Prop := ∃ cs, BlkA 3 k w cs
theorem IntB.lt {w : World} {k : Nat} (h : IntB w k) : k < w.heap.size := by obtain ⟨cs, h⟩ := h; exact h.lt
theorem IntB.keep {w w' : World} {k : Nat} (h : IntB w k) (hb : w'.heap[k]? = w.heap[k]?) : IntB w' k := by obtain ⟨cs, h⟩ := h; exact ⟨cs, h.keep hb⟩
theorem CapR.int {B : Nat} {w : World} {a : Option Addr} {c : Nat} {zs : List Int} (h : CapR B w a c zs) : ∀ x, a = some x → IntB w x.block := by
  intro x hx
  rcases h.2 with ⟨hv, -⟩ | ⟨g', cap, cur, hv, hg, hh, r⟩
  · simp at hv; rw [hv.1] at hx; cases hx
  · cases hv; cases hx; exact ⟨cur, hh⟩
theorem At.keepQ {w w' : World} {a : Option Addr} {zs : List Int} (h : At w a zs) (hk : ∀ x, a = some x → w'.heap[x.block]? = w.heap[x.block]?) : At w' a zs := by
  rcases h with h | ⟨b, o, e, h⟩
  · exact .inl h
  · refine .inr ⟨b, o, e, fun k hk' => ?_⟩
    rw [cell_blk (hk _ e)]
    exact h k hk'
theorem At.drop {w : World} {b o : Nat} {zs : List Int} (h : At w (some ⟨b, o, none⟩) zs) (k : Nat) : At w (some ⟨b, o + k, none⟩) (zs.drop k) := by
  rcases h with h | ⟨b', o', e, h⟩
  · exact .inl (by rw [h]; simp)
  · cases e
    refine .inr ⟨b, o + k, rfl, fun j hj => ?_⟩
    rw [List.length_drop] at hj
    rw [Nat.add_assoc, h (k + j) (by omega)]
    unfold nth
    simp [List.getD_eq_getElem?_getD, List.getElem?_drop]
theorem At.take {w : World} {a : Option Addr} {zs : List Int} (h : At w a zs) (k : Nat) : At w a (zs.take k) := by
  rcases h with h | ⟨b', o', e, h⟩
  · exact .inl (by rw [h]; simp)
  · refine .inr ⟨b', o', e, fun j hj => ?_⟩
    rw [List.length_take] at hj
    rw [h j (by omega)]
    unfold nth
    simp [List.getD_eq_getElem?_getD, show j < k by omega]
/-- A row of numbers that has grown; all else is as it was. -/
structure GrwQ (B : Nat) (V : World) (d0 : Option Addr) (L : List Int) (u : World) (d : Option Addr) (c : Nat) : Prop where
  own : CapR B u d c L
  keep : ∀ k, k < V.heap.size → (∀ y, d0 = some y → y.block ≠ k) → u.heap[k]? = V.heap[k]?
  new : ∀ z, d = some z → d0 = some z ∨ V.heap.size ≤ z.block
  size : V.heap.size ≤ u.heap.size
  os : u.os = V.os
  tape : u.tape = V.tape
  output : u.output = V.output
theorem GrwQ.below {B : Nat} {V u : World} {d0 d : Option Addr} {L : List Int} {c : Nat} (h : GrwQ B V d0 L u d c) (h0 : ∀ y, d0 = some y → B ≤ y.block) (hB : B ≤ V.heap.size) : Below B V u :=
  ⟨h.os, h.tape, h.output, h.size, fun k hk => h.keep k (Nat.lt_of_lt_of_le hk hB) fun y hy e => by have := h0 y hy; omega⟩
/-! ### the book -/
/-- What a book writes. -/
def Bky (w : World) (k : Nat) : Prop := (∃ cs, BlkA 93 k w cs) ∨ (∃ cs, BlkA 95 k w cs) ∨ ∃ es c, w.heap[k]? = some (.map es c)
theorem Bky.keep {w w' : World} {k : Nat} (h : Bky w k) (hb : w'.heap[k]? = w.heap[k]?) : Bky w' k := by
  rcases h with ⟨cs, h⟩ | ⟨cs, h⟩ | ⟨es, c, h⟩
  · exact .inl ⟨cs, h.keep hb⟩
  · exact .inr (.inl ⟨cs, h.keep hb⟩)
  · exact .inr (.inr ⟨es, c, hb.trans h⟩)
theorem IntB.off {w : World} {k : Nat} (h : IntB w k) : ¬ Bky w k := by
  obtain ⟨cs, h⟩ := h
  unfold BlkA at h
  rintro (⟨cs', h'⟩ | ⟨cs', h'⟩ | ⟨es, c, h'⟩)
  · unfold BlkA at h'; rw [h] at h'; simp at h'
  · unfold BlkA at h'; rw [h] at h'; simp at h'
  · rw [h] at h'; simp at h'
theorem TyZ.off {w : World} {k : Nat} (h : TyZ w k) : ¬ Bky w k := by
  obtain ⟨cs, h⟩ := h
  unfold BlkA at h
  rintro (⟨cs', h'⟩ | ⟨cs', h'⟩ | ⟨es, c, h'⟩)
  · unfold BlkA at h'; rw [h] at h'; simp at h'
  · unfold BlkA at h'; rw [h] at h'; simp at h'
  · rw [h] at h'; simp at h'
/-- All stays but what a book writes, from B on. -/
structure Fr (B : Nat) (w w' : World) : Prop where
  os : w'.os = w.os
  tape : w'.tape = w.tape
  output : w'.output = w.output
  size : w.heap.size ≤ w'.heap.size
  keep : ∀ k, k < w.heap.size → (k < B ∨ ¬ Bky w k) → w'.heap[k]? = w.heap[k]?
theorem Fr.refl (B : Nat) (w : World) : Fr B w w := ⟨rfl, rfl, rfl, Nat.le_refl _, fun _ _ _ => rfl⟩
theorem Fr.of_below {B : Nat} {w w' : World} (h : Below w.heap.size w w') : Fr B w w' := ⟨h.os, h.tape, h.output, h.size, fun k hk _ => h.block k hk⟩
theorem Fr.trans {B : Nat} {a b c : World} (h : Fr B a b) (g : Fr B b c) : Fr B a c :=
  ⟨g.os.trans h.os, g.tape.trans h.tape, g.output.trans h.output, Nat.le_trans h.size g.size, fun k hk hn => by
    have e := h.keep k hk hn
    rw [g.keep k (Nat.lt_of_lt_of_le hk h.size) (hn.imp id fun q r => q (r.keep e.symm)), e]⟩
theorem Fr.below {B : Nat} {w w' : World} (h : Fr B w w') (hB : B ≤ w.heap.size) : Below B w w' := ⟨h.os, h.tape, h.output, h.size, fun k hk => h.keep k (Nat.lt_of_lt_of_le hk hB) (.inl hk)⟩
theorem Fr.alloc {B : Nat} {w w' : World} (h : Fr B w w') (o : Obj) : Fr B w (w'.alloc o) := h.trans (Fr.of_below ((Below.refl _ _).alloc (Nat.le_refl _) o))
/-- A book: p its struct, m1 and m2 its maps, kd what it knows; F tells where bodies lie. -/
structure BkW (B : Nat) (F : Nat → Prop) (w : World) (p m1 m2 : Nat) (kd : Option Addr) (kc : Nat) (R LK : List (List Int)) (Kb : List (Int × Int × List Int)) (S : List Lv) : Prop where
  blk : BlkA 93 p w #[.map (some m1), .map (some m2), .slice kd S.length kc]
  lop : B ≤ p
  lo1 : B ≤ m1
  lo2 : B ≤ m2
  ne : m1 ≠ m2
  mp1 : MapI 103 0 w m1 LK
  mp2 : MapI 107 1 w m2 R
  own : CapK B w kd kc S
  len : S.length = Kb.length
  bod : ∀ (i : Nat) s, S[i]? = some s → ∃ bs, Kb[i]? = some (s.t, s.n, bs) ∧ s.k = bs.length ∧ At w s.a bs ∧ ∀ x, s.a = some x → F x.block ∧ IntB w x.block
theorem BkW.keep {B : Nat} {F : Nat → Prop} {w w' : World} {p m1 m2 : Nat} {kd : Option Addr} {kc : Nat} {R LK : List (List Int)} {Kb : List (Int × Int × List Int)} {S : List Lv} (h : BkW B F w p m1 m2 kd kc R LK Kb S) (hk : ∀ k, (B ≤ k ∧ Bky w k) ∨ (F k ∧ IntB w k) → w'.heap[k]? = w.heap[k]?) : BkW B F w' p m1 m2 kd kc R LK Kb S := by
  refine ⟨h.blk.keep (hk _ (.inl ⟨h.lop, .inl ⟨_, h.blk⟩⟩)), h.lop, h.lo1, h.lo2, h.ne, h.mp1.keep (hk _ (.inl ⟨h.lo1, .inr (.inr h.mp1.is)⟩)), h.mp2.keep (hk _ (.inl ⟨h.lo2, .inr (.inr h.mp2.is)⟩)), h.own.keep (fun x hx => hk _ (.inl ⟨(h.own.lt x hx).1, .inr (.inl ?_)⟩)), h.len, fun i s hs => ?_⟩
  · have e := h.own.at0 x hx
    have h2 := h.own
    rw [hx, e] at h2
    exact h2.ty
  · obtain ⟨bs, h1, h2, h3, h4⟩ := h.bod i s hs
    exact ⟨bs, h1, h2, h3.keepQ fun x hx => hk _ (.inr (h4 x hx)), fun x hx => ⟨(h4 x hx).1, (h4 x hx).2.keep (hk _ (.inr (h4 x hx)))⟩⟩
theorem BkW.mono {B : Nat} {F G : Nat → Prop} {w : World} {p m1 m2 : Nat} {kd : Option Addr} {kc : Nat} {R LK : List (List Int)} {Kb : List (Int × Int × List Int)} {S : List Lv} (h : BkW B F w p m1 m2 kd kc R LK Kb S) (hk : ∀ k, F k → k < w.heap.size → G k) : BkW B G w p m1 m2 kd kc R LK Kb S :=
  ⟨h.blk, h.lop, h.lo1, h.lo2, h.ne, h.mp1, h.mp2, h.own, h.len, fun i s hs => by
    obtain ⟨bs, h1, h2, h3, h4⟩ := h.bod i s hs
    exact ⟨bs, h1, h2, h3, fun x hx => ⟨hk _ (h4 x hx).1 (h4 x hx).2.lt, (h4 x hx).2⟩⟩⟩
/-- A book of these loops; no more than q of them, and of rows. -/
def BkM (B : Nat) (F : Nat → Prop) (w : World) (p : Nat) (V : List Lp) (q : Nat) : Prop := ∃ R Ps LK Kb S m1 m2 kd kc, BkP R Ps LK Kb V ∧ BkW B F w p m1 m2 kd kc R LK Kb S ∧ V.length ≤ q ∧ R.length ≤ q
theorem BkM.keep {B : Nat} {F : Nat → Prop} {w w' : World} {p : Nat} {V : List Lp} {q : Nat} (h : BkM B F w p V q) (hk : ∀ k, (B ≤ k ∧ Bky w k) ∨ (F k ∧ IntB w k) → w'.heap[k]? = w.heap[k]?) : BkM B F w' p V q := by
  obtain ⟨R, Ps, LK, Kb, S, m1, m2, kd, kc, h1, h2, h3, h4⟩ := h
  exact ⟨R, Ps, LK, Kb, S, m1, m2, kd, kc, h1, h2.keep hk, h3, h4⟩
theorem Bky.lt {w : World} {k : Nat} (h : Bky w k) : k < w.heap.size := by
  rcases h with ⟨cs, h⟩ | ⟨cs, h⟩ | ⟨es, c, h⟩
  · exact h.lt
  · exact h.lt
  · exact (Array.getElem?_eq_some_iff.1 h).1
theorem BkM.later {B : Nat} {F : Nat → Prop} {w w' : World} {p : Nat} {V : List Lp} {q : Nat} (h : BkM B F w p V q) (hb : Below w.heap.size w w') : BkM B F w' p V q := h.keep fun k hk => hb.block k (by
  rcases hk with q | q
  · exact q.2.lt
  · exact q.2.lt)
theorem BkM.mono {B : Nat} {F G : Nat → Prop} {w : World} {p : Nat} {V : List Lp} {q : Nat} (h : BkM B F w p V q) (hk : ∀ k, F k → k < w.heap.size → G k) : BkM B G w p V q := by
  obtain ⟨R, Ps, LK, Kb, S, m1, m2, kd, kc, h1, h2, h3, h4⟩ := h
  exact ⟨R, Ps, LK, Kb, S, m1, m2, kd, kc, h1, h2.mono hk, h3, h4⟩
theorem BkM.more {B : Nat} {F : Nat → Prop} {w : World} {p : Nat} {V : List Lp} {q q' : Nat} (h : BkM B F w p V q) (hq : q ≤ q') : BkM B F w p V q' := by
  obtain ⟨R, Ps, LK, Kb, S, m1, m2, kd, kc, h1, h2, h3, h4⟩ := h
  exact ⟨R, Ps, LK, Kb, S, m1, m2, kd, kc, h1, h2, by omega, by omega⟩
theorem BkM.one {B : Nat} {F : Nat → Prop} {w : World} {p : Nat} {V : List Lp} {q : Nat} (h : BkM B F w p V q) : V.Nodup := by
  obtain ⟨R, Ps, LK, Kb, S, m1, m2, kd, kc, h1, h2, h3, h4⟩ := h
  exact h1.one
theorem BkM.few {B : Nat} {F : Nat → Prop} {w : World} {p : Nat} {V : List Lp} {q : Nat} (h : BkM B F w p V q) : V.length ≤ q := by
  obtain ⟨R, Ps, LK, Kb, S, m1, m2, kd, kc, h1, h2, h3, h4⟩ := h
  exact h3
theorem RowP.few {R Ps : List (List Int)} (h : RowP R Ps) {r : Nat} {q : List Int} (hr : Ps[r]? = some q) : r ≤ R.length := by
  have := (List.getElem?_eq_some_iff.1 hr).1
  have := h.len
  omega
/-! ### numbered -/
structure GhU where
  V : List Lp
  ns : List Int
  a : Nat
  i : Nat
/-- What holds in the region that numbers a loop. -/
structure CNu (B : Nat) (F : Nat → Prop) (p g k : Nat) (W1 : World) (V : List Lp) (x : Lp) (q1 q2 L1 : Nat) (y : GhU) (d : Nat → Bool) (u : World) : Prop where
  fst : d 10 = false → Below W1.heap.size W1 u ∧ d 11 = false ∧ d 13 = false
  snd : d 10 = true → d 11 = false → Fr B W1 u ∧ BkM B F u p (V ++ y.V) q1 ∧ RpZ (V ++ y.V) y.ns x.body ∧ CapR W1.heap.size u (some ⟨y.a, 0, none⟩) L1 y.ns ∧ d 13 = false
  trd : d 11 = true → d 13 = false → Fr B W1 u ∧ BkM B F u p (V ++ y.V) q2 ∧ (V ++ y.V)[y.i]? = some x
  fth : d 13 = true → ∃ u0 : World, (Fr B W1 u0 ∧ BkM B F u0 p (V ++ y.V) q2 ∧ (V ++ y.V)[y.i]? = some x) ∧ Below u0.heap.size (u0.setCell ⟨g, k, none⟩ (.int .i64 (y.i : Int))) u
section
variable {B : Nat} {F : Nat → Prop} {p g k : Nat} {W1 : World} {V : List Lp} {x : Lp} {q1 q2 L1 : Nat} {y : GhU} {d : Nat → Bool} {u u' : World}
theorem CNu.start : CNu B F p g k W1 V x q1 q2 L1 y (fun _ => false) W1 := ⟨fun _ => ⟨Below.refl _ _, rfl, rfl⟩, fun h => (by cases h), fun h => (by cases h), fun h => (by cases h)⟩
theorem CNu.later (h : CNu B F p g k W1 V x q1 q2 L1 y d u) (hb : Below u.heap.size u u') : CNu B F p g k W1 V x q1 q2 L1 y d u' :=
  ⟨fun e => ⟨(h.fst e).1.trans (hb.mono (h.fst e).1.size), (h.fst e).2⟩,
   fun e f => ⟨(h.snd e f).1.trans (Fr.of_below hb), (h.snd e f).2.1.later hb, (h.snd e f).2.2.1, (h.snd e f).2.2.2.1.later hb, (h.snd e f).2.2.2.2⟩,
   fun e f => ⟨(h.trd e f).1.trans (Fr.of_below hb), (h.trd e f).2.1.later hb, (h.trd e f).2.2⟩,
   fun e => by
    obtain ⟨u0, h1, h2⟩ := h.fth e
    exact ⟨u0, h1, h2.trans (hb.mono (by have := h2.size; rw [World.size_setCell] at this; exact this))⟩⟩
theorem CNu.keep (h : CNu B F p g k W1 V x q1 q2 L1 y d u) {j : Nat} (h1 : j < W1.heap.size) (h2 : ¬ Bky W1 j) (h3 : j ≠ g) : u.heap[j]? = W1.heap[j]? := by
  cases e : d 10 with
  | false => exact (h.fst e).1.block j h1
  | true =>
    cases f : d 13 with
    | false =>
      cases f2 : d 11 with
      | false => exact (h.snd e f2).1.keep j h1 (.inr h2)
      | true => exact (h.trd f2 f).1.keep j h1 (.inr h2)
    | true =>
      obtain ⟨u0, ⟨h4, -, -⟩, h5⟩ := h.fth f
      rw [h5.block j (Nat.lt_of_lt_of_le h1 h4.size), Below.heap_setCell _ _ _ _ h3]
      exact h4.keep j h1 (.inr h2)
theorem CNu.m11 (h : CNu B F p g k W1 V x q1 q2 L1 y d u) (q : d 10 = true) (h0 : d 11 = false) {t n : Int} {bd : List Lp} (hx : x = ⟨t, n, bd⟩) {i : Nat} {T : List Lp} (h1 : (V ++ y.V ++ T)[i]? = some ⟨t, n, bd⟩) (h2 : BkM B F u' p (V ++ y.V ++ T) q2) (h3 : Fr B u u') : CNu B F p g k W1 V x q1 q2 L1 ⟨y.V ++ T, y.ns, y.a, i⟩ (doneAt d 11) u' := by
  obtain ⟨k1, k2, k3, k4, k5⟩ := h.snd q h0
  refine ⟨fun e => ?_, fun _ e => (by rw [doneAt_eq] at e; cases e), fun _ _ => ⟨k1.trans h3, by rw [← List.append_assoc]; exact h2, by rw [← List.append_assoc, hx]; exact h1⟩, fun e => ?_⟩
  · rw [doneAt_ne d (by decide), q] at e; cases e
  · rw [doneAt_ne d (by decide), k5] at e; cases e
theorem CNu.m13 (h : CNu B F p g k W1 V x q1 q2 L1 y d u) (q : d 11 = true) (h0 : d 13 = false) : CNu B F p g k W1 V x q1 q2 L1 y (doneAt d 13) (u.setCell ⟨g, k, none⟩ (.int .i64 (y.i : Int))) := by
  refine ⟨fun e => ?_, fun _ e => ?_, fun _ e => (by rw [doneAt_eq] at e; cases e), fun _ => ⟨u, h.trd q h0, ?_⟩⟩
  · rw [doneAt_ne d (by decide)] at e
    have := (h.fst e).2.1
    rw [q] at this; cases this
  · rw [doneAt_ne d (by decide), q] at e; cases e
  · have := Below.refl (u.setCell ⟨g, k, none⟩ (.int .i64 (y.i : Int))).heap.size (u.setCell ⟨g, k, none⟩ (.int .i64 (y.i : Int)))
    rw [World.size_setCell] at this
    exact this
end
theorem At.later {w w' : World} {a : Option Addr} {zs : List Int} {B : Nat} (h : At w a zs) (hk : ∀ x, a = some x → x.block < B) (hb : Below B w w') : At w' a zs := h.keepQ fun x hx => hb.block _ (hk x hx)
theorem At.lie {w : World} {a : Option Addr} {zs : List Int} (h : At w a zs) : zs = [] ∨ ∃ b o, a = some ⟨b, o, none⟩ ∧ ∀ k, k < zs.length → w.cell? ⟨b, o + k, none⟩ = some (.int .i64 (nth zs k)) := h
theorem NstR.keepQ {F : Nat → Prop} {m : Bool} {w w' : World} {b o : Nat} {l : List Lp} (h : NstR F m w b o l) (hk : ∀ k, F k → w'.heap[k]? = w.heap[k]?) : NstR F m w' b o l := NstR.keep hk _ _ _ h
/-- What is written: a nest in rows of its own. -/
def WrtZ (B : Nat) (w : World) (d : Option Addr) (c : Nat) (l : List Lp) : Prop := ∃ S Rs, CapZ B w d c S ∧ MchZ (fun k => B ≤ k ∧ TyZ w k ∧ ∀ y, d = some y → y.block ≠ k) false w S l ∧ RelR l S Rs ∧ FamR B w d Rs
theorem WrtZ.later {B : Nat} {w w' : World} {d : Option Addr} {c : Nat} {l : List Lp} (h : WrtZ B w d c l) (hb : Below w.heap.size w w') : WrtZ B w' d c l := by
  obtain ⟨S, Rs, h1, h2, h3, h4⟩ := h
  exact ⟨S, Rs, h1.later hb, MchZ.mono (fun k hk => ⟨hk.1, hk.2.1.keep (hb.block k hk.2.1.lt), hk.2.2⟩) (MchZ.keep (fun k hk => hb.block k hk.2.1.lt) h2), h3, h4.later hb⟩
theorem FamR.mono {B B' : Nat} {w : World} {d : Option Addr} {Rs : List RwL} (h : FamR B w d Rs) (hB : B' ≤ B) : FamR B' w d Rs := ⟨fun r hr => capZ_mono (h.own r hr) hB, h.off, h.pair⟩
theorem WrtZ.mono {B B' : Nat} {w : World} {d : Option Addr} {c : Nat} {l : List Lp} (h : WrtZ B w d c l) (hB : B' ≤ B) : WrtZ B' w d c l := by
  obtain ⟨S, Rs, h1, h2, h3, h4⟩ := h
  exact ⟨S, Rs, capZ_mono h1 hB, MchZ.mono (fun k hk => ⟨Nat.le_trans hB hk.1, hk.2⟩) h2, h3, h4.mono hB⟩
def WrV (B L : Nat) (l : List Lp) (w : World) (v : Value) : Prop := ∃ d c, v = .slice d L c ∧ WrtZ B w d c l
theorem WrV.later {B L : Nat} {l : List Lp} {w w' : World} {v : Value} (h : WrV B L l w v) (hb : Below w.heap.size w w') : WrV B L l w' v := by
  obtain ⟨d, c, e, h⟩ := h
  exact ⟨d, c, e, h.later hb⟩
def WrB (B L : Nat) (l : List Lp) (tx nx : Int) (w : World) (v : Value) : Prop := ∃ d c gz, WrtZ B w d c l ∧ v = .slice (some ⟨gz, 0, none⟩) 1 1 ∧ w.cell? ⟨gz, 0, none⟩ = some (.int .i64 tx) ∧ w.cell? ⟨gz, 1, none⟩ = some (.int .i64 nx) ∧ w.cell? ⟨gz, 2, none⟩ = some (.slice d L c)
theorem WrB.later {B L : Nat} {l : List Lp} {tx nx : Int} {w w' : World} {v : Value} (h : WrB B L l tx nx w v) (hb : Below w.heap.size w w') : WrB B L l tx nx w' v := by
  obtain ⟨d, c, gz, h, e, z0, z1, z2⟩ := h
  exact ⟨d, c, gz, h.later hb, e, cellN_later hb z0, cellN_later hb z1, cellN_later hb z2⟩
theorem WrB.new {B L : Nat} {l : List Lp} {tx nx : Int} {w : World} {d : Option Addr} {c : Nat} (h : WrtZ B w d c l) : WrB B L l tx nx (w.alloc (.cells #[.int .i64 tx, .int .i64 nx, .slice d L c] 57)) (.slice (some ⟨w.heap.size, 0, none⟩) 1 1) := by
  have X := blkA_new 57 w #[.int .i64 tx, .int .i64 nx, .slice d L c]
  have y0 := X.cell (k := 0) rfl
  have y1 := X.cell (k := 1) rfl
  have y2 := X.cell (k := 2) rfl
  simp only [List.getElem_toArray, List.getElem_cons_zero, List.getElem_cons_succ] at y0 y1 y2
  exact ⟨d, c, w.heap.size, h.later ((Below.refl _ _).alloc (Nat.le_refl _) _), rfl, y0, y1, y2⟩
theorem CapR.roomQ {base : Nat} {w : World} {a : Option Addr} {cap : Nat} {zs : List Int} (h : CapR base w a cap zs) : zs.length ≤ cap := by
  rcases h.2 with ⟨hv, hn⟩ | ⟨g, cp, cur, hv, hg, hh, hc, hm, r⟩
  · simp at hv; omega
  · cases hv; exact hc
theorem WrtZ.nil (B : Nat) (w : World) : WrtZ B w none 0 [] := ⟨[], [], CapZ.nil _ _, trivial, rel_nil.2 ⟨rfl, rfl⟩, FamR.nil _ _ _⟩
theorem WrtZ.nst {B : Nat} {w : World} {d : Option Addr} {c : Nat} {l : List Lp} (h : WrtZ B w d c l) : Nst (fun k => B ≤ k ∧ TyZ w k) false w d l := by
  obtain ⟨S, Rs, h1, h2, h3, h4⟩ := h
  by_cases hl : l = []
  · exact .inl hl
  · obtain ⟨g, rfl⟩ := h1.there (by intro e; rw [e] at h2; have := h2.len; exact hl (List.eq_nil_of_length_eq_zero this.symm))
    refine .inr ⟨g, 0, rfl, nst_of_row (S := S) ⟨(h1.lt _ rfl).1, h1.ty⟩ (h2.mono fun j hj => ⟨hj.1, hj.2.1⟩) (fun k hk j hj => ?_) (fun e => by cases e)⟩
    rw [Nat.zero_add]
    exact h1.cell hk hj
theorem WrtZ.room {B : Nat} {w : World} {d : Option Addr} {c : Nat} {l : List Lp} (h : WrtZ B w d c l) : l.length ≤ c := by
  obtain ⟨S, Rs, h1, h2, h3, h4⟩ := h
  rw [← h2.len]
  exact h1.room
theorem NstL.later {w w' : World} {m : Bool} {a : Option Addr} {l : List Lp} (h : Nst (· < w.heap.size) m w a l) (hb : Below w.heap.size w w') : Nst (· < w'.heap.size) m w' a l := (h.below hb).mono fun _ hk => Nat.lt_of_lt_of_le hk hb.size
theorem belowT {w u v : World} (h : Below w.heap.size w u) (k : Below u.heap.size u v) : Below w.heap.size w v := h.trans (k.mono h.size)
theorem alloc_below (u : World) (o : Obj) : Below u.heap.size u (u.alloc o) := (Below.refl _ _).alloc (Nat.le_refl _) o
theorem WrtZ.same {B : Nat} {w : World} {d : Option Addr} {c n : Nat} {l : List Lp} (h : WrtZ B w d c l) (hn : l.length = n) (hs : sizZ l ≤ 1000000) (g c2 : Nat) (h2 : Nst (· < w.heap.size) false w (some ⟨g, 0, none⟩) l) : Calls Try.prog 19 #[.slice d n c, .slice (some ⟨g, 0, none⟩) n c2] w fun e w' => e = .returned (.bool true) ∧ ∃ n, w' = w.drewN n := by
  have := same_anyZ l l _ _ false false d c (some ⟨g, 0, none⟩) c2 w h.nst h2 hs hs
  rw [(sam_iff l l).2 rfl, hn] at this
  exact this
theorem rel_short : ∀ (l : List Lp) (S : List Lv) (Rs : List RwL), RelR l S Rs → ∀ r ∈ Rs, r.Z.length ≤ sizZ l := by
  refine nest_one (fun S Rs h r hr => by rw [(rel_nil.1 h).2] at hr; cases hr) fun x q hb hr S Rs h r hm => ?_
  obtain ⟨s, S', R1, R2, -, rfl, -, -, -, h2, h3⟩ := rel_cons.1 h
  rw [siz_cons]
  rcases List.mem_append.1 hm with hm | hm
  · rcases h3 with ⟨-, rfl⟩ | ⟨-, S0, R0, rfl, h5, h4⟩
    · cases hm
    · rcases List.mem_append.1 hm with hm | hm
      · have := hb _ _ h4 r hm; omega
      · rw [List.mem_singleton.1 hm]
        show S0.length ≤ _
        have := len_siz x.body
        omega
  · have := hr _ _ h2 r hm; omega
/-- Two nests that share no memory, nor the lists of one. -/
def DuoW (B : Nat) (w : World) (d1 : Option Addr) (c1 : Nat) (l1 : List Lp) (d2 : Option Addr) (c2 : Nat) (l2 : List Lp) : Prop := ∃ S1 R1 S2 R2, RelR l1 S1 R1 ∧ RelR l2 S2 R2 ∧ FamT B w ((R1 ++ [⟨d1, c1, S1⟩]) ++ (R2 ++ [⟨d2, c2, S2⟩]))
theorem DuoW.later {B : Nat} {w w' : World} {d1 : Option Addr} {c1 : Nat} {l1 : List Lp} {d2 : Option Addr} {c2 : Nat} {l2 : List Lp} (h : DuoW B w d1 c1 l1 d2 c2 l2) (hb : Below w.heap.size w w') : DuoW B w' d1 c1 l1 d2 c2 l2 := by
  obtain ⟨S1, R1, S2, R2, h1, h2, h3⟩ := h
  exact ⟨S1, R1, S2, R2, h1, h2, fun r hr => (h3.own r hr).later hb, h3.pair, h3.few, Nat.le_trans h3.low hb.size⟩
theorem DuoW.apart {B : Nat} {w : World} {d1 : Option Addr} {c1 : Nat} {l1 : List Lp} {d2 : Option Addr} {c2 : Nat} {l2 : List Lp} (h : DuoW B w d1 c1 l1 d2 c2 l2) (hs : sizZ l1 + sizZ l2 + 2 ≤ 1000000) : Calls Try.prog 15 #[.slice d1 l1.length c1, .slice d2 l2.length c2] w fun e w' => e = .returned (.bool true) ∧ Below B w w' := by
  obtain ⟨S1, R1, S2, R2, h1, h2, h3⟩ := h
  refine (apartLoops_any B l1 l2 d1 d2 c1 c2 S1 S2 R1 R2 w h1 h2 h3 hs).mono fun e w' q => ?_
  exact ⟨q.1, q.2.1⟩
end Go.Proofs.Ytmeogapffdgjlaa
namespace Go.Proofs.Ytmeogapffdgjlaa
open Go.ChangeShapes Go.WideShapes Go.ChangeAt Go.RowKit Go.Shelf
/-- A box holds a row of numbers that is new; nothing old has turned but the box. -/
structure CllZ (W0 : World) (lb : Nat) (pre : List Int) (W : World) : Prop where
  box : ∃ v, Boxed W lb 26 v ∧ W.ownsRow W0.heap.size 3 1 v pre.length (pre.map (Value.int .i64)) ∧ (v = .slice none 0 0 → pre = [])
  keep : ∀ k, k < W0.heap.size → k ≠ lb → W.heap[k]? = W0.heap[k]?
  size : W0.heap.size ≤ W.heap.size
  os : W.os = W0.os
  tape : W.tape = W0.tape
  output : W.output = W0.output
theorem CllZ.own {W0 : World} {lb : Nat} : OwnFrom W0.heap.size (CllZ W0 lb) := by
  intro s W W' row h hg hr
  refine ⟨holdsRow_own W0.heap.size lb 26 3 1 (fun pre : List Int => pre.length) (fun pre => pre.map (Value.int .i64)) (fun pre v => v = .slice none 0 0 → pre = []) s W W' row h.box hg (fun r e => (hr r e).2), fun k hk h1 => (hg.block k (Nat.lt_of_lt_of_le hk h.size) (fun e => by have := (hr k e.symm).1; omega)).trans (h.keep k hk h1), Nat.le_trans h.size hg.size, hg.os.trans h.os, hg.tape.trans h.tape, hg.output.trans h.output⟩
theorem CllZ.start {W : World} {lb : Nat} (h : Boxed W lb 26 (.slice none 0 0)) : CllZ W lb [] W := ⟨⟨_, h, World.ownsRow_nil _ _ _ _, fun _ => rfl⟩, fun _ _ _ => rfl, Nat.le_refl _, rfl, rfl, rfl⟩
theorem CllZ.step {W0 W w1 : World} {lb : Nat} {pre : List Int} {x : Int} {v v' : Value} {tmp : Obj} (h : CllZ W0 lb pre W) (hv : Boxed W lb 26 v) (hrow : W.ownsRow W0.heap.size 3 1 v pre.length (pre.map (Value.int .i64))) (hlb : lb < W0.heap.size) (hty : ¬ TyZ W0 lb) (hv' : v' ≠ .slice none 0 0)
    (hown' : w1.ownsRow W0.heap.size 3 1 v' (pre.length + 1) (pre.map (Value.int .i64) ++ [.int .i64 x])) (hgrow : (W.alloc tmp).grownBy w1 v.ownBlock) :
    Boxed w1 lb 26 v ∧ Boxed (w1.setCell ⟨lb, 0, none⟩ v') lb 26 v' ∧ KeepsFrom W0.heap.size W (w1.setCell ⟨lb, 0, none⟩ v') ∧ KpZ (TyZ W0) W (w1.setCell ⟨lb, 0, none⟩ v') ∧ CllZ W0 lb (pre ++ [x]) (w1.setCell ⟨lb, 0, none⟩ v') := by
  have hv1 : Boxed w1 lb 26 v := (hv.alloc tmp).kept hgrow (hv.not_row (by decide) hrow)
  have hv2 := hv1.set v'
  have hr2 := hown'.kept (grownBy_setCell' w1 lb v') (.inr (hv1.not_row (by decide) hown').symm)
  have hko : KeepsOthers W (w1.setCell ⟨lb, 0, none⟩ v') := by
    refine ((KeepsOthers.alloc W tmp).trans (KeepsOthers.of_grownBy hgrow fun j o ej hj => ?_)).trans (KeepsOthers.setCell _ _ _)
    rcases (hrow.alloc tmp).2 with ⟨rfl, _⟩ | ⟨g, cap, cur, rfl, _, hgb, _⟩
    · simp [Value.ownBlock] at ej
    · obtain rfl : g = j := by simpa [Value.ownBlock] using ej
      rw [hgb] at hj; cases hj; rfl
  have hsz : W.heap.size ≤ (w1.setCell ⟨lb, 0, none⟩ v').heap.size := hko.size
  have hold : ∀ k, k < W0.heap.size → k ≠ lb → (w1.setCell ⟨lb, 0, none⟩ v').heap[k]? = W.heap[k]? := fun k hk hne => by
    have hkW : k < W.heap.size := Nat.lt_of_lt_of_le hk h.size
    have n1 : some k ≠ v.ownBlock := by
      rcases hrow.2 with ⟨rfl, _⟩ | ⟨g, cap, cur, rfl, hb, _, _⟩
      · simp [Value.ownBlock]
      · intro e
        obtain rfl : k = g := by simpa [Value.ownBlock] using e
        omega
    have e1 : (w1.setCell ⟨lb, 0, none⟩ v').heap[k]? = w1.heap[k]? := Below.heap_setCell _ _ _ _ hne
    have e2 := hgrow.block k (by rw [World.size_alloc]; omega) n1
    have e3 : (W.alloc tmp).heap[k]? = W.heap[k]? := Below.heap_alloc _ _ _ hkW
    exact e1.trans (e2.trans e3)
  have htb : ∀ k cs, BlkA 57 k W cs → BlkA 57 k (w1.setCell ⟨lb, 0, none⟩ v') cs := fun k cs hk => by
    have a1 : BlkA 57 k (W.alloc tmp) cs := hk.below ((Below.refl _ _).alloc (Nat.le_refl _) tmp)
    have n1 : some k ≠ v.ownBlock := by
      rcases (hrow.alloc tmp).2 with ⟨rfl, _⟩ | ⟨g, cap, cur, rfl, _, hgb, _⟩
      · simp [Value.ownBlock]
      · intro e
        obtain rfl : k = g := by simpa [Value.ownBlock] using e
        have := (show (W.alloc tmp).heap[k]? = _ from a1).symm.trans hgb
        simp at this
    have a2 : BlkA 57 k w1 cs := a1.keep (hgrow.block k a1.lt n1)
    refine a2.keep (Below.heap_setCell _ _ _ _ ?_)
    intro e
    have e' : k = lb := e
    subst e'
    have := (show w1.heap[k]? = _ from a2).symm.trans hv1
    simp at this
  have hos : (w1.setCell ⟨lb, 0, none⟩ v').os = W.os := hgrow.os
  have hta : (w1.setCell ⟨lb, 0, none⟩ v').tape = W.tape := hgrow.tape
  have hou : (w1.setCell ⟨lb, 0, none⟩ v').output = W.output := hgrow.output
  refine ⟨hv1, hv2, hko.from _, ⟨⟨hsz, fun k hk => hold k hk.lt (fun e => hty (e ▸ hk))⟩, htb⟩, ⟨⟨v', hv2, ?_, fun e => absurd e hv'⟩, fun k hk hne => (hold k hk hne).trans (h.keep k hk hne), Nat.le_trans h.size hsz, hos.trans h.os, hta.trans h.tape, hou.trans h.output⟩⟩
  simpa using hr2
/-- A box holds a row of numbers. -/
def HasB (W : World) (x : Nat) (zs : List Int) : Prop := ∃ d c, Boxed W x 26 (.slice d zs.length c) ∧ CapR 0 W d c zs
theorem CllZ.has {W0 W : World} {lb : Nat} {pre : List Int} (h : CllZ W0 lb pre W) : HasB W lb pre := by
  obtain ⟨v, h1, h2, -⟩ := h.box
  obtain ⟨d, c, rfl⟩ := row_slice h2
  exact ⟨d, c, h1, CapR.mono (base := W0.heap.size) h2 (Nat.zero_le _)⟩
theorem HasB.keep {W W' : World} {x lb : Nat} {zs : List Int} (h : HasB W x zs) (hk : ∀ k, k < W.heap.size → k ≠ lb → W'.heap[k]? = W.heap[k]?) (hx : x ≠ lb) {u : Value} (hlb : Boxed W lb 26 u) : HasB W' x zs := by
  obtain ⟨d, c, h1, h2⟩ := h
  refine ⟨d, c, (hk x h1.lt hx).trans h1, h2.keep fun y hy => hk _ (h2.lt y hy).2 fun e => ?_⟩
  have := hlb.not_row (e := 3) (by decide) h2
  subst hy
  apply this
  rw [← e]
  rcases h2.2 with ⟨hv, _⟩ | ⟨g, cap, cur, hv, _⟩
  · cases hv
  · cases hv; rfl
theorem HasB.below {W W' : World} {x : Nat} {zs : List Int} (h : HasB W x zs) (hb : Below W.heap.size W W') : HasB W' x zs := by
  obtain ⟨d, c, h1, h2⟩ := h
  exact ⟨d, c, (hb.block x h1.lt).trans h1, h2.later hb⟩
theorem AllZ.keepP {B : Nat} {w w' : World} {kb : Nat} {l : List Lp} (h : AllZ B w kb l) {P : Nat → Prop} (hk : ∀ k, B ≤ k → k < w.heap.size → P k → w'.heap[k]? = w.heap[k]?) (h1 : P kb) (h2 : ∀ k, TyZ w k → P k) : AllZ B w' kb l := by
  obtain ⟨h3, q, c, h4, h5⟩ := h
  exact ⟨h3, q, c, h4.keep (hk kb h3 h4.lt h1), (h5.keep fun k hq => hk k hq.1 hq.2.lt (h2 k hq.2)).mono fun k hq => ⟨hq.1, hq.2.keep (hk k hq.1 hq.2.lt (h2 k hq.2))⟩⟩
theorem AllZ.lt {B : Nat} {w : World} {kb : Nat} {l : List Lp} (h : AllZ B w kb l) : kb < w.heap.size := by
  obtain ⟨_, q, c, h4, _⟩ := h
  exact h4.lt
/-- A lent nest is written over: all but its own lists stays. -/
theorem apart_own {B : Nat} {u0 u : World} {g c : Nat} {l : List Lp} (h : LtdZ B u0 g c l) (hb : Below u0.heap.size u0 u) (hB : B ≤ u0.heap.size) (hs : sizZ l ≤ 65536) : Calls Try.prog 15 #[.slice (some ⟨g, 0, none⟩) l.length c, .slice none 0 0] u fun e w' => e = .returned (.bool true) ∧ Below B u w' ∧ ∀ k, u0.heap.size ≤ k → k < u.heap.size → w'.heap[k]? = u.heap[k]? := by
  obtain ⟨S, Rs, h1, h2, h3⟩ := h.fam
  have e1 : ∀ r ∈ Rs ++ [(⟨some ⟨g, 0, none⟩, c, S⟩ : RwL)], CapZ B u0 r.a r.c r.Z := fun r hr => by
    rcases List.mem_append.1 hr with hr | hr
    · exact h3.own r hr
    · rw [List.mem_singleton.1 hr]; exact h1
  have hT : ∀ r ∈ (Rs ++ [(⟨some ⟨g, 0, none⟩, c, S⟩ : RwL)]) ++ ([] ++ [(⟨none, 0, []⟩ : RwL)]), r ∈ Rs ++ [(⟨some ⟨g, 0, none⟩, c, S⟩ : RwL)] ∨ r = ⟨none, 0, []⟩ := fun r hr => by
    rcases List.mem_append.1 hr with hr | hr
    · exact .inl hr
    · exact .inr (List.mem_singleton.1 hr)
  have F : FamT B u ((Rs ++ [⟨some ⟨g, 0, none⟩, c, S⟩]) ++ ([] ++ [⟨none, 0, []⟩])) := by
    refine ⟨fun r hr => ?_, ?_, fun r hr => ?_, Nat.le_trans hB hb.size⟩
    · rcases hT r hr with hr | rfl
      · exact (e1 r hr).later hb
      · exact CapZ.nil _ _
    · rw [List.pairwise_append]
      refine ⟨?_, List.pairwise_singleton _ _, fun r hr s hs x y hx hy => ?_⟩
      · rw [List.pairwise_append]
        exact ⟨h3.pair, List.pairwise_singleton _ _, fun r hr s hs x y hx hy => by rw [List.mem_singleton.1 hs] at hy; exact h3.off r hr x y hx hy⟩
      · rw [List.mem_singleton.1 hs] at hy; cases hy
    · rcases hT r hr with hr | rfl
      · rcases List.mem_append.1 hr with hr | hr
        · exact Nat.le_trans (rel_short _ _ _ h2 r hr) (by omega)
        · rw [List.mem_singleton.1 hr]
          show S.length ≤ _
          rw [rel_len h2]
          exact Nat.le_trans (len_siz _) (by omega)
      · exact Nat.zero_le _
  refine (apartLoops_any B l [] (some ⟨g, 0, none⟩) none c 0 S [] Rs [] u h2 (rel_nil.2 ⟨rfl, rfl⟩) F (by rw [siz_nil]; omega)).mono fun e w' q => ⟨q.1, q.2.1, fun k hk1 hk2 => q.2.2 k hk2 fun r hr x hx e => ?_⟩
  rcases hT r hr with hr | rfl
  · have := ((e1 r hr).lt x hx).2; omega
  · cases hx
attribute [local go_sem] Oper.semAt_some
theorem tyz_not {W : World} {x : Nat} {v : Value} (h : Boxed W x 26 v) : ¬ TyZ W x := fun ⟨cs, q⟩ => by
  have := (show W.heap[x]? = _ from h).symm.trans q
  simp at this
set_option maxRecDepth 100000 in
set_option maxHeartbeats 16000000 in
theorem nestRanges_walk (a : Option Addr) (l : List Lp) (c : Nat) (st : Int) (w : World) (h : Nst (· < w.heap.size) false w a l) (_ : -9223372036854775808 ≤ st ∧ st ≤ 9223372036854775807) : Calls Try.prog 3 #[.slice a l.length c, .int .i64 st] w fun e w' => e = .returned (.bool true) ∧ Below w.heap.size w w' := by
  obtain ⟨i0, hi, hz0, hz1, hz2⟩ := info_parts Try.info3
  have b0 := (Below.refl w.heap.size w).alloc (Nat.le_refl _) (.cells #[.int .i64 st] 3)
  have X0 := hiddenN (Boxed.new w 3 (.int .i64 st))
  have HV := hiddenN (heavyZ_any l (· < w.heap.size) false a c (w.alloc (.cells #[.int .i64 st] 3)) (h.below b0))
  have B0 := hiddenN b0
  have AW := hiddenN awake16
  obtain ⟨RE, hRE⟩ : ∃ Q : Ending → World → Prop, (fun e w' => e = .returned (.bool true) ∧ Below w.heap.size w w') = Q := ⟨_, rfl⟩
  rw [hRE]
  have HRE := hiddenN hRE
  have HN := hiddenN h
  obtain ⟨L, hL⟩ : ∃ q, l.length = q := ⟨_, rfl⟩
  have HL := hiddenN hL
  rw [hL] at HV ⊢
  clear hRE h hL b0
  refine (callsIn_wide (n := 9)).1 (callsIn_of_wp_marks Try.func3 rfl trivial ?_ rfl)
  simp only [Try.ntmps3, List.size_toArray, List.length_cons, List.length_nil, Nat.reduceAdd, Nat.reduceSub, Array.replicate_succ, Array.replicate_zero, List.push_toArray, List.append_toArray, List.nil_append, List.cons_append]
  refine wpIn_wide.2 ?_
  go_upto_region 1 with fail
  obtain ⟨sx, hsx⟩ : ∃ q, w.heap.size = q := ⟨_, rfl⟩
  have HSX := hiddenN hsx
  rw [hsx] at X0 ⊢
  clear hsx
  generalize w.alloc (.cells #[.int .i64 st] 3) = V0 at *
  go_upto_region 3 with (go_at_call 9; (with_reducible refine HV.out.mono ?_); rintro e Vx ⟨b, rfl, hb, hw⟩; subst hw; cases b)
  · have hs : sizZ l ≤ 65536 := by simpa using hb
    have HS6 := hiddenN hs
    have HS : Hid (sizZ l ≤ 1000000) := by show _ ≤ _; omega
    have LE : Hid (∀ u, Below w.heap.size w u → Calls Try.prog 11 #[.slice a L c] u (LenE l u)) := fun u hu => by
      have := lentZ_any l w.heap.size false a c u (HN.out.below hu) hu.size HS.out
      rwa [HL.out] at this
    have EX : Hid (∀ u, Below w.heap.size w u → Calls Try.prog 12 #[.slice a L c] u (ExpE l u)) := fun u hu => by
      have := rexpandZ_any l false a c u ((HN.out.below hu).mono fun k hk => Nat.lt_of_lt_of_le hk hu.size) HS.out
      rwa [HL.out] at this
    have AL : Hid (∀ u B g cc, LtdZ B u g cc l → Calls Try.prog 13 #[.slice (some ⟨g, 0, none⟩) L cc] u fun e w' => ∃ kb, e = .returned (.func (.func 40) #[] #[.pointer (some ⟨kb, 0, none⟩)]) ∧ AllZ u.heap.size w' kb l ∧ Below u.heap.size u w') := fun u B g cc h => by
      have := allZ_any l true (some ⟨g, 0, none⟩) cc u h.bare HS.out
      rwa [HL.out] at this
    have KP : Hid (∀ u B g cc, LtdZ B u g cc l → Below w.heap.size w u → Calls Try.prog 14 #[.slice (some ⟨g, 0, none⟩) L cc, .slice a L c] u fun e w' => e = .returned (.bool true) ∧ Below u.heap.size u w') := fun u B g cc h hu => by
      have := keptZ_any l (fun k => B ≤ k ∧ TyZ u k) (· < w.heap.size) false g 0 cc a c u h.nst h.cap (HN.out.below hu) HS.out
      rw [HL.out] at this
      exact this.mono fun e w' q => ⟨q.1, by obtain ⟨n, hn⟩ := q.2; rw [hn]; exact drewB (Below.refl _ _) n⟩
    unfold LenE at LE
    unfold ExpE at EX
    obtain ⟨E, hE⟩ : ∃ q, chkZ l = q := ⟨_, rfl⟩
    rw [hE] at EX
    obtain ⟨A, hA⟩ : ∃ q, expZ (keptZ l) = q := ⟨_, rfl⟩
    rw [hA] at EX
    have HA := hiddenN hA
    obtain ⟨NA, hNA⟩ : ∃ q, A.length = q := ⟨_, rfl⟩
    rw [hNA] at EX
    have HNA := hiddenN hNA
    have hN8 : NA ≤ 2048 := by rw [← hNA, ← hA, exp_len]; exact kept_tot l
    have HTK : Hid (totZ (keptZ l) = NA) := by show _ = _; rw [← hNA, ← hA, exp_len]
    clear hb hs hE hA hNA HV
    go_upto_region 5 with (go_at_call 10; (with_reducible refine (AW.out V0).mono ?_); rintro e V1 ⟨rfl, b⟩; have X1 := hiddenN (X0.out.kept (grown_below b) (by simp)); have L1 := hiddenN (belowT B0.out b); clear b)
    go_upto_region 6 with (go_at_call 11; (with_reducible refine (LE.out V1 L1.out).mono ?_); rintro e V2 ⟨g2, c2, rfl, hl, b⟩; rw [HL.out]; have T2 := hiddenN hl; have hV12 : V1.heap.size ≤ V2.heap.size := b.size; have X2 := hiddenN (X1.out.kept (grown_below b) (by simp)); have L2 := hiddenN (belowT L1.out b); clear hl b)
    have hx1 : sx < V1.heap.size := X1.out.lt
    clear X0 X1 LE
    go_upto_region 7 with (go_at_call 12; (with_reducible refine (EX.out V2 L2.out).mono ?_); rintro e V3 ⟨d3, c3, rfl, hc, b⟩; have R3 := hiddenN hc; have T3 := hiddenN b; have X3 := hiddenN (X2.out.kept (grown_below b) (by simp)); have L3 := hiddenN (belowT L2.out b); clear hc b)
    have b4 := alloc_below V3 (.cells #[.slice d3 NA c3] 26)
    have BX4 := hiddenN (Boxed.new V3 26 (.slice d3 NA c3))
    have R4 := hiddenN (R3.out.later b4)
    have K4 := hiddenN (belowT T3.out b4)
    have X4 := hiddenN (X3.out.kept (grown_below b4) (by simp))
    have L4 := hiddenN (belowT L3.out b4)
    have hwl : V2.heap.size ≤ V3.heap.size := T3.out.size
    obtain ⟨wb, hwb⟩ : ∃ q, V3.heap.size = q := ⟨_, rfl⟩
    rw [hwb] at BX4 hwl ⊢
    clear b4 hwb R3 T3 X3 L3 X2 EX
    generalize V3.alloc (.cells #[.slice d3 NA c3] 26) = V4 at *
    have T4 := hiddenN (T2.out.later K4.out)
    have hwV4 : wb < V4.heap.size := BX4.out.lt
    have hV24 : V2.heap.size ≤ V4.heap.size := K4.out.size
    go_upto_region 8 with (go_at_call 13; (with_reducible refine (AL.out V4 _ g2 c2 T4.out).mono ?_); rintro e V5 ⟨kb, rfl, ha, b⟩; have HK5 := hiddenN ha; have BX5 := hiddenN (BX4.out.kept (grown_below b) (by simp)); have R5 := hiddenN (R4.out.later b); have K5 := hiddenN (belowT K4.out b); have X5 := hiddenN (X4.out.kept (grown_below b) (by simp)); have L5 := hiddenN (belowT L4.out b); clear ha b)
    have T5 := hiddenN (T2.out.later K5.out)
    go_upto_region 10 with (go_at_call 14; (with_reducible refine (KP.out V5 _ g2 c2 T5.out L5.out).mono ?_); rintro e V6 ⟨rfl, b⟩; have HK6 := hiddenN (HK5.out.later b); have BX6 := hiddenN (BX5.out.kept (grown_below b) (by simp)); have R6 := hiddenN (R5.out.later b); have K6 := hiddenN (belowT K5.out b); have X6 := hiddenN (X5.out.kept (grown_below b) (by simp)); have L6 := hiddenN (belowT L5.out b); clear b)
    have AP := hiddenN (apart_own T2.out K6.out hV12 HS6.out)
    rw [HL.out] at AP
    clear KP AL T4 T5 BX4 BX5 R4 R5 K4 K5 X4 X5 L4 L5 HK5
    go_upto_region 11 with (go_at_call 15; (with_reducible refine AP.out.mono ?_); rintro e V7 ⟨rfl, b, hk⟩; have L7 := hiddenN (L6.out.trans (b.mono L1.out.size)); have X7 : Hid (Boxed V7 sx 3 (.int .i64 st)) := (b.block sx hx1).trans X6.out; have HK7 := hiddenN (HK6.out.keepP (P := fun _ => True) (fun k h1 h2 _ => hk k (Nat.le_trans hV24 h1) h2) trivial (fun _ _ => trivial)); have BX7 : Hid (Boxed V7 wb 26 (.slice d3 NA c3)) := (hk wb hwl BX6.out.lt).trans BX6.out; have R7 := hiddenN (R6.out.keep fun y hy => hk _ (R6.out.lt y hy).1 (R6.out.lt y hy).2); clear b hk)
    clear HK6 BX6 R6 K6 X6 L6 AP
    have W7 : Hid (HasB V7 wb A) := ⟨d3, c3, by rw [HNA.out]; exact BX7.out, R7.out.mono (Nat.zero_le _)⟩
    have hkb7 : kb < V7.heap.size := HK7.out.lt
    have hwb7 : wb < V7.heap.size := BX7.out.lt
    have hsx7 : sx < V7.heap.size := X7.out.lt
    have hww7 : w.heap.size ≤ V7.heap.size := L7.out.size
    clear BX7 R7
    have b8 := alloc_below V7 (.cells #[.slice none 0 0] 26)
    have b9 := alloc_below (V7.alloc (.cells #[.slice none 0 0] 26)) (.cells #[.slice none 0 0] 26)
    have b10 := alloc_below ((V7.alloc (.cells #[.slice none 0 0] 26)).alloc (.cells #[.slice none 0 0] 26)) (.cells #[.slice none 0 0] 26)
    have bAll := belowT (belowT b8 b9) b10
    have BA := hiddenN (((Boxed.new V7 26 (.slice none 0 0)).alloc (.cells #[.slice none 0 0] 26)).alloc (.cells #[.slice none 0 0] 26))
    have BB := hiddenN ((Boxed.new (V7.alloc (.cells #[.slice none 0 0] 26)) 26 (.slice none 0 0)).alloc (.cells #[.slice none 0 0] 26))
    have BC := hiddenN (Boxed.new ((V7.alloc (.cells #[.slice none 0 0] 26)).alloc (.cells #[.slice none 0 0] 26)) 26 (.slice none 0 0))
    rw [World.size_alloc] at BB
    rw [World.size_alloc, World.size_alloc] at BC
    have L10 := hiddenN (belowT L7.out bAll)
    have X10 := hiddenN (X7.out.kept (grown_below bAll) (by simp))
    have HK10 := hiddenN (HK7.out.later bAll)
    have W10 := hiddenN (W7.out.below bAll)
    go_upto_region 12 with fail
    obtain ⟨ab, hab⟩ : ∃ q, V7.heap.size = q := ⟨_, rfl⟩
    rw [hab] at BA BB BC hkb7 hwb7 hsx7 hww7 ⊢
    obtain ⟨bb, hbb⟩ : ∃ q, ab + 1 = q := ⟨_, rfl⟩
    obtain ⟨cb, hcb⟩ : ∃ q, bb + 1 = q := ⟨_, rfl⟩
    rw [hbb] at BB BC ⊢
    rw [hcb] at BC ⊢
    have hab1 : ab < bb := by omega
    have hbb1 : bb < cb := by omega
    clear b8 b9 b10 bAll hab hbb hcb L7 X7 HK7 W7
    generalize ((V7.alloc (.cells #[.slice none 0 0] 26)).alloc (.cells #[.slice none 0 0] 26)).alloc (.cells #[.slice none 0 0] 26) = VA at *
    have hlab : ab < VA.heap.size := BA.out.lt
    have hlbb : bb < VA.heap.size := BB.out.lt
    have hlcb : cb < VA.heap.size := BC.out.lt
    have htab := tyz_not BA.out
    obtain ⟨TM, hTM⟩ : ∃ q, st.toNat = q := ⟨_, rfl⟩
    have cw0 : ∃ dq cq, VA.cell? ⟨wb, 0, none⟩ = some (.slice dq NA cq) := by obtain ⟨dq, cq, h1, h2⟩ := W10.out; rw [HNA.out] at h1; exact ⟨dq, cq, h1.cell⟩
    obtain ⟨dq, cq, cw0⟩ := cw0
    have cwx0 := X10.out.cell
    have HCW := hiddenN cw0
    have HCX := hiddenN cwx0
    have BA10 := BA
    clear cw0 cwx0
    go_wp2
    refine rangeZ 12 rfl (enters_of Try.func40 (by kernel_rfl) rfl) (allZ_stops (9 - 1) _ VA kb l HK10.out HS.out) (fun h k => KpZ.trans h k) (kpZ_b (w := VA))
      (fun pre W => CllZ VA ab pre W) (fun _ _ _ => False) CllZ.own (fun _ _ _ _ _ hs _ _ => hs) (CllZ.start BA.out) ?assignT12 ?bodyT12 ?doneT12 ?stopT12
    case assignT12 =>
      intro l9 x W K hK
      simp only [List.setIfInBounds_toArray, List.set_cons_zero, List.set_cons_succ] at hK ⊢
      gi_wp2
      exact hK
    case bodyT12 =>
      rintro l9 pre x W hcol hlt
      simp only [List.setIfInBounds_toArray, List.set_cons_zero, List.set_cons_succ]
      rw [HTK.out] at hlt
      obtain ⟨v, hv, hrow, hnil⟩ := hcol.box
      have hc := hv.cell
      have cw0 := HCW.out
      have hni : ¬ ((NA : Int) < (pre.length : Int) + 1) := by omega
      have hnn : ¬ (NA < pre.length + 1) := by omega
      gi_wp2_with (gi_at_builtin; refine wpListIn_append_own _ rfl _ _ 26 rfl VA.heap.size 3 i0 (.int .i64 0) 1 8 Try.underlying26 hi hz0 hz1 hz2 rfl (by decide) _ _ _ rfl (hrow.alloc _) ⟨W.heap.size, 0, none⟩ 1 1 [.int .i64 x] rfl rfl (cell_one_new _ _ _) (by simp [Value.oneCell']) (by unfold maxLen; omega) (by omega) (by have := hcol.size; simp; omega) ?_; intro v' w1 hown' hgrow _; obtain ⟨g', cap', rfl⟩ := ownsRow_succ hown'; obtain ⟨hv1, hv2, hk2, hkp, hcol2⟩ := hcol.step hv hrow hlab htab (by intro e; cases e) hown' hgrow; have hc1 := hv1.cell; have hf1 := hv1.frozen; have hc2 := hv2.cell; have hw2 := (cell_blk (o := 0) (hcol2.keep wb (by omega) (by omega))).trans cw0)
      exact ⟨hk2, hkp, hcol2⟩
    case stopT12 =>
      rintro D1 c' pre W _ _ h _
      exact h.elim
    case doneT12 =>
      rintro D1 ys WB hD1 rfl hcol HD1
      rw [HA.out] at hcol
      -- the second range
      have HasA1 := hiddenN hcol.has
      have W1 := hiddenN (W10.out.keep hcol.keep (by omega) BA10.out)
      have X1 : Hid (Boxed WB sx 3 (.int .i64 st)) := (hcol.keep sx X10.out.lt (by omega)).trans X10.out
      have HK1 := hiddenN (HK10.out.keepP (P := (· ≠ ab)) (fun k _ h2 h3 => hcol.keep k h2 h3) (by omega) (fun k hk e => tyz_not BA10.out (e ▸ hk)))
      have L1 : Hid (Below w.heap.size w WB) := ⟨hcol.os.trans L10.out.os, hcol.tape.trans L10.out.tape, hcol.output.trans L10.out.output, Nat.le_trans L10.out.size hcol.size, fun k hk => (hcol.keep k (Nat.lt_of_lt_of_le hk L10.out.size) (by omega)).trans (L10.out.block k hk)⟩
      have BB1 : Hid (Boxed WB bb 26 (.slice none 0 0)) := (hcol.keep bb hlbb (by omega)).trans BB.out
      have BC1 : Hid (Boxed WB cb 26 (.slice none 0 0)) := (hcol.keep cb hlcb (by omega)).trans BC.out
      have hlbb : bb < WB.heap.size := BB1.out.lt
      have htbb := tyz_not BB1.out
      have hD1w : w.heap.size ≤ D1 := Nat.le_trans L10.out.size hD1
      have hD1l : D1 < WB.heap.size := (Array.getElem?_eq_some_iff.1 HD1).1
      have hD1c : cb < D1 := Nat.lt_of_lt_of_le hlcb hD1
      have hlsx : sx < WB.heap.size := X1.out.lt
      have HCXWB := hiddenN X1.out.cell
      have hlwb : wb < WB.heap.size := (by obtain ⟨_, _, h1, _⟩ := W1.out; exact h1.lt)
      have cw0 : ∃ dq cq, WB.cell? ⟨wb, 0, none⟩ = some (.slice dq NA cq) := by obtain ⟨dq, cq, h1, h2⟩ := W1.out; rw [HNA.out] at h1; exact ⟨dq, cq, h1.cell⟩
      obtain ⟨dq, cq, cw0⟩ := cw0
      have HCWWB := hiddenN cw0
      clear cw0 hcol W10 X10 HK10 L10 BA BB BC hlcb HCW HCX hlab htab
      go_wp2
      refine rangeZ 13 rfl (enters_of Try.func40 (by kernel_rfl) rfl) (allZ_stops (9 - 1) _ WB kb l HK1.out HS.out) (fun h k => KpZ.trans h k) (kpZ_b (w := WB))
        (fun pre W => CllZ WB bb pre W ∧ pre.length ≤ TM) (fun c pre W => c = Code.exit 2 ∧ ∃ (q : List Int) (x : Int), pre = q ++ [x] ∧ q.length = TM ∧ CllZ WB bb q W) (fun s W W' row h hg hr => ⟨CllZ.own s W W' row h.1 hg hr, h.2⟩) (fun c s W W' row h hg hr => ⟨h.1, by obtain ⟨q, x, h2, h3, h4⟩ := h.2; exact ⟨q, x, h2, h3, CllZ.own q W W' row h4 hg hr⟩⟩) ⟨CllZ.start BB1.out, Nat.zero_le _⟩ ?assignT13 ?bodyT13 ?doneT13 ?stopT13
      case assignT13 =>
        intro l9 x W K hK
        simp only [List.setIfInBounds_toArray, List.set_cons_zero, List.set_cons_succ] at hK ⊢
        gi_wp2
        exact hK
      case bodyT13 =>
        rintro l9 pre x W ⟨hcol, hml⟩ hlt
        simp only [List.setIfInBounds_toArray, List.set_cons_zero, List.set_cons_succ]
        rw [HTK.out] at hlt
        obtain ⟨v, hv, hrow, hnil⟩ := hcol.box
        obtain ⟨dv, cv, rfl⟩ := row_slice hrow
        have hc := hv.cell
        have cw0 := HCWWB.out
        have cs0 : W.cell? ⟨sx, 0, none⟩ = some (.int .i64 st) := by rw [cell_blk (hcol.keep sx hlsx (by omega))]; exact HCXWB.out
        by_cases hge : st ≤ (pre.length : Int)
        · have hcol9 := hiddenN hcol
          have hpl : pre.length = TM := by omega
          have HPL := hiddenN hpl
          clear hpl hml hrow hnil
          gi_wp2
          exact ⟨(KeepsOthers.refl _).from _, rfl, pre, x, rfl, HPL.out, hcol9.out⟩
        · have hml2 : pre.length + 1 ≤ TM := by omega
          gi_wp2_with (gi_at_builtin; refine wpListIn_append_own _ rfl _ _ 26 rfl WB.heap.size 3 i0 (.int .i64 0) 1 8 Try.underlying26 hi hz0 hz1 hz2 rfl (by decide) _ _ _ rfl (hrow.alloc _) ⟨W.heap.size, 0, none⟩ 1 1 [.int .i64 x] rfl rfl (cell_one_new _ _ _) (by simp [Value.oneCell']) (by unfold maxLen; omega) (by omega) (by have := hcol.size; simp; omega) ?_; intro v' w1 hown' hgrow _; obtain ⟨g', cap', rfl⟩ := ownsRow_succ hown'; obtain ⟨hv1, hv2, hk2, hkp, hcol2⟩ := hcol.step hv hrow hlbb htbb (by intro e; cases e) hown' hgrow; have hc1 := hv1.cell; have hf1 := hv1.frozen; have hc2 := hv2.cell; have hw2 := (cell_blk (o := 0) (hcol2.keep wb (by omega) (by omega))).trans cw0)
          exact ⟨hk2, hkp, hcol2, by rw [List.length_append]; exact hml2⟩
      case stopT13 =>
        rintro D2 c' pre WC hD2 hp ⟨rfl, q, x, rfl, hq, hcolB⟩ HD2
        rw [HA.out] at hp
        have eq : q = A.take TM := by
          obtain ⟨r, hr⟩ := hp
          rw [← hr, ← hq, List.append_assoc, List.take_left]
        rw [eq] at hcolB
        clear hp hq eq
        -- the third range
        have HasA2 := hiddenN (HasA1.out.keep hcolB.keep (by omega) BB1.out)
        have W2 := hiddenN (W1.out.keep hcolB.keep (by omega) BB1.out)
        have X2 : Hid (Boxed WC sx 3 (.int .i64 st)) := (hcolB.keep sx X1.out.lt (by omega)).trans X1.out
        have HK2 := hiddenN (HK1.out.keepP (P := (· ≠ bb)) (fun k _ h2 h3 => hcolB.keep k h2 h3) (by omega) (fun k hk e => tyz_not BB1.out (e ▸ hk)))
        have L2 : Hid (Below w.heap.size w WC) := ⟨hcolB.os.trans L1.out.os, hcolB.tape.trans L1.out.tape, hcolB.output.trans L1.out.output, Nat.le_trans L1.out.size hcolB.size, fun k hk => (hcolB.keep k (Nat.lt_of_lt_of_le hk L1.out.size) (by omega)).trans (L1.out.block k hk)⟩
        have BC2 : Hid (Boxed WC cb 26 (.slice none 0 0)) := (hcolB.keep cb BC1.out.lt (by omega)).trans BC1.out
        have HasB2 := hiddenN hcolB.has
        have HD1b : WC.heap[D1]? = some (.deferred (some [])) := (hcolB.keep D1 (Array.getElem?_eq_some_iff.1 HD1).1 (by omega)).trans HD1
        have hD21 : D1 < D2 := Nat.lt_of_lt_of_le (Array.getElem?_eq_some_iff.1 HD1).1 hD2
        have hD2l : D2 < WC.heap.size := (Array.getElem?_eq_some_iff.1 HD2).1
        have hD2w : w.heap.size ≤ D2 := Nat.le_trans L1.out.size hD2
        have cw0 : ∃ dq cq, WC.cell? ⟨wb, 0, none⟩ = some (.slice dq NA cq) := by obtain ⟨dq, cq, h1, h2⟩ := W2.out; rw [HNA.out] at h1; exact ⟨dq, cq, h1.cell⟩
        obtain ⟨dq, cq, cw0⟩ := cw0
        have HCWWC := hiddenN cw0
        have hlcb : cb < WC.heap.size := BC2.out.lt
        have hlwb : wb < WC.heap.size := (by obtain ⟨_, _, h1, _⟩ := W2.out; exact h1.lt)
        have htcb := tyz_not BC2.out
        clear cw0 HasA1 W1 X1 HK1 L1 BB1 BC1 hcolB HD1
        go_wp2
        refine rangeZ 14 rfl (enters_of Try.func40 (by kernel_rfl) rfl) (allZ_stops (9 - 1) _ WC kb l HK2.out HS.out) (fun h k => KpZ.trans h k) (kpZ_b (w := WC))
          (fun pre W => CllZ WC cb pre W) (fun _ _ _ => False) CllZ.own (fun _ _ _ _ _ hs _ _ => hs) (CllZ.start BC2.out) ?assignT15 ?bodyT15 ?doneT15 ?stopT15
        case assignT15 =>
          intro l9 x W K hK
          simp only [List.setIfInBounds_toArray, List.set_cons_zero, List.set_cons_succ] at hK ⊢
          gi_wp2
          exact hK
        case bodyT15 =>
          rintro l9 pre x W hcol hlt
          simp only [List.setIfInBounds_toArray, List.set_cons_zero, List.set_cons_succ]
          rw [HTK.out] at hlt
          obtain ⟨v, hv, hrow, hnil⟩ := hcol.box
          have hc := hv.cell
          have cw0 := HCWWC.out
          have hni : ¬ ((NA : Int) < (pre.length : Int) + 1) := by omega
          have hnn : ¬ (NA < pre.length + 1) := by omega
          gi_wp2_with (gi_at_builtin; refine wpListIn_append_own _ rfl _ _ 26 rfl WC.heap.size 3 i0 (.int .i64 0) 1 8 Try.underlying26 hi hz0 hz1 hz2 rfl (by decide) _ _ _ rfl (hrow.alloc _) ⟨W.heap.size, 0, none⟩ 1 1 [.int .i64 x] rfl rfl (cell_one_new _ _ _) (by simp [Value.oneCell']) (by unfold maxLen; omega) (by omega) (by have := hcol.size; simp; omega) ?_; intro v' w1 hown' hgrow _; obtain ⟨g', cap', rfl⟩ := ownsRow_succ hown'; obtain ⟨hv1, hv2, hk2, hkp, hcol2⟩ := hcol.step hv hrow hlcb htcb (by intro e; cases e) hown' hgrow; have hc1 := hv1.cell; have hf1 := hv1.frozen; have hc2 := hv2.cell; have hw2 := (cell_blk (o := 0) (hcol2.keep wb (by omega) (by omega))).trans cw0)
          exact ⟨hk2, hkp, hcol2⟩
        case stopT15 =>
          rintro D3 c' pre W _ _ h _
          exact h.elim
        case doneT15 =>
          rintro D3 ys W hD3 rfl hcolC HD3
          rw [HA.out] at hcolC
          have HasA := HasA2.out.keep hcolC.keep (by omega) BC2.out
          have HasBb := HasB2.out.keep hcolC.keep (by omega) BC2.out
          have HasC := hcolC.has
          have HasW := W2.out.keep hcolC.keep (by omega) BC2.out
          have stW : W.cell? ⟨sx, 0, none⟩ = some (.int .i64 st) := by rw [cell_blk (hcolC.keep sx X2.out.lt (by omega))]; exact X2.out.cell
          have LZq : Below w.heap.size w W := ⟨hcolC.os.trans L2.out.os, hcolC.tape.trans L2.out.tape, hcolC.output.trans L2.out.output, Nat.le_trans L2.out.size hcolC.size, fun k hk => (hcolC.keep k (Nat.lt_of_lt_of_le hk L2.out.size) (by omega)).trans (L2.out.block k hk)⟩
          have HD1c : W.heap[D1]? = some (.deferred (some [])) := (hcolC.keep D1 (Nat.lt_trans hD21 hD2l) (by omega)).trans HD1b
          have HD2c : W.heap[D2]? = some (.deferred (some [])) := (hcolC.keep D2 hD2l (by omega)).trans HD2
          have hD32 : D2 < D3 := Nat.lt_of_lt_of_le hD2l hD3
          have hD3w : w.heap.size ≤ D3 := Nat.le_trans L2.out.size hD3
          clear HasA2 HasB2 W2 X2 HK2 L2 BC2 hcolC HCWWC hlcb htcb hlwb HD1b HD2
          -- all three are there
          have LWq : Hid (Below w.heap.size w W) := LZq
          obtain ⟨TL, hTL⟩ : ∃ q, (A.take TM).length = q := ⟨_, rfl⟩
          have HTL := hiddenN hTL
          have hTLb : TL ≤ 2048 := by rw [← hTL, List.length_take, HNA.out]; omega
          clear hTL
          obtain ⟨da, ca, ba, ra⟩ := HasA
          obtain ⟨db, cb9, bb9, rb⟩ := HasBb
          obtain ⟨dc, cc9, bc9, rc⟩ := HasC
          obtain ⟨dw, cw, bw, rw9⟩ := HasW
          have ya := ba.cell
          have yb := bb9.cell
          have yc := bc9.cell
          have yw := bw.cell
          have ys := stW
          rw [HNA.out] at ya yc yw
          rw [HTL.out] at yb
          have RA := hiddenN ra
          have RB := hiddenN rb
          have RC := hiddenN rc
          have RW := hiddenN rw9
          have SA : Hid (∀ u, Below W.heap.size W u → Calls Try.prog 16 #[.slice da NA ca, .slice dw NA cw] u fun e w' => e = .returned (.bool true) ∧ Below u.heap.size u w') := fun u hu => by
            have := sameN u da dw A ca cw (by rw [HNA.out]; omega) (RA.out.at.below hu) (RW.out.at.below hu)
            rwa [HNA.out] at this
          have SC : Hid (∀ u, Below W.heap.size W u → Calls Try.prog 16 #[.slice dc NA cc9, .slice dw NA cw] u fun e w' => e = .returned (.bool true) ∧ Below u.heap.size u w') := fun u hu => by
            have := sameN u dc dw A cc9 cw (by rw [HNA.out]; omega) (RC.out.at.below hu) (RW.out.at.below hu)
            rwa [HNA.out] at this
          have SB : Hid (∀ u, Below W.heap.size W u → Calls Try.prog 16 #[.slice db TL cb9, .slice dw TL cw] u fun e w' => e = .returned (.bool true) ∧ Below u.heap.size u w') := fun u hu => by
            have := sameN u db dw (A.take TM) cb9 cw (by rw [HTL.out]; omega) (RB.out.at.below hu) ((RW.out.at.below hu).take TM)
            rwa [HTL.out] at this
          have hwc : NA ≤ cw := by have := RW.out.roomQ; rw [HNA.out] at this; exact this
          have AWW := hiddenN (AW.out W)
          have laW := ba.lt
          have lbW := bb9.lt
          have lcW := bc9.lt
          have lwW := bw.lt
          clear ba bb9 bc9 bw ra rb rc rw9
          by_cases hsn : st < (NA : Int)
          · have hTLM : TL = TM := by rw [← HTL.out, List.length_take, HNA.out]; omega
            rw [hTLM] at SB yb
            by_cases hs0 : st < 0
            · have hT0 : TM = 0 := by omega
              subst hT0
              go_wp2_with (first | (go_at_call 16; (with_reducible refine (SC.out Z3 QZ3.out).mono ?_); rintro e Z4 ⟨rfl, b⟩; have QZ4 := hiddenN (belowT QZ3.out b); clear b) | (go_at_call 16; (with_reducible refine (SB.out Z2 QZ2.out).mono ?_); rintro e Z3 ⟨rfl, b⟩; have QZ3 := hiddenN (belowT QZ2.out b); have yc3 := (cell_blk (o := 0) (QZ3.out.block cb lcW)).trans yc; have yw3 := (cell_blk (o := 0) (QZ3.out.block wb lwW)).trans yw; clear b) | (go_at_call 16; (with_reducible refine (SA.out Z1 QZ1.out).mono ?_); rintro e Z2 ⟨rfl, b⟩; have QZ2 := hiddenN (belowT QZ1.out b); have yb2 := (cell_blk (o := 0) (QZ2.out.block bb lbW)).trans yb; clear b) | (go_at_call 10; (with_reducible refine AWW.out.mono ?_); rintro e Z1 ⟨rfl, b⟩; have QZ1 := hiddenN b; have ya1 := (cell_blk (o := 0) (b.block ab laW)).trans ya; have yw1 := (cell_blk (o := 0) (b.block wb lwW)).trans yw; clear b))
              have k3 : Z4.heap[D3]? = some (.deferred (some [])) := (QZ4.out.block D3 (Array.getElem?_eq_some_iff.1 HD3).1).trans HD3
              have k2 : (Z4.putObj D3 (.deferred none)).heap[D2]? = some (.deferred (some [])) := (World.putObj_heap_other (by omega)).trans ((QZ4.out.block D2 (Array.getElem?_eq_some_iff.1 HD2c).1).trans HD2c)
              have k1 : ((Z4.putObj D3 (.deferred none)).putObj D2 (.deferred none)).heap[D1]? = some (.deferred (some [])) := (World.putObj_heap_other (by omega)).trans ((World.putObj_heap_other (by omega)).trans ((QZ4.out.block D1 (Array.getElem?_eq_some_iff.1 HD1c).1).trans HD1c))
              have LZ4 := LWq.out.trans (QZ4.out.mono LWq.out.size)
              refine ⟨by simp, .inl ⟨_, _, rfl, run_takeDeferred k3, ?_⟩⟩
              refine ⟨by simp, .inl ⟨_, _, rfl, run_takeDeferred k2, ?_⟩⟩
              refine ⟨by simp, .inl ⟨_, _, rfl, run_takeDeferred k1, ?_⟩⟩
              refine ⟨_, results_tmp rfl _ _ _, ?_⟩
              rw [← HRE.out]
              exact ⟨by first | rfl | simp, ((LZ4.trans (belowK_b (w := w) (Nat.le_refl _) _ D3 _ _ hD3w k3 rfl rfl)).trans (belowK_b (w := w) (Nat.le_refl _) _ D2 _ _ hD2w k2 rfl rfl)).trans (belowK_b (w := w) (Nat.le_refl _) _ D1 _ _ hD1w k1 rfl rfl)⟩
            · obtain ⟨sn, hsn2⟩ : ∃ q : Nat, st = (q : Int) := ⟨TM, by omega⟩
              have hT0 : sn = TM := by omega
              subst hsn2
              subst hT0
              have hsc : (sn : Int) ≤ (cw : Int) := by omega
              have hs1 : (0 : Int) ≤ (sn : Int) := by omega
              go_wp2_with (first | (go_at_call 16; (with_reducible refine (SC.out Z3 QZ3.out).mono ?_); rintro e Z4 ⟨rfl, b⟩; have QZ4 := hiddenN (belowT QZ3.out b); clear b) | (go_at_call 16; (with_reducible refine (SB.out Z2 QZ2.out).mono ?_); rintro e Z3 ⟨rfl, b⟩; have QZ3 := hiddenN (belowT QZ2.out b); have yc3 := (cell_blk (o := 0) (QZ3.out.block cb lcW)).trans yc; have yw3 := (cell_blk (o := 0) (QZ3.out.block wb lwW)).trans yw; clear b) | (go_at_call 16; (with_reducible refine (SA.out Z1 QZ1.out).mono ?_); rintro e Z2 ⟨rfl, b⟩; have QZ2 := hiddenN (belowT QZ1.out b); have yb2 := (cell_blk (o := 0) (QZ2.out.block bb lbW)).trans yb; clear b) | (go_at_call 10; (with_reducible refine AWW.out.mono ?_); rintro e Z1 ⟨rfl, b⟩; have QZ1 := hiddenN b; have ya1 := (cell_blk (o := 0) (b.block ab laW)).trans ya; have yw1 := (cell_blk (o := 0) (b.block wb lwW)).trans yw; clear b))
              have k3 : Z4.heap[D3]? = some (.deferred (some [])) := (QZ4.out.block D3 (Array.getElem?_eq_some_iff.1 HD3).1).trans HD3
              have k2 : (Z4.putObj D3 (.deferred none)).heap[D2]? = some (.deferred (some [])) := (World.putObj_heap_other (by omega)).trans ((QZ4.out.block D2 (Array.getElem?_eq_some_iff.1 HD2c).1).trans HD2c)
              have k1 : ((Z4.putObj D3 (.deferred none)).putObj D2 (.deferred none)).heap[D1]? = some (.deferred (some [])) := (World.putObj_heap_other (by omega)).trans ((World.putObj_heap_other (by omega)).trans ((QZ4.out.block D1 (Array.getElem?_eq_some_iff.1 HD1c).1).trans HD1c))
              have LZ4 := LWq.out.trans (QZ4.out.mono LWq.out.size)
              refine ⟨by simp, .inl ⟨_, _, rfl, run_takeDeferred k3, ?_⟩⟩
              refine ⟨by simp, .inl ⟨_, _, rfl, run_takeDeferred k2, ?_⟩⟩
              refine ⟨by simp, .inl ⟨_, _, rfl, run_takeDeferred k1, ?_⟩⟩
              refine ⟨_, results_tmp rfl _ _ _, ?_⟩
              rw [← HRE.out]
              exact ⟨by first | rfl | simp, ((LZ4.trans (belowK_b (w := w) (Nat.le_refl _) _ D3 _ _ hD3w k3 rfl rfl)).trans (belowK_b (w := w) (Nat.le_refl _) _ D2 _ _ hD2w k2 rfl rfl)).trans (belowK_b (w := w) (Nat.le_refl _) _ D1 _ _ hD1w k1 rfl rfl)⟩
          · have hTLN : TL = NA := by rw [← HTL.out, List.length_take, HNA.out]; omega
            have hTA : A.take TM = A := List.take_of_length_le (by rw [HNA.out]; omega)
            have SBn : Hid (∀ u, Below W.heap.size W u → Calls Try.prog 16 #[.slice db NA cb9, .slice dw NA cw] u fun e w' => e = .returned (.bool true) ∧ Below u.heap.size u w') := fun u hu => by
              have rb2 := RB.out
              rw [hTA] at rb2
              have := sameN u db dw A cb9 cw (by rw [HNA.out]; omega) (rb2.at.below hu) (RW.out.at.below hu)
              rwa [HNA.out] at this
            rw [hTLN] at yb
            go_wp2_with (first | (go_at_call 16; (with_reducible refine (SC.out Z3 QZ3.out).mono ?_); rintro e Z4 ⟨rfl, b⟩; have QZ4 := hiddenN (belowT QZ3.out b); clear b) | (go_at_call 16; (with_reducible refine (SBn.out Z2 QZ2.out).mono ?_); rintro e Z3 ⟨rfl, b⟩; have QZ3 := hiddenN (belowT QZ2.out b); have yc3 := (cell_blk (o := 0) (QZ3.out.block cb lcW)).trans yc; have yw3 := (cell_blk (o := 0) (QZ3.out.block wb lwW)).trans yw; clear b) | (go_at_call 16; (with_reducible refine (SA.out Z1 QZ1.out).mono ?_); rintro e Z2 ⟨rfl, b⟩; have QZ2 := hiddenN (belowT QZ1.out b); have yb2 := (cell_blk (o := 0) (QZ2.out.block bb lbW)).trans yb; clear b) | (go_at_call 10; (with_reducible refine AWW.out.mono ?_); rintro e Z1 ⟨rfl, b⟩; have QZ1 := hiddenN b; have ya1 := (cell_blk (o := 0) (b.block ab laW)).trans ya; have yw1 := (cell_blk (o := 0) (b.block wb lwW)).trans yw; clear b))
            have k3 : Z4.heap[D3]? = some (.deferred (some [])) := (QZ4.out.block D3 (Array.getElem?_eq_some_iff.1 HD3).1).trans HD3
            have k2 : (Z4.putObj D3 (.deferred none)).heap[D2]? = some (.deferred (some [])) := (World.putObj_heap_other (by omega)).trans ((QZ4.out.block D2 (Array.getElem?_eq_some_iff.1 HD2c).1).trans HD2c)
            have k1 : ((Z4.putObj D3 (.deferred none)).putObj D2 (.deferred none)).heap[D1]? = some (.deferred (some [])) := (World.putObj_heap_other (by omega)).trans ((World.putObj_heap_other (by omega)).trans ((QZ4.out.block D1 (Array.getElem?_eq_some_iff.1 HD1c).1).trans HD1c))
            have LZ4 := LWq.out.trans (QZ4.out.mono LWq.out.size)
            refine ⟨by simp, .inl ⟨_, _, rfl, run_takeDeferred k3, ?_⟩⟩
            refine ⟨by simp, .inl ⟨_, _, rfl, run_takeDeferred k2, ?_⟩⟩
            refine ⟨by simp, .inl ⟨_, _, rfl, run_takeDeferred k1, ?_⟩⟩
            refine ⟨_, results_tmp rfl _ _ _, ?_⟩
            rw [← HRE.out]
            exact ⟨by first | rfl | simp, ((LZ4.trans (belowK_b (w := w) (Nat.le_refl _) _ D3 _ _ hD3w k3 rfl rfl)).trans (belowK_b (w := w) (Nat.le_refl _) _ D2 _ _ hD2w k2 rfl rfl)).trans (belowK_b (w := w) (Nat.le_refl _) _ D1 _ _ hD1w k1 rfl rfl)⟩
      case doneT13 =>
        rintro D2 ys WC hD2 rfl ⟨hcolB, hml⟩ HD2
        rw [HA.out] at hcolB hml
        rw [show A = A.take TM by rw [List.take_of_length_le hml]] at hcolB
        -- the third range
        have HasA2 := hiddenN (HasA1.out.keep hcolB.keep (by omega) BB1.out)
        have W2 := hiddenN (W1.out.keep hcolB.keep (by omega) BB1.out)
        have X2 : Hid (Boxed WC sx 3 (.int .i64 st)) := (hcolB.keep sx X1.out.lt (by omega)).trans X1.out
        have HK2 := hiddenN (HK1.out.keepP (P := (· ≠ bb)) (fun k _ h2 h3 => hcolB.keep k h2 h3) (by omega) (fun k hk e => tyz_not BB1.out (e ▸ hk)))
        have L2 : Hid (Below w.heap.size w WC) := ⟨hcolB.os.trans L1.out.os, hcolB.tape.trans L1.out.tape, hcolB.output.trans L1.out.output, Nat.le_trans L1.out.size hcolB.size, fun k hk => (hcolB.keep k (Nat.lt_of_lt_of_le hk L1.out.size) (by omega)).trans (L1.out.block k hk)⟩
        have BC2 : Hid (Boxed WC cb 26 (.slice none 0 0)) := (hcolB.keep cb BC1.out.lt (by omega)).trans BC1.out
        have HasB2 := hiddenN hcolB.has
        have HD1b : WC.heap[D1]? = some (.deferred (some [])) := (hcolB.keep D1 (Array.getElem?_eq_some_iff.1 HD1).1 (by omega)).trans HD1
        have hD21 : D1 < D2 := Nat.lt_of_lt_of_le (Array.getElem?_eq_some_iff.1 HD1).1 hD2
        have hD2l : D2 < WC.heap.size := (Array.getElem?_eq_some_iff.1 HD2).1
        have hD2w : w.heap.size ≤ D2 := Nat.le_trans L1.out.size hD2
        have cw0 : ∃ dq cq, WC.cell? ⟨wb, 0, none⟩ = some (.slice dq NA cq) := by obtain ⟨dq, cq, h1, h2⟩ := W2.out; rw [HNA.out] at h1; exact ⟨dq, cq, h1.cell⟩
        obtain ⟨dq, cq, cw0⟩ := cw0
        have HCWWC := hiddenN cw0
        have hlcb : cb < WC.heap.size := BC2.out.lt
        have hlwb : wb < WC.heap.size := (by obtain ⟨_, _, h1, _⟩ := W2.out; exact h1.lt)
        have htcb := tyz_not BC2.out
        clear cw0 HasA1 W1 X1 HK1 L1 BB1 BC1 hcolB HD1
        go_wp2
        refine rangeZ 14 rfl (enters_of Try.func40 (by kernel_rfl) rfl) (allZ_stops (9 - 1) _ WC kb l HK2.out HS.out) (fun h k => KpZ.trans h k) (kpZ_b (w := WC))
          (fun pre W => CllZ WC cb pre W) (fun _ _ _ => False) CllZ.own (fun _ _ _ _ _ hs _ _ => hs) (CllZ.start BC2.out) ?assignT14 ?bodyT14 ?doneT14 ?stopT14
        case assignT14 =>
          intro l9 x W K hK
          simp only [List.setIfInBounds_toArray, List.set_cons_zero, List.set_cons_succ] at hK ⊢
          gi_wp2
          exact hK
        case bodyT14 =>
          rintro l9 pre x W hcol hlt
          simp only [List.setIfInBounds_toArray, List.set_cons_zero, List.set_cons_succ]
          rw [HTK.out] at hlt
          obtain ⟨v, hv, hrow, hnil⟩ := hcol.box
          have hc := hv.cell
          have cw0 := HCWWC.out
          have hni : ¬ ((NA : Int) < (pre.length : Int) + 1) := by omega
          have hnn : ¬ (NA < pre.length + 1) := by omega
          gi_wp2_with (gi_at_builtin; refine wpListIn_append_own _ rfl _ _ 26 rfl WC.heap.size 3 i0 (.int .i64 0) 1 8 Try.underlying26 hi hz0 hz1 hz2 rfl (by decide) _ _ _ rfl (hrow.alloc _) ⟨W.heap.size, 0, none⟩ 1 1 [.int .i64 x] rfl rfl (cell_one_new _ _ _) (by simp [Value.oneCell']) (by unfold maxLen; omega) (by omega) (by have := hcol.size; simp; omega) ?_; intro v' w1 hown' hgrow _; obtain ⟨g', cap', rfl⟩ := ownsRow_succ hown'; obtain ⟨hv1, hv2, hk2, hkp, hcol2⟩ := hcol.step hv hrow hlcb htcb (by intro e; cases e) hown' hgrow; have hc1 := hv1.cell; have hf1 := hv1.frozen; have hc2 := hv2.cell; have hw2 := (cell_blk (o := 0) (hcol2.keep wb (by omega) (by omega))).trans cw0)
          exact ⟨hk2, hkp, hcol2⟩
        case stopT14 =>
          rintro D3 c' pre W _ _ h _
          exact h.elim
        case doneT14 =>
          rintro D3 ys W hD3 rfl hcolC HD3
          rw [HA.out] at hcolC
          have HasA := HasA2.out.keep hcolC.keep (by omega) BC2.out
          have HasBb := HasB2.out.keep hcolC.keep (by omega) BC2.out
          have HasC := hcolC.has
          have HasW := W2.out.keep hcolC.keep (by omega) BC2.out
          have stW : W.cell? ⟨sx, 0, none⟩ = some (.int .i64 st) := by rw [cell_blk (hcolC.keep sx X2.out.lt (by omega))]; exact X2.out.cell
          have LZq : Below w.heap.size w W := ⟨hcolC.os.trans L2.out.os, hcolC.tape.trans L2.out.tape, hcolC.output.trans L2.out.output, Nat.le_trans L2.out.size hcolC.size, fun k hk => (hcolC.keep k (Nat.lt_of_lt_of_le hk L2.out.size) (by omega)).trans (L2.out.block k hk)⟩
          have HD1c : W.heap[D1]? = some (.deferred (some [])) := (hcolC.keep D1 (Nat.lt_trans hD21 hD2l) (by omega)).trans HD1b
          have HD2c : W.heap[D2]? = some (.deferred (some [])) := (hcolC.keep D2 hD2l (by omega)).trans HD2
          have hD32 : D2 < D3 := Nat.lt_of_lt_of_le hD2l hD3
          have hD3w : w.heap.size ≤ D3 := Nat.le_trans L2.out.size hD3
          clear HasA2 HasB2 W2 X2 HK2 L2 BC2 hcolC HCWWC hlcb htcb hlwb HD1b HD2
          -- all three are there
          have LWq : Hid (Below w.heap.size w W) := LZq
          obtain ⟨TL, hTL⟩ : ∃ q, (A.take TM).length = q := ⟨_, rfl⟩
          have HTL := hiddenN hTL
          have hTLb : TL ≤ 2048 := by rw [← hTL, List.length_take, HNA.out]; omega
          clear hTL
          obtain ⟨da, ca, ba, ra⟩ := HasA
          obtain ⟨db, cb9, bb9, rb⟩ := HasBb
          obtain ⟨dc, cc9, bc9, rc⟩ := HasC
          obtain ⟨dw, cw, bw, rw9⟩ := HasW
          have ya := ba.cell
          have yb := bb9.cell
          have yc := bc9.cell
          have yw := bw.cell
          have ys := stW
          rw [HNA.out] at ya yc yw
          rw [HTL.out] at yb
          have RA := hiddenN ra
          have RB := hiddenN rb
          have RC := hiddenN rc
          have RW := hiddenN rw9
          have SA : Hid (∀ u, Below W.heap.size W u → Calls Try.prog 16 #[.slice da NA ca, .slice dw NA cw] u fun e w' => e = .returned (.bool true) ∧ Below u.heap.size u w') := fun u hu => by
            have := sameN u da dw A ca cw (by rw [HNA.out]; omega) (RA.out.at.below hu) (RW.out.at.below hu)
            rwa [HNA.out] at this
          have SC : Hid (∀ u, Below W.heap.size W u → Calls Try.prog 16 #[.slice dc NA cc9, .slice dw NA cw] u fun e w' => e = .returned (.bool true) ∧ Below u.heap.size u w') := fun u hu => by
            have := sameN u dc dw A cc9 cw (by rw [HNA.out]; omega) (RC.out.at.below hu) (RW.out.at.below hu)
            rwa [HNA.out] at this
          have SB : Hid (∀ u, Below W.heap.size W u → Calls Try.prog 16 #[.slice db TL cb9, .slice dw TL cw] u fun e w' => e = .returned (.bool true) ∧ Below u.heap.size u w') := fun u hu => by
            have := sameN u db dw (A.take TM) cb9 cw (by rw [HTL.out]; omega) (RB.out.at.below hu) ((RW.out.at.below hu).take TM)
            rwa [HTL.out] at this
          have hwc : NA ≤ cw := by have := RW.out.roomQ; rw [HNA.out] at this; exact this
          have AWW := hiddenN (AW.out W)
          have laW := ba.lt
          have lbW := bb9.lt
          have lcW := bc9.lt
          have lwW := bw.lt
          clear ba bb9 bc9 bw ra rb rc rw9
          by_cases hsn : st < (NA : Int)
          · have hTLM : TL = TM := by rw [← HTL.out, List.length_take, HNA.out]; omega
            rw [hTLM] at SB yb
            by_cases hs0 : st < 0
            · have hT0 : TM = 0 := by omega
              subst hT0
              go_wp2_with (first | (go_at_call 16; (with_reducible refine (SC.out Z3 QZ3.out).mono ?_); rintro e Z4 ⟨rfl, b⟩; have QZ4 := hiddenN (belowT QZ3.out b); clear b) | (go_at_call 16; (with_reducible refine (SB.out Z2 QZ2.out).mono ?_); rintro e Z3 ⟨rfl, b⟩; have QZ3 := hiddenN (belowT QZ2.out b); have yc3 := (cell_blk (o := 0) (QZ3.out.block cb lcW)).trans yc; have yw3 := (cell_blk (o := 0) (QZ3.out.block wb lwW)).trans yw; clear b) | (go_at_call 16; (with_reducible refine (SA.out Z1 QZ1.out).mono ?_); rintro e Z2 ⟨rfl, b⟩; have QZ2 := hiddenN (belowT QZ1.out b); have yb2 := (cell_blk (o := 0) (QZ2.out.block bb lbW)).trans yb; clear b) | (go_at_call 10; (with_reducible refine AWW.out.mono ?_); rintro e Z1 ⟨rfl, b⟩; have QZ1 := hiddenN b; have ya1 := (cell_blk (o := 0) (b.block ab laW)).trans ya; have yw1 := (cell_blk (o := 0) (b.block wb lwW)).trans yw; clear b))
              have k3 : Z4.heap[D3]? = some (.deferred (some [])) := (QZ4.out.block D3 (Array.getElem?_eq_some_iff.1 HD3).1).trans HD3
              have k2 : (Z4.putObj D3 (.deferred none)).heap[D2]? = some (.deferred (some [])) := (World.putObj_heap_other (by omega)).trans ((QZ4.out.block D2 (Array.getElem?_eq_some_iff.1 HD2c).1).trans HD2c)
              have k1 : ((Z4.putObj D3 (.deferred none)).putObj D2 (.deferred none)).heap[D1]? = some (.deferred (some [])) := (World.putObj_heap_other (by omega)).trans ((World.putObj_heap_other (by omega)).trans ((QZ4.out.block D1 (Array.getElem?_eq_some_iff.1 HD1c).1).trans HD1c))
              have LZ4 := LWq.out.trans (QZ4.out.mono LWq.out.size)
              refine ⟨by simp, .inl ⟨_, _, rfl, run_takeDeferred k3, ?_⟩⟩
              refine ⟨by simp, .inl ⟨_, _, rfl, run_takeDeferred k2, ?_⟩⟩
              refine ⟨by simp, .inl ⟨_, _, rfl, run_takeDeferred k1, ?_⟩⟩
              refine ⟨_, results_tmp rfl _ _ _, ?_⟩
              rw [← HRE.out]
              exact ⟨by first | rfl | simp, ((LZ4.trans (belowK_b (w := w) (Nat.le_refl _) _ D3 _ _ hD3w k3 rfl rfl)).trans (belowK_b (w := w) (Nat.le_refl _) _ D2 _ _ hD2w k2 rfl rfl)).trans (belowK_b (w := w) (Nat.le_refl _) _ D1 _ _ hD1w k1 rfl rfl)⟩
            · obtain ⟨sn, hsn2⟩ : ∃ q : Nat, st = (q : Int) := ⟨TM, by omega⟩
              have hT0 : sn = TM := by omega
              subst hsn2
              subst hT0
              have hsc : (sn : Int) ≤ (cw : Int) := by omega
              have hs1 : (0 : Int) ≤ (sn : Int) := by omega
              go_wp2_with (first | (go_at_call 16; (with_reducible refine (SC.out Z3 QZ3.out).mono ?_); rintro e Z4 ⟨rfl, b⟩; have QZ4 := hiddenN (belowT QZ3.out b); clear b) | (go_at_call 16; (with_reducible refine (SB.out Z2 QZ2.out).mono ?_); rintro e Z3 ⟨rfl, b⟩; have QZ3 := hiddenN (belowT QZ2.out b); have yc3 := (cell_blk (o := 0) (QZ3.out.block cb lcW)).trans yc; have yw3 := (cell_blk (o := 0) (QZ3.out.block wb lwW)).trans yw; clear b) | (go_at_call 16; (with_reducible refine (SA.out Z1 QZ1.out).mono ?_); rintro e Z2 ⟨rfl, b⟩; have QZ2 := hiddenN (belowT QZ1.out b); have yb2 := (cell_blk (o := 0) (QZ2.out.block bb lbW)).trans yb; clear b) | (go_at_call 10; (with_reducible refine AWW.out.mono ?_); rintro e Z1 ⟨rfl, b⟩; have QZ1 := hiddenN b; have ya1 := (cell_blk (o := 0) (b.block ab laW)).trans ya; have yw1 := (cell_blk (o := 0) (b.block wb lwW)).trans yw; clear b))
              have k3 : Z4.heap[D3]? = some (.deferred (some [])) := (QZ4.out.block D3 (Array.getElem?_eq_some_iff.1 HD3).1).trans HD3
              have k2 : (Z4.putObj D3 (.deferred none)).heap[D2]? = some (.deferred (some [])) := (World.putObj_heap_other (by omega)).trans ((QZ4.out.block D2 (Array.getElem?_eq_some_iff.1 HD2c).1).trans HD2c)
              have k1 : ((Z4.putObj D3 (.deferred none)).putObj D2 (.deferred none)).heap[D1]? = some (.deferred (some [])) := (World.putObj_heap_other (by omega)).trans ((World.putObj_heap_other (by omega)).trans ((QZ4.out.block D1 (Array.getElem?_eq_some_iff.1 HD1c).1).trans HD1c))
              have LZ4 := LWq.out.trans (QZ4.out.mono LWq.out.size)
              refine ⟨by simp, .inl ⟨_, _, rfl, run_takeDeferred k3, ?_⟩⟩
              refine ⟨by simp, .inl ⟨_, _, rfl, run_takeDeferred k2, ?_⟩⟩
              refine ⟨by simp, .inl ⟨_, _, rfl, run_takeDeferred k1, ?_⟩⟩
              refine ⟨_, results_tmp rfl _ _ _, ?_⟩
              rw [← HRE.out]
              exact ⟨by first | rfl | simp, ((LZ4.trans (belowK_b (w := w) (Nat.le_refl _) _ D3 _ _ hD3w k3 rfl rfl)).trans (belowK_b (w := w) (Nat.le_refl _) _ D2 _ _ hD2w k2 rfl rfl)).trans (belowK_b (w := w) (Nat.le_refl _) _ D1 _ _ hD1w k1 rfl rfl)⟩
          · have hTLN : TL = NA := by rw [← HTL.out, List.length_take, HNA.out]; omega
            have hTA : A.take TM = A := List.take_of_length_le (by rw [HNA.out]; omega)
            have SBn : Hid (∀ u, Below W.heap.size W u → Calls Try.prog 16 #[.slice db NA cb9, .slice dw NA cw] u fun e w' => e = .returned (.bool true) ∧ Below u.heap.size u w') := fun u hu => by
              have rb2 := RB.out
              rw [hTA] at rb2
              have := sameN u db dw A cb9 cw (by rw [HNA.out]; omega) (rb2.at.below hu) (RW.out.at.below hu)
              rwa [HNA.out] at this
            rw [hTLN] at yb
            go_wp2_with (first | (go_at_call 16; (with_reducible refine (SC.out Z3 QZ3.out).mono ?_); rintro e Z4 ⟨rfl, b⟩; have QZ4 := hiddenN (belowT QZ3.out b); clear b) | (go_at_call 16; (with_reducible refine (SBn.out Z2 QZ2.out).mono ?_); rintro e Z3 ⟨rfl, b⟩; have QZ3 := hiddenN (belowT QZ2.out b); have yc3 := (cell_blk (o := 0) (QZ3.out.block cb lcW)).trans yc; have yw3 := (cell_blk (o := 0) (QZ3.out.block wb lwW)).trans yw; clear b) | (go_at_call 16; (with_reducible refine (SA.out Z1 QZ1.out).mono ?_); rintro e Z2 ⟨rfl, b⟩; have QZ2 := hiddenN (belowT QZ1.out b); have yb2 := (cell_blk (o := 0) (QZ2.out.block bb lbW)).trans yb; clear b) | (go_at_call 10; (with_reducible refine AWW.out.mono ?_); rintro e Z1 ⟨rfl, b⟩; have QZ1 := hiddenN b; have ya1 := (cell_blk (o := 0) (b.block ab laW)).trans ya; have yw1 := (cell_blk (o := 0) (b.block wb lwW)).trans yw; clear b))
            have k3 : Z4.heap[D3]? = some (.deferred (some [])) := (QZ4.out.block D3 (Array.getElem?_eq_some_iff.1 HD3).1).trans HD3
            have k2 : (Z4.putObj D3 (.deferred none)).heap[D2]? = some (.deferred (some [])) := (World.putObj_heap_other (by omega)).trans ((QZ4.out.block D2 (Array.getElem?_eq_some_iff.1 HD2c).1).trans HD2c)
            have k1 : ((Z4.putObj D3 (.deferred none)).putObj D2 (.deferred none)).heap[D1]? = some (.deferred (some [])) := (World.putObj_heap_other (by omega)).trans ((World.putObj_heap_other (by omega)).trans ((QZ4.out.block D1 (Array.getElem?_eq_some_iff.1 HD1c).1).trans HD1c))
            have LZ4 := LWq.out.trans (QZ4.out.mono LWq.out.size)
            refine ⟨by simp, .inl ⟨_, _, rfl, run_takeDeferred k3, ?_⟩⟩
            refine ⟨by simp, .inl ⟨_, _, rfl, run_takeDeferred k2, ?_⟩⟩
            refine ⟨by simp, .inl ⟨_, _, rfl, run_takeDeferred k1, ?_⟩⟩
            refine ⟨_, results_tmp rfl _ _ _, ?_⟩
            rw [← HRE.out]
            exact ⟨by first | rfl | simp, ((LZ4.trans (belowK_b (w := w) (Nat.le_refl _) _ D3 _ _ hD3w k3 rfl rfl)).trans (belowK_b (w := w) (Nat.le_refl _) _ D2 _ _ hD2w k2 rfl rfl)).trans (belowK_b (w := w) (Nat.le_refl _) _ D1 _ _ hD1w k1 rfl rfl)⟩
  · refine ⟨_, results_tmp rfl _ _ _, ?_⟩
    rw [← HRE.out]
    exact ⟨rfl, B0.out⟩
end Go.Proofs.Ytmeogapffdgjlaa

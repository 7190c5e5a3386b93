/- Texts of one chain, laid one behind the other. -/
import Derived.Test.YtigodedloogbcaaPartSimulRuns19
import Derived.WalkSmall
import Derived.Test.YtigodedloogbcaaPartSimulRuns9
namespace Go.Proofs.Ytigodedloogbcaa
open Go.ChangeShapes Go.WideShapes Go.ChangeAt Go.RowKit
def stepV (x : Nat × Bool) : List Value := [.int .i64 (x.1 : Int), .bool x.2]
def flatS : List (Nat × Bool) → List Value
  | [] => []
  | x :: L => stepV x ++ flatS L
def nthS (L : List (Nat × Bool)) (k : Nat) : Nat × Bool := L.getD k (0, false)
def celS (x : Nat × Bool) (j : Nat) : Value := if j = 0 then .int .i64 (x.1 : Int) else .bool x.2
theorem flatS_len : ∀ (L : List (Nat × Bool)), (flatS L).length = L.length * 2
  | [] => rfl
  | x :: L => by show (stepV x ++ flatS L).length = _; rw [List.length_append, flatS_len L, List.length_cons]; show 2 + _ = _; omega
theorem flatS_get : ∀ {L : List (Nat × Bool)} {k j : Nat}, k < L.length → j < 2 → (flatS L)[k * 2 + j]? = some (celS (nthS L k) j)
  | [], k, j, hk, _ => absurd hk (Nat.not_lt_zero _)
  | a :: L, 0, j, _, hj => by
    show (stepV a ++ flatS L)[0 * 2 + j]? = _
    rw [Nat.zero_mul, Nat.zero_add, List.getElem?_append_left (by show j < 2; exact hj)]
    match j, hj with
    | 0, _ => rfl
    | 1, _ => rfl
  | a :: L, k + 1, j, hk, hj => by
    show (stepV a ++ flatS L)[(k + 1) * 2 + j]? = _
    rw [List.getElem?_append_right (by show 2 ≤ _; omega)]
    have e : (k + 1) * 2 + j - (stepV a).length = k * 2 + j := by show (k + 1) * 2 + j - 2 = _; omega
    rw [e]
    exact flatS_get (Nat.lt_of_succ_lt_succ hk) hj
/-- Steps as they lie. -/
def AtS (w : World) (a : Option Addr) (L : List (Nat × Bool)) : Prop := L = [] ∨ ∃ b off, a = some ⟨b, off, none⟩ ∧ ∀ k, k < L.length → w.cell? ⟨b, off + k * 2, none⟩ = some (.int .i64 ((nthS L k).1 : Int)) ∧ w.cell? ⟨b, off + k * 2 + 1, none⟩ = some (.bool (nthS L k).2)
theorem AtS.below {w w' : World} {a : Option Addr} {L : List (Nat × Bool)} (h : AtS w a L) (hb : Below w.heap.size w w') : AtS w' a L := by
  rcases h with h | ⟨b, off, e, hc⟩
  · exact .inl h
  · exact .inr ⟨b, off, e, fun k hk => ⟨cellN_later hb (hc k hk).1, cellN_later hb (hc k hk).2⟩⟩
theorem AtS.flat {w : World} {ad : Addr} {L : List (Nat × Bool)} (h : AtS w (some ad) L) : ∀ j u, (flatS L)[j]? = some u → w.cell? (ad.add j) = some u := by
  intro j u hu
  have hj : j < L.length * 2 := by rw [← flatS_len]; exact (List.getElem?_eq_some_iff.1 hu).1
  rcases h with e | ⟨b, off, e, hc⟩
  · subst e; simp at hj
  · cases e
    have hk : j / 2 < L.length := by omega
    have e1 : j = j / 2 * 2 + j % 2 := by omega
    have hr : j % 2 < 2 := Nat.mod_lt _ (by decide)
    have h1 := flatS_get (L := L) hk hr
    rw [← e1, hu] at h1
    cases h1
    obtain ⟨c0, c1⟩ := hc (j / 2) hk
    have ea : (⟨b, off, none⟩ : Addr).add j = ⟨b, off + j / 2 * 2 + j % 2, none⟩ := by
      have e2 : off + j / 2 * 2 + j % 2 = off + j := by omega
      rw [e2]
      simp [Addr.add]
    rw [ea]
    clear ea e1
    generalize j / 2 = k at *
    generalize j % 2 = r at *
    match r, hr with
    | 0, _ => exact c0
    | 1, _ => exact c1
/-- A row of steps of a call's own, with room behind it. -/
def CapS (B : Nat) (w : World) (a : Option Addr) (c : Nat) (L : List (Nat × Bool)) : Prop := w.ownsRow B 103 2 (.slice a L.length c) L.length (flatS L)
theorem CapS.nil (B : Nat) (w : World) : CapS B w none 0 [] := World.ownsRow_nil _ _ _ _
theorem CapS.at {B : Nat} {w : World} {a : Option Addr} {c : Nat} {L : List (Nat × Bool)} (h : CapS B w a c L) : AtS w a L := by
  unfold CapS at h
  rcases h.2 with ⟨hv, hn⟩ | ⟨g, cap, cur, hv, hg, hh, hc, hm, hs, ht⟩
  · exact .inl (List.eq_nil_of_length_eq_zero hn)
  · cases hv
    refine .inr ⟨g, 0, rfl, fun k hk => ?_⟩
    have key : ∀ j, j < 2 → w.cell? ⟨g, k * 2 + j, none⟩ = some (celS (nthS L k) j) := fun j hj => by
      rw [h.cellAt (k * 2 + j) (by omega), flatS_get hk hj]
    rw [Nat.zero_add]
    exact ⟨key 0 (by decide), key 1 (by decide)⟩
theorem CapS.lt {B : Nat} {w : World} {a : Option Addr} {c : Nat} {L : List (Nat × Bool)} (h : CapS B w a c L) : ∀ x, a = some x → B ≤ x.block ∧ x.block < w.heap.size := by
  intro x hx
  rcases h.2 with ⟨hv, hn⟩ | ⟨g, cap, cur, hv, hg, hh, hc, hm, hs, ht⟩
  · simp at hv; rw [hv.1] at hx; cases hx
  · cases hv
    cases hx
    exact ⟨hg, (Array.getElem?_eq_some_iff.1 hh).1⟩
theorem CapS.none {B : Nat} {w : World} {a : Option Addr} {c : Nat} {L : List (Nat × Bool)} (h : CapS B w a c L) : a = Option.none → L.length = 0 ∧ c = 0 := by
  intro e
  rcases h.2 with ⟨hv, hn⟩ | ⟨g, cap, cur, hv, hg, hh, hc, hm, hs, ht⟩
  · simp at hv; exact ⟨hn, hv.2.2⟩
  · subst e; cases hv
theorem CapS.keep {B : Nat} {w w' : World} {a : Option Addr} {c : Nat} {L : List (Nat × Bool)} (h : CapS B w a c L) (hk : ∀ x, a = some x → w'.heap[x.block]? = w.heap[x.block]?) : CapS B w' a c L := by
  refine ⟨h.1, ?_⟩
  rcases h.2 with h2 | ⟨g, cap, cur, hv, hg, hh, r⟩
  · exact .inl h2
  · refine .inr ⟨g, cap, cur, hv, hg, ?_, r⟩
    cases hv
    rw [hk _ rfl]; exact hh
theorem CapS.later {B : Nat} {w w' : World} {a : Option Addr} {c : Nat} {L : List (Nat × Bool)} (h : CapS B w a c L) (hb : Below w.heap.size w w') : CapS B w' a c L := h.keep fun x hx => hb.block _ (h.lt x hx).2
theorem CapS.mono {B B' : Nat} {w : World} {a : Option Addr} {c : Nat} {L : List (Nat × Bool)} (h : CapS B w a c L) (hB : B' ≤ B) : CapS B' w a c L := by
  refine ⟨h.1, ?_⟩
  rcases h.2 with h2 | ⟨g, cap, cur, hv, hg, r⟩
  · exact .inl h2
  · exact .inr ⟨g, cap, cur, hv, Nat.le_trans hB hg, r⟩
theorem CapS.room {B : Nat} {w : World} {a : Option Addr} {c : Nat} {L : List (Nat × Bool)} (h : CapS B w a c L) : L.length ≤ c ∧ c ≤ maxLen := by
  rcases h.2 with ⟨hv, hn⟩ | ⟨g, cap, cur, hv, hg, hh, hc, hm, r⟩
  · simp at hv; exact ⟨by omega, by omega⟩
  · cases hv; exact ⟨hc, hm⟩
/-- All below B but one block stays. -/
structure KpB (B K : Nat) (w w' : World) : Prop where
  os : w'.os = w.os
  tape : w'.tape = w.tape
  output : w'.output = w.output
  size : w.heap.size ≤ w'.heap.size
  block : ∀ k, k < B → k ≠ K → w'.heap[k]? = w.heap[k]?
theorem KpB.refl (B K : Nat) (w : World) : KpB B K w w := ⟨rfl, rfl, rfl, Nat.le_refl _, fun _ _ _ => rfl⟩
theorem KpB.trans {B K : Nat} {a b c : World} (h : KpB B K a b) (k : KpB B K b c) : KpB B K a c := ⟨k.os.trans h.os, k.tape.trans h.tape, k.output.trans h.output, Nat.le_trans h.size k.size, fun i hi hn => (k.block i hi hn).trans (h.block i hi hn)⟩
theorem KpB.of_below {B K : Nat} {w w' : World} (h : Below B w w') : KpB B K w w' := ⟨h.os, h.tape, h.output, h.size, fun k hk _ => h.block k hk⟩
theorem KpB.of_but {B K : Nat} {w w' : World} (h : But K w w') (hB : B ≤ w.heap.size) : KpB B K w w' := ⟨h.os, h.tape, h.output, h.size, fun k hk hn => h.block k (Nat.lt_of_lt_of_le hk hB) hn⟩
theorem cellF_block {w w' : World} {b o : Nat} {v : Value} (h : w.cell? ⟨b, o, none⟩ = some v) (hk : w'.heap[b]? = w.heap[b]?) : w'.cell? ⟨b, o, none⟩ = some v := by
  unfold World.cell? at h ⊢
  rw [hk]
  exact h
/-- What reach leans on. -/
structure ReaF (B : Nat) (w : World) (ob tb nb pb rb : Nat) (A : List NA) (T : List Nat) (e : Nat) (aa ta : Option Addr) (ac tc : Nat) : Prop where
  oc : w.cell? ⟨ob, 0, none⟩ = some (.int .i64 (e : Int))
  tcl : w.cell? ⟨tb, 0, none⟩ = some (.slice ta T.length tc)
  nc : w.cell? ⟨nb, 1, none⟩ = some (.slice aa A.length ac)
  rc : w.cell? ⟨rb, 0, none⟩ = some (.func (.func 81) #[] #[.pointer (some ⟨ob, 0, none⟩), .pointer (some ⟨tb, 0, none⟩), .pointer (some ⟨nb, 0, none⟩), .pointer (some ⟨pb, 0, none⟩), .pointer (some ⟨rb, 0, none⟩)])
  tat : ∀ k, k < T.length → ∃ b off, ta = some ⟨b, off, none⟩ ∧ b < B ∧ b ≠ pb ∧ ∀ k, (h : k < T.length) → w.cell? ⟨b, off + k, none⟩ = some (.int .i64 (T[k] : Int))
  nat : ∀ k, k < A.length → ∃ b off, aa = some ⟨b, off, none⟩ ∧ b < B ∧ b ≠ pb ∧ ∀ k, k < A.length → w.cell? ⟨b, off + k * 5, none⟩ = some (.int .i64 (nthNa A k).f) ∧ w.cell? ⟨b, off + k * 5 + 1, none⟩ = some (.int .i64 (nthNa A k).t) ∧ w.cell? ⟨b, off + k * 5 + 2, none⟩ = some (.int .i64 (nthNa A k).g) ∧ w.cell? ⟨b, off + k * 5 + 3, none⟩ = some (.int .i64 (nthNa A k).k) ∧ w.cell? ⟨b, off + k * 5 + 4, none⟩ = some (.int .i64 (nthNa A k).s)
  lo : ob < B ∧ tb < B ∧ nb < B ∧ rb < B ∧ pb < B
  ne : ob ≠ pb ∧ tb ≠ pb ∧ nb ≠ pb ∧ rb ≠ pb
theorem ReaF.keep {B : Nat} {w w' : World} {ob tb nb pb rb : Nat} {A : List NA} {T : List Nat} {e : Nat} {aa ta : Option Addr} {ac tc : Nat} (h : ReaF B w ob tb nb pb rb A T e aa ta ac tc) (k : KpB B pb w w') : ReaF B w' ob tb nb pb rb A T e aa ta ac tc := by
  obtain ⟨l1, l2, l3, l4, l5⟩ := h.lo
  obtain ⟨n1, n2, n3, n4⟩ := h.ne
  refine ⟨cellF_block h.oc (k.block _ l1 n1), cellF_block h.tcl (k.block _ l2 n2), cellF_block h.nc (k.block _ l3 n3), cellF_block h.rc (k.block _ l4 n4), fun i hi => ?_, fun i hi => ?_, h.lo, h.ne⟩
  · obtain ⟨b, off, h1, h2, h3, h4⟩ := h.tat i hi
    exact ⟨b, off, h1, h2, h3, fun j hj => cellF_block (h4 j hj) (k.block _ h2 h3)⟩
  · obtain ⟨b, off, h1, h2, h3, h4⟩ := h.nat i hi
    have q := k.block _ h2 h3
    exact ⟨b, off, h1, h2, h3, fun j hj => ⟨cellF_block (h4 j hj).1 q, cellF_block (h4 j hj).2.1 q, cellF_block (h4 j hj).2.2.1 q, cellF_block (h4 j hj).2.2.2.1 q, cellF_block (h4 j hj).2.2.2.2 q⟩⟩
/-- The path so far. -/
structure PthF (B : Nat) (w : World) (pb : Nat) (P : List (Nat × Bool)) (d : Option Addr) (c : Nat) : Prop where
  blk : BlkA 41 pb w #[.slice d P.length c]
  row : CapS B w d c P
  size : B ≤ w.heap.size
  low : pb < B
theorem PthF.below {B : Nat} {w w' : World} {pb : Nat} {P : List (Nat × Bool)} {d : Option Addr} {c : Nat} (h : PthF B w pb P d c) (hb : Below w.heap.size w w') : PthF B w' pb P d c := ⟨h.blk.below hb, h.row.later hb, Nat.le_trans h.size hb.size, h.low⟩
theorem PthF.put {B : Nat} {w w' : World} {pb : Nat} {P R : List (Nat × Bool)} {d d' : Option Addr} {c c' : Nat} {m : Nat} (h : PthF B w pb P d c) (hb : Below B w w') (hr : CapS B w' d' c' R) (hm : R.length = m) : BlkA 41 pb w' #[.slice d P.length c] ∧ PthF B (w'.setCell ⟨pb, 0, none⟩ (.slice d' m c')) pb R d' c' ∧ KpB B pb w (w'.setCell ⟨pb, 0, none⟩ (.slice d' m c')) := by
  have l := h.low
  have s := h.size
  have hk : BlkA 41 pb w' #[.slice d P.length c] := h.blk.keep (hb.block pb l)
  have bt := But.set w' pb 0 (.slice d' m c')
  have s2 := hb.size
  refine ⟨hk, ⟨?_, ?_, Nat.le_trans (Nat.le_trans s s2) bt.size, l⟩, (KpB.of_below hb).trans (KpB.of_but bt (Nat.le_trans s s2))⟩
  · subst hm
    exact hk.set 0 (.slice d' R.length c')
  · exact hr.keep fun x hx => bt.block _ (hr.lt x hx).2 (by have := (hr.lt x hx).1; omega)
/-- A new box: as it was made, then as it was filled. -/
def BoxF (B : Nat) (T : TypeId) (z0 vals : Array Value) (done : Bool) (u : World) (z : Value) : Prop := ∃ xb, z = .pointer (some ⟨xb, 0, none⟩) ∧ B ≤ xb ∧ BlkA T xb u (if done then vals else z0)
theorem BoxF.later {B : Nat} {T : TypeId} {z0 vals : Array Value} {done : Bool} {u u' : World} {z : Value} (h : BoxF B T z0 vals done u z) (hb : Below u.heap.size u u') : BoxF B T z0 vals done u' z := by
  obtain ⟨xb, h1, h2, h3⟩ := h
  exact ⟨xb, h1, h2, h3.below hb⟩
def SeV (B : Nat) (r : Option (List (Nat × Bool))) (u : World) (z : Value) : Prop := ∃ d c, z = .tuple #[.slice d (r.getD []).length c, .bool r.isSome] ∧ CapS B u d c (r.getD [])
def SlS (B : Nat) (P : List (Nat × Bool)) (u : World) (z : Value) : Prop := ∃ d c, z = .slice d P.length c ∧ CapS B u d c P
def ElS (j : Nat) (b : Bool) (u : World) (z : Value) : Prop := ∃ g, z = .slice (some ⟨g, 0, none⟩) 1 1 ∧ u.cell? ⟨g, 0, none⟩ = some (.int .i64 (j : Int)) ∧ u.cell? ⟨g, 1, none⟩ = some (.bool b)
theorem SeV.later {B : Nat} {r : Option (List (Nat × Bool))} {u u' : World} {z : Value} (h : SeV B r u z) (hb : Below u.heap.size u u') : SeV B r u' z := by
  obtain ⟨d, c, h1, h2⟩ := h
  exact ⟨d, c, h1, h2.later hb⟩
theorem SlS.later {B : Nat} {P : List (Nat × Bool)} {u u' : World} {z : Value} (h : SlS B P u z) (hb : Below u.heap.size u u') : SlS B P u' z := by
  obtain ⟨d, c, h1, h2⟩ := h
  exact ⟨d, c, h1, h2.later hb⟩
theorem ElS.later {j : Nat} {b : Bool} {u u' : World} {z : Value} (h : ElS j b u z) (hb : Below u.heap.size u u') : ElS j b u' z := by
  obtain ⟨g, h1, h2, h3⟩ := h
  exact ⟨g, h1, cellN_later hb h2, cellN_later hb h3⟩
def FoV (T H : List Int) (cd : Int) (u : World) (z : Value) : Prop := ∃ d1 c1 d2 c2, z = .tuple #[.agg #[.slice d1 T.length c1, .slice d2 H.length c2], .int .i64 cd] ∧ CapR 0 u d1 c1 T
def FaV (T H : List Int) (u : World) (z : Value) : Prop := ∃ d1 c1 d2 c2, z = .agg #[.slice d1 T.length c1, .slice d2 H.length c2] ∧ CapR 0 u d1 c1 T
def FbB (T H : List Int) (fb : Nat) (done : Bool) (u : World) : Prop := match done with
  | true => ∃ d1 c1 d2 c2, BlkA 66 fb u #[.slice d1 T.length c1, .slice d2 H.length c2] ∧ CapR 0 u d1 c1 T
  | false => BlkA 66 fb u #[.slice none 0 0, .slice none 0 0]
def FbV (B : Nat) (T H : List Int) (done : Bool) (u : World) (z : Value) : Prop := ∃ fb, z = .pointer (some ⟨fb, 0, none⟩) ∧ B ≤ fb ∧ FbB T H fb done u
theorem FoV.later {T H : List Int} {cd : Int} {u u' : World} {z : Value} (h : FoV T H cd u z) (hb : Below u.heap.size u u') : FoV T H cd u' z := by
  obtain ⟨d1, c1, d2, c2, h1, h2⟩ := h
  exact ⟨d1, c1, d2, c2, h1, h2.later hb⟩
theorem FaV.later {T H : List Int} {u u' : World} {z : Value} (h : FaV T H u z) (hb : Below u.heap.size u u') : FaV T H u' z := by
  obtain ⟨d1, c1, d2, c2, h1, h2⟩ := h
  exact ⟨d1, c1, d2, c2, h1, h2.later hb⟩
theorem FbV.later {B : Nat} {T H : List Int} {done : Bool} {u u' : World} {z : Value} (h : FbV B T H done u z) (hb : Below u.heap.size u u') : FbV B T H done u' z := by
  obtain ⟨fb, h1, h2, h3⟩ := h
  refine ⟨fb, h1, h2, ?_⟩
  cases done with
  | false => exact BlkA.below (show BlkA 66 fb u #[.slice none 0 0, .slice none 0 0] from h3) hb
  | true =>
    obtain ⟨d1, c1, d2, c2, q1, q2⟩ := h3
    exact ⟨d1, c1, d2, c2, q1.below hb, q2.later hb⟩
theorem AtN.take {w : World} {a : Option Addr} {A : List NA} (h : AtN w a A) (k : Nat) : AtN w a (A.take k) := by
  rcases h with e | ⟨b, off, e, hc⟩
  · subst e; exact .inl (by simp)
  · refine .inr ⟨b, off, e, fun i hi => ?_⟩
    rw [List.length_take] at hi
    rw [nthNa_take (by omega)]
    exact hc i (by omega)
end Go.Proofs.Ytigodedloogbcaa

/- Texts of one chain, laid one behind the other. -/
import Derived.Test.YtcpklpbhdbddiaaGreatDoorPartSketchParses14
import Derived.Test.YtcpklpbhdbddiaaGreatDoorPartSketchParses5
import Derived.Test.YtcpklpbhdbddiaaGreatDoorPartSketchParses21
namespace Go.Proofs.YtcpklpbhdbddiaaGreatDoor
open Go.ChangeShapes Go.WideShapes Go.ChangeAt Go.RowKit
theorem flat_set : ∀ (ts : List Tok) (k : Nat) (t : Tok), k < ts.length → ((((ts.flatMap tokC).set (k * 4) (.int .u8 t.sort)).set (k * 4 + 1) (.string (str t.text))).set (k * 4 + 2) (.int .i64 t.num)).set (k * 4 + 3) (.int .i64 t.place) = (ts.set k t).flatMap tokC
  | [], k, t, h => by simp at h
  | x :: r, 0, t, _ => by
    rw [List.flatMap_cons]
    show _ = ((t :: r).flatMap tokC)
    rw [List.flatMap_cons]
    rfl
  | x :: r, k + 1, t, h => by
    have e := flat_set r k t (by simp at h; omega)
    have e0 : (k + 1) * 4 = k * 4 + 4 := by omega
    rw [List.flatMap_cons, e0]
    show _ = ((x :: r.set k t).flatMap tokC)
    rw [List.flatMap_cons, ← e]
    rfl
structure Ap (B : Nat) (w wr : World) (a b : Option Addr) (As Bs : List Tok) (c d : Value) (ys zs : List Tok) : Prop where
  bel : Below B w wr
  tc : Toks B wr c ys
  td : Toks B wr d zs
  ta : AtT wr a As
  tb : AtT wr b Bs
  ac : As = [] ∨ ∃ g, a = some ⟨g, 0, none⟩ ∧ g < wr.heap.size ∧ d.ownBlock ≠ some g ∧ (c.ownBlock = some g → As <+: ys)
  bd : Bs = [] ∨ ∃ g, b = some ⟨g, 0, none⟩ ∧ g < wr.heap.size ∧ c.ownBlock ≠ some g ∧ (d.ownBlock = some g → Bs <+: zs)
  cd : ∀ g, c.ownBlock = some g → d.ownBlock ≠ some g
  low : B ≤ w.heap.size
theorem Ap.swap {B w wr a b As Bs c d ys zs} (h : Ap B w wr a b As Bs c d ys zs) : Ap B w wr b a Bs As d c zs ys :=
  ⟨h.bel, h.td, h.tc, h.tb, h.ta, h.bd, h.ac, fun g h1 h2 => h.cd g h2 h1, h.low⟩
theorem AtT.block {w w' : World} {a : Option Addr} {ts : List Tok} (h : AtT w a ts) (hb : ∀ x, a = some x → w'.heap[x.block]? = w.heap[x.block]?) : AtT w' a ts := by
  rcases h with h | ⟨g, off, rfl, hc⟩
  · exact Or.inl h
  · refine Or.inr ⟨g, off, rfl, fun k hk => ?_⟩
    have e := hb _ rfl
    have f : ∀ o, w'.cell? ⟨g, o, none⟩ = w.cell? ⟨g, o, none⟩ := fun o => by unfold World.cell?; rw [e]
    obtain ⟨c0, c1, c2, c3⟩ := hc k hk
    exact ⟨(f _).trans c0, (f _).trans c1, (f _).trans c2, (f _).trans c3⟩
theorem AtT.pre {w : World} {a : Option Addr} {ts us : List Tok} (h : AtT w a us) (hp : ts <+: us) : AtT w a ts := by
  obtain ⟨r, rfl⟩ := hp
  have := h.take ts.length
  rwa [List.take_left] at this
theorem Toks.own {B w v ts} (h : Toks B w v ts) {g : Nat} (hg : v.ownBlock = some g) : (∃ n cap, v = .slice (some ⟨g, 0, none⟩) n cap) ∧ B ≤ g ∧ g < w.heap.size := by
  rcases h.2 with ⟨rfl, -⟩ | ⟨g', cap, cur, rfl, hb, hh, -⟩
  · cases hg
  · cases hg
    exact ⟨⟨_, _, rfl⟩, hb, (Array.getElem?_eq_some_iff.1 hh).1⟩
/-- The row c (which may still lie where a lies) is another one now; nothing else has changed but its own block. -/
theorem Ap.step {B w wr a b As Bs c d ys zs} (h : Ap B w wr a b As Bs c d ys zs) {w2 : World} {c' : Value} {ys' : List Tok} {g : Nat} (hc : c.ownBlock = some g) (hc' : c'.ownBlock = some g) (ho : Toks B w2 c' ys') (hg : wr.grownBy w2 (some g)) (hp : ys <+: ys') : Ap B w w2 a b As Bs c' d ys' zs := by
  have hB : B ≤ g := (h.tc.own hc).2.1
  have hs : w.heap.size ≤ wr.heap.size := h.bel.size
  have hlow := h.low
  refine ⟨below_grownO h.bel hg (fun k e => by cases e; exact hB) (by omega), ho, World.ownsRow.kept h.td hg (Or.inr (h.cd g hc)), ?_, ?_, ?_, ?_, ?_, h.low⟩
  · rcases h.ac with e | ⟨ga, rfl, hlt, hd, hpre⟩
    · exact Or.inl e
    · by_cases e : ga = g
      · subst e
        obtain ⟨n, cap, rfl⟩ := (ho.own hc').1
        obtain ⟨a', cap', he, hat⟩ := ho.at
        cases he
        exact hat.pre ((hpre hc).trans hp)
      · exact h.ta.block (fun x hx => by cases hx; exact hg.block _ hlt (fun e2 => e (Option.some.inj e2)))
  · rcases h.bd with e | ⟨gb, rfl, hlt, hcb, hpre⟩
    · exact Or.inl e
    · exact h.tb.block (fun x hx => by cases hx; exact hg.block _ hlt (fun e2 => hcb (by rw [hc, e2])))
  · rcases h.ac with e | ⟨ga, rfl, hlt, hd, hpre⟩
    · exact Or.inl e
    · exact Or.inr ⟨ga, rfl, Nat.lt_of_lt_of_le hlt hg.size, hd, fun e => (hpre (by rw [hc, ← hc', e])).trans hp⟩
  · rcases h.bd with e | ⟨gb, rfl, hlt, hcb, hpre⟩
    · exact Or.inl e
    · exact Or.inr ⟨gb, rfl, Nat.lt_of_lt_of_le hlt hg.size, by rw [hc', ← hc]; exact hcb, hpre⟩
  · intro g' e
    exact h.cd g' (by rw [hc, ← hc', e])
theorem Ap.alloc {B w wr a b As Bs c d ys zs} (h : Ap B w wr a b As Bs c d ys zs) (o : Obj) : Ap B w (wr.alloc o) a b As Bs c d ys zs := by
  have hb := (Below.refl wr.heap.size wr).alloc (Nat.le_refl _) o
  have hs : w.heap.size ≤ wr.heap.size := h.bel.size
  refine ⟨h.bel.trans (hb.mono (by have := h.low; omega)), h.tc.below hb, h.td.below hb, h.ta.below hb, h.tb.below hb, ?_, ?_, h.cd, h.low⟩
  · rcases h.ac with e | ⟨ga, rfl, hlt, r⟩
    · exact Or.inl e
    · exact Or.inr ⟨ga, rfl, Nat.lt_of_lt_of_le hlt hb.size, r⟩
  · rcases h.bd with e | ⟨gb, rfl, hlt, r⟩
    · exact Or.inl e
    · exact Or.inr ⟨gb, rfl, Nat.lt_of_lt_of_le hlt hb.size, r⟩
/-- One token more behind the row c. -/
theorem Ap.grow {B w wr a b As Bs c d ys zs} (h : Ap B w wr a b As Bs c d ys zs) {w2 : World} {c' : Value} {t : Tok} (hown : w2.ownsRow B 42 4 c' (ys.length + 1) (ys.flatMap tokC ++ tokC t))
    (ht : (∃ g cap, c = .slice (some ⟨g, 0, none⟩) ys.length cap ∧ c' = .slice (some ⟨g, 0, none⟩) (ys.length + 1) cap ∧ wr.grownBy w2 (some g)) ∨ (∃ cap, c' = .slice (some ⟨wr.heap.size, 0, none⟩) (ys.length + 1) cap ∧ wr.grownBy w2 none)) :
    Ap B w w2 a b As Bs c' d (ys ++ [t]) zs := by
  have ho : Toks B w2 c' (ys ++ [t]) := by unfold Toks; rw [List.flatMap_append, List.length_append]; simpa [List.flatMap] using hown
  rcases ht with ⟨g, cap, rfl, rfl, hg⟩ | ⟨cap, rfl, hg⟩
  · exact h.step rfl rfl ho hg ⟨[t], rfl⟩
  · have hs : w.heap.size ≤ wr.heap.size := h.bel.size
    have hlow := h.low
    have hne : ∀ {k : Nat}, k < wr.heap.size → w2.heap[k]? = wr.heap[k]? := fun hk => hg.block _ hk (fun e => by cases e)
    refine ⟨below_grownO h.bel hg (fun k e => by cases e) (by omega), ho, World.ownsRow.kept h.td hg (Classical.em (d.ownBlock = none)), ?_, ?_, ?_, ?_, ?_, h.low⟩
    · rcases h.ac with e | ⟨ga, rfl, hlt, r⟩
      · exact Or.inl e
      · exact h.ta.block (fun x hx => by cases hx; exact hne hlt)
    · rcases h.bd with e | ⟨gb, rfl, hlt, r⟩
      · exact Or.inl e
      · exact h.tb.block (fun x hx => by cases hx; exact hne hlt)
    · rcases h.ac with e | ⟨ga, rfl, hlt, hd, -⟩
      · exact Or.inl e
      · refine Or.inr ⟨ga, rfl, Nat.lt_of_lt_of_le hlt hg.size, hd, fun e => ?_⟩
        have : wr.heap.size = ga := Option.some.inj e
        omega
    · rcases h.bd with e | ⟨gb, rfl, hlt, -, r⟩
      · exact Or.inl e
      · refine Or.inr ⟨gb, rfl, Nat.lt_of_lt_of_le hlt hg.size, fun e => ?_, r⟩
        have : wr.heap.size = gb := Option.some.inj e
        omega
    · intro g e e2
      have h1 : wr.heap.size = g := Option.some.inj e
      have := (h.td.own e2).2.2
      omega
/-- A token put into the row a, which is still the row c. -/
theorem Ap.put {B w wr b As Bs d zs g n cap} (h : Ap B w wr (some ⟨g, 0, none⟩) b As Bs (.slice (some ⟨g, 0, none⟩) n cap) d As zs) (hn : As.length = n) {k : Nat} (hk : k < n) (t : Tok) :
    Ap B w ((((wr.setCell ⟨g, k * 4, none⟩ (.int .u8 t.sort)).setCell ⟨g, k * 4 + 1, none⟩ (.string (str t.text))).setCell ⟨g, k * 4 + 2, none⟩ (.int .i64 t.num)).setCell ⟨g, k * 4 + 3, none⟩ (.int .i64 t.place)) (some ⟨g, 0, none⟩) b (As.set k t) Bs (.slice (some ⟨g, 0, none⟩) n cap) d (As.set k t) zs := by
  subst hn
  obtain ⟨o1, g1⟩ := World.ownsRow.stored h.tc (k * 4) (.int .u8 t.sort)
  obtain ⟨o2, g2⟩ := World.ownsRow.stored o1 (k * 4 + 1) (.string (str t.text))
  obtain ⟨o3, g3⟩ := World.ownsRow.stored o2 (k * 4 + 2) (.int .i64 t.num)
  obtain ⟨o4, g4⟩ := World.ownsRow.stored o3 (k * 4 + 3) (.int .i64 t.place)
  rw [flat_set As k t hk] at o4
  have hg := Lib.grownBy_trans (Lib.grownBy_trans (Lib.grownBy_trans g1 g2) g3) g4
  generalize (((wr.setCell ⟨g, k * 4, none⟩ (.int .u8 t.sort)).setCell ⟨g, k * 4 + 1, none⟩ (.string (str t.text))).setCell ⟨g, k * 4 + 2, none⟩ (.int .i64 t.num)).setCell ⟨g, k * 4 + 3, none⟩ (.int .i64 t.place) = w2 at *
  have ho : Toks B w2 (.slice (some ⟨g, 0, none⟩) As.length cap) (As.set k t) := by unfold Toks; rw [List.length_set]; exact o4
  have hB : B ≤ g := (h.tc.own rfl).2.1
  have hlt : g < wr.heap.size := (h.tc.own rfl).2.2
  have hs : w.heap.size ≤ wr.heap.size := h.bel.size
  have hlow := h.low
  refine ⟨below_grownO h.bel hg (fun k e => by cases e; exact hB) (by omega), ho, World.ownsRow.kept h.td hg (Or.inr (h.cd g rfl)), ?_, ?_, ?_, ?_, h.cd, h.low⟩
  · obtain ⟨a', cap', he, hat⟩ := ho.at
    injection he with e1
    rw [← e1] at hat
    exact hat
  · rcases h.bd with e | ⟨gb, rfl, hlt, hcb, hpre⟩
    · exact Or.inl e
    · exact h.tb.block (fun x hx => by cases hx; exact hg.block _ hlt (fun e2 => hcb (by rw [e2]; rfl)))
  · exact Or.inr ⟨g, rfl, Nat.lt_of_lt_of_le hlt hg.size, h.cd g rfl, fun _ => ⟨[], by simp⟩⟩
  · rcases h.bd with e | ⟨gb, rfl, hlt, hcb, hpre⟩
    · exact Or.inl e
    · exact Or.inr ⟨gb, rfl, Nat.lt_of_lt_of_le hlt hg.size, hcb, hpre⟩
theorem Ap.frozen {B w wr b As Bs d zs ys g n cap} {a : Option Addr} (h : Ap B w wr a b As Bs (.slice (some ⟨g, 0, none⟩) n cap) d ys zs) (j : Nat) : wr.frozen? ⟨g, j, none⟩ = false := by
  rcases h.tc.2 with ⟨h', _⟩ | ⟨g', cap', cur, h', -, hg, -⟩
  · cases h'
  · cases h'
    simp [World.frozen?, hg]
/-- Where the row a lies. -/
theorem Ap.at {B w wr a b As Bs c d ys zs} (h : Ap B w wr a b As Bs c d ys zs) (hn : As ≠ []) : ∃ g, a = some ⟨g, 0, none⟩ ∧ ∀ k, k < As.length → Cell4 wr g (k * 4) (nthT As k) := by
  rcases h.ac with e | ⟨g, rfl, -⟩
  · exact absurd e hn
  · refine ⟨g, rfl, fun k hk => ?_⟩
    rcases h.ta with e | ⟨g', off, he, hc⟩
    · exact absurd e hn
    · injection he with he
      injection he with e1 e2
      subst e1
      subst e2
      have := hc k hk
      rwa [Nat.zero_add] at this
/-- A variable of two cells that was made stands behind what is done later. -/
structure Duo (w : World) (n : Nat) (x y : Value) : Prop where
  lt : n < w.heap.size
  c0 : w.cell? ⟨n, 0, none⟩ = some x
  c1 : w.cell? ⟨n, 1, none⟩ = some y
theorem Duo.later {w w' : World} {n : Nat} {x y : Value} (h : Duo w n x y) (hb : Below w.heap.size w w') : Duo w' n x y := ⟨Nat.lt_of_lt_of_le h.lt hb.size, (hb.cell (p := ⟨n, 0, none⟩) h.lt).trans h.c0, (hb.cell (p := ⟨n, 1, none⟩) h.lt).trans h.c1⟩
theorem Toks.slice_at {base w a n cap ts} (h : Toks base w (.slice a n cap) ts) : AtT w a ts := by
  obtain ⟨a', cap', he, hat⟩ := h.at
  cases he
  exact hat
end Go.Proofs.YtcpklpbhdbddiaaGreatDoor

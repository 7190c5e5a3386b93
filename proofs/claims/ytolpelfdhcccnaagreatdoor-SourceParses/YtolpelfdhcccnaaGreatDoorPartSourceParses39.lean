/- Texts of one chain, laid one behind the other. -/
import Derived.Test.YtolpelfdhcccnaaGreatDoorPartSourceParses38
import Derived.Deep.SlicePairs
import Derived.SizedLaws
import Derived.Test.YtolpelfdhcccnaaGreatDoorPartSourceParses7
import Derived.Test.YtolpelfdhcccnaaGreatDoorPartSourceParses10
import Derived.Test.YtolpelfdhcccnaaGreatDoorPartSourceParses37
namespace Go.Proofs.YtolpelfdhcccnaaGreatDoor
open Go.ChangeShapes Go.WideShapes Go.ChangeAt Go.RowKit
/-- What a walk is told of a graph that came in. -/
structure ArgG (w : World) (a1 a2 a3 a4 : Option Addr) (c3 c4 : Nat) (g : GG) : Prop where
  gr : GrG w a1 a2 a3 a4 g
  n3 : a3 = none → c3 = 0
  n4 : a4 = none → c4 = 0
theorem ArgG.below {w w' : World} {a1 a2 a3 a4 : Option Addr} {c3 c4 : Nat} {g : GG} (h : ArgG w a1 a2 a3 a4 c3 c4 g) (hb : Below w.heap.size w w') : ArgG w' a1 a2 a3 a4 c3 c4 g := ⟨h.gr.below hb, h.n3, h.n4⟩
section
variable {H : Type} {enc : TypeId × Value → H} {W : World} {base : Nat} {held : Bool}
end
/-- A graph that is not heavy. -/
structure Light (g : GG) : Prop where
  a : g.actors.length ≤ 1048576
  e : g.edges.length ≤ 1048576
  i : g.ins.length ≤ 1048576
  o : g.outs.length ≤ 1048576
  pa : ∀ x ∈ g.actors, x.params.length ≤ 1048576
  pe : ∀ x ∈ g.edges, x.start.length ≤ 1048576
theorem GrA.len {w : World} {a : Option Addr} {As : List GA} (h : GrA w a As) : ∀ x ∈ As, x.params.length ≤ 17592186043904 := fun x hx => by
  obtain ⟨k, hk, rfl⟩ := memA hx
  rcases h with h | ⟨b, off, -, hc⟩
  · rw [h] at hk; exact absurd hk (Nat.not_lt_zero _)
  · obtain ⟨-, -, -, y, c, -, h5⟩ := hc k hk
    have := h5.reach
    omega
theorem GrE.len {w : World} {a : Option Addr} {As : List GE} (h : GrE w a As) : ∀ x ∈ As, x.start.length ≤ 17592186043904 := fun x hx => by
  obtain ⟨k, hk, rfl⟩ := memE hx
  rcases h with h | ⟨b, off, -, hc⟩
  · rw [h] at hk; exact absurd hk (Nat.not_lt_zero _)
  · obtain ⟨-, -, -, -, y, c, -, h5⟩ := hc k hk
    have := h5.reach
    omega
theorem flat_len {α : Type} (f : α → List Value) (c : Nat) (hc : ∀ x, (f x).length = c) : ∀ (L : List α), (L.flatMap f).length = L.length * c
  | [] => by simp
  | x :: r => by rw [List.flatMap_cons, List.length_append, hc, flat_len f c hc r, List.length_cons, Nat.succ_mul]; omega
/-- The head of a row of a call's own is one, too. -/
theorem owns_head {w : World} {base T c g n cap : Nat} {xs ys : List Value} {m : Nat} (h : w.ownsRow base T c (.slice (some ⟨g, 0, none⟩) n cap) n (xs ++ ys)) (hm : xs.length = m * c) (hmn : m ≤ n) : w.ownsRow base T c (.slice (some ⟨g, 0, none⟩) m cap) m xs := by
  obtain ⟨h1, h2⟩ := h
  refine ⟨hm, ?_⟩
  rcases h2 with ⟨hv, -⟩ | ⟨g', c', cur, hv, hg, hh, hc, hmm, hs, ht⟩
  · cases hv
  · cases hv
    refine .inr ⟨_, _, cur, rfl, hg, hh, by omega, hmm, hs, ?_⟩
    have h3 := congrArg (List.take (m * c)) ht
    rw [List.take_take, Nat.min_eq_left (Nat.mul_le_mul_right _ hmn)] at h3
    rw [h3, ← hm, List.take_left]
def markP : GP := ⟨[109, 97, 114, 107], -7770777, 0⟩
/-- Ports that were lent: a row of their own, a marked one behind them. -/
def LentP (B : Nat) (w : World) (a : Option Addr) (c : Nat) (Ps : List GP) : Prop := ∃ b, a = some ⟨b, 0, none⟩ ∧ B ≤ b ∧ Ps.length + 1 ≤ c ∧ w.ownsRow B 81 3 (.slice a (Ps.length + 1) c) (Ps.length + 1) (Ps.flatMap pP ++ pP markP)
theorem LentP.keep {B : Nat} {w w' : World} {a : Option Addr} {c : Nat} {Ps : List GP} (h : LentP B w a c Ps) (hk : ∀ k, B ≤ k → k < w.heap.size → w'.heap[k]? = w.heap[k]?) : LentP B w' a c Ps := by
  obtain ⟨b, h1, h2, h3, h4⟩ := h
  exact ⟨b, h1, h2, h3, ownR_keep h4 fun k e => hk k (own_row h4 k e) (own_lt h4 k e)⟩
theorem LentP.at {B : Nat} {w : World} {a : Option Addr} {c : Nat} {Ps : List GP} (h : LentP B w a c Ps) : AtPt w a Ps := by
  obtain ⟨b, rfl, -, -, h4⟩ := h
  exact rowP_at (n := Ps.length) (cp := c) (owns_head h4 (flat_len pP 3 pP_len Ps) (Nat.le_succ _))
theorem cell_blk {w w' : World} {b k : Nat} (h : w'.heap[b]? = w.heap[b]?) : w'.cell? ⟨b, k, none⟩ = w.cell? ⟨b, k, none⟩ := by simp [World.cell?, h]
theorem Lend.keepB {B : Nat} {w w' : World} {g len : Nat} {zs : List Int} (h : Lend B w g len zs) (hk : w'.heap[g]? = w.heap[g]?) : Lend B w' g len zs := by
  obtain ⟨h1, h2, h3⟩ := h
  refine ⟨h1, h2, ?_⟩
  rcases h3 with h3 | ⟨b, off, e, hc⟩
  · exact .inl h3
  · cases e
    exact .inr ⟨g, 0, rfl, fun k hk2 => by rw [cell_blk hk]; exact hc k hk2⟩
theorem Lend.lt {B : Nat} {w : World} {g len : Nat} {zs : List Int} (h : Lend B w g len zs) : g < w.heap.size := block_lt_of_cell (h.cells.2 len (Nat.le_refl _) (by omega))
theorem Lend.base {B B' : Nat} {w : World} {g len : Nat} {zs : List Int} (h : Lend B w g len zs) (hb : B' ≤ B) : Lend B' w g len zs := ⟨Nat.le_trans hb h.1, h.2⟩
theorem Lend.arg {B : Nat} {w : World} {g : Nat} {zs : List Int} (h : Lend B w g zs.length zs) (ho : NumsOk zs) : Arg w (some ⟨g, 0, none⟩) zs.length (zs.length + 4) zs := ⟨rfl, ho.2, (fun e => by cases e), ho.1, h.at, by omega⟩
/-- Numbers that were lent. -/
def LentQ (B : Nat) (w : World) (q : Value) (ns : List Int) : Prop := ∃ gq, q = .slice (some ⟨gq, 0, none⟩) ns.length (ns.length + 4) ∧ Lend B w gq ns.length ns
theorem LentQ.lt {B : Nat} {w : World} {q : Value} {ns : List Int} (h : LentQ B w q ns) : ∀ k, q.ownBlock = some k → B ≤ k ∧ k < w.heap.size := by
  obtain ⟨gq, rfl, h⟩ := h
  intro k e
  cases e
  exact ⟨h.1, h.lt⟩
theorem LentQ.keep {B : Nat} {w w' : World} {q : Value} {ns : List Int} (h : LentQ B w q ns) (hk : ∀ k, q.ownBlock = some k → w'.heap[k]? = w.heap[k]?) : LentQ B w' q ns := by
  obtain ⟨gq, rfl, h⟩ := h
  exact ⟨gq, rfl, h.keepB (hk gq rfl)⟩
theorem LentQ.base {B B' : Nat} {w : World} {q : Value} {ns : List Int} (h : LentQ B w q ns) (hb : B' ≤ B) : LentQ B' w q ns := by
  obtain ⟨gq, h1, h2⟩ := h
  exact ⟨gq, h1, h2.base hb⟩
def markA : GA × Value := (⟨[109, 97, 114, 107], 99, []⟩, .slice none 0 0)
def markE : GE × Value := (⟨-7770777, 0, 0, 0, []⟩, .slice none 0 0)
structure LtA (w W1 : World) (nm : List UInt8) (u2 u3 u4 v : Value) (M : List (GA × Value)) (wr : World) : Prop where
  ob : BlkA 26 (w.heap.size + 2) wr #[.string (str nm), v, u2, u3, u4]
  row : wr.ownsRow W1.heap.size 62 3 v M.length (M.flatMap aP)
  qs : ∀ p ∈ M, LentQ W1.heap.size wr p.2 p.1.params
  ap : ∀ p ∈ M, NB v p.2
  chg : Chg (fun k => k = w.heap.size + 2 ∨ W1.heap.size ≤ k) W1 wr
  hk : w.heap.size + 2 < W1.heap.size
theorem LtA.put {w W1 nm u2 u3 u4 v M} {V : World} (h : LtA w W1 nm u2 u3 u4 v M V) {w2 w4 : World} {p : GA × Value} {v' : Value} (hb : Below V.heap.size V w2) (hq : LentQ V.heap.size w2 p.2 p.1.params)
    (ho : w4.ownsRow W1.heap.size 62 3 v' (M.length + 1) (M.flatMap aP ++ aP p))
    (ht : (∃ g cap, v = .slice (some ⟨g, 0, none⟩) M.length cap ∧ v' = .slice (some ⟨g, 0, none⟩) (M.length + 1) cap ∧ w2.grownBy w4 (some g)) ∨ (∃ cap, v' = .slice (some ⟨w2.heap.size, 0, none⟩) (M.length + 1) cap ∧ w2.grownBy w4 none)) :
    LtA w W1 nm u2 u3 u4 v' (M ++ [p]) (w4.setCell ⟨w.heap.size + 2, 1, none⟩ v') ∧ BlkA 26 (w.heap.size + 2) w4 #[.string (str nm), v, u2, u3, u4] := by
  have hk := h.hk
  have h1 := h.chg.size
  have hsz := hb.size
  have tk := told_keep ht
  have kp : ∀ d, d < V.heap.size → v.ownBlock ≠ some d → w4.heap[d]? = V.heap[d]? := fun d hd hn => (tk.2 d (by omega) hn).trans (hb.block d hd)
  have lowr : ∀ d, d < W1.heap.size → v.ownBlock ≠ some d := fun d hd e => by have := own_row h.row d e; omega
  have b3 := h.ob.keep (kp _ (by omega) (lowr _ hk))
  have set : ∀ k, k ≠ w.heap.size + 2 → (w4.setCell ⟨w.heap.size + 2, 1, none⟩ v').heap[k]? = w4.heap[k]? := fun k hk => Below.heap_setCell w4 ⟨w.heap.size + 2, 1, none⟩ v' k hk
  have np : NB v p.2 := fun k e1 e2 => by have := own_lt h.row k e1; have := (hq.lt k e2).1; omega
  refine ⟨⟨b3.set 1 v', ?_, fun q hq' => ?_, fun q hq' => ?_, ?_, hk⟩, b3⟩
  · rw [flat_one, List.length_append]
    exact ownR_keep ho fun k e => set k (by have := own_row ho k e; omega)
  · rcases List.mem_append.1 hq' with hm | hm
    · have l := h.qs q hm
      exact l.keep fun k e => (set k (by have := (l.lt k e).1; omega)).trans (kp k (l.lt k e).2 (fun e2 => h.ap q hm k e2 e))
    · rw [List.mem_singleton.1 hm]
      exact (hq.keep fun k e => (set k (by have := (hq.lt k e).1; omega)).trans (tk.2 k (hq.lt k e).2 (fun e2 => np k e2 e))).base h1
  · rcases List.mem_append.1 hq' with hm | hm
    · exact NB.told (h.ap q hm) (fun k e => Nat.lt_of_lt_of_le ((h.qs q hm).lt k e).2 hsz) ht
    · rw [List.mem_singleton.1 hm]
      exact NB.told np (fun k e => (hq.lt k e).2) ht
  · obtain ⟨row, hg, hrow⟩ := told_grown ht
    have c1 : Chg (fun k => k = w.heap.size + 2 ∨ W1.heap.size ≤ k) V w2 := Chg.of_below hb
    have c2 : Chg (fun k => k = w.heap.size + 2 ∨ W1.heap.size ≤ k) w2 w4 := Chg.grown hg fun k e => .inr (own_row h.row k (hrow k e))
    exact ((h.chg.trans' c1).trans' c2).trans' (Chg.set w4 (.inl rfl) 1 v')
/-- Actors that were lent: a row of their own, a marked one behind them; each one's numbers lent, too. -/
def LentA (B : Nat) (w : World) (a : Option Addr) (c : Nat) (As : List GA) : Prop := ∃ (b : Nat) (M : List (GA × Value)), a = some ⟨b, 0, none⟩ ∧ B ≤ b ∧ As.length + 1 ≤ c ∧ M.map Prod.fst = As ∧ w.ownsRow B 62 3 (.slice a (As.length + 1) c) (As.length + 1) (M.flatMap aP ++ aP markA) ∧ ∀ p ∈ M, LentQ B w p.2 p.1.params
theorem LentA.keep {B : Nat} {w w' : World} {a : Option Addr} {c : Nat} {As : List GA} (h : LentA B w a c As) (hk : ∀ k, B ≤ k → k < w.heap.size → w'.heap[k]? = w.heap[k]?) : LentA B w' a c As := by
  obtain ⟨b, M, h1, h2, h3, h4, h5, h6⟩ := h
  exact ⟨b, M, h1, h2, h3, h4, ownR_keep h5 fun k e => hk k (own_row h5 k e) (own_lt h5 k e), fun p hp => (h6 p hp).keep fun k e => hk k ((h6 p hp).lt k e).1 ((h6 p hp).lt k e).2⟩
theorem LentA.base {B B' : Nat} {w : World} {a : Option Addr} {c : Nat} {As : List GA} (h : LentA B w a c As) (hb : B' ≤ B) : LentA B' w a c As := by
  obtain ⟨b, M, h1, h2, h3, h4, h5, h6⟩ := h
  exact ⟨b, M, h1, Nat.le_trans hb h2, h3, h4, owns_mono h5 hb, fun p hp => (h6 p hp).base hb⟩
theorem LentA.gr {B : Nat} {w : World} {a : Option Addr} {c : Nat} {As : List GA} (h : LentA B w a c As) (ho : ∀ x ∈ As, x.tag ≤ 255 ∧ NumsOk x.params) : GrA w a As := by
  obtain ⟨b, M, rfl, -, -, h4, h5, h6⟩ := h
  have hl : M.length = As.length := by rw [← h4, List.length_map]
  rw [← hl] at h5
  have r := rowA_gr (n := M.length) (cp := c) (owns_head h5 (flat_len aP 3 aP_len M) (Nat.le_succ _)) (fun p hp => by
    have hx := ho p.1 (by rw [← h4]; exact List.mem_map_of_mem hp)
    obtain ⟨gq, e, hq⟩ := h6 p hp
    exact ⟨hx.1, _, _, e, hq.arg hx.2⟩)
  rw [h4] at r
  exact r
structure LtE (w W1 : World) (nm : List UInt8) (u1 u3 u4 v : Value) (M : List (GE × Value)) (wr : World) : Prop where
  ob : BlkA 26 (w.heap.size + 2) wr #[.string (str nm), u1, v, u3, u4]
  row : wr.ownsRow W1.heap.size 65 5 v M.length (M.flatMap eP)
  qs : ∀ p ∈ M, LentQ W1.heap.size wr p.2 p.1.start
  ap : ∀ p ∈ M, NB v p.2
  chg : Chg (fun k => k = w.heap.size + 2 ∨ W1.heap.size ≤ k) W1 wr
  hk : w.heap.size + 2 < W1.heap.size
theorem LtE.put {w W1 nm u1 u3 u4 v M} {V : World} (h : LtE w W1 nm u1 u3 u4 v M V) {w2 w4 : World} {p : GE × Value} {v' : Value} (hb : Below V.heap.size V w2) (hq : LentQ V.heap.size w2 p.2 p.1.start)
    (ho : w4.ownsRow W1.heap.size 65 5 v' (M.length + 1) (M.flatMap eP ++ eP p))
    (ht : (∃ g cap, v = .slice (some ⟨g, 0, none⟩) M.length cap ∧ v' = .slice (some ⟨g, 0, none⟩) (M.length + 1) cap ∧ w2.grownBy w4 (some g)) ∨ (∃ cap, v' = .slice (some ⟨w2.heap.size, 0, none⟩) (M.length + 1) cap ∧ w2.grownBy w4 none)) :
    LtE w W1 nm u1 u3 u4 v' (M ++ [p]) (w4.setCell ⟨w.heap.size + 2, 2, none⟩ v') ∧ BlkA 26 (w.heap.size + 2) w4 #[.string (str nm), u1, v, u3, u4] := by
  have hk := h.hk
  have h1 := h.chg.size
  have hsz := hb.size
  have tk := told_keep ht
  have kp : ∀ d, d < V.heap.size → v.ownBlock ≠ some d → w4.heap[d]? = V.heap[d]? := fun d hd hn => (tk.2 d (by omega) hn).trans (hb.block d hd)
  have lowr : ∀ d, d < W1.heap.size → v.ownBlock ≠ some d := fun d hd e => by have := own_row h.row d e; omega
  have b3 := h.ob.keep (kp _ (by omega) (lowr _ hk))
  have set : ∀ k, k ≠ w.heap.size + 2 → (w4.setCell ⟨w.heap.size + 2, 2, none⟩ v').heap[k]? = w4.heap[k]? := fun k hk => Below.heap_setCell w4 ⟨w.heap.size + 2, 2, none⟩ v' k hk
  have np : NB v p.2 := fun k e1 e2 => by have := own_lt h.row k e1; have := (hq.lt k e2).1; omega
  refine ⟨⟨b3.set 2 v', ?_, fun q hq' => ?_, fun q hq' => ?_, ?_, hk⟩, b3⟩
  · rw [flat_one, List.length_append]
    exact ownR_keep ho fun k e => set k (by have := own_row ho k e; omega)
  · rcases List.mem_append.1 hq' with hm | hm
    · have l := h.qs q hm
      exact l.keep fun k e => (set k (by have := (l.lt k e).1; omega)).trans (kp k (l.lt k e).2 (fun e2 => h.ap q hm k e2 e))
    · rw [List.mem_singleton.1 hm]
      exact (hq.keep fun k e => (set k (by have := (hq.lt k e).1; omega)).trans (tk.2 k (hq.lt k e).2 (fun e2 => np k e2 e))).base h1
  · rcases List.mem_append.1 hq' with hm | hm
    · exact NB.told (h.ap q hm) (fun k e => Nat.lt_of_lt_of_le ((h.qs q hm).lt k e).2 hsz) ht
    · rw [List.mem_singleton.1 hm]
      exact NB.told np (fun k e => (hq.lt k e).2) ht
  · obtain ⟨row, hg, hrow⟩ := told_grown ht
    have c1 : Chg (fun k => k = w.heap.size + 2 ∨ W1.heap.size ≤ k) V w2 := Chg.of_below hb
    have c2 : Chg (fun k => k = w.heap.size + 2 ∨ W1.heap.size ≤ k) w2 w4 := Chg.grown hg fun k e => .inr (own_row h.row k (hrow k e))
    exact ((h.chg.trans' c1).trans' c2).trans' (Chg.set w4 (.inl rfl) 2 v')
/-- Edges that were lent: a row of their own, a marked one behind them; each one's numbers lent, too. -/
def LentE (B : Nat) (w : World) (a : Option Addr) (c : Nat) (As : List GE) : Prop := ∃ (b : Nat) (M : List (GE × Value)), a = some ⟨b, 0, none⟩ ∧ B ≤ b ∧ As.length + 1 ≤ c ∧ M.map Prod.fst = As ∧ w.ownsRow B 65 5 (.slice a (As.length + 1) c) (As.length + 1) (M.flatMap eP ++ eP markE) ∧ ∀ p ∈ M, LentQ B w p.2 p.1.start
theorem LentE.keep {B : Nat} {w w' : World} {a : Option Addr} {c : Nat} {As : List GE} (h : LentE B w a c As) (hk : ∀ k, B ≤ k → k < w.heap.size → w'.heap[k]? = w.heap[k]?) : LentE B w' a c As := by
  obtain ⟨b, M, h1, h2, h3, h4, h5, h6⟩ := h
  exact ⟨b, M, h1, h2, h3, h4, ownR_keep h5 fun k e => hk k (own_row h5 k e) (own_lt h5 k e), fun p hp => (h6 p hp).keep fun k e => hk k ((h6 p hp).lt k e).1 ((h6 p hp).lt k e).2⟩
theorem LentE.base {B B' : Nat} {w : World} {a : Option Addr} {c : Nat} {As : List GE} (h : LentE B w a c As) (hb : B' ≤ B) : LentE B' w a c As := by
  obtain ⟨b, M, h1, h2, h3, h4, h5, h6⟩ := h
  exact ⟨b, M, h1, Nat.le_trans hb h2, h3, h4, owns_mono h5 hb, fun p hp => (h6 p hp).base hb⟩
theorem LentE.gr {B : Nat} {w : World} {a : Option Addr} {c : Nat} {As : List GE} (h : LentE B w a c As) (ho : ∀ x ∈ As, NumsOk x.start) : GrE w a As := by
  obtain ⟨b, M, rfl, -, -, h4, h5, h6⟩ := h
  have hl : M.length = As.length := by rw [← h4, List.length_map]
  rw [← hl] at h5
  have r := rowE_gr (n := M.length) (cp := c) (owns_head h5 (flat_len eP 5 eP_len M) (Nat.le_succ _)) (fun p hp => by
    have hx := ho p.1 (by rw [← h4]; exact List.mem_map_of_mem hp)
    obtain ⟨gq, e, hq⟩ := h6 p hp
    exact ⟨_, _, e, hq.arg hx⟩)
  rw [h4] at r
  exact r
theorem LentP.base {B B' : Nat} {w : World} {a : Option Addr} {c : Nat} {Ps : List GP} (h : LentP B w a c Ps) (hb : B' ≤ B) : LentP B' w a c Ps := by
  obtain ⟨b, h1, h2, h3, h4⟩ := h
  exact ⟨b, h1, Nat.le_trans hb h2, h3, owns_mono h4 hb⟩
/-- A graph that was lent. -/
structure LentG (B : Nat) (w : World) (x1 x2 x3 x4 : Option Addr) (c1 c2 c3 c4 : Nat) (g : GG) : Prop where
  a : LentA B w x1 c1 g.actors
  e : LentE B w x2 c2 g.edges
  i : LentP B w x3 c3 g.ins
  o : LentP B w x4 c4 g.outs
theorem LentG.keep {B : Nat} {w w' : World} {x1 x2 x3 x4 : Option Addr} {c1 c2 c3 c4 : Nat} {g : GG} (h : LentG B w x1 x2 x3 x4 c1 c2 c3 c4 g) (hk : ∀ k, B ≤ k → k < w.heap.size → w'.heap[k]? = w.heap[k]?) : LentG B w' x1 x2 x3 x4 c1 c2 c3 c4 g := ⟨h.a.keep hk, h.e.keep hk, h.i.keep hk, h.o.keep hk⟩
/-- What is told of a graph's numbers. -/
def NumsG (g : GG) : Prop := (∀ x ∈ g.actors, x.tag ≤ 255 ∧ NumsOk x.params) ∧ (∀ x ∈ g.edges, NumsOk x.start)
theorem GrG.nums {w : World} {a1 a2 a3 a4 : Option Addr} {g : GG} (h : GrG w a1 a2 a3 a4 g) : NumsG g := by
  refine ⟨fun x hx => ?_, fun x hx => ?_⟩
  · obtain ⟨k, hk, rfl⟩ := memA hx
    rcases h.A with e | ⟨b, off, -, hc⟩
    · rw [e] at hk; exact absurd hk (Nat.not_lt_zero _)
    · obtain ⟨-, -, h3, y, c, -, h5⟩ := hc k hk
      exact ⟨h3, h5.fits, h5.reach⟩
  · obtain ⟨k, hk, rfl⟩ := memE hx
    rcases h.E with e | ⟨b, off, -, hc⟩
    · rw [e] at hk; exact absurd hk (Nat.not_lt_zero _)
    · obtain ⟨-, -, -, -, y, c, -, h5⟩ := hc k hk
      exact ⟨h5.fits, h5.reach⟩
theorem LentG.gr {B : Nat} {w : World} {x1 x2 x3 x4 : Option Addr} {c1 c2 c3 c4 : Nat} {g : GG} (h : LentG B w x1 x2 x3 x4 c1 c2 c3 c4 g) (ho : NumsG g) (hl : Light g) : GrG w x1 x2 x3 x4 g :=
  ⟨h.a.gr ho.1, h.e.gr ho.2, h.i.at, h.o.at, Nat.le_trans hl.a (by decide), Nat.le_trans hl.e (by decide), Nat.le_trans hl.i (by decide), Nat.le_trans hl.o (by decide)⟩
/-- The boxes of what comes in and of what is answered. -/
structure LB (w : World) (gv : Array Value) (u : World) : Prop where
  i : BlkA 26 w.heap.size u gv
  r : BlkA 26 (w.heap.size + 1) u #[.string ⟨#[]⟩, .slice none 0 0, .slice none 0 0, .slice none 0 0, .slice none 0 0]
  bel : Below w.heap.size w u
theorem LB.below {w gv} {u u' : World} (h : LB w gv u) (hb : Below u.heap.size u u') : LB w gv u' := ⟨h.i.below hb, h.r.below hb, h.bel.trans (hb.mono h.bel.size)⟩
theorem LB.chg {w gv} {u u' : World} {N : Nat} (h : LB w gv u) (hc : Chg (fun k => k = w.heap.size + 2 ∨ N ≤ k) u u') (hN : w.heap.size + 2 < N) : LB w gv u' :=
  ⟨h.i.keep (hc.block _ h.i.lt (by omega)), h.r.keep (hc.block _ h.r.lt (by omega)), h.bel.trans (hc.below (L := w.heap.size) (fun k e => by omega) h.bel.size)⟩
theorem LB.set {w gv} {u : World} (h : LB w gv u) (f : Nat) (v : Value) : LB w gv (u.setCell ⟨w.heap.size + 2, f, none⟩ v) :=
  ⟨h.i.keep (Below.heap_setCell _ ⟨w.heap.size + 2, f, none⟩ _ _ (by show w.heap.size ≠ w.heap.size + 2; omega)), h.r.keep (Below.heap_setCell _ ⟨w.heap.size + 2, f, none⟩ _ _ (by show w.heap.size + 1 ≠ w.heap.size + 2; omega)), h.bel.setCell (p := ⟨w.heap.size + 2, f, none⟩) (Nat.le_add_right _ 2) _⟩
theorem rletter_any (b : Int) (w : World) : Calls Tryz.prog 117 #[.int .u8 b] w fun e w' => e = .returned (.bool (letB b)) ∧ w = w' := by
  by_cases h1 : (97 : Int) ≤ b <;> by_cases h2 : b ≤ 122 <;>
  · have e : letB b = (decide (97 ≤ b) && decide (b ≤ 122)) := rfl
    simp only [h1, h2, decide_true, decide_false, Bool.and_true, Bool.and_false] at e
    rw [e]
    go_enter Tryz.func117, Tryz.ntmps117
    go_wp2
    go_ret
    exact ⟨rfl, rfl⟩
theorem rdigit_any (b : Int) (w : World) : Calls Tryz.prog 145 #[.int .u8 b] w fun e w' => e = .returned (.bool (digB b)) ∧ w = w' := by
  by_cases h1 : (48 : Int) ≤ b <;> by_cases h2 : b ≤ 57 <;>
  · have e : digB b = (decide (48 ≤ b) && decide (b ≤ 57)) := rfl
    simp only [h1, h2, decide_true, decide_false, Bool.and_true, Bool.and_false] at e
    rw [e]
    go_enter Tryz.func145, Tryz.ntmps145
    go_wp2
    go_ret
    exact ⟨rfl, rfl⟩
theorem rinside_any (b : Int) (w : World) : Calls Tryz.prog 118 #[.int .u8 b] w fun e w' => e = .returned (.bool (wordB b)) ∧ w = w' := by
  have e : wordB b = (letB b || digB b || decide (b = 95)) := rfl
  rw [e]
  clear e
  have h1 := hidden (rletter_any b)
  have h2 := hidden (rdigit_any b)
  generalize letB b = x at *
  generalize digB b = y at *
  cases x <;> cases y
  · by_cases h3 : b = 95
    · subst h3
      go_enter Tryz.func118, Tryz.ntmps118
      go_wp2_with (first
        | (go_at_call 145; (with_reducible refine (h2.out _).mono ?_); rintro e w' ⟨rfl, rfl⟩)
        | (go_at_call 117; (with_reducible refine (h1.out _).mono ?_); rintro e w' ⟨rfl, rfl⟩))
      go_ret
      exact ⟨rfl, rfl⟩
    · have d3 : decide (b = 95) = false := decide_eq_false h3
      go_enter Tryz.func118, Tryz.ntmps118
      go_wp2_with (first
        | (go_at_call 145; (with_reducible refine (h2.out _).mono ?_); rintro e w' ⟨rfl, rfl⟩)
        | (go_at_call 117; (with_reducible refine (h1.out _).mono ?_); rintro e w' ⟨rfl, rfl⟩))
      go_ret
      exact ⟨by simp [h3], rfl⟩
  all_goals
    go_enter Tryz.func118, Tryz.ntmps118
    go_wp2_with (first
      | (go_at_call 145; (with_reducible refine (h2.out _).mono ?_); rintro e w' ⟨rfl, rfl⟩)
      | (go_at_call 117; (with_reducible refine (h1.out _).mono ?_); rintro e w' ⟨rfl, rfl⟩))
    go_ret
    exact ⟨rfl, rfl⟩
theorem row_next {p : Int → Bool} {l : List UInt8} {i : Nat} (h : i ≤ rowN p l) (hi : i < l.length) (hp : p (by8 l i) = true) : i + 1 ≤ rowN p l := by
  rcases Nat.lt_or_ge i (rowN p l) with h1 | h1
  · exact h1
  · have e : rowN p l = i := by omega
    have := rowN_out p l (by omega)
    rw [e, hp] at this
    cases this
set_option maxHeartbeats 1000000 in
theorem rname_any (l : List UInt8) (w : World) : Calls Tryz.prog 72 #[.string (str l)] w fun e w' => e = .returned (.bool (nameB l)) ∧ w = w' := by
  have e1 := str_size l
  have en : nameB l = (decide (l.length ≤ 16) && (letB (by8 l 0) && decide (rowN wordB l = l.length))) := rfl
  by_cases h0 : l.length = 0
  · have i1 : (l.length : Int) < 1 := by omega
    have e2 : nameB l = false := by
      have : l = [] := List.eq_nil_of_length_eq_zero h0
      subst this; rfl
    rw [e2]
    go_enter Tryz.func72, Tryz.ntmps72
    go_wp2
    go_ret
    exact ⟨rfl, rfl⟩
  have i1 : ¬ ((l.length : Int) < 1) := by omega
  have i1' : decide ((l.length : Int) < 1) = false := decide_eq_false i1
  by_cases h1 : l.length ≤ 16
  · have i2 : ¬ ((16 : Int) < (l.length : Int)) := by omega
    have i2' : decide ((16 : Int) < (l.length : Int)) = false := decide_eq_false i2
    have g0 := str_get l 0 (by rw [e1]; omega)
    have i3 : (0 : Int) < (l.length : Int) := by omega
    have HL := hidden (rletter_any (by8 l 0))
    rw [decide_eq_true h1, Bool.true_and] at en
    by_cases hl : letB (by8 l 0) = true
    · rw [hl] at HL
      rw [hl, Bool.true_and] at en
      rw [en]
      clear en hl
      have HR := hidden (fun i => row_next (p := wordB) (l := l) (i := i))
      have HO := hidden (rowN_le wordB l)
      generalize hN : rowN wordB l = N at *
      go_enter Tryz.func72, Tryz.ntmps72
      go_wp2_with (go_at_call 117; (with_reducible refine (HL.out _).mono ?_); rintro e w' ⟨rfl, rfl⟩)
      go_loopg [3] l.length (fun gk v wr => ∃ i, i ≤ l.length ∧ gk = l.length - i ∧ v = .int .i64 i ∧ wr = w ∧ i ≤ N)
      case atStart => exact ⟨0, Nat.zero_le _, rfl, rfl, rfl, Nat.zero_le _⟩
      case round =>
        obtain ⟨i, hi, rfl, rfl, rfl, hiN⟩ := hrel
        by_cases hlt : i < l.length
        · have j1 : (i : Int) < (l.length : Int) := by omega
          have gi := str_get l i (by rw [e1]; exact hlt)
          have HI := hidden (rinside_any (by8 l i))
          by_cases hw : wordB (by8 l i) = true
          · have HN : Hid (i + 1 ≤ N) := HR.out i hiN hlt hw
            rw [hw] at HI
            clear hw HR hN
            go_wp2_with (go_at_call 118; (with_reducible refine (HI.out _).mono ?_); rintro e w' ⟨rfl, rfl⟩)
            go_roundg (l.length - (i + 1))
            case measure => omega
            case rel => exact ⟨i + 1, by omega, rfl, by go_num, rfl, HN.out⟩
          · have hw' : wordB (by8 l i) = false := by simpa using hw
            have HN : Hid (N ≠ l.length) := by
              intro e
              have := rowN_in wordB l i (by rw [hN]; omega)
              exact hw this
            rw [hw'] at HI
            clear hw hw' HR hN
            go_wp2_with (go_at_call 118; (with_reducible refine (HI.out _).mono ?_); rintro e w' ⟨rfl, rfl⟩)
            go_ret
            exact ⟨by rw [decide_eq_false HN.out]; rfl, rfl⟩
        · have ei : i = l.length := by omega
          subst ei
          have jn : ¬ ((l.length : Int) < (l.length : Int)) := by omega
          have HN : Hid (N = l.length) := by show N = _; have := HO.out; omega
          clear hN HR
          go_wp2
          go_ret
          exact ⟨by rw [decide_eq_true HN.out]; rfl, rfl⟩
    · have hl' : letB (by8 l 0) = false := by simpa using hl
      rw [hl'] at HL
      rw [hl', Bool.false_and] at en
      rw [en]
      go_enter Tryz.func72, Tryz.ntmps72
      go_wp2_with (go_at_call 117; (with_reducible refine (HL.out _).mono ?_); rintro e w' ⟨rfl, rfl⟩)
      go_ret
      exact ⟨rfl, rfl⟩
  · have i2 : (16 : Int) < (l.length : Int) := by omega
    rw [decide_eq_false h1, Bool.false_and] at en
    rw [en]
    go_enter Tryz.func72, Tryz.ntmps72
    go_wp2
    go_ret
    exact ⟨rfl, rfl⟩
theorem any_yesE {Es : List GE} {n j : Nat} {P : GE → Bool} (hj : j < n) (hn : n ≤ Es.length) (h : P (nthE Es j) = true) : (Es.take n).any P = true := by
  rw [List.any_eq_true]
  exact ⟨nthE Es j, by rw [nthE_get (by omega)]; exact List.mem_iff_getElem.2 ⟨j, by rw [List.length_take]; omega, by rw [List.getElem_take]⟩, h⟩
theorem any_noE {Es : List GE} {n : Nat} {P : GE → Bool} (hn : n ≤ Es.length) (h : ∀ j, j < n → P (nthE Es j) = false) : (Es.take n).any P = false := by
  rw [List.any_eq_false]
  intro x hx
  obtain ⟨j, hj, rfl⟩ := List.mem_iff_getElem.1 hx
  rw [List.length_take] at hj
  rw [List.getElem_take, ← nthE_get (by omega), h j (by omega)]
  decide
theorem any_yesP {Es : List GP} {n j : Nat} {P : GP → Bool} (hj : j < n) (hn : n ≤ Es.length) (h : P (nthP Es j) = true) : (Es.take n).any P = true := by
  rw [List.any_eq_true]
  exact ⟨nthP Es j, by rw [nthP_get (by omega)]; exact List.mem_iff_getElem.2 ⟨j, by rw [List.length_take]; omega, by rw [List.getElem_take]⟩, h⟩
theorem any_noP {Es : List GP} {n : Nat} {P : GP → Bool} (hn : n ≤ Es.length) (h : ∀ j, j < n → P (nthP Es j) = false) : (Es.take n).any P = false := by
  rw [List.any_eq_false]
  intro x hx
  obtain ⟨j, hj, rfl⟩ := List.mem_iff_getElem.1 hx
  rw [List.length_take] at hj
  rw [List.getElem_take, ← nthP_get (by omega), h j (by omega)]
  decide
theorem any_yesA {Es : List GA} {n j : Nat} {P : GA → Bool} (hj : j < n) (hn : n ≤ Es.length) (h : P (nthA Es j) = true) : (Es.take n).any P = true := by
  rw [List.any_eq_true]
  exact ⟨nthA Es j, by rw [nthA_get (by omega)]; exact List.mem_iff_getElem.2 ⟨j, by rw [List.length_take]; omega, by rw [List.getElem_take]⟩, h⟩
theorem any_noA {Es : List GA} {n : Nat} {P : GA → Bool} (hn : n ≤ Es.length) (h : ∀ j, j < n → P (nthA Es j) = false) : (Es.take n).any P = false := by
  rw [List.any_eq_false]
  intro x hx
  obtain ⟨j, hj, rfl⟩ := List.mem_iff_getElem.1 hx
  rw [List.length_take] at hj
  rw [List.getElem_take, ← nthA_get (by omega), h j (by omega)]
  decide
/-- The box of a graph stands, and so does all that is old. -/
def GBox (w : World) (gv : Array Value) (u : World) : Prop := BlkA 26 w.heap.size u gv ∧ Below w.heap.size w u
theorem gbox_new (w : World) (gv : Array Value) : GBox w gv (w.alloc (.cells gv 26)) := ⟨blkA_new 26 w gv, (Below.refl _ _).alloc (Nat.le_refl _) _⟩
set_option maxRecDepth 100000 in
set_option maxHeartbeats 4000000 in
theorem outTaken_any (g : GG) (a1 a2 a3 a4 : Option Addr) (c1 c2 c3 c4 : Nat) (ne no : Nat) (ac po : Int) (w : World) (h : GrG w a1 a2 a3 a4 g) (h1 : ne ≤ g.edges.length) (h2 : no ≤ g.outs.length) :
    Calls Tryz.prog 150 #[.agg #[.string (str g.name), .slice a1 g.actors.length c1, .slice a2 g.edges.length c2, .slice a3 g.ins.length c3, .slice a4 g.outs.length c4], .int .i64 (ne : Int), .int .i64 (no : Int), .int .i64 ac, .int .i64 po] w fun e w' => e = .returned (.bool (outTk g ne no ac po)) ∧ Below w.heap.size w w' := by
  have HG := hiddenG h
  have b2 := h.l2
  have b3 := h.l4
  have neI : (ne : Int) ≤ 1000000000000000 := by omega
  have noI : (no : Int) ≤ 1000000000000000 := by omega
  have B0 := hiddenG (gbox_new w #[.string (str g.name), .slice a1 g.actors.length c1, .slice a2 g.edges.length c2, .slice a3 g.ins.length c3, .slice a4 g.outs.length c4])
  have HT : Hid (outTk g ne no ac po = ((g.edges.take ne).any (fun e => e.f == ac && e.fp == po) || (g.outs.take no).any (fun q => q.actor == ac && q.port == po))) := by rfl
  clear h
  go_enter Tryz.func150, Tryz.ntmps150
  go_wp2
  go_loopg [11] ne (fun gk v wr => ∃ k : Nat, k ≤ ne ∧ gk = ne - k ∧ v = .int .i64 (k : Int) ∧ GBox w #[.string (str g.name), .slice a1 g.actors.length c1, .slice a2 g.edges.length c2, .slice a3 g.ins.length c3, .slice a4 g.outs.length c4] wr ∧ ∀ j, j < k → ((nthE g.edges j).f == ac && (nthE g.edges j).fp == po) = false)
  case atStart => exact ⟨0, Nat.zero_le _, rfl, rfl, B0.out, fun j hj => absurd hj (Nat.not_lt_zero _)⟩
  case round =>
    clear B0
    obtain ⟨k, hk, rfl, rfl, hB, hall⟩ := hrel
    have HB := hiddenG hB
    have HAL := hiddenG hall
    have y2 : wr.cell? ⟨w.heap.size, 2, none⟩ = some (.slice a2 g.edges.length c2) := hB.1.cell rfl
    have y4 : wr.cell? ⟨w.heap.size, 4, none⟩ = some (.slice a4 g.outs.length c4) := hB.1.cell rfl
    clear hB hall
    by_cases hlt : k < ne
    · have hki : (k : Int) < (ne : Int) := by omega
      have hkl : k < g.edges.length := by omega
      have hkI : (k : Int) < (g.edges.length : Int) := by omega
      rcases (HG.out.below HB.out.2).E with e | ⟨b, off, rfl, hc⟩
      · rw [e] at hkl; exact absurd hkl (Nat.not_lt_zero _)
      obtain ⟨x0, x1, x2, x3, -⟩ := hc k hkl
      clear hc
      have HYES : Hid (((nthE g.edges k).f == ac && (nthE g.edges k).fp == po) = true → outTk g ne no ac po = true) := fun e => by rw [HT.out, any_yesE hlt h1 e, Bool.true_or]
      have HNO : Hid (((nthE g.edges k).f == ac && (nthE g.edges k).fp == po) = false → ∀ j, j < k + 1 → ((nthE g.edges j).f == ac && (nthE g.edges j).fp == po) = false) := fun e j hj => by
        by_cases q : j < k
        · exact HAL.out j q
        · rw [show j = k by omega]; exact e
      generalize nthE g.edges k = E at *
      obtain ⟨ef, efp, et, etp, es⟩ := E
      simp only at x0 x1 x2 x3 HYES HNO
      obtain ⟨q1, hq1⟩ : ∃ q, (ef == ac) = q := ⟨_, rfl⟩
      obtain ⟨q2, hq2⟩ : ∃ q, (efp == po) = q := ⟨_, rfl⟩
      rw [hq1, hq2] at HYES HNO
      cases q1
      · go_wp2
        go_roundg (ne - (k + 1))
        case measure => omega
        case rel => exact ⟨k + 1, by omega, rfl, by go_num, HB.out, HNO.out rfl⟩
      · cases q2
        · go_wp2
          go_roundg (ne - (k + 1))
          case measure => omega
          case rel => exact ⟨k + 1, by omega, rfl, by go_num, HB.out, HNO.out rfl⟩
        · go_wp2
          go_ret
          exact ⟨by rw [HYES.out rfl]; rfl, HB.out.2⟩
    · have hki : ¬ (k : Int) < (ne : Int) := by omega
      have HE0 : Hid ((g.edges.take ne).any (fun e => e.f == ac && e.fp == po) = false) := any_noE h1 (fun j hj => HAL.out j (by omega))
      clear y2 y4 HAL hlt hk
      go_wp2
      go_loopg [12] no (fun gk v wr => ∃ k : Nat, k ≤ no ∧ gk = no - k ∧ v = .int .i64 (k : Int) ∧ GBox w #[.string (str g.name), .slice a1 g.actors.length c1, .slice a2 g.edges.length c2, .slice a3 g.ins.length c3, .slice a4 g.outs.length c4] wr ∧ ∀ j, j < k → ((nthP g.outs j).actor == ac && (nthP g.outs j).port == po) = false)
      case atStart => exact ⟨0, Nat.zero_le _, rfl, rfl, HB.out, fun j hj => absurd hj (Nat.not_lt_zero _)⟩
      case round =>
        clear HB hki
        obtain ⟨k, hk, rfl, rfl, hB, hall⟩ := hrel
        have HB := hiddenG hB
        have HAL := hiddenG hall
        have y4 : wr.cell? ⟨w.heap.size, 4, none⟩ = some (.slice a4 g.outs.length c4) := hB.1.cell rfl
        clear hB hall
        by_cases hlt : k < no
        · have hki : (k : Int) < (no : Int) := by omega
          have hkl : k < g.outs.length := by omega
          have hkI : (k : Int) < (g.outs.length : Int) := by omega
          rcases (HG.out.below HB.out.2).O with e | ⟨b, off, rfl, hc⟩
          · rw [e] at hkl; exact absurd hkl (Nat.not_lt_zero _)
          obtain ⟨-, x1, x2⟩ := hc k hkl
          clear hc
          have HYES : Hid (((nthP g.outs k).actor == ac && (nthP g.outs k).port == po) = true → outTk g ne no ac po = true) := fun e => by rw [HT.out, HE0.out, any_yesP hlt h2 e, Bool.false_or]
          have HNO : Hid (((nthP g.outs k).actor == ac && (nthP g.outs k).port == po) = false → ∀ j, j < k + 1 → ((nthP g.outs j).actor == ac && (nthP g.outs j).port == po) = false) := fun e j hj => by
            by_cases q : j < k
            · exact HAL.out j q
            · rw [show j = k by omega]; exact e
          generalize nthP g.outs k = E at *
          obtain ⟨pn, pa, pp⟩ := E
          simp only at x1 x2 HYES HNO
          obtain ⟨q1, hq1⟩ : ∃ q, (pa == ac) = q := ⟨_, rfl⟩
          obtain ⟨q2, hq2⟩ : ∃ q, (pp == po) = q := ⟨_, rfl⟩
          rw [hq1, hq2] at HYES HNO
          cases q1
          · go_wp2
            go_roundg (no - (k + 1))
            case measure => omega
            case rel => exact ⟨k + 1, by omega, rfl, by go_num, HB.out, HNO.out rfl⟩
          · cases q2
            · go_wp2
              go_roundg (no - (k + 1))
              case measure => omega
              case rel => exact ⟨k + 1, by omega, rfl, by go_num, HB.out, HNO.out rfl⟩
            · go_wp2
              go_ret
              exact ⟨by rw [HYES.out rfl]; rfl, HB.out.2⟩
        · have hki : ¬ (k : Int) < (no : Int) := by omega
          have HP0 : Hid (outTk g ne no ac po = false) := by show _ = _; rw [HT.out, HE0.out, any_noP h2 (fun j hj => HAL.out j (by omega))]; rfl
          go_wp2
          go_ret
          exact ⟨by rw [HP0.out]; rfl, HB.out.2⟩
set_option maxRecDepth 100000 in
set_option maxHeartbeats 4000000 in
theorem inTaken_any (g : GG) (a1 a2 a3 a4 : Option Addr) (c1 c2 c3 c4 : Nat) (ne no : Nat) (ac po : Int) (w : World) (h : GrG w a1 a2 a3 a4 g) (h1 : ne ≤ g.edges.length) (h2 : no ≤ g.ins.length) :
    Calls Tryz.prog 151 #[.agg #[.string (str g.name), .slice a1 g.actors.length c1, .slice a2 g.edges.length c2, .slice a3 g.ins.length c3, .slice a4 g.outs.length c4], .int .i64 (ne : Int), .int .i64 (no : Int), .int .i64 ac, .int .i64 po] w fun e w' => e = .returned (.bool (inTk g ne no ac po)) ∧ Below w.heap.size w w' := by
  have HG := hiddenG h
  have b2 := h.l2
  have b3 := h.l3
  have neI : (ne : Int) ≤ 1000000000000000 := by omega
  have noI : (no : Int) ≤ 1000000000000000 := by omega
  have B0 := hiddenG (gbox_new w #[.string (str g.name), .slice a1 g.actors.length c1, .slice a2 g.edges.length c2, .slice a3 g.ins.length c3, .slice a4 g.outs.length c4])
  have HT : Hid (inTk g ne no ac po = ((g.edges.take ne).any (fun e => e.t == ac && e.tp == po) || (g.ins.take no).any (fun q => q.actor == ac && q.port == po))) := by rfl
  clear h
  go_enter Tryz.func151, Tryz.ntmps151
  go_wp2
  go_loopg [11] ne (fun gk v wr => ∃ k : Nat, k ≤ ne ∧ gk = ne - k ∧ v = .int .i64 (k : Int) ∧ GBox w #[.string (str g.name), .slice a1 g.actors.length c1, .slice a2 g.edges.length c2, .slice a3 g.ins.length c3, .slice a4 g.outs.length c4] wr ∧ ∀ j, j < k → ((nthE g.edges j).t == ac && (nthE g.edges j).tp == po) = false)
  case atStart => exact ⟨0, Nat.zero_le _, rfl, rfl, B0.out, fun j hj => absurd hj (Nat.not_lt_zero _)⟩
  case round =>
    clear B0
    obtain ⟨k, hk, rfl, rfl, hB, hall⟩ := hrel
    have HB := hiddenG hB
    have HAL := hiddenG hall
    have y2 : wr.cell? ⟨w.heap.size, 2, none⟩ = some (.slice a2 g.edges.length c2) := hB.1.cell rfl
    have y4 : wr.cell? ⟨w.heap.size, 3, none⟩ = some (.slice a3 g.ins.length c3) := hB.1.cell rfl
    clear hB hall
    by_cases hlt : k < ne
    · have hki : (k : Int) < (ne : Int) := by omega
      have hkl : k < g.edges.length := by omega
      have hkI : (k : Int) < (g.edges.length : Int) := by omega
      rcases (HG.out.below HB.out.2).E with e | ⟨b, off, rfl, hc⟩
      · rw [e] at hkl; exact absurd hkl (Nat.not_lt_zero _)
      obtain ⟨x0, x1, x2, x3, -⟩ := hc k hkl
      clear hc
      have HYES : Hid (((nthE g.edges k).t == ac && (nthE g.edges k).tp == po) = true → inTk g ne no ac po = true) := fun e => by rw [HT.out, any_yesE hlt h1 e, Bool.true_or]
      have HNO : Hid (((nthE g.edges k).t == ac && (nthE g.edges k).tp == po) = false → ∀ j, j < k + 1 → ((nthE g.edges j).t == ac && (nthE g.edges j).tp == po) = false) := fun e j hj => by
        by_cases q : j < k
        · exact HAL.out j q
        · rw [show j = k by omega]; exact e
      generalize nthE g.edges k = E at *
      obtain ⟨ef, efp, et, etp, es⟩ := E
      simp only at x0 x1 x2 x3 HYES HNO
      obtain ⟨q1, hq1⟩ : ∃ q, (et == ac) = q := ⟨_, rfl⟩
      obtain ⟨q2, hq2⟩ : ∃ q, (etp == po) = q := ⟨_, rfl⟩
      rw [hq1, hq2] at HYES HNO
      cases q1
      · go_wp2
        go_roundg (ne - (k + 1))
        case measure => omega
        case rel => exact ⟨k + 1, by omega, rfl, by go_num, HB.out, HNO.out rfl⟩
      · cases q2
        · go_wp2
          go_roundg (ne - (k + 1))
          case measure => omega
          case rel => exact ⟨k + 1, by omega, rfl, by go_num, HB.out, HNO.out rfl⟩
        · go_wp2
          go_ret
          exact ⟨by rw [HYES.out rfl]; rfl, HB.out.2⟩
    · have hki : ¬ (k : Int) < (ne : Int) := by omega
      have HE0 : Hid ((g.edges.take ne).any (fun e => e.t == ac && e.tp == po) = false) := any_noE h1 (fun j hj => HAL.out j (by omega))
      clear y2 y4 HAL hlt hk
      go_wp2
      go_loopg [12] no (fun gk v wr => ∃ k : Nat, k ≤ no ∧ gk = no - k ∧ v = .int .i64 (k : Int) ∧ GBox w #[.string (str g.name), .slice a1 g.actors.length c1, .slice a2 g.edges.length c2, .slice a3 g.ins.length c3, .slice a4 g.outs.length c4] wr ∧ ∀ j, j < k → ((nthP g.ins j).actor == ac && (nthP g.ins j).port == po) = false)
      case atStart => exact ⟨0, Nat.zero_le _, rfl, rfl, HB.out, fun j hj => absurd hj (Nat.not_lt_zero _)⟩
      case round =>
        clear HB hki
        obtain ⟨k, hk, rfl, rfl, hB, hall⟩ := hrel
        have HB := hiddenG hB
        have HAL := hiddenG hall
        have y4 : wr.cell? ⟨w.heap.size, 3, none⟩ = some (.slice a3 g.ins.length c3) := hB.1.cell rfl
        clear hB hall
        by_cases hlt : k < no
        · have hki : (k : Int) < (no : Int) := by omega
          have hkl : k < g.ins.length := by omega
          have hkI : (k : Int) < (g.ins.length : Int) := by omega
          rcases (HG.out.below HB.out.2).I with e | ⟨b, off, rfl, hc⟩
          · rw [e] at hkl; exact absurd hkl (Nat.not_lt_zero _)
          obtain ⟨-, x1, x2⟩ := hc k hkl
          clear hc
          have HYES : Hid (((nthP g.ins k).actor == ac && (nthP g.ins k).port == po) = true → inTk g ne no ac po = true) := fun e => by rw [HT.out, HE0.out, any_yesP hlt h2 e, Bool.false_or]
          have HNO : Hid (((nthP g.ins k).actor == ac && (nthP g.ins k).port == po) = false → ∀ j, j < k + 1 → ((nthP g.ins j).actor == ac && (nthP g.ins j).port == po) = false) := fun e j hj => by
            by_cases q : j < k
            · exact HAL.out j q
            · rw [show j = k by omega]; exact e
          generalize nthP g.ins k = E at *
          obtain ⟨pn, pa, pp⟩ := E
          simp only at x1 x2 HYES HNO
          obtain ⟨q1, hq1⟩ : ∃ q, (pa == ac) = q := ⟨_, rfl⟩
          obtain ⟨q2, hq2⟩ : ∃ q, (pp == po) = q := ⟨_, rfl⟩
          rw [hq1, hq2] at HYES HNO
          cases q1
          · go_wp2
            go_roundg (no - (k + 1))
            case measure => omega
            case rel => exact ⟨k + 1, by omega, rfl, by go_num, HB.out, HNO.out rfl⟩
          · cases q2
            · go_wp2
              go_roundg (no - (k + 1))
              case measure => omega
              case rel => exact ⟨k + 1, by omega, rfl, by go_num, HB.out, HNO.out rfl⟩
            · go_wp2
              go_ret
              exact ⟨by rw [HYES.out rfl]; rfl, HB.out.2⟩
        · have hki : ¬ (k : Int) < (no : Int) := by omega
          have HP0 : Hid (inTk g ne no ac po = false) := by show _ = _; rw [HT.out, HE0.out, any_noP h2 (fun j hj => HAL.out j (by omega))]; rfl
          go_wp2
          go_ret
          exact ⟨by rw [HP0.out]; rfl, HB.out.2⟩
theorem str_eq (x y : List UInt8) : ((str x).toList == (str y).toList) = (x == y) := by rw [gstr_list, gstr_list]
set_option maxRecDepth 100000 in
set_option maxHeartbeats 8000000 in
theorem named_any (g : GG) (a1 a2 a3 a4 : Option Addr) (c1 c2 c3 c4 : Nat) (na ni no : Nat) (x : List UInt8) (w : World) (h : GrG w a1 a2 a3 a4 g) (h1 : na ≤ g.actors.length) (h2 : ni ≤ g.ins.length) (h3 : no ≤ g.outs.length) :
    Calls Tryz.prog 147 #[.agg #[.string (str g.name), .slice a1 g.actors.length c1, .slice a2 g.edges.length c2, .slice a3 g.ins.length c3, .slice a4 g.outs.length c4], .int .i64 (na : Int), .int .i64 (ni : Int), .int .i64 (no : Int), .string (str x)] w fun e w' => e = .returned (.bool (namedB g na ni no x)) ∧ Below w.heap.size w w' := by
  have HG := hiddenG h
  have l1 := h.l1
  have l3 := h.l3
  have l4 := h.l4
  have naI : (na : Int) ≤ 1000000000000000 := by omega
  have niI : (ni : Int) ≤ 1000000000000000 := by omega
  have noI : (no : Int) ≤ 1000000000000000 := by omega
  have B0 := hiddenG (gbox_new w #[.string (str g.name), .slice a1 g.actors.length c1, .slice a2 g.edges.length c2, .slice a3 g.ins.length c3, .slice a4 g.outs.length c4])
  have HT : Hid (namedB g na ni no x = ((g.actors.take na).any (fun a => a.name == x) || ((g.ins.take ni).any (fun p => p.name == x) || (g.outs.take no).any (fun p => p.name == x)))) := by rfl
  clear h
  go_enter Tryz.func147, Tryz.ntmps147
  go_wp2
  go_loopg [11] na (fun gk v wr => ∃ k : Nat, k ≤ na ∧ gk = na - k ∧ v = .int .i64 (k : Int) ∧ GBox w #[.string (str g.name), .slice a1 g.actors.length c1, .slice a2 g.edges.length c2, .slice a3 g.ins.length c3, .slice a4 g.outs.length c4] wr ∧ ∀ j, j < k → ((nthA g.actors j).name == x) = false)
  case atStart => exact ⟨0, Nat.zero_le _, rfl, rfl, B0.out, fun j hj => absurd hj (Nat.not_lt_zero _)⟩
  case round =>
    clear B0
    obtain ⟨k, hk, rfl, rfl, hB, hall⟩ := hrel
    have HB := hiddenG hB
    have HAL := hiddenG hall
    have y4 : wr.cell? ⟨w.heap.size, 1, none⟩ = some (.slice a1 g.actors.length c1) := hB.1.cell rfl
    clear hB hall
    by_cases hlt : k < na
    · have hki : (k : Int) < (na : Int) := by omega
      have hkl : k < g.actors.length := by omega
      have hkI : (k : Int) < (g.actors.length : Int) := by omega
      rcases (HG.out.below HB.out.2).A with e | ⟨b, off, rfl, hc⟩
      · rw [e] at hkl; exact absurd hkl (Nat.not_lt_zero _)
      have x0 := (hc k hkl).1
      clear hc
      have HYES : Hid (((nthA g.actors k).name == x) = true → namedB g na ni no x = true) := fun e => by rw [HT.out, any_yesA hlt h1 e, Bool.true_or]
      have HNO : Hid (((nthA g.actors k).name == x) = false → ∀ j, j < k + 1 → ((nthA g.actors j).name == x) = false) := fun e j hj => by
        by_cases q : j < k
        · exact HAL.out j q
        · rw [show j = k by omega]; exact e
      generalize (nthA g.actors k).name = en at *
      have hst := str_eq en x
      obtain ⟨q1, hq1⟩ : ∃ q, (en == x) = q := ⟨_, rfl⟩
      rw [hq1] at HYES HNO hst
      clear hq1
      cases q1
      · go_wp2
        go_roundg (na - (k + 1))
        case measure => omega
        case rel => exact ⟨k + 1, by omega, rfl, by go_num, HB.out, HNO.out (by trivial)⟩
      · go_wp2
        go_ret
        exact ⟨by rw [HYES.out (by trivial)]; rfl, HB.out.2⟩
    · have hki : ¬ (k : Int) < (na : Int) := by omega
      have Z0 : Hid ((g.actors.take na).any (fun a => a.name == x) = false) := any_noA h1 (fun j hj => HAL.out j (by omega))
      clear y4 HAL hlt hk
      go_wp2
      go_loopg [12] ni (fun gk v wr => ∃ k : Nat, k ≤ ni ∧ gk = ni - k ∧ v = .int .i64 (k : Int) ∧ GBox w #[.string (str g.name), .slice a1 g.actors.length c1, .slice a2 g.edges.length c2, .slice a3 g.ins.length c3, .slice a4 g.outs.length c4] wr ∧ ∀ j, j < k → ((nthP g.ins j).name == x) = false)
      case atStart => exact ⟨0, Nat.zero_le _, rfl, rfl, HB.out, fun j hj => absurd hj (Nat.not_lt_zero _)⟩
      case round =>
        clear HB hki
        obtain ⟨k, hk, rfl, rfl, hB, hall⟩ := hrel
        have HB := hiddenG hB
        have HAL := hiddenG hall
        have y4 : wr.cell? ⟨w.heap.size, 3, none⟩ = some (.slice a3 g.ins.length c3) := hB.1.cell rfl
        clear hB hall
        by_cases hlt : k < ni
        · have hki : (k : Int) < (ni : Int) := by omega
          have hkl : k < g.ins.length := by omega
          have hkI : (k : Int) < (g.ins.length : Int) := by omega
          rcases (HG.out.below HB.out.2).I with e | ⟨b, off, rfl, hc⟩
          · rw [e] at hkl; exact absurd hkl (Nat.not_lt_zero _)
          have x0 := (hc k hkl).1
          clear hc
          have HYES : Hid (((nthP g.ins k).name == x) = true → namedB g na ni no x = true) := fun e => by rw [HT.out, Z0.out, any_yesP hlt h2 e, Bool.false_or, Bool.true_or]
          have HNO : Hid (((nthP g.ins k).name == x) = false → ∀ j, j < k + 1 → ((nthP g.ins j).name == x) = false) := fun e j hj => by
            by_cases q : j < k
            · exact HAL.out j q
            · rw [show j = k by omega]; exact e
          generalize (nthP g.ins k).name = en at *
          have hst := str_eq en x
          obtain ⟨q1, hq1⟩ : ∃ q, (en == x) = q := ⟨_, rfl⟩
          rw [hq1] at HYES HNO hst
          clear hq1
          cases q1
          · go_wp2
            go_roundg (ni - (k + 1))
            case measure => omega
            case rel => exact ⟨k + 1, by omega, rfl, by go_num, HB.out, HNO.out (by trivial)⟩
          · go_wp2
            go_ret
            exact ⟨by rw [HYES.out (by trivial)]; rfl, HB.out.2⟩
        · have hki : ¬ (k : Int) < (ni : Int) := by omega
          have Z1 : Hid ((g.ins.take ni).any (fun a => a.name == x) = false) := any_noP h2 (fun j hj => HAL.out j (by omega))
          clear y4 HAL hlt hk
          go_wp2
          go_loopg [13] no (fun gk v wr => ∃ k : Nat, k ≤ no ∧ gk = no - k ∧ v = .int .i64 (k : Int) ∧ GBox w #[.string (str g.name), .slice a1 g.actors.length c1, .slice a2 g.edges.length c2, .slice a3 g.ins.length c3, .slice a4 g.outs.length c4] wr ∧ ∀ j, j < k → ((nthP g.outs j).name == x) = false)
          case atStart => exact ⟨0, Nat.zero_le _, rfl, rfl, HB.out, fun j hj => absurd hj (Nat.not_lt_zero _)⟩
          case round =>
            clear HB hki
            obtain ⟨k, hk, rfl, rfl, hB, hall⟩ := hrel
            have HB := hiddenG hB
            have HAL := hiddenG hall
            have y4 : wr.cell? ⟨w.heap.size, 4, none⟩ = some (.slice a4 g.outs.length c4) := hB.1.cell rfl
            clear hB hall
            by_cases hlt : k < no
            · have hki : (k : Int) < (no : Int) := by omega
              have hkl : k < g.outs.length := by omega
              have hkI : (k : Int) < (g.outs.length : Int) := by omega
              rcases (HG.out.below HB.out.2).O with e | ⟨b, off, rfl, hc⟩
              · rw [e] at hkl; exact absurd hkl (Nat.not_lt_zero _)
              have x0 := (hc k hkl).1
              clear hc
              have HYES : Hid (((nthP g.outs k).name == x) = true → namedB g na ni no x = true) := fun e => by rw [HT.out, Z0.out, Z1.out, any_yesP hlt h3 e, Bool.false_or, Bool.false_or]
              have HNO : Hid (((nthP g.outs k).name == x) = false → ∀ j, j < k + 1 → ((nthP g.outs j).name == x) = false) := fun e j hj => by
                by_cases q : j < k
                · exact HAL.out j q
                · rw [show j = k by omega]; exact e
              generalize (nthP g.outs k).name = en at *
              have hst := str_eq en x
              obtain ⟨q1, hq1⟩ : ∃ q, (en == x) = q := ⟨_, rfl⟩
              rw [hq1] at HYES HNO hst
              clear hq1
              cases q1
              · go_wp2
                go_roundg (no - (k + 1))
                case measure => omega
                case rel => exact ⟨k + 1, by omega, rfl, by go_num, HB.out, HNO.out (by trivial)⟩
              · go_wp2
                go_ret
                exact ⟨by rw [HYES.out (by trivial)]; rfl, HB.out.2⟩
            · have hki : ¬ (k : Int) < (no : Int) := by omega
              have Z2 : Hid ((g.outs.take no).any (fun a => a.name == x) = false) := any_noP h3 (fun j hj => HAL.out j (by omega))
              have HP0 : Hid (namedB g na ni no x = false) := by show _ = _; rw [HT.out, Z0.out, Z1.out, Z2.out]; rfl
              go_wp2
              go_ret
              exact ⟨by rw [HP0.out]; rfl, HB.out.2⟩
/-- What pianolaref06.Of answers, by its lengths. -/
def OfV (nI nO : Nat) (er : Int) (v : Value) : Prop := ∃ p1 q1 p2 q2, v = .tuple #[.slice p1 nI q1, .slice p2 nO q2, .int .i64 er]
/-- A slice of that length. -/
def SlN (n : Nat) (v : Value) : Prop := ∃ p q, v = .slice p n q
theorem ofV_of {w w' : World} {t : Nat} {zs : List Int} {nI nO : Nat} {er : Int} {e : Ending} (h : OfEnd w (ofS t zs) e w') (h1 : (ofS t zs).1.length = nI) (h2 : (ofS t zs).2.1.length = nO) (h3 : (ofS t zs).2.2 = er) : ∃ v, e = .returned v ∧ Below w.heap.size w w' ∧ OfV nI nO er v := by
  unfold OfEnd at h
  obtain ⟨p1, q1, p2, q2, he, -, -, -, hb⟩ := h
  rw [h1, h2, h3] at he
  exact ⟨_, he, hb, p1, q1, p2, q2, rfl⟩
set_option maxRecDepth 100000 in
set_option maxHeartbeats 4000000 in
theorem rates8_any (g : GG) (a1 a2 a3 a4 : Option Addr) (c1 c2 c3 c4 : Nat) (k : Nat) (w : World) (h : GrG w a1 a2 a3 a4 g) (hk : k < g.actors.length) :
    Calls Tryz.prog 152 #[.agg #[.string (str g.name), .slice a1 g.actors.length c1, .slice a2 g.edges.length c2, .slice a3 g.ins.length c3, .slice a4 g.outs.length c4], .int .i64 (k : Int)] w fun e w' => e = .returned (.tuple #[.int .i64 (insN g k : Int), .int .i64 (outsN g k : Int)]) ∧ Below w.heap.size w w' := by
  have hki : (k : Int) < (g.actors.length : Int) := by omega
  have ba := (Below.refl w.heap.size w).alloc (Nat.le_refl _) (.cells #[.string (str g.name), .slice a1 g.actors.length c1, .slice a2 g.edges.length c2, .slice a3 g.ins.length c3, .slice a4 g.outs.length c4] 26)
  have BA := hiddenG ba
  have g1' := (blkA_new 26 w #[.string (str g.name), .slice a1 g.actors.length c1, .slice a2 g.edges.length c2, .slice a3 g.ins.length c3, .slice a4 g.outs.length c4]).cell (k := 1) rfl
  rcases (h.below ba).A with e | ⟨b, off, rfl, hc⟩
  · rw [e] at hk; exact absurd hk (Nat.not_lt_zero _)
  obtain ⟨-, x1', ht, xa, xc, x2', x3⟩ := hc k hk
  have HI : Hid ((ofS (nthA g.actors k).tag (nthA g.actors k).params).1.length = insN g k) := by rfl
  have HO : Hid ((ofS (nthA g.actors k).tag (nthA g.actors k).params).2.1.length = outsN g k) := by rfl
  obtain ⟨er, hE⟩ : ∃ q, (ofS (nthA g.actors k).tag (nthA g.actors k).params).2.2 = q := ⟨_, rfl⟩
  have HE := hiddenG hE
  have HAR := hiddenG x3
  have HTT := hiddenG ht
  have hni : insN g k ≤ 1024 := (of_small _ _).1
  have hno : outsN g k ≤ 1024 := (of_small _ _).2
  generalize insN g k = nI at *
  generalize outsN g k = nO at *
  generalize nthA g.actors k = E at *
  obtain ⟨en, tg, ps⟩ := E
  simp only at x1' x2' HI HO HE HAR HTT
  clear hc x3 ht ba h hE
  have OF : Hid (∀ V, Below (w.alloc (.cells #[.string (str g.name), .slice (some ⟨b, off, none⟩) g.actors.length c1, .slice a2 g.edges.length c2, .slice a3 g.ins.length c3, .slice a4 g.outs.length c4] 26)).heap.size (w.alloc (.cells #[.string (str g.name), .slice (some ⟨b, off, none⟩) g.actors.length c1, .slice a2 g.edges.length c2, .slice a3 g.ins.length c3, .slice a4 g.outs.length c4] 26)) V → Calls Tryz.prog 148 #[.int .u8 (tg : Int), .slice xa ps.length xc] V (OfEnd V (ofS tg ps))) := fun V hb => rof_any tg xa ps ps.length xc V HTT.out rfl (HAR.out.below hb).lies
  go_enter Tryz.func152, Tryz.ntmps152
  go_upto_region 1 with fail
  generalize w.alloc (.cells #[.string (str g.name), .slice (some ⟨b, off, none⟩) g.actors.length c1, .slice a2 g.edges.length c2, .slice a3 g.ins.length c3, .slice a4 g.outs.length c4] 26) = W0 at *
  refine wp_region_gen [] (fun d i u z => match i with
      | 0 => z = .pointer (some ⟨w.heap.size, 1, none⟩)
      | 1 => z = .slice (some ⟨b, off, none⟩) g.actors.length c1
      | 2 => z = .int .i64 (k : Int)
      | 3 => z = .pointer (some ⟨b, off + k * 3, none⟩)
      | 4 => z = .pointer (some ⟨b, off + k * 3 + 1, none⟩)
      | 5 => z = .int .u8 (tg : Int)
      | 6 => z = .pointer (some ⟨w.heap.size, 1, none⟩)
      | 7 => z = .slice (some ⟨b, off, none⟩) g.actors.length c1
      | 8 => z = .int .i64 (k : Int)
      | 9 => z = .pointer (some ⟨b, off + k * 3, none⟩)
      | 10 => z = .pointer (some ⟨b, off + k * 3 + 2, none⟩)
      | 11 => z = .slice xa ps.length xc
      | 12 => OfV nI nO er z
      | 13 => OfV nI nO er z
      | 14 => SlN nI z
      | 15 => SlN nO z
      | 16 => z = .int .i64 er
      | 17 => SlN nI z
      | 18 => SlN nO z
      | 19 => z = .int .i64 er
      | _ => True) (fun _ u => Below W0.heap.size W0 u) (by kernel_rfl) (by kernel_rfl) (by kernel_rfl) ?_ ?_ ?_ ?_ ?_ ?_ (by kernel_rfl)
  · intro d i w v w' h hb
    match i, h with
    | 0, h => exact h
    | 1, h => exact h
    | 2, h => exact h
    | 3, h => exact h
    | 4, h => exact h
    | 5, h => exact h
    | 6, h => exact h
    | 7, h => exact h
    | 8, h => exact h
    | 9, h => exact h
    | 10, h => exact h
    | 11, h => exact h
    | 12, h => exact h
    | 13, h => exact h
    | 14, h => exact h
    | 15, h => exact h
    | 16, h => exact h
    | 17, h => exact h
    | 18, h => exact h
    | 19, h => exact h
    | _ + 20, _ => trivial
  · intro d u u' h hb
    exact h.trans (hb.mono h.size)
  · exact Below.refl _ _
  · intro d i o ρ w' hm ho hf hg hC hcs hfs hfr hdep
    match i, hm, ho, hf, hg, hfr, hdep with
    | 0, _, ho, hf, hg, hfr, hdep =>
      simp only [gTA, gCZ, gSI] at ho
      subst ho
      refine ⟨fun _ => ?_, fun hw => absurd (show true = false from hw) (by decide)⟩
      have ts : ρ (.tmp 2) = .pointer (some ⟨w.heap.size, 0, none⟩) := hfr 2 (by kernel_rfl)
      simp [go_sem, ts]
      exact ⟨Below.refl _ _, rfl⟩
    | 1, _, ho, hf, hg, hfr, hdep =>
      simp only [gTA, gCZ, gCS, gSI] at ho
      subst ho
      refine ⟨fun _ => ?_, fun hw => absurd (show true = false from hw) (by decide)⟩
      have g1 := cell_keep hC g1'
      have d0 : ρ (.tmp 10) = .pointer (some ⟨w.heap.size, 1, none⟩) := hdep 0 10 (by kernel_rfl) (by kernel_rfl)
      simp [go_sem, d0, g1]
      exact ⟨Below.refl _ _, rfl⟩
    | 2, _, ho, hf, hg, hfr, hdep =>
      simp only [gTA, gCZ, gCS, gSI] at ho
      subst ho
      refine ⟨fun _ => ?_, fun hw => absurd (show true = false from hw) (by decide)⟩
      have ts : ρ (.tmp 1) = .int .i64 (k : Int) := hfr 1 (by kernel_rfl)
      simp [go_sem, ts]
      exact ⟨Below.refl _ _, rfl⟩
    | 3, _, ho, hf, hg, hfr, hdep =>
      simp only [gTA, gCZ, gCS, gSI] at ho
      subst ho
      refine ⟨fun _ => ?_, fun hw => absurd (show true = false from hw) (by decide)⟩
      have d0 : ρ (.tmp 11) = .slice (some ⟨b, off, none⟩) g.actors.length c1 := hdep 1 11 (by kernel_rfl) (by kernel_rfl)
      have d1 : ρ (.tmp 12) = .int .i64 (k : Int) := hdep 2 12 (by kernel_rfl) (by kernel_rfl)
      simp [go_sem, d0, d1, hki]
      exact ⟨Below.refl _ _, rfl⟩
    | 4, _, ho, hf, hg, hfr, hdep =>
      simp only [gTA, gCZ, gCS, gSI] at ho
      subst ho
      refine ⟨fun _ => ?_, fun hw => absurd (show true = false from hw) (by decide)⟩
      have d0 : ρ (.tmp 13) = .pointer (some ⟨b, off + k * 3, none⟩) := hdep 3 13 (by kernel_rfl) (by kernel_rfl)
      simp [go_sem, d0]
      exact ⟨Below.refl _ _, rfl⟩
    | 5, _, ho, hf, hg, hfr, hdep =>
      simp only [gTA, gCZ, gCS, gSI] at ho
      subst ho
      refine ⟨fun _ => ?_, fun hw => absurd (show true = false from hw) (by decide)⟩
      have x1 := cell_keep hC x1'
      have d0 : ρ (.tmp 14) = .pointer (some ⟨b, off + k * 3 + 1, none⟩) := hdep 4 14 (by kernel_rfl) (by kernel_rfl)
      simp [go_sem, d0, x1]
      exact ⟨Below.refl _ _, rfl⟩
    | 6, _, ho, hf, hg, hfr, hdep =>
      simp only [gTA, gCZ, gCS, gSI] at ho
      subst ho
      refine ⟨fun _ => ?_, fun hw => absurd (show true = false from hw) (by decide)⟩
      have ts : ρ (.tmp 2) = .pointer (some ⟨w.heap.size, 0, none⟩) := hfr 2 (by kernel_rfl)
      simp [go_sem, ts]
      exact ⟨Below.refl _ _, rfl⟩
    | 7, _, ho, hf, hg, hfr, hdep =>
      simp only [gTA, gCZ, gCS, gSI] at ho
      subst ho
      refine ⟨fun _ => ?_, fun hw => absurd (show true = false from hw) (by decide)⟩
      have g1 := cell_keep hC g1'
      have d0 : ρ (.tmp 16) = .pointer (some ⟨w.heap.size, 1, none⟩) := hdep 6 16 (by kernel_rfl) (by kernel_rfl)
      simp [go_sem, d0, g1]
      exact ⟨Below.refl _ _, rfl⟩
    | 8, _, ho, hf, hg, hfr, hdep =>
      simp only [gTA, gCZ, gCS, gSI] at ho
      subst ho
      refine ⟨fun _ => ?_, fun hw => absurd (show true = false from hw) (by decide)⟩
      have ts : ρ (.tmp 1) = .int .i64 (k : Int) := hfr 1 (by kernel_rfl)
      simp [go_sem, ts]
      exact ⟨Below.refl _ _, rfl⟩
    | 9, _, ho, hf, hg, hfr, hdep =>
      simp only [gTA, gCZ, gCS, gSI] at ho
      subst ho
      refine ⟨fun _ => ?_, fun hw => absurd (show true = false from hw) (by decide)⟩
      have d0 : ρ (.tmp 17) = .slice (some ⟨b, off, none⟩) g.actors.length c1 := hdep 7 17 (by kernel_rfl) (by kernel_rfl)
      have d1 : ρ (.tmp 18) = .int .i64 (k : Int) := hdep 8 18 (by kernel_rfl) (by kernel_rfl)
      simp [go_sem, d0, d1, hki]
      exact ⟨Below.refl _ _, rfl⟩
    | 10, _, ho, hf, hg, hfr, hdep =>
      simp only [gTA, gCZ, gCS, gSI] at ho
      subst ho
      refine ⟨fun _ => ?_, fun hw => absurd (show true = false from hw) (by decide)⟩
      have d0 : ρ (.tmp 19) = .pointer (some ⟨b, off + k * 3, none⟩) := hdep 9 19 (by kernel_rfl) (by kernel_rfl)
      simp [go_sem, d0]
      exact ⟨Below.refl _ _, rfl⟩
    | 11, _, ho, hf, hg, hfr, hdep =>
      simp only [gTA, gCZ, gCS, gSI] at ho
      subst ho
      refine ⟨fun _ => ?_, fun hw => absurd (show true = false from hw) (by decide)⟩
      have x2 := cell_keep hC x2'
      have d0 : ρ (.tmp 20) = .pointer (some ⟨b, off + k * 3 + 2, none⟩) := hdep 10 20 (by kernel_rfl) (by kernel_rfl)
      simp [go_sem, d0, x2]
      exact ⟨Below.refl _ _, rfl⟩
    | 12, _, ho, hf, hg, hfr, hdep =>
      simp only [gTA, gCZ, gCS, gSI] at ho
      subst ho
      refine ⟨fun _ => ?_, fun hw => absurd (show true = false from hw) (by decide)⟩
      have t0 : ρ (.tmp 15) = .int .u8 (tg : Int) := hdep 5 15 (by kernel_rfl) (by kernel_rfl)
      have t1 : ρ (.tmp 21) = .slice xa ps.length xc := hdep 11 21 (by kernel_rfl) (by kernel_rfl)
      simp [go_sem, t0, t1, hfs]
      exact ⟨rfl, (OF.out w' hC).mono fun e w'' hh => ofV_of hh HI.out HO.out HE.out⟩
    | 13, _, ho, hf, hg, hfr, hdep =>
      simp only [gTA, gCZ, gCS, gSI] at ho
      subst ho
      refine ⟨fun _ => ?_, fun hw => absurd (show true = false from hw) (by decide)⟩
      obtain ⟨p1, q1, p2, q2, eq⟩ : OfV nI nO er (ρ (.tmp 22)) := hdep 12 22 (by kernel_rfl) (by kernel_rfl)
      simp [go_sem, eq]
      exact ⟨Below.refl _ _, _, _, _, _, rfl⟩
    | 14, _, ho, hf, hg, hfr, hdep =>
      simp only [gTA, gCZ, gCS, gSI] at ho
      subst ho
      refine ⟨fun _ => ?_, fun hw => absurd (show true = false from hw) (by decide)⟩
      obtain ⟨p1, q1, p2, q2, eq⟩ : OfV nI nO er (ρ (.tmp 9)) := hdep 13 9 (by kernel_rfl) (by kernel_rfl)
      simp [go_sem, eq]
      exact ⟨Below.refl _ _, _, _, rfl⟩
    | 15, _, ho, hf, hg, hfr, hdep =>
      simp only [gTA, gCZ, gCS, gSI] at ho
      subst ho
      refine ⟨fun _ => ?_, fun hw => absurd (show true = false from hw) (by decide)⟩
      obtain ⟨p1, q1, p2, q2, eq⟩ : OfV nI nO er (ρ (.tmp 9)) := hdep 13 9 (by kernel_rfl) (by kernel_rfl)
      simp [go_sem, eq]
      exact ⟨Below.refl _ _, _, _, rfl⟩
    | 16, _, ho, hf, hg, hfr, hdep =>
      simp only [gTA, gCZ, gCS, gSI] at ho
      subst ho
      refine ⟨fun _ => ?_, fun hw => absurd (show true = false from hw) (by decide)⟩
      obtain ⟨p1, q1, p2, q2, eq⟩ : OfV nI nO er (ρ (.tmp 9)) := hdep 13 9 (by kernel_rfl) (by kernel_rfl)
      simp [go_sem, eq]
      exact ⟨Below.refl _ _, rfl⟩
    | 17, _, ho, hf, hg, hfr, hdep =>
      simp only [gTA, gCZ, gCS, gSI] at ho
      subst ho
      refine ⟨fun _ => ?_, fun hw => absurd (show true = false from hw) (by decide)⟩
      obtain ⟨p1, q1, eq⟩ : SlN nI (ρ (.tmp 23)) := hdep 14 23 (by kernel_rfl) (by kernel_rfl)
      simp [go_sem, eq]
      exact ⟨Below.refl _ _, _, _, rfl⟩
    | 18, _, ho, hf, hg, hfr, hdep =>
      simp only [gTA, gCZ, gCS, gSI] at ho
      subst ho
      refine ⟨fun _ => ?_, fun hw => absurd (show true = false from hw) (by decide)⟩
      obtain ⟨p1, q1, eq⟩ : SlN nO (ρ (.tmp 24)) := hdep 15 24 (by kernel_rfl) (by kernel_rfl)
      simp [go_sem, eq]
      exact ⟨Below.refl _ _, _, _, rfl⟩
    | 19, _, ho, hf, hg, hfr, hdep =>
      simp only [gTA, gCZ, gCS, gSI] at ho
      subst ho
      refine ⟨fun _ => ?_, fun hw => absurd (show true = false from hw) (by decide)⟩
      have d0 : ρ (.tmp 25) = .int .i64 er := hdep 16 25 (by kernel_rfl) (by kernel_rfl)
      simp [go_sem, d0]
      exact ⟨Below.refl _ _, rfl⟩
    | n + 20, _, ho, _, _, _, _ => simp at ho
  · intro d i o ρ w' hm ho h0 hf hg hC hcs hfs hfr hdep
    exact absurd hm (by simp)
  · intro V w9 hC9 hS
    have e0 : V 0 = .pointer (some ⟨w.heap.size, 1, none⟩) := hS 0 (by decide) (by intro h; cases h)
    have e1 : V 1 = .slice (some ⟨b, off, none⟩) g.actors.length c1 := hS 1 (by decide) (by intro h; cases h)
    have e2 : V 2 = .int .i64 (k : Int) := hS 2 (by decide) (by intro h; cases h)
    have e3 : V 3 = .pointer (some ⟨b, off + k * 3, none⟩) := hS 3 (by decide) (by intro h; cases h)
    have e4 : V 4 = .pointer (some ⟨b, off + k * 3 + 1, none⟩) := hS 4 (by decide) (by intro h; cases h)
    have e5 : V 5 = .int .u8 (tg : Int) := hS 5 (by decide) (by intro h; cases h)
    have e6 : V 6 = .pointer (some ⟨w.heap.size, 1, none⟩) := hS 6 (by decide) (by intro h; cases h)
    have e7 : V 7 = .slice (some ⟨b, off, none⟩) g.actors.length c1 := hS 7 (by decide) (by intro h; cases h)
    have e8 : V 8 = .int .i64 (k : Int) := hS 8 (by decide) (by intro h; cases h)
    have e9 : V 9 = .pointer (some ⟨b, off + k * 3, none⟩) := hS 9 (by decide) (by intro h; cases h)
    have e10 : V 10 = .pointer (some ⟨b, off + k * 3 + 2, none⟩) := hS 10 (by decide) (by intro h; cases h)
    have e11 : V 11 = .slice xa ps.length xc := hS 11 (by decide) (by intro h; cases h)
    obtain ⟨pa12, pb12, pc12, pd12, e12⟩ : OfV nI nO er (V 12) := hS 12 (by decide) (by intro h; cases h)
    obtain ⟨pa13, pb13, pc13, pd13, e13⟩ : OfV nI nO er (V 13) := hS 13 (by decide) (by intro h; cases h)
    obtain ⟨pa14, pb14, e14⟩ : SlN nI (V 14) := hS 14 (by decide) (by intro h; cases h)
    obtain ⟨pa15, pb15, e15⟩ : SlN nO (V 15) := hS 15 (by decide) (by intro h; cases h)
    have e16 : V 16 = .int .i64 er := hS 16 (by decide) (by intro h; cases h)
    obtain ⟨pa17, pb17, e17⟩ : SlN nI (V 17) := hS 17 (by decide) (by intro h; cases h)
    obtain ⟨pa18, pb18, e18⟩ : SlN nO (V 18) := hS 18 (by decide) (by intro h; cases h)
    have e19 : V 19 = .int .i64 er := hS 19 (by decide) (by intro h; cases h)
    simp only [puts, e0, e1, e2, e3, e4, e5, e6, e7, e8, e9, e10, e11, e12, e13, e14, e15, e16, e17, e18, e19]
    simp only [Act.put, List.setIfInBounds_toArray, List.set_cons_zero, List.set_cons_succ]
    clear hS e0 e1 e2 e3 e4 e5 e6 e7 e8 e9 e10 e11 e12 e13 e14 e15 e16 e17 e18 e19
    have B9 := hiddenG (BA.out.trans (hC9.mono BA.out.size))
    clear hC9 OF
    go_wp2
    refine bodyPost_ret (v := .tuple #[.int .i64 (nI : Int), .int .i64 (nO : Int)]) (by simp [results, Tryz.results152, go_sem]) rfl ?_
    exact ⟨rfl, B9.out⟩
set_option maxRecDepth 100000 in
set_option maxHeartbeats 4000000 in
theorem end8_any (g : GG) (a1 a2 a3 a4 : Option Addr) (c1 c2 c3 c4 : Nat) (ac po : Int) (ot tk : Bool) (w : World) (h : GrG w a1 a2 a3 a4 g) :
    Calls Tryz.prog 149 #[.agg #[.string (str g.name), .slice a1 g.actors.length c1, .slice a2 g.edges.length c2, .slice a3 g.ins.length c3, .slice a4 g.outs.length c4], .int .i64 ac, .int .i64 po, .bool ot, .bool tk] w fun e w' => e = .returned (.int .i64 (endC g ac po (if ot = true then outsN g ac.toNat else insN g ac.toNat) tk)) ∧ Below w.heap.size w w' := by
  have ba := (Below.refl w.heap.size w).alloc (Nat.le_refl _) (.cells #[.string (str g.name), .slice a1 g.actors.length c1, .slice a2 g.edges.length c2, .slice a3 g.ins.length c3, .slice a4 g.outs.length c4] 26)
  have BA := hiddenG ba
  have X0 := blkA_new 26 w #[.string (str g.name), .slice a1 g.actors.length c1, .slice a2 g.edges.length c2, .slice a3 g.ins.length c3, .slice a4 g.outs.length c4]
  have y0 := X0.cell (k := 0) rfl
  have y1 := X0.cell (k := 1) rfl
  have y2 := X0.cell (k := 2) rfl
  have y3 := X0.cell (k := 3) rfl
  have y4 := X0.cell (k := 4) rfl
  have HG := hiddenG (h.below ba)
  have l1 := h.l1
  have n1 : (g.actors.length : Int) ≤ 1000000000000000 := by omega
  clear ba h X0
  unfold endC
  by_cases h1 : ac < 0 ∨ (g.actors.length : Int) ≤ ac
  · rw [if_pos h1]
    by_cases h2 : ac < 0
    · go_enter Tryz.func149, Tryz.ntmps149
      go_wp2
      go_ret
      exact ⟨rfl, BA.out⟩
    · have h3 : ac ≥ (g.actors.length : Int) := by omega
      go_enter Tryz.func149, Tryz.ntmps149
      go_wp2
      go_ret
      exact ⟨rfl, BA.out⟩
  · rw [if_neg h1]
    have h2 : ¬ ac < 0 := by omega
    have h3 : ¬ ac ≥ (g.actors.length : Int) := by omega
    obtain ⟨k, rfl⟩ : ∃ k : Nat, ac = (k : Int) := ⟨ac.toNat, by omega⟩
    have hk : k < g.actors.length := by omega
    have RT := hiddenG (rates8_any g a1 a2 a3 a4 c1 c2 c3 c4 k _ HG.out hk)
    rw [Int.toNat_natCast]
    have hni : insN g k ≤ 1024 := (of_small _ _).1
    have hno : outsN g k ≤ 1024 := (of_small _ _).2
    generalize insN g k = nI at *
    generalize outsN g k = nO at *
    clear h1
    obtain ⟨n, hn, hne⟩ : ∃ n, (if ot = true then nO else nI) = n ∧ n ≤ 1024 := by cases ot <;> exact ⟨_, rfl, by simp; omega⟩
    rw [hn]
    have nI9 : (n : Int) ≤ 1024 := by omega
    have HN := hiddenG hn
    clear hn
    by_cases h4 : po < 0 ∨ (n : Int) ≤ po
    · rw [if_pos h4]
      go_enter Tryz.func149, Tryz.ntmps149
      go_upto_region 1 with fail
      generalize w.alloc (.cells #[.string (str g.name), .slice a1 g.actors.length c1, .slice a2 g.edges.length c2, .slice a3 g.ins.length c3, .slice a4 g.outs.length c4] 26) = W0 at *
      cases ot
      all_goals
        have hn := HN.out
        simp only [if_true, if_false, Bool.false_eq_true] at hn
        subst hn
        by_cases h5 : po < 0
        · go_wp2_with (go_at_call 152; (with_reducible refine RT.out.mono ?_); rintro e w1 ⟨rfl, b1⟩; have B1 := hiddenG b1; clear b1)
          go_ret
          exact ⟨rfl, BA.out.trans (B1.out.mono BA.out.size)⟩
        · have h6 := h4.resolve_left h5
          go_wp2_with (go_at_call 152; (with_reducible refine RT.out.mono ?_); rintro e w1 ⟨rfl, b1⟩; have B1 := hiddenG b1; clear b1)
          go_ret
          exact ⟨rfl, BA.out.trans (B1.out.mono BA.out.size)⟩
    · rw [if_neg h4]
      have h5 : ¬ po < 0 := by omega
      have h6 : ¬ (n : Int) ≤ po := by omega
      clear h4
      go_enter Tryz.func149, Tryz.ntmps149
      go_upto_region 1 with fail
      generalize w.alloc (.cells #[.string (str g.name), .slice a1 g.actors.length c1, .slice a2 g.edges.length c2, .slice a3 g.ins.length c3, .slice a4 g.outs.length c4] 26) = W0 at *
      cases ot
      all_goals
        have hn := HN.out
        simp only [if_true, if_false, Bool.false_eq_true] at hn
        subst hn
        cases tk
        all_goals
          go_wp2_with (go_at_call 152; (with_reducible refine RT.out.mono ?_); rintro e w1 ⟨rfl, b1⟩; have B1 := hiddenG b1; clear b1)
          go_ret
          exact ⟨rfl, BA.out.trans (B1.out.mono BA.out.size)⟩
set_option maxRecDepth 100000 in
set_option maxHeartbeats 4000000 in
theorem actor8_any (g : GG) (a1 a2 a3 a4 : Option Addr) (c1 c2 c3 c4 : Nat) (k : Nat) (w : World) (h : GrG w a1 a2 a3 a4 g) (hk : k < g.actors.length) :
    Calls Tryz.prog 101 #[.agg #[.string (str g.name), .slice a1 g.actors.length c1, .slice a2 g.edges.length c2, .slice a3 g.ins.length c3, .slice a4 g.outs.length c4], .int .i64 (k : Int)] w fun e w' => e = .returned (.int .i64 (actorC g k)) ∧ Below w.heap.size w w' := by
  have hki : (k : Int) < (g.actors.length : Int) := by omega
  have l1 := h.l1
  have n1 : (g.actors.length : Int) ≤ 1000000000000000 := by omega
  have ba := (Below.refl w.heap.size w).alloc (Nat.le_refl _) (.cells #[.string (str g.name), .slice a1 g.actors.length c1, .slice a2 g.edges.length c2, .slice a3 g.ins.length c3, .slice a4 g.outs.length c4] 26)
  have B0 := hiddenG (gbox_new w #[.string (str g.name), .slice a1 g.actors.length c1, .slice a2 g.edges.length c2, .slice a3 g.ins.length c3, .slice a4 g.outs.length c4])
  have HG := hiddenG h
  have NM : Hid (∀ U, Below w.heap.size w U → Calls Tryz.prog 147 #[.agg #[.string (str g.name), .slice a1 g.actors.length c1, .slice a2 g.edges.length c2, .slice a3 g.ins.length c3, .slice a4 g.outs.length c4], .int .i64 (k : Int), .int .i64 0, .int .i64 0, .string (str (nthA g.actors k).name)] U fun e w' => e = .returned (.bool (namedB g k 0 0 (nthA g.actors k).name)) ∧ Below U.heap.size U w') := fun U hb => named_any g a1 a2 a3 a4 c1 c2 c3 c4 k 0 0 _ U (HG.out.below hb) (by omega) (Nat.zero_le _) (Nat.zero_le _)
  have RN : Hid (∀ U, Calls Tryz.prog 72 #[.string (str (nthA g.actors k).name)] U fun e w' => e = .returned (.bool (nameB (nthA g.actors k).name)) ∧ U = w') := fun U => rname_any _ U
  have HC : Hid (actorC g k = if nameB (nthA g.actors k).name = false then 82 else if namedB g k 0 0 (nthA g.actors k).name = true then 83 else (ofS (nthA g.actors k).tag (nthA g.actors k).params).2.2) := by rfl
  rcases (h.below ba).A with e | ⟨b, off, rfl, hc⟩
  · rw [e] at hk; exact absurd hk (Nat.not_lt_zero _)
  obtain ⟨x0, x1, ht, xa, xc, x2, x3⟩ := hc k hk
  have y1 := (blkA_new 26 w #[.string (str g.name), .slice (some ⟨b, off, none⟩) g.actors.length c1, .slice a2 g.edges.length c2, .slice a3 g.ins.length c3, .slice a4 g.outs.length c4]).cell (k := 1) rfl
  have HAR := hiddenG x3
  have HTT := hiddenG ht
  clear hc x3 ht ba h
  have hcd : ∃ er, (ofS (nthA g.actors k).tag (nthA g.actors k).params).2.2 = er := ⟨_, rfl⟩
  obtain ⟨er, hE⟩ := hcd
  have HE := hiddenG hE
  rw [hE] at HC
  generalize namedB g k 0 0 (nthA g.actors k).name = q2 at *
  generalize nthA g.actors k = E at *
  obtain ⟨en, tg, ps⟩ := E
  simp only at x0 x1 x2 HE HAR HTT NM RN HC hE
  generalize nameB en = q1 at *
  clear hE
  generalize hW : w.alloc (.cells #[.string (str g.name), .slice (some ⟨b, off, none⟩) g.actors.length c1, .slice a2 g.edges.length c2, .slice a3 g.ins.length c3, .slice a4 g.outs.length c4] 26) = W0 at *
  have OF : Hid (∀ V, Below W0.heap.size W0 V → Calls Tryz.prog 148 #[.int .u8 (tg : Int), .slice xa ps.length xc] V (OfEnd V (ofS tg ps))) := fun V hb => rof_any tg xa ps ps.length xc V HTT.out rfl (HAR.out.below hb).lies
  have bv := (Below.refl W0.heap.size W0).alloc (Nat.le_refl _) (.cells #[.string (str en), .int .u8 (tg : Int), .slice xa ps.length xc] 62)
  have BX := hiddenG (blkA_new 62 W0 #[.string (str en), .int .u8 (tg : Int), .slice xa ps.length xc])
  have GB := hiddenG (B0.out.1.below bv)
  have BB := hiddenG (B0.out.2.trans (bv.mono B0.out.2.size))
  have BV := hiddenG bv
  have z0 := BX.out.cell (k := 0) rfl
  have z1 := BX.out.cell (k := 1) rfl
  have z2 := BX.out.cell (k := 2) rfl
  clear bv
  subst hW
  go_enter Tryz.func101, Tryz.ntmps101
  go_upto_region 1 with fail
  generalize w.alloc (.cells #[.string (str g.name), .slice (some ⟨b, off, none⟩) g.actors.length c1, .slice a2 g.edges.length c2, .slice a3 g.ins.length c3, .slice a4 g.outs.length c4] 26) = W0 at *
  go_upto_region 2 with fail
  generalize W0.alloc (.cells #[.string (str en), .int .u8 (tg : Int), .slice xa ps.length xc] 62) = V at *
  have g0 : V.cell? ⟨w.heap.size, 0, none⟩ = some (.string (str g.name)) := GB.out.cell rfl
  have g1 : V.cell? ⟨w.heap.size, 1, none⟩ = some (.slice (some ⟨b, off, none⟩) g.actors.length c1) := GB.out.cell rfl
  have g2 : V.cell? ⟨w.heap.size, 2, none⟩ = some (.slice a2 g.edges.length c2) := GB.out.cell rfl
  have g3 : V.cell? ⟨w.heap.size, 3, none⟩ = some (.slice a3 g.ins.length c3) := GB.out.cell rfl
  have g4 : V.cell? ⟨w.heap.size, 4, none⟩ = some (.slice a4 g.outs.length c4) := GB.out.cell rfl
  cases q1
  · go_wp2_with (go_at_call 72; (with_reducible refine (RN.out _).mono ?_); rintro e w' ⟨rfl, rfl⟩)
    go_ret
    exact ⟨by rw [HC.out]; rfl, BB.out⟩
  · cases q2
    · go_wp2_with (first
        | (go_at_call 148; (with_reducible refine (OF.out _ (BV.out.trans (B2.out.mono BV.out.size))).mono ?_); intro e w3 hh; obtain ⟨v3, rfl, b3, p1, q1, p2, q2, rfl⟩ := ofV_of hh rfl rfl HE.out; have B3 := hiddenG b3; clear hh b3)
        | (go_at_call 147; (with_reducible refine (NM.out _ BB.out).mono ?_); rintro e w2 ⟨rfl, b2⟩; have B2 := hiddenG b2; have z1 := cell_keep b2 z1; have z2 := cell_keep b2 z2; clear b2)
        | (go_at_call 72; (with_reducible refine (RN.out _).mono ?_); rintro e w' ⟨rfl, rfl⟩))
      go_ret
      have b2 := BB.out.trans (B2.out.mono BB.out.size)
      exact ⟨by rw [HC.out]; rfl, b2.trans (B3.out.mono b2.size)⟩
    · go_wp2_with (first
        | (go_at_call 147; (with_reducible refine (NM.out _ BB.out).mono ?_); rintro e w2 ⟨rfl, b2⟩; have B2 := hiddenG b2; clear b2)
        | (go_at_call 72; (with_reducible refine (RN.out _).mono ?_); rintro e w' ⟨rfl, rfl⟩))
      go_ret
      exact ⟨by rw [HC.out]; rfl, BB.out.trans (B2.out.mono BB.out.size)⟩
set_option maxRecDepth 100000 in
set_option maxHeartbeats 8000000 in
theorem which8_any (nm : List UInt8) (a : Option Addr) (n c : Nat) (L : List (Itm × Value)) (s : List UInt8) (w : World) (hn : L.length = n) (h : ItR w a L) (hl : n ≤ 2000000) :
    Calls Tryz.prog 99 #[.agg #[.string (str nm), .slice a n c], .string (str s)] w fun e w' => e = .returned (.int .i64 (whL (actN (L.map Prod.fst)) s)) ∧ Below w.heap.size w w' := by
  have HR := hiddenG h
  have HL := hiddenG hn
  have X0 := hiddenG (blkA_new 52 w #[.string (str nm), .slice a n c])
  have B0 := hiddenG ((Below.refl w.heap.size w).alloc (Nat.le_refl _) (.cells #[.string (str nm), .slice a n c] 52))
  have hnI : (n : Int) ≤ 2000000 := by omega
  have E0 : Hid (whL (actN (L.map Prod.fst)) s = whI (L.map Prod.fst) 0 s) := (whI_eq s _ 0).symm
  rw [E0.out]
  clear h hn E0
  go_enter Tryz.func99, Tryz.ntmps99
  go_upto_region 1 with fail
  generalize w.alloc (.cells #[.string (str nm), .slice a n c] 52) = W0 at *
  have y1 : W0.cell? ⟨w.heap.size, 1, none⟩ = some (.slice a n c) := X0.out.cell rfl
  go_wp2
  go_loopg [5, 6] n (fun gk u v wr => ∃ k m : Nat, k ≤ n ∧ m ≤ k ∧ gk = n - k ∧ v = .int .i64 (k : Int) ∧ u = .int .i64 (m : Int) ∧ whI ((L.map Prod.fst).drop k) m s = whI (L.map Prod.fst) 0 s ∧ W0 = wr)
  case atStart => exact ⟨0, 0, Nat.zero_le _, Nat.le_refl _, rfl, rfl, rfl, rfl, rfl⟩
  case round =>
    obtain ⟨k, m, hk, hm, rfl, rfl, rfl, hE, rfl⟩ := hrel
    have HE := hiddenG hE
    clear hE
    by_cases hlt : k < n
    · have hki : (k : Int) < (n : Int) := by omega
      have hkl : k < L.length := by have := HL.out; omega
      rcases (HR.out.below B0.out).lie with e | ⟨g, off, rfl, hc⟩
      · rw [e] at hkl; exact absurd hkl (Nat.not_lt_zero _)
      obtain ⟨c0, c1, -⟩ := hc k hkl
      have DI := hiddenG (drop_I hkl)
      generalize (nthI L k).1 = x at *
      obtain ⟨ki, xn, xt, nu, ⟨fn, fp, fa⟩, ⟨tn, tp, ta⟩, pl⟩ := x
      simp only at c0 c1
      clear hc hkl
      have ST : Hid (whI ((L.map Prod.fst).drop k) m s = if ki = 1 then (if xn = s then (m : Int) else whI ((L.map Prod.fst).drop (k + 1)) (m + 1) s) else whI ((L.map Prod.fst).drop (k + 1)) m s) := by show _ = _; rw [DI.out]; rfl
      rw [HE.out] at ST
      clear HE DI
      by_cases h1 : ki = 1
      · subst h1
        have hst := str_eq xn s
        rw [if_pos rfl] at ST
        obtain ⟨q1, hq1⟩ : ∃ q, (xn == s) = q := ⟨_, rfl⟩
        rw [hq1] at hst
        cases q1
        · have hne : ¬ xn = s := by simpa using hq1
          rw [if_neg hne] at ST
          clear hq1 hne
          go_wp2
          go_roundg (n - (k + 1))
          case measure => omega
          case rel => exact ⟨k + 1, m + 1, by omega, by omega, rfl, by go_num, by go_num, ST.out.symm, rfl⟩
        · have hne : xn = s := by simpa using hq1
          rw [if_pos hne] at ST
          clear hq1 hne
          go_wp2
          go_ret
          rw [ST.out]
          exact ⟨rfl, B0.out⟩
      · have h1b : (ki == 1) = false := by simpa using h1
        rw [if_neg h1] at ST
        clear h1
        go_wp2
        go_roundg (n - (k + 1))
        case measure => omega
        case rel => exact ⟨k + 1, m, by omega, by omega, rfl, by go_num, rfl, ST.out.symm, rfl⟩
    · have hki : ¬ (k : Int) < (n : Int) := by omega
      have EE : Hid (whI (L.map Prod.fst) 0 s = -1) := by
        show _ = _
        rw [← HE.out, List.drop_of_length_le (by rw [List.length_map, HL.out]; omega)]
        rfl
      go_wp2
      go_ret
      rw [EE.out]
      exact ⟨rfl, B0.out⟩
theorem own_types {w : World} {B T c n B' T' c' n' : Nat} {v v' : Value} {xs xs' : List Value} (h : w.ownsRow B T c v n xs) (h' : w.ownsRow B' T' c' v' n' xs') (hT : T ≠ T') : NB v v' := by
  intro k e e'
  rcases h.2 with ⟨h1, -⟩ | ⟨g, cap, cur, hv, -, hh, -⟩
  · rw [h1] at e; cases e
  · rcases h'.2 with ⟨h1, -⟩ | ⟨g', cap', cur', hv', -, hh', -⟩
    · rw [h1] at e'; cases e'
    · rw [hv] at e
      rw [hv'] at e'
      cases e
      cases e'
      rw [hh] at hh'
      cases hh'
      exact hT rfl
def ParO (B : Nat) (w : World) (p : GA × Value) : Prop := p.1.tag ≤ 255 ∧ NumsOk p.1.params ∧ Ints B w p.2 p.1.params
def ParQ (B : Nat) (w : World) (p : GE × Value) : Prop := NumsOk p.1.start ∧ Ints B w p.2 p.1.start
structure OfS (w : World) (B : Nat) (sk : Array Value) (nm : List UInt8) (v1 v2 v3 v4 : Value) (As : List (GA × Value)) (Es : List (GE × Value)) (Ps Os : List GP) (wr : World) : Prop where
  sb : BlkA 52 w.heap.size wr sk
  rb : BlkA 26 (w.heap.size + 1) wr #[.string ⟨#[]⟩, .slice none 0 0, .slice none 0 0, .slice none 0 0, .slice none 0 0]
  gb : BlkA 26 (w.heap.size + 2) wr #[.string (str nm), v1, v2, v3, v4]
  r1 : wr.ownsRow B 62 3 v1 As.length (As.flatMap aP)
  r2 : wr.ownsRow B 65 5 v2 Es.length (Es.flatMap eP)
  r3 : wr.ownsRow B 81 3 v3 Ps.length (Ps.flatMap pP)
  r4 : wr.ownsRow B 81 3 v4 Os.length (Os.flatMap pP)
  n34 : NB v3 v4
  pa : ∀ p ∈ As, ParO B wr p
  pe : ∀ p ∈ Es, ParQ B wr p
  bel : Below w.heap.size w wr
  hB : w.heap.size + 2 < B
  big : B ≤ wr.heap.size
theorem OfS.below {w B sk nm v1 v2 v3 v4 As Es Ps Os} {wr w2 : World} (h : OfS w B sk nm v1 v2 v3 v4 As Es Ps Os wr) (hb : Below wr.heap.size wr w2) : OfS w B sk nm v1 v2 v3 v4 As Es Ps Os w2 :=
  ⟨h.sb.below hb, h.rb.below hb, h.gb.below hb, owns_below h.r1 hb, owns_below h.r2 hb, owns_below h.r3 hb, owns_below h.r4 hb, h.n34, fun p hp => ⟨(h.pa p hp).1, (h.pa p hp).2.1, owns_below (h.pa p hp).2.2 hb⟩, fun p hp => ⟨(h.pe p hp).1, owns_below (h.pe p hp).2 hb⟩, h.bel.trans (hb.mono h.bel.size), h.hB, Nat.le_trans h.big hb.size⟩
theorem OfS.put1 {w B sk nm v1 v2 v3 v4 As Es Ps Os} {V : World} (h : OfS w B sk nm v1 v2 v3 v4 As Es Ps Os V) {w2 w4 : World} {p : (GA × Value)} {v' : Value} (hb : Below V.heap.size V w2) (hp : ParO B w2 p) 
    (ho : w4.ownsRow B 62 3 v' (As.length + 1) (As.flatMap aP ++ aP p))
    (ht : (∃ g cap, v1 = .slice (some ⟨g, 0, none⟩) As.length cap ∧ v' = .slice (some ⟨g, 0, none⟩) (As.length + 1) cap ∧ w2.grownBy w4 (some g)) ∨ (∃ cap, v' = .slice (some ⟨w2.heap.size, 0, none⟩) (As.length + 1) cap ∧ w2.grownBy w4 none)) :
    OfS w B sk nm v' v2 v3 v4 (As ++ [p]) Es Ps Os (w4.setCell ⟨w.heap.size + 2, 1, none⟩ v') ∧ BlkA 26 (w.heap.size + 2) w4 #[.string (str nm), v1, v2, v3, v4] := by
  have hbig := h.big
  have hB := h.hB
  have hsz := hb.size
  have tk := told_keep ht
  have kp : ∀ d, d < V.heap.size → v1.ownBlock ≠ some d → w4.heap[d]? = V.heap[d]? := fun d hd hn => (tk.2 d (by omega) hn).trans (hb.block d hd)
  have lowr : ∀ d, d < B → v1.ownBlock ≠ some d := fun d hd e => by have := own_row h.r1 d e; omega
  have b3 := h.gb.keep (kp (w.heap.size + 2) (by omega) (lowr _ (by omega)))
  have set : ∀ k, k ≠ w.heap.size + 2 → (w4.setCell ⟨w.heap.size + 2, 1, none⟩ v').heap[k]? = w4.heap[k]? := fun k hk => Below.heap_setCell w4 ⟨w.heap.size + 2, 1, none⟩ v' k hk
  have rI : (w4.setCell ⟨w.heap.size + 2, 1, none⟩ v').ownsRow B 62 3 v' (As ++ [p]).length ((As ++ [p]).flatMap aP) := by
    rw [flat_one, List.length_append]
    exact ownR_keep ho fun k e => set k (by have := own_row ho k e; omega)
  obtain ⟨row, hg, hrow⟩ := told_grown ht
  refine ⟨⟨h.sb.keep ((set _ (by omega)).trans (kp _ (by omega) (lowr _ (by omega)))), h.rb.keep ((set _ (by omega)).trans (kp _ (by omega) (lowr _ (by omega)))), b3.set 1 v', rI, (ownR_keep h.r2 fun k e => (set k (by have := own_row h.r2 k e; omega)).trans (kp k (own_lt h.r2 k e) (fun q => (own_types h.r1 h.r2 (by decide)) k q e))), (ownR_keep h.r3 fun k e => (set k (by have := own_row h.r3 k e; omega)).trans (kp k (own_lt h.r3 k e) (fun q => (own_types h.r1 h.r3 (by decide)) k q e))), (ownR_keep h.r4 fun k e => (set k (by have := own_row h.r4 k e; omega)).trans (kp k (own_lt h.r4 k e) (fun q => (own_types h.r1 h.r4 (by decide)) k q e))), h.n34, fun q hq => (List.mem_append.1 hq).elim (fun hq => ⟨(h.pa q hq).1, (h.pa q hq).2.1, (ownR_keep (h.pa q hq).2.2 fun k e => (set k (by have := own_row (h.pa q hq).2.2 k e; omega)).trans (kp k (own_lt (h.pa q hq).2.2 k e) (fun z => own_types h.r1 (h.pa q hq).2.2 (by decide) k z e)))⟩) (fun e => by rw [List.mem_singleton.1 e]; exact ⟨hp.1, hp.2.1, (ownR_keep hp.2.2 fun k e => (set k (by have := own_row hp.2.2 k e; omega)).trans (tk.2 k (own_lt hp.2.2 k e) (fun z => own_types (owns_below h.r1 hb) hp.2.2 (by decide) k z e)))⟩), fun q hq => ⟨(h.pe q hq).1, (ownR_keep (h.pe q hq).2 fun k e => (set k (by have := own_row (h.pe q hq).2 k e; omega)).trans (kp k (own_lt (h.pe q hq).2 k e) (fun z => own_types h.r1 (h.pe q hq).2 (by decide) k z e)))⟩, ?_, h.hB, ?_⟩, b3⟩
  · have h1 : Below w.heap.size w w2 := h.bel.trans (hb.mono h.bel.size)
    exact (below_grownO h1 hg (fun k hk => by have := own_row h.r1 k (hrow k hk); omega) h1.size).setCell (p := ⟨w.heap.size + 2, 1, none⟩) (by show w.heap.size ≤ w.heap.size + 2; omega) _
  · have := tk.1
    rw [World.size_setCell]
    omega
theorem OfS.put2 {w B sk nm v1 v2 v3 v4 As Es Ps Os} {V : World} (h : OfS w B sk nm v1 v2 v3 v4 As Es Ps Os V) {w2 w4 : World} {p : (GE × Value)} {v' : Value} (hb : Below V.heap.size V w2) (hp : ParQ B w2 p) 
    (ho : w4.ownsRow B 65 5 v' (Es.length + 1) (Es.flatMap eP ++ eP p))
    (ht : (∃ g cap, v2 = .slice (some ⟨g, 0, none⟩) Es.length cap ∧ v' = .slice (some ⟨g, 0, none⟩) (Es.length + 1) cap ∧ w2.grownBy w4 (some g)) ∨ (∃ cap, v' = .slice (some ⟨w2.heap.size, 0, none⟩) (Es.length + 1) cap ∧ w2.grownBy w4 none)) :
    OfS w B sk nm v1 v' v3 v4 As (Es ++ [p]) Ps Os (w4.setCell ⟨w.heap.size + 2, 2, none⟩ v') ∧ BlkA 26 (w.heap.size + 2) w4 #[.string (str nm), v1, v2, v3, v4] := by
  have hbig := h.big
  have hB := h.hB
  have hsz := hb.size
  have tk := told_keep ht
  have kp : ∀ d, d < V.heap.size → v2.ownBlock ≠ some d → w4.heap[d]? = V.heap[d]? := fun d hd hn => (tk.2 d (by omega) hn).trans (hb.block d hd)
  have lowr : ∀ d, d < B → v2.ownBlock ≠ some d := fun d hd e => by have := own_row h.r2 d e; omega
  have b3 := h.gb.keep (kp (w.heap.size + 2) (by omega) (lowr _ (by omega)))
  have set : ∀ k, k ≠ w.heap.size + 2 → (w4.setCell ⟨w.heap.size + 2, 2, none⟩ v').heap[k]? = w4.heap[k]? := fun k hk => Below.heap_setCell w4 ⟨w.heap.size + 2, 2, none⟩ v' k hk
  have rI : (w4.setCell ⟨w.heap.size + 2, 2, none⟩ v').ownsRow B 65 5 v' (Es ++ [p]).length ((Es ++ [p]).flatMap eP) := by
    rw [flat_one, List.length_append]
    exact ownR_keep ho fun k e => set k (by have := own_row ho k e; omega)
  obtain ⟨row, hg, hrow⟩ := told_grown ht
  refine ⟨⟨h.sb.keep ((set _ (by omega)).trans (kp _ (by omega) (lowr _ (by omega)))), h.rb.keep ((set _ (by omega)).trans (kp _ (by omega) (lowr _ (by omega)))), b3.set 2 v', (ownR_keep h.r1 fun k e => (set k (by have := own_row h.r1 k e; omega)).trans (kp k (own_lt h.r1 k e) (fun q => (own_types h.r2 h.r1 (by decide)) k q e))), rI, (ownR_keep h.r3 fun k e => (set k (by have := own_row h.r3 k e; omega)).trans (kp k (own_lt h.r3 k e) (fun q => (own_types h.r2 h.r3 (by decide)) k q e))), (ownR_keep h.r4 fun k e => (set k (by have := own_row h.r4 k e; omega)).trans (kp k (own_lt h.r4 k e) (fun q => (own_types h.r2 h.r4 (by decide)) k q e))), h.n34, fun q hq => ⟨(h.pa q hq).1, (h.pa q hq).2.1, (ownR_keep (h.pa q hq).2.2 fun k e => (set k (by have := own_row (h.pa q hq).2.2 k e; omega)).trans (kp k (own_lt (h.pa q hq).2.2 k e) (fun z => own_types h.r2 (h.pa q hq).2.2 (by decide) k z e)))⟩, fun q hq => (List.mem_append.1 hq).elim (fun hq => ⟨(h.pe q hq).1, (ownR_keep (h.pe q hq).2 fun k e => (set k (by have := own_row (h.pe q hq).2 k e; omega)).trans (kp k (own_lt (h.pe q hq).2 k e) (fun z => own_types h.r2 (h.pe q hq).2 (by decide) k z e)))⟩) (fun e => by rw [List.mem_singleton.1 e]; exact ⟨hp.1, (ownR_keep hp.2 fun k e => (set k (by have := own_row hp.2 k e; omega)).trans (tk.2 k (own_lt hp.2 k e) (fun z => own_types (owns_below h.r2 hb) hp.2 (by decide) k z e)))⟩), ?_, h.hB, ?_⟩, b3⟩
  · have h1 : Below w.heap.size w w2 := h.bel.trans (hb.mono h.bel.size)
    exact (below_grownO h1 hg (fun k hk => by have := own_row h.r2 k (hrow k hk); omega) h1.size).setCell (p := ⟨w.heap.size + 2, 2, none⟩) (by show w.heap.size ≤ w.heap.size + 2; omega) _
  · have := tk.1
    rw [World.size_setCell]
    omega
theorem OfS.put3 {w B sk nm v1 v2 v3 v4 As Es Ps Os} {V : World} (h : OfS w B sk nm v1 v2 v3 v4 As Es Ps Os V) {w2 w4 : World} {p : GP} {v' : Value} (hb : Below V.heap.size V w2) 
    (ho : w4.ownsRow B 81 3 v' (Ps.length + 1) (Ps.flatMap pP ++ pP p))
    (ht : (∃ g cap, v3 = .slice (some ⟨g, 0, none⟩) Ps.length cap ∧ v' = .slice (some ⟨g, 0, none⟩) (Ps.length + 1) cap ∧ w2.grownBy w4 (some g)) ∨ (∃ cap, v' = .slice (some ⟨w2.heap.size, 0, none⟩) (Ps.length + 1) cap ∧ w2.grownBy w4 none)) :
    OfS w B sk nm v1 v2 v' v4 As Es (Ps ++ [p]) Os (w4.setCell ⟨w.heap.size + 2, 3, none⟩ v') ∧ BlkA 26 (w.heap.size + 2) w4 #[.string (str nm), v1, v2, v3, v4] := by
  have hbig := h.big
  have hB := h.hB
  have hsz := hb.size
  have tk := told_keep ht
  have kp : ∀ d, d < V.heap.size → v3.ownBlock ≠ some d → w4.heap[d]? = V.heap[d]? := fun d hd hn => (tk.2 d (by omega) hn).trans (hb.block d hd)
  have lowr : ∀ d, d < B → v3.ownBlock ≠ some d := fun d hd e => by have := own_row h.r3 d e; omega
  have b3 := h.gb.keep (kp (w.heap.size + 2) (by omega) (lowr _ (by omega)))
  have set : ∀ k, k ≠ w.heap.size + 2 → (w4.setCell ⟨w.heap.size + 2, 3, none⟩ v').heap[k]? = w4.heap[k]? := fun k hk => Below.heap_setCell w4 ⟨w.heap.size + 2, 3, none⟩ v' k hk
  have rI : (w4.setCell ⟨w.heap.size + 2, 3, none⟩ v').ownsRow B 81 3 v' (Ps ++ [p]).length ((Ps ++ [p]).flatMap pP) := by
    rw [flat_one, List.length_append]
    exact ownR_keep ho fun k e => set k (by have := own_row ho k e; omega)
  obtain ⟨row, hg, hrow⟩ := told_grown ht
  refine ⟨⟨h.sb.keep ((set _ (by omega)).trans (kp _ (by omega) (lowr _ (by omega)))), h.rb.keep ((set _ (by omega)).trans (kp _ (by omega) (lowr _ (by omega)))), b3.set 3 v', (ownR_keep h.r1 fun k e => (set k (by have := own_row h.r1 k e; omega)).trans (kp k (own_lt h.r1 k e) (fun q => (own_types h.r3 h.r1 (by decide)) k q e))), (ownR_keep h.r2 fun k e => (set k (by have := own_row h.r2 k e; omega)).trans (kp k (own_lt h.r2 k e) (fun q => (own_types h.r3 h.r2 (by decide)) k q e))), rI, (ownR_keep h.r4 fun k e => (set k (by have := own_row h.r4 k e; omega)).trans (kp k (own_lt h.r4 k e) (fun q => h.n34 k q e))), (NB.told h.n34 (fun k e => Nat.lt_of_lt_of_le (own_lt h.r4 k e) hsz) ht), fun q hq => ⟨(h.pa q hq).1, (h.pa q hq).2.1, (ownR_keep (h.pa q hq).2.2 fun k e => (set k (by have := own_row (h.pa q hq).2.2 k e; omega)).trans (kp k (own_lt (h.pa q hq).2.2 k e) (fun z => own_types h.r3 (h.pa q hq).2.2 (by decide) k z e)))⟩, fun q hq => ⟨(h.pe q hq).1, (ownR_keep (h.pe q hq).2 fun k e => (set k (by have := own_row (h.pe q hq).2 k e; omega)).trans (kp k (own_lt (h.pe q hq).2 k e) (fun z => own_types h.r3 (h.pe q hq).2 (by decide) k z e)))⟩, ?_, h.hB, ?_⟩, b3⟩
  · have h1 : Below w.heap.size w w2 := h.bel.trans (hb.mono h.bel.size)
    exact (below_grownO h1 hg (fun k hk => by have := own_row h.r3 k (hrow k hk); omega) h1.size).setCell (p := ⟨w.heap.size + 2, 3, none⟩) (by show w.heap.size ≤ w.heap.size + 2; omega) _
  · have := tk.1
    rw [World.size_setCell]
    omega
theorem OfS.put4 {w B sk nm v1 v2 v3 v4 As Es Ps Os} {V : World} (h : OfS w B sk nm v1 v2 v3 v4 As Es Ps Os V) {w2 w4 : World} {p : GP} {v' : Value} (hb : Below V.heap.size V w2) 
    (ho : w4.ownsRow B 81 3 v' (Os.length + 1) (Os.flatMap pP ++ pP p))
    (ht : (∃ g cap, v4 = .slice (some ⟨g, 0, none⟩) Os.length cap ∧ v' = .slice (some ⟨g, 0, none⟩) (Os.length + 1) cap ∧ w2.grownBy w4 (some g)) ∨ (∃ cap, v' = .slice (some ⟨w2.heap.size, 0, none⟩) (Os.length + 1) cap ∧ w2.grownBy w4 none)) :
    OfS w B sk nm v1 v2 v3 v' As Es Ps (Os ++ [p]) (w4.setCell ⟨w.heap.size + 2, 4, none⟩ v') ∧ BlkA 26 (w.heap.size + 2) w4 #[.string (str nm), v1, v2, v3, v4] := by
  have hbig := h.big
  have hB := h.hB
  have hsz := hb.size
  have tk := told_keep ht
  have kp : ∀ d, d < V.heap.size → v4.ownBlock ≠ some d → w4.heap[d]? = V.heap[d]? := fun d hd hn => (tk.2 d (by omega) hn).trans (hb.block d hd)
  have lowr : ∀ d, d < B → v4.ownBlock ≠ some d := fun d hd e => by have := own_row h.r4 d e; omega
  have b3 := h.gb.keep (kp (w.heap.size + 2) (by omega) (lowr _ (by omega)))
  have set : ∀ k, k ≠ w.heap.size + 2 → (w4.setCell ⟨w.heap.size + 2, 4, none⟩ v').heap[k]? = w4.heap[k]? := fun k hk => Below.heap_setCell w4 ⟨w.heap.size + 2, 4, none⟩ v' k hk
  have rI : (w4.setCell ⟨w.heap.size + 2, 4, none⟩ v').ownsRow B 81 3 v' (Os ++ [p]).length ((Os ++ [p]).flatMap pP) := by
    rw [flat_one, List.length_append]
    exact ownR_keep ho fun k e => set k (by have := own_row ho k e; omega)
  obtain ⟨row, hg, hrow⟩ := told_grown ht
  refine ⟨⟨h.sb.keep ((set _ (by omega)).trans (kp _ (by omega) (lowr _ (by omega)))), h.rb.keep ((set _ (by omega)).trans (kp _ (by omega) (lowr _ (by omega)))), b3.set 4 v', (ownR_keep h.r1 fun k e => (set k (by have := own_row h.r1 k e; omega)).trans (kp k (own_lt h.r1 k e) (fun q => (own_types h.r4 h.r1 (by decide)) k q e))), (ownR_keep h.r2 fun k e => (set k (by have := own_row h.r2 k e; omega)).trans (kp k (own_lt h.r2 k e) (fun q => (own_types h.r4 h.r2 (by decide)) k q e))), (ownR_keep h.r3 fun k e => (set k (by have := own_row h.r3 k e; omega)).trans (kp k (own_lt h.r3 k e) (fun q => h.n34.symm k q e))), rI, (NB.told h.n34.symm (fun k e => Nat.lt_of_lt_of_le (own_lt h.r3 k e) hsz) ht).symm, fun q hq => ⟨(h.pa q hq).1, (h.pa q hq).2.1, (ownR_keep (h.pa q hq).2.2 fun k e => (set k (by have := own_row (h.pa q hq).2.2 k e; omega)).trans (kp k (own_lt (h.pa q hq).2.2 k e) (fun z => own_types h.r4 (h.pa q hq).2.2 (by decide) k z e)))⟩, fun q hq => ⟨(h.pe q hq).1, (ownR_keep (h.pe q hq).2 fun k e => (set k (by have := own_row (h.pe q hq).2 k e; omega)).trans (kp k (own_lt (h.pe q hq).2 k e) (fun z => own_types h.r4 (h.pe q hq).2 (by decide) k z e)))⟩, ?_, h.hB, ?_⟩, b3⟩
  · have h1 : Below w.heap.size w w2 := h.bel.trans (hb.mono h.bel.size)
    exact (below_grownO h1 hg (fun k hk => by have := own_row h.r4 k (hrow k hk); omega) h1.size).setCell (p := ⟨w.heap.size + 2, 4, none⟩) (by show w.heap.size ≤ w.heap.size + 2; omega) _
  · have := tk.1
    rw [World.size_setCell]
    omega
/-- The lists of the graph, as far as the sketch is gone through. -/
structure OfL (ns : List (List UInt8)) (L : List Itm) (As : List (GA × Value)) (Es : List (GE × Value)) (Ps Os : List GP) : Prop where
  a : As.map Prod.fst = (kindF 1 L).map luA
  e : Es.map Prod.fst = ((kindF 2 L).map (wE ns)).take 97
  i : Ps = ((kindF 3 L).map (wI ns)).take 17
  o : Os = ((kindF 4 L).map (wO ns)).take 17
theorem ofl_nil (ns : List (List UInt8)) : OfL ns [] [] [] [] [] := ⟨rfl, rfl, rfl, rfl⟩
theorem take_snoc_lt {α : Type} {l : List α} {x : α} {m : Nat} (h : l.length < m) : (l ++ [x]).take m = l.take m ++ [x] := by
  rw [List.take_of_length_le (by rw [List.length_append]; simp; omega), List.take_of_length_le (Nat.le_of_lt h)]
theorem take_snoc_ge {α : Type} {l : List α} {x : α} {m : Nat} (h : m ≤ l.length) : (l ++ [x]).take m = l.take m := List.take_append_of_le_length h
theorem OfL.len {ns L As Es Ps Os} (h : OfL ns L As Es Ps Os) : As.length ≤ L.length ∧ Es.length ≤ 97 ∧ Ps.length ≤ 17 ∧ Os.length ≤ 17 := by
  have h1 := congrArg List.length h.a
  have h2 := congrArg List.length h.e
  have h3 := congrArg List.length h.i
  have h4 := congrArg List.length h.o
  simp only [List.length_map, List.length_take] at h1 h2 h3 h4
  have := kindF_len 1 L
  omega
theorem OfL.addA {ns L As Es Ps Os} (h : OfL ns L As Es Ps Os) {x : Itm} (hk : x.kind = 1) (q : Value) : OfL ns (L ++ [x]) (As ++ [(luA x, q)]) Es Ps Os := by
  refine ⟨?_, ?_, ?_, ?_⟩
  · rw [kindF_app, if_pos hk, List.map_append, List.map_append, h.a]; rfl
  · rw [kindF_app, if_neg (by rw [hk]; decide)]; exact h.e
  · rw [kindF_app, if_neg (by rw [hk]; decide)]; exact h.i
  · rw [kindF_app, if_neg (by rw [hk]; decide)]; exact h.o
theorem OfL.addE {ns L As Es Ps Os} (h : OfL ns L As Es Ps Os) {x : Itm} (hk : x.kind = 2) (hm : Es.length < 97) (q : Value) : OfL ns (L ++ [x]) As (Es ++ [(wE ns x, q)]) Ps Os := by
  refine ⟨?_, ?_, ?_, ?_⟩
  · rw [kindF_app, if_neg (by rw [hk]; decide)]; exact h.a
  · have hl := congrArg List.length h.e
    simp only [List.length_map, List.length_take] at hl
    rw [kindF_app, if_pos hk, List.map_append, List.map_append]
    show _ = ((kindF 2 L).map (wE ns) ++ [wE ns x]).take 97
    rw [take_snoc_lt (by rw [List.length_map]; omega), ← h.e]; rfl
  · rw [kindF_app, if_neg (by rw [hk]; decide)]; exact h.i
  · rw [kindF_app, if_neg (by rw [hk]; decide)]; exact h.o
theorem OfL.skipE {ns L As Es Ps Os} (h : OfL ns L As Es Ps Os) {x : Itm} (hk : x.kind = 2) (hm : ¬ Es.length < 97) : OfL ns (L ++ [x]) As Es Ps Os := by
  refine ⟨?_, ?_, ?_, ?_⟩
  · rw [kindF_app, if_neg (by rw [hk]; decide)]; exact h.a
  · have hl := congrArg List.length h.e
    simp only [List.length_map, List.length_take] at hl
    rw [kindF_app, if_pos hk, List.map_append]
    show _ = ((kindF 2 L).map (wE ns) ++ [wE ns x]).take 97
    rw [take_snoc_ge (by rw [List.length_map]; omega)]; exact h.e
  · rw [kindF_app, if_neg (by rw [hk]; decide)]; exact h.i
  · rw [kindF_app, if_neg (by rw [hk]; decide)]; exact h.o
theorem OfL.addI {ns L As Es Ps Os} (h : OfL ns L As Es Ps Os) {x : Itm} (hk : x.kind = 3) (hm : Ps.length < 17) : OfL ns (L ++ [x]) As Es (Ps ++ [wI ns x]) Os := by
  refine ⟨?_, ?_, ?_, ?_⟩
  · rw [kindF_app, if_neg (by rw [hk]; decide)]; exact h.a
  · rw [kindF_app, if_neg (by rw [hk]; decide)]; exact h.e
  · have hl := congrArg List.length h.i
    simp only [List.length_map, List.length_take] at hl
    rw [kindF_app, if_pos hk, List.map_append]
    show _ = ((kindF 3 L).map (wI ns) ++ [wI ns x]).take 17
    rw [take_snoc_lt (by rw [List.length_map]; omega), ← h.i]
  · rw [kindF_app, if_neg (by rw [hk]; decide)]; exact h.o
theorem OfL.skipI {ns L As Es Ps Os} (h : OfL ns L As Es Ps Os) {x : Itm} (hk : x.kind = 3) (hm : ¬ Ps.length < 17) : OfL ns (L ++ [x]) As Es Ps Os := by
  refine ⟨?_, ?_, ?_, ?_⟩
  · rw [kindF_app, if_neg (by rw [hk]; decide)]; exact h.a
  · rw [kindF_app, if_neg (by rw [hk]; decide)]; exact h.e
  · have hl := congrArg List.length h.i
    simp only [List.length_map, List.length_take] at hl
    rw [kindF_app, if_pos hk, List.map_append]
    show _ = ((kindF 3 L).map (wI ns) ++ [wI ns x]).take 17
    rw [take_snoc_ge (by rw [List.length_map]; omega)]; exact h.i
  · rw [kindF_app, if_neg (by rw [hk]; decide)]; exact h.o
theorem OfL.addO {ns L As Es Ps Os} (h : OfL ns L As Es Ps Os) {x : Itm} (hk : x.kind = 4) (hm : Os.length < 17) : OfL ns (L ++ [x]) As Es Ps (Os ++ [wO ns x]) := by
  refine ⟨?_, ?_, ?_, ?_⟩
  · rw [kindF_app, if_neg (by rw [hk]; decide)]; exact h.a
  · rw [kindF_app, if_neg (by rw [hk]; decide)]; exact h.e
  · rw [kindF_app, if_neg (by rw [hk]; decide)]; exact h.i
  · have hl := congrArg List.length h.o
    simp only [List.length_map, List.length_take] at hl
    rw [kindF_app, if_pos hk, List.map_append]
    show _ = ((kindF 4 L).map (wO ns) ++ [wO ns x]).take 17
    rw [take_snoc_lt (by rw [List.length_map]; omega), ← h.o]
theorem OfL.skipO {ns L As Es Ps Os} (h : OfL ns L As Es Ps Os) {x : Itm} (hk : x.kind = 4) (hm : ¬ Os.length < 17) : OfL ns (L ++ [x]) As Es Ps Os := by
  refine ⟨?_, ?_, ?_, ?_⟩
  · rw [kindF_app, if_neg (by rw [hk]; decide)]; exact h.a
  · rw [kindF_app, if_neg (by rw [hk]; decide)]; exact h.e
  · rw [kindF_app, if_neg (by rw [hk]; decide)]; exact h.i
  · have hl := congrArg List.length h.o
    simp only [List.length_map, List.length_take] at hl
    rw [kindF_app, if_pos hk, List.map_append]
    show _ = ((kindF 4 L).map (wO ns) ++ [wO ns x]).take 17
    rw [take_snoc_ge (by rw [List.length_map]; omega)]; exact h.o
set_option maxRecDepth 100000 in
set_option maxHeartbeats 8000000 in
theorem edge8_any (g : GG) (a1 a2 a3 a4 : Option Addr) (c1 c2 c3 c4 : Nat) (k : Nat) (w : World) (h : GrG w a1 a2 a3 a4 g) (hk : k < g.edges.length) :
    Calls Tryz.prog 102 #[.agg #[.string (str g.name), .slice a1 g.actors.length c1, .slice a2 g.edges.length c2, .slice a3 g.ins.length c3, .slice a4 g.outs.length c4], .int .i64 (k : Int)] w fun e w' => e = .returned (.tuple #[.int .i64 (edgeC g k).1, .int .i64 ((edgeC g k).2 : Int)]) ∧ Below w.heap.size w w' := by
  have hki : (k : Int) < (g.edges.length : Int) := by omega
  have l2 := h.l2
  have n2 : (g.edges.length : Int) ≤ 1000000000000000 := by omega
  have ba := (Below.refl w.heap.size w).alloc (Nat.le_refl _) (.cells #[.string (str g.name), .slice a1 g.actors.length c1, .slice a2 g.edges.length c2, .slice a3 g.ins.length c3, .slice a4 g.outs.length c4] 26)
  have HG := hiddenG h
  have EN : Hid (∀ U (ac po : Int) (ot tk : Bool), Below w.heap.size w U → Calls Tryz.prog 149 #[.agg #[.string (str g.name), .slice a1 g.actors.length c1, .slice a2 g.edges.length c2, .slice a3 g.ins.length c3, .slice a4 g.outs.length c4], .int .i64 ac, .int .i64 po, .bool ot, .bool tk] U fun e w' => e = .returned (.int .i64 (endC g ac po (if ot = true then outsN g ac.toNat else insN g ac.toNat) tk)) ∧ Below U.heap.size U w') := fun U ac po ot tk hb => end8_any g a1 a2 a3 a4 c1 c2 c3 c4 ac po ot tk U (HG.out.below hb)
  have OT : Hid (∀ U (ac po : Int), Below w.heap.size w U → Calls Tryz.prog 150 #[.agg #[.string (str g.name), .slice a1 g.actors.length c1, .slice a2 g.edges.length c2, .slice a3 g.ins.length c3, .slice a4 g.outs.length c4], .int .i64 (k : Int), .int .i64 0, .int .i64 ac, .int .i64 po] U fun e w' => e = .returned (.bool (outTk g k 0 ac po)) ∧ Below U.heap.size U w') := fun U ac po hb => outTaken_any g a1 a2 a3 a4 c1 c2 c3 c4 k 0 ac po U (HG.out.below hb) (by omega) (Nat.zero_le _)
  have IT : Hid (∀ U (ac po : Int), Below w.heap.size w U → Calls Tryz.prog 151 #[.agg #[.string (str g.name), .slice a1 g.actors.length c1, .slice a2 g.edges.length c2, .slice a3 g.ins.length c3, .slice a4 g.outs.length c4], .int .i64 (k : Int), .int .i64 0, .int .i64 ac, .int .i64 po] U fun e w' => e = .returned (.bool (inTk g k 0 ac po)) ∧ Below U.heap.size U w') := fun U ac po hb => inTaken_any g a1 a2 a3 a4 c1 c2 c3 c4 k 0 ac po U (HG.out.below hb) (by omega) (Nat.zero_le _)
  have HC : Hid (edgeC g k = if outEnd g k 0 (nthE g.edges k).f (nthE g.edges k).fp ≠ 0 then (outEnd g k 0 (nthE g.edges k).f (nthE g.edges k).fp, 1) else if inEnd g k 0 (nthE g.edges k).t (nthE g.edges k).tp ≠ 0 then (inEnd g k 0 (nthE g.edges k).t (nthE g.edges k).tp, 2) else if 256 < (nthE g.edges k).start.length then (88, 0) else (0, 0)) := by rfl
  have B0 := hiddenG (gbox_new w #[.string (str g.name), .slice a1 g.actors.length c1, .slice a2 g.edges.length c2, .slice a3 g.ins.length c3, .slice a4 g.outs.length c4])
  have y2 := B0.out.1.cell (k := 2) rfl
  obtain ⟨b, off, ha2, hc⟩ : ∃ b off, a2 = some ⟨b, off, none⟩ ∧ ∀ j, j < g.edges.length → _ := by
    rcases (h.below ba).E with e | q
    · rw [e] at hk; exact absurd hk (Nat.not_lt_zero _)
    · exact q
  obtain ⟨x0, x1, x2, x3, xa, xc, x4, x5⟩ := hc k hk
  rw [ha2] at y2
  have hsl := x5.reach
  clear hc x5 ba h
  generalize nthE g.edges k = E at *
  obtain ⟨ef, efp, et, etp, es⟩ := E
  simp only at x0 x1 x2 x3 x4 HC hsl
  have hes : (es.length : Int) ≤ 140737488351232 := by omega
  have OT1 : Hid (∀ U, Below w.heap.size w U → Calls Tryz.prog 150 #[.agg #[.string (str g.name), .slice a1 g.actors.length c1, .slice a2 g.edges.length c2, .slice a3 g.ins.length c3, .slice a4 g.outs.length c4], .int .i64 (k : Int), .int .i64 0, .int .i64 ef, .int .i64 efp] U fun e w' => e = .returned (.bool (outTk g k 0 ef efp)) ∧ Below U.heap.size U w') := fun U hb => OT.out U ef efp hb
  have IT1 : Hid (∀ U, Below w.heap.size w U → Calls Tryz.prog 151 #[.agg #[.string (str g.name), .slice a1 g.actors.length c1, .slice a2 g.edges.length c2, .slice a3 g.ins.length c3, .slice a4 g.outs.length c4], .int .i64 (k : Int), .int .i64 0, .int .i64 et, .int .i64 etp] U fun e w' => e = .returned (.bool (inTk g k 0 et etp)) ∧ Below U.heap.size U w') := fun U hb => IT.out U et etp hb
  have EO : Hid (∀ U, Below w.heap.size w U → Calls Tryz.prog 149 #[.agg #[.string (str g.name), .slice a1 g.actors.length c1, .slice a2 g.edges.length c2, .slice a3 g.ins.length c3, .slice a4 g.outs.length c4], .int .i64 ef, .int .i64 efp, .bool true, .bool (outTk g k 0 ef efp)] U fun e w' => e = .returned (.int .i64 (outEnd g k 0 ef efp)) ∧ Below U.heap.size U w') := fun U hb => EN.out U ef efp true _ hb
  have EI : Hid (∀ U, Below w.heap.size w U → Calls Tryz.prog 149 #[.agg #[.string (str g.name), .slice a1 g.actors.length c1, .slice a2 g.edges.length c2, .slice a3 g.ins.length c3, .slice a4 g.outs.length c4], .int .i64 et, .int .i64 etp, .bool false, .bool (inTk g k 0 et etp)] U fun e w' => e = .returned (.int .i64 (inEnd g k 0 et etp)) ∧ Below U.heap.size U w') := fun U hb => EN.out U et etp false _ hb
  generalize outTk g k 0 ef efp = tk1 at *
  generalize inTk g k 0 et etp = tk2 at *
  generalize outEnd g k 0 ef efp = oe at *
  generalize inEnd g k 0 et etp = ie at *
  clear EN OT IT
  have bv := B0.out.2.trans (((Below.refl (w.alloc (.cells #[.string (str g.name), .slice a1 g.actors.length c1, .slice a2 g.edges.length c2, .slice a3 g.ins.length c3, .slice a4 g.outs.length c4] 26)).heap.size (w.alloc (.cells #[.string (str g.name), .slice a1 g.actors.length c1, .slice a2 g.edges.length c2, .slice a3 g.ins.length c3, .slice a4 g.outs.length c4] 26))).alloc (Nat.le_refl _) (.cells #[.int .i64 ef, .int .i64 efp, .int .i64 et, .int .i64 etp, .slice xa es.length xc] 65)).mono B0.out.2.size)
  have GB := hiddenG (B0.out.1.below ((Below.refl (w.alloc (.cells #[.string (str g.name), .slice a1 g.actors.length c1, .slice a2 g.edges.length c2, .slice a3 g.ins.length c3, .slice a4 g.outs.length c4] 26)).heap.size (w.alloc (.cells #[.string (str g.name), .slice a1 g.actors.length c1, .slice a2 g.edges.length c2, .slice a3 g.ins.length c3, .slice a4 g.outs.length c4] 26))).alloc (Nat.le_refl _) (.cells #[.int .i64 ef, .int .i64 efp, .int .i64 et, .int .i64 etp, .slice xa es.length xc] 65)))
  have BX : Hid (BlkA 65 (w.heap.size + 1) ((w.alloc (.cells #[.string (str g.name), .slice a1 g.actors.length c1, .slice a2 g.edges.length c2, .slice a3 g.ins.length c3, .slice a4 g.outs.length c4] 26)).alloc (.cells #[.int .i64 ef, .int .i64 efp, .int .i64 et, .int .i64 etp, .slice xa es.length xc] 65)) #[.int .i64 ef, .int .i64 efp, .int .i64 et, .int .i64 etp, .slice xa es.length xc]) := by
    have q := blkA_new 65 (w.alloc (.cells #[.string (str g.name), .slice a1 g.actors.length c1, .slice a2 g.edges.length c2, .slice a3 g.ins.length c3, .slice a4 g.outs.length c4] 26)) #[.int .i64 ef, .int .i64 efp, .int .i64 et, .int .i64 etp, .slice xa es.length xc]
    rw [World.size_alloc] at q
    exact q
  have BV := hiddenG bv
  clear bv
  subst ha2
  go_enter Tryz.func102, Tryz.ntmps102
  go_upto_region 2 with fail
  generalize (w.alloc (.cells #[.string (str g.name), .slice a1 g.actors.length c1, .slice (some ⟨b, off, none⟩) g.edges.length c2, .slice a3 g.ins.length c3, .slice a4 g.outs.length c4] 26)).alloc (.cells #[.int .i64 ef, .int .i64 efp, .int .i64 et, .int .i64 etp, .slice xa es.length xc] 65) = V at *
  have gx0 : V.cell? ⟨w.heap.size, 0, none⟩ = some (.string (str g.name)) := (GB.out).cell rfl
  have gx1 : V.cell? ⟨w.heap.size, 1, none⟩ = some (.slice a1 g.actors.length c1) := (GB.out).cell rfl
  have gx2 : V.cell? ⟨w.heap.size, 2, none⟩ = some (.slice (some ⟨b, off, none⟩) g.edges.length c2) := (GB.out).cell rfl
  have gx3 : V.cell? ⟨w.heap.size, 3, none⟩ = some (.slice a3 g.ins.length c3) := (GB.out).cell rfl
  have gx4 : V.cell? ⟨w.heap.size, 4, none⟩ = some (.slice a4 g.outs.length c4) := (GB.out).cell rfl
  have bb0 := BX.out.cell (k := 0) rfl
  have bb1 := BX.out.cell (k := 1) rfl
  have bb2 := BX.out.cell (k := 2) rfl
  have bb3 := BX.out.cell (k := 3) rfl
  have bb4 := BX.out.cell (k := 4) rfl
  clear x0 x1 x2 x3 x4 y2
  have OTV : Hid (∀ U, Below V.heap.size V U → Calls Tryz.prog 150 #[.agg #[.string (str g.name), .slice a1 g.actors.length c1, .slice (some ⟨b, off, none⟩) g.edges.length c2, .slice a3 g.ins.length c3, .slice a4 g.outs.length c4], .int .i64 (k : Int), .int .i64 0, .int .i64 ef, .int .i64 efp] U fun e w' => e = .returned (.bool tk1) ∧ Below U.heap.size U w') := fun U hb => OT1.out U (BV.out.trans (hb.mono BV.out.size))
  have EOV : Hid (∀ U, Below V.heap.size V U → Calls Tryz.prog 149 #[.agg #[.string (str g.name), .slice a1 g.actors.length c1, .slice (some ⟨b, off, none⟩) g.edges.length c2, .slice a3 g.ins.length c3, .slice a4 g.outs.length c4], .int .i64 ef, .int .i64 efp, .bool true, .bool tk1] U fun e w' => e = .returned (.int .i64 oe) ∧ Below U.heap.size U w') := fun U hb => EO.out U (BV.out.trans (hb.mono BV.out.size))
  by_cases h1 : oe = 0
  · subst h1
    refine wp_region_said 13 (fun i u v => match i with
        | 0 => v = .agg #[.string (str g.name), .slice a1 g.actors.length c1, .slice (some ⟨b, off, none⟩) g.edges.length c2, .slice a3 g.ins.length c3, .slice a4 g.outs.length c4]
        | 1 => v = .pointer (some ⟨w.heap.size + 1, 0, none⟩)
        | 2 => v = .int .i64 ef
        | 3 => v = .pointer (some ⟨w.heap.size + 1, 1, none⟩)
        | 4 => v = .int .i64 efp
        | 5 => v = .agg #[.string (str g.name), .slice a1 g.actors.length c1, .slice (some ⟨b, off, none⟩) g.edges.length c2, .slice a3 g.ins.length c3, .slice a4 g.outs.length c4]
        | 6 => v = .int .i64 (k : Int)
        | 7 => v = .pointer (some ⟨w.heap.size + 1, 0, none⟩)
        | 8 => v = .int .i64 ef
        | 9 => v = .pointer (some ⟨w.heap.size + 1, 1, none⟩)
        | 10 => v = .int .i64 efp
        | 11 => v = .bool tk1
        | 12 => v = .int .i64 0
        | _ => True) (by kernel_rfl) (by kernel_rfl) (by kernel_rfl) (by kernel_rfl) ?_ ?_ ?_
    · intro i w v w' h hb
      match i, h with
      | 0, h => exact h
      | 1, h => exact h
      | 2, h => exact h
      | 3, h => exact h
      | 4, h => exact h
      | 5, h => exact h
      | 6, h => exact h
      | 7, h => exact h
      | 8, h => exact h
      | 9, h => exact h
      | 10, h => exact h
      | 11, h => exact h
      | 12, h => exact h
      | _ + 13, _ => trivial
    · intro i o ρ w' hi ho hb hc hf hfr hdep
      have g0 := cell_keep hb gx0
      have g1 := cell_keep hb gx1
      have g2 := cell_keep hb gx2
      have g3 := cell_keep hb gx3
      have g4 := cell_keep hb gx4
      have b0 := cell_keep hb bb0
      have b1 := cell_keep hb bb1
      have b2 := cell_keep hb bb2
      have b3 := cell_keep hb bb3
      match i, hi with
      | 0, _ =>
        simp only [gTA, gCZ, gSI] at ho
        subst ho
        have ts : ρ (.tmp 2) = .pointer (some ⟨w.heap.size, 0, none⟩) := hfr 2 (by kernel_rfl)
        simp [go_sem, ts, g0, g1, g2, g3, g4]
        exact ⟨Below.refl _ _, rfl⟩
      | 1, _ =>
        simp only [gTA, gCZ, gCS, gSI] at ho
        subst ho
        have ts : ρ (.tmp 6) = .pointer (some ⟨w.heap.size + 1, 0, none⟩) := hfr 6 (by kernel_rfl)
        simp [go_sem, ts]
        exact ⟨Below.refl _ _, rfl⟩
      | 2, _ =>
        simp only [gTA, gCZ, gCS, gSI] at ho
        subst ho
        have ts : ρ (.tmp 14) = .pointer (some ⟨w.heap.size + 1, 0, none⟩) := hdep 1 14 (by kernel_rfl) (by kernel_rfl)
        simp [go_sem, ts, b0]
        exact ⟨Below.refl _ _, rfl⟩
      | 3, _ =>
        simp only [gTA, gCZ, gCS, gSI] at ho
        subst ho
        have ts : ρ (.tmp 6) = .pointer (some ⟨w.heap.size + 1, 0, none⟩) := hfr 6 (by kernel_rfl)
        simp [go_sem, ts]
        exact ⟨Below.refl _ _, rfl⟩
      | 4, _ =>
        simp only [gTA, gCZ, gCS, gSI] at ho
        subst ho
        have ts : ρ (.tmp 16) = .pointer (some ⟨w.heap.size + 1, 1, none⟩) := hdep 3 16 (by kernel_rfl) (by kernel_rfl)
        simp [go_sem, ts, b1]
        exact ⟨Below.refl _ _, rfl⟩
      | 5, _ =>
        simp only [gTA, gCZ, gCS, gSI] at ho
        subst ho
        have ts : ρ (.tmp 2) = .pointer (some ⟨w.heap.size, 0, none⟩) := hfr 2 (by kernel_rfl)
        simp [go_sem, ts, g0, g1, g2, g3, g4]
        exact ⟨Below.refl _ _, rfl⟩
      | 6, _ =>
        simp only [gTA, gCZ, gCS, gSI] at ho
        subst ho
        have ts : ρ (.tmp 1) = .int .i64 (k : Int) := hfr 1 (by kernel_rfl)
        simp [go_sem, ts]
        exact ⟨Below.refl _ _, rfl⟩
      | 7, _ =>
        simp only [gTA, gCZ, gCS, gSI] at ho
        subst ho
        have ts : ρ (.tmp 6) = .pointer (some ⟨w.heap.size + 1, 0, none⟩) := hfr 6 (by kernel_rfl)
        simp [go_sem, ts]
        exact ⟨Below.refl _ _, rfl⟩
      | 8, _ =>
        simp only [gTA, gCZ, gCS, gSI] at ho
        subst ho
        have ts : ρ (.tmp 20) = .pointer (some ⟨w.heap.size + 1, 0, none⟩) := hdep 7 20 (by kernel_rfl) (by kernel_rfl)
        simp [go_sem, ts, b0]
        exact ⟨Below.refl _ _, rfl⟩
      | 9, _ =>
        simp only [gTA, gCZ, gCS, gSI] at ho
        subst ho
        have ts : ρ (.tmp 6) = .pointer (some ⟨w.heap.size + 1, 0, none⟩) := hfr 6 (by kernel_rfl)
        simp [go_sem, ts]
        exact ⟨Below.refl _ _, rfl⟩
      | 10, _ =>
        simp only [gTA, gCZ, gCS, gSI] at ho
        subst ho
        have ts : ρ (.tmp 22) = .pointer (some ⟨w.heap.size + 1, 1, none⟩) := hdep 9 22 (by kernel_rfl) (by kernel_rfl)
        simp [go_sem, ts, b1]
        exact ⟨Below.refl _ _, rfl⟩
      | 11, _ =>
        simp only [gTA, gCZ, gCS, gSI] at ho
        subst ho
        have t0 : ρ (.tmp 18) = .agg #[.string (str g.name), .slice a1 g.actors.length c1, .slice (some ⟨b, off, none⟩) g.edges.length c2, .slice a3 g.ins.length c3, .slice a4 g.outs.length c4] := hdep 5 18 (by kernel_rfl) (by kernel_rfl)
        have t1 : ρ (.tmp 19) = .int .i64 (k : Int) := hdep 6 19 (by kernel_rfl) (by kernel_rfl)
        have t2 : ρ (.tmp 21) = .int .i64 ef := hdep 8 21 (by kernel_rfl) (by kernel_rfl)
        have t3 : ρ (.tmp 23) = .int .i64 efp := hdep 10 23 (by kernel_rfl) (by kernel_rfl)
        simp [go_sem, t0, t1, t2, t3, hf, hc]
        exact ⟨rfl, (OTV.out w' hb).mono fun e w'' hh => ⟨_, hh.1, hh.2, rfl⟩⟩
      | 12, _ =>
        simp only [gTA, gCZ, gCS, gSI] at ho
        subst ho
        have t0 : ρ (.tmp 13) = .agg #[.string (str g.name), .slice a1 g.actors.length c1, .slice (some ⟨b, off, none⟩) g.edges.length c2, .slice a3 g.ins.length c3, .slice a4 g.outs.length c4] := hdep 0 13 (by kernel_rfl) (by kernel_rfl)
        have t1 : ρ (.tmp 15) = .int .i64 ef := hdep 2 15 (by kernel_rfl) (by kernel_rfl)
        have t2 : ρ (.tmp 17) = .int .i64 efp := hdep 4 17 (by kernel_rfl) (by kernel_rfl)
        have t3 : ρ (.tmp 24) = .bool tk1 := hdep 11 24 (by kernel_rfl) (by kernel_rfl)
        simp [go_sem, t0, t1, t2, t3, hf, hc]
        exact ⟨rfl, (EOV.out w' hb).mono fun e w'' hh => ⟨_, hh.1, hh.2, rfl⟩⟩
    · intro V9 w9 q9 hS
      have e0 : V9 0 = .agg #[.string (str g.name), .slice a1 g.actors.length c1, .slice (some ⟨b, off, none⟩) g.edges.length c2, .slice a3 g.ins.length c3, .slice a4 g.outs.length c4] := hS 0 (by decide)
      have e1 : V9 1 = .pointer (some ⟨w.heap.size + 1, 0, none⟩) := hS 1 (by decide)
      have e2 : V9 2 = .int .i64 ef := hS 2 (by decide)
      have e3 : V9 3 = .pointer (some ⟨w.heap.size + 1, 1, none⟩) := hS 3 (by decide)
      have e4 : V9 4 = .int .i64 efp := hS 4 (by decide)
      have e5 : V9 5 = .agg #[.string (str g.name), .slice a1 g.actors.length c1, .slice (some ⟨b, off, none⟩) g.edges.length c2, .slice a3 g.ins.length c3, .slice a4 g.outs.length c4] := hS 5 (by decide)
      have e6 : V9 6 = .int .i64 (k : Int) := hS 6 (by decide)
      have e7 : V9 7 = .pointer (some ⟨w.heap.size + 1, 0, none⟩) := hS 7 (by decide)
      have e8 : V9 8 = .int .i64 ef := hS 8 (by decide)
      have e9 : V9 9 = .pointer (some ⟨w.heap.size + 1, 1, none⟩) := hS 9 (by decide)
      have e10 : V9 10 = .int .i64 efp := hS 10 (by decide)
      have e11 : V9 11 = .bool tk1 := hS 11 (by decide)
      have e12 : V9 12 = .int .i64 0 := hS 12 (by decide)
      simp only [List.drop_succ_cons, List.drop_zero, List.take_succ_cons, List.take_zero, puts, e0, e1, e2, e3, e4, e5, e6, e7, e8, e9, e10, e11, e12]
      clear hS e0 e1 e2 e3 e4 e5 e6 e7 e8 e9 e10 e11 e12 V9
      simp only [Act.put, List.setIfInBounds_toArray, List.set_cons_zero, List.set_cons_succ]
      have Q9 := hiddenG q9
      have BW := hiddenG (BV.out.trans (q9.mono BV.out.size))
      have gy0 := cell_keep q9 gx0
      have gy1 := cell_keep q9 gx1
      have gy2 := cell_keep q9 gx2
      have gy3 := cell_keep q9 gx3
      have gy4 := cell_keep q9 gx4
      have bc0 := cell_keep q9 bb0
      have bc1 := cell_keep q9 bb1
      have bc2 := cell_keep q9 bb2
      have bc3 := cell_keep q9 bb3
      have bc4 := cell_keep q9 bb4
      have ITV : Hid (∀ U, Below w9.heap.size w9 U → Calls Tryz.prog 151 #[.agg #[.string (str g.name), .slice a1 g.actors.length c1, .slice (some ⟨b, off, none⟩) g.edges.length c2, .slice a3 g.ins.length c3, .slice a4 g.outs.length c4], .int .i64 (k : Int), .int .i64 0, .int .i64 et, .int .i64 etp] U fun e w' => e = .returned (.bool tk2) ∧ Below U.heap.size U w') := fun U hb => IT1.out U (BW.out.trans (hb.mono BW.out.size))
      have EIV : Hid (∀ U, Below w9.heap.size w9 U → Calls Tryz.prog 149 #[.agg #[.string (str g.name), .slice a1 g.actors.length c1, .slice (some ⟨b, off, none⟩) g.edges.length c2, .slice a3 g.ins.length c3, .slice a4 g.outs.length c4], .int .i64 et, .int .i64 etp, .bool false, .bool tk2] U fun e w' => e = .returned (.int .i64 ie) ∧ Below U.heap.size U w') := fun U hb => EI.out U (BW.out.trans (hb.mono BW.out.size))
      clear q9 gx0 gx1 gx2 gx3 gx4 bb0 bb1 bb2 bb3 bb4 OTV EOV
      go_upto_region 5 with fail
      by_cases h2 : ie = 0
      · subst h2
        refine wp_region_said 13 (fun i u v => match i with
            | 0 => v = .agg #[.string (str g.name), .slice a1 g.actors.length c1, .slice (some ⟨b, off, none⟩) g.edges.length c2, .slice a3 g.ins.length c3, .slice a4 g.outs.length c4]
            | 1 => v = .pointer (some ⟨w.heap.size + 1, 2, none⟩)
            | 2 => v = .int .i64 et
            | 3 => v = .pointer (some ⟨w.heap.size + 1, 3, none⟩)
            | 4 => v = .int .i64 etp
            | 5 => v = .agg #[.string (str g.name), .slice a1 g.actors.length c1, .slice (some ⟨b, off, none⟩) g.edges.length c2, .slice a3 g.ins.length c3, .slice a4 g.outs.length c4]
            | 6 => v = .int .i64 (k : Int)
            | 7 => v = .pointer (some ⟨w.heap.size + 1, 2, none⟩)
            | 8 => v = .int .i64 et
            | 9 => v = .pointer (some ⟨w.heap.size + 1, 3, none⟩)
            | 10 => v = .int .i64 etp
            | 11 => v = .bool tk2
            | 12 => v = .int .i64 0
            | _ => True) (by kernel_rfl) (by kernel_rfl) (by kernel_rfl) (by kernel_rfl) ?_ ?_ ?_
        · intro i w v w' h hb
          match i, h with
          | 0, h => exact h
          | 1, h => exact h
          | 2, h => exact h
          | 3, h => exact h
          | 4, h => exact h
          | 5, h => exact h
          | 6, h => exact h
          | 7, h => exact h
          | 8, h => exact h
          | 9, h => exact h
          | 10, h => exact h
          | 11, h => exact h
          | 12, h => exact h
          | _ + 13, _ => trivial
        · intro i o ρ w' hi ho hb hc hf hfr hdep
          have g0 := cell_keep hb gy0
          have g1 := cell_keep hb gy1
          have g2 := cell_keep hb gy2
          have g3 := cell_keep hb gy3
          have g4 := cell_keep hb gy4
          have b0 := cell_keep hb bc0
          have b1 := cell_keep hb bc1
          have b2 := cell_keep hb bc2
          have b3 := cell_keep hb bc3
          match i, hi with
          | 0, _ =>
            simp only [gTA, gCZ, gSI] at ho
            subst ho
            have ts : ρ (.tmp 2) = .pointer (some ⟨w.heap.size, 0, none⟩) := hfr 2 (by kernel_rfl)
            simp [go_sem, ts, g0, g1, g2, g3, g4]
            exact ⟨Below.refl _ _, rfl⟩
          | 1, _ =>
            simp only [gTA, gCZ, gCS, gSI] at ho
            subst ho
            have ts : ρ (.tmp 6) = .pointer (some ⟨w.heap.size + 1, 0, none⟩) := hfr 6 (by kernel_rfl)
            simp [go_sem, ts]
            exact ⟨Below.refl _ _, rfl⟩
          | 2, _ =>
            simp only [gTA, gCZ, gCS, gSI] at ho
            subst ho
            have ts : ρ (.tmp 30) = .pointer (some ⟨w.heap.size + 1, 2, none⟩) := hdep 1 30 (by kernel_rfl) (by kernel_rfl)
            simp [go_sem, ts, b2]
            exact ⟨Below.refl _ _, rfl⟩
          | 3, _ =>
            simp only [gTA, gCZ, gCS, gSI] at ho
            subst ho
            have ts : ρ (.tmp 6) = .pointer (some ⟨w.heap.size + 1, 0, none⟩) := hfr 6 (by kernel_rfl)
            simp [go_sem, ts]
            exact ⟨Below.refl _ _, rfl⟩
          | 4, _ =>
            simp only [gTA, gCZ, gCS, gSI] at ho
            subst ho
            have ts : ρ (.tmp 32) = .pointer (some ⟨w.heap.size + 1, 3, none⟩) := hdep 3 32 (by kernel_rfl) (by kernel_rfl)
            simp [go_sem, ts, b3]
            exact ⟨Below.refl _ _, rfl⟩
          | 5, _ =>
            simp only [gTA, gCZ, gCS, gSI] at ho
            subst ho
            have ts : ρ (.tmp 2) = .pointer (some ⟨w.heap.size, 0, none⟩) := hfr 2 (by kernel_rfl)
            simp [go_sem, ts, g0, g1, g2, g3, g4]
            exact ⟨Below.refl _ _, rfl⟩
          | 6, _ =>
            simp only [gTA, gCZ, gCS, gSI] at ho
            subst ho
            have ts : ρ (.tmp 1) = .int .i64 (k : Int) := hfr 1 (by kernel_rfl)
            simp [go_sem, ts]
            exact ⟨Below.refl _ _, rfl⟩
          | 7, _ =>
            simp only [gTA, gCZ, gCS, gSI] at ho
            subst ho
            have ts : ρ (.tmp 6) = .pointer (some ⟨w.heap.size + 1, 0, none⟩) := hfr 6 (by kernel_rfl)
            simp [go_sem, ts]
            exact ⟨Below.refl _ _, rfl⟩
          | 8, _ =>
            simp only [gTA, gCZ, gCS, gSI] at ho
            subst ho
            have ts : ρ (.tmp 36) = .pointer (some ⟨w.heap.size + 1, 2, none⟩) := hdep 7 36 (by kernel_rfl) (by kernel_rfl)
            simp [go_sem, ts, b2]
            exact ⟨Below.refl _ _, rfl⟩
          | 9, _ =>
            simp only [gTA, gCZ, gCS, gSI] at ho
            subst ho
            have ts : ρ (.tmp 6) = .pointer (some ⟨w.heap.size + 1, 0, none⟩) := hfr 6 (by kernel_rfl)
            simp [go_sem, ts]
            exact ⟨Below.refl _ _, rfl⟩
          | 10, _ =>
            simp only [gTA, gCZ, gCS, gSI] at ho
            subst ho
            have ts : ρ (.tmp 38) = .pointer (some ⟨w.heap.size + 1, 3, none⟩) := hdep 9 38 (by kernel_rfl) (by kernel_rfl)
            simp [go_sem, ts, b3]
            exact ⟨Below.refl _ _, rfl⟩
          | 11, _ =>
            simp only [gTA, gCZ, gCS, gSI] at ho
            subst ho
            have t0 : ρ (.tmp 34) = .agg #[.string (str g.name), .slice a1 g.actors.length c1, .slice (some ⟨b, off, none⟩) g.edges.length c2, .slice a3 g.ins.length c3, .slice a4 g.outs.length c4] := hdep 5 34 (by kernel_rfl) (by kernel_rfl)
            have t1 : ρ (.tmp 35) = .int .i64 (k : Int) := hdep 6 35 (by kernel_rfl) (by kernel_rfl)
            have t2 : ρ (.tmp 37) = .int .i64 et := hdep 8 37 (by kernel_rfl) (by kernel_rfl)
            have t3 : ρ (.tmp 39) = .int .i64 etp := hdep 10 39 (by kernel_rfl) (by kernel_rfl)
            simp [go_sem, t0, t1, t2, t3, hf, hc]
            exact ⟨rfl, (ITV.out w' hb).mono fun e w'' hh => ⟨_, hh.1, hh.2, rfl⟩⟩
          | 12, _ =>
            simp only [gTA, gCZ, gCS, gSI] at ho
            subst ho
            have t0 : ρ (.tmp 29) = .agg #[.string (str g.name), .slice a1 g.actors.length c1, .slice (some ⟨b, off, none⟩) g.edges.length c2, .slice a3 g.ins.length c3, .slice a4 g.outs.length c4] := hdep 0 29 (by kernel_rfl) (by kernel_rfl)
            have t1 : ρ (.tmp 31) = .int .i64 et := hdep 2 31 (by kernel_rfl) (by kernel_rfl)
            have t2 : ρ (.tmp 33) = .int .i64 etp := hdep 4 33 (by kernel_rfl) (by kernel_rfl)
            have t3 : ρ (.tmp 40) = .bool tk2 := hdep 11 40 (by kernel_rfl) (by kernel_rfl)
            simp [go_sem, t0, t1, t2, t3, hf, hc]
            exact ⟨rfl, (EIV.out w' hb).mono fun e w'' hh => ⟨_, hh.1, hh.2, rfl⟩⟩
        · intro V9 w8 q8 hS
          have e0 : V9 0 = .agg #[.string (str g.name), .slice a1 g.actors.length c1, .slice (some ⟨b, off, none⟩) g.edges.length c2, .slice a3 g.ins.length c3, .slice a4 g.outs.length c4] := hS 0 (by decide)
          have e1 : V9 1 = .pointer (some ⟨w.heap.size + 1, 2, none⟩) := hS 1 (by decide)
          have e2 : V9 2 = .int .i64 et := hS 2 (by decide)
          have e3 : V9 3 = .pointer (some ⟨w.heap.size + 1, 3, none⟩) := hS 3 (by decide)
          have e4 : V9 4 = .int .i64 etp := hS 4 (by decide)
          have e5 : V9 5 = .agg #[.string (str g.name), .slice a1 g.actors.length c1, .slice (some ⟨b, off, none⟩) g.edges.length c2, .slice a3 g.ins.length c3, .slice a4 g.outs.length c4] := hS 5 (by decide)
          have e6 : V9 6 = .int .i64 (k : Int) := hS 6 (by decide)
          have e7 : V9 7 = .pointer (some ⟨w.heap.size + 1, 2, none⟩) := hS 7 (by decide)
          have e8 : V9 8 = .int .i64 et := hS 8 (by decide)
          have e9 : V9 9 = .pointer (some ⟨w.heap.size + 1, 3, none⟩) := hS 9 (by decide)
          have e10 : V9 10 = .int .i64 etp := hS 10 (by decide)
          have e11 : V9 11 = .bool tk2 := hS 11 (by decide)
          have e12 : V9 12 = .int .i64 0 := hS 12 (by decide)
          simp only [List.drop_succ_cons, List.drop_zero, List.take_succ_cons, List.take_zero, puts, e0, e1, e2, e3, e4, e5, e6, e7, e8, e9, e10, e11, e12]
          clear hS e0 e1 e2 e3 e4 e5 e6 e7 e8 e9 e10 e11 e12 V9
          simp only [Act.put, List.setIfInBounds_toArray, List.set_cons_zero, List.set_cons_succ]
          have B8 := hiddenG (BW.out.trans (q8.mono BW.out.size))
          have bd4 := cell_keep q8 bc4
          clear q8
          by_cases h3 : 256 < es.length
          · have h4 : (es.length : Int) > 256 := by omega
            go_wp2
            refine bodyPost_ret (v := .tuple #[.int .i64 88, .int .i64 0]) (by simp [results, Tryz.results102, go_sem]) rfl ?_
            exact ⟨by rw [HC.out, if_neg (by decide), if_neg (by decide), if_pos h3]; rfl, B8.out⟩
          · have h4 : ¬ (es.length : Int) > 256 := by omega
            go_wp2
            refine bodyPost_ret (v := .tuple #[.int .i64 0, .int .i64 0]) (by simp [results, Tryz.results102, go_sem]) rfl ?_
            exact ⟨by rw [HC.out, if_neg (by decide), if_neg (by decide), if_neg h3]; rfl, B8.out⟩
      · have h3 : (ie != 0) = true := by simpa using h2
        refine wp_region_said 13 (fun i u v => match i with
            | 0 => v = .agg #[.string (str g.name), .slice a1 g.actors.length c1, .slice (some ⟨b, off, none⟩) g.edges.length c2, .slice a3 g.ins.length c3, .slice a4 g.outs.length c4]
            | 1 => v = .pointer (some ⟨w.heap.size + 1, 2, none⟩)
            | 2 => v = .int .i64 et
            | 3 => v = .pointer (some ⟨w.heap.size + 1, 3, none⟩)
            | 4 => v = .int .i64 etp
            | 5 => v = .agg #[.string (str g.name), .slice a1 g.actors.length c1, .slice (some ⟨b, off, none⟩) g.edges.length c2, .slice a3 g.ins.length c3, .slice a4 g.outs.length c4]
            | 6 => v = .int .i64 (k : Int)
            | 7 => v = .pointer (some ⟨w.heap.size + 1, 2, none⟩)
            | 8 => v = .int .i64 et
            | 9 => v = .pointer (some ⟨w.heap.size + 1, 3, none⟩)
            | 10 => v = .int .i64 etp
            | 11 => v = .bool tk2
            | 12 => v = .int .i64 ie
            | _ => True) (by kernel_rfl) (by kernel_rfl) (by kernel_rfl) (by kernel_rfl) ?_ ?_ ?_
        · intro i w v w' h hb
          match i, h with
          | 0, h => exact h
          | 1, h => exact h
          | 2, h => exact h
          | 3, h => exact h
          | 4, h => exact h
          | 5, h => exact h
          | 6, h => exact h
          | 7, h => exact h
          | 8, h => exact h
          | 9, h => exact h
          | 10, h => exact h
          | 11, h => exact h
          | 12, h => exact h
          | _ + 13, _ => trivial
        · intro i o ρ w' hi ho hb hc hf hfr hdep
          have g0 := cell_keep hb gy0
          have g1 := cell_keep hb gy1
          have g2 := cell_keep hb gy2
          have g3 := cell_keep hb gy3
          have g4 := cell_keep hb gy4
          have b0 := cell_keep hb bc0
          have b1 := cell_keep hb bc1
          have b2 := cell_keep hb bc2
          have b3 := cell_keep hb bc3
          match i, hi with
          | 0, _ =>
            simp only [gTA, gCZ, gSI] at ho
            subst ho
            have ts : ρ (.tmp 2) = .pointer (some ⟨w.heap.size, 0, none⟩) := hfr 2 (by kernel_rfl)
            simp [go_sem, ts, g0, g1, g2, g3, g4]
            exact ⟨Below.refl _ _, rfl⟩
          | 1, _ =>
            simp only [gTA, gCZ, gCS, gSI] at ho
            subst ho
            have ts : ρ (.tmp 6) = .pointer (some ⟨w.heap.size + 1, 0, none⟩) := hfr 6 (by kernel_rfl)
            simp [go_sem, ts]
            exact ⟨Below.refl _ _, rfl⟩
          | 2, _ =>
            simp only [gTA, gCZ, gCS, gSI] at ho
            subst ho
            have ts : ρ (.tmp 30) = .pointer (some ⟨w.heap.size + 1, 2, none⟩) := hdep 1 30 (by kernel_rfl) (by kernel_rfl)
            simp [go_sem, ts, b2]
            exact ⟨Below.refl _ _, rfl⟩
          | 3, _ =>
            simp only [gTA, gCZ, gCS, gSI] at ho
            subst ho
            have ts : ρ (.tmp 6) = .pointer (some ⟨w.heap.size + 1, 0, none⟩) := hfr 6 (by kernel_rfl)
            simp [go_sem, ts]
            exact ⟨Below.refl _ _, rfl⟩
          | 4, _ =>
            simp only [gTA, gCZ, gCS, gSI] at ho
            subst ho
            have ts : ρ (.tmp 32) = .pointer (some ⟨w.heap.size + 1, 3, none⟩) := hdep 3 32 (by kernel_rfl) (by kernel_rfl)
            simp [go_sem, ts, b3]
            exact ⟨Below.refl _ _, rfl⟩
          | 5, _ =>
            simp only [gTA, gCZ, gCS, gSI] at ho
            subst ho
            have ts : ρ (.tmp 2) = .pointer (some ⟨w.heap.size, 0, none⟩) := hfr 2 (by kernel_rfl)
            simp [go_sem, ts, g0, g1, g2, g3, g4]
            exact ⟨Below.refl _ _, rfl⟩
          | 6, _ =>
            simp only [gTA, gCZ, gCS, gSI] at ho
            subst ho
            have ts : ρ (.tmp 1) = .int .i64 (k : Int) := hfr 1 (by kernel_rfl)
            simp [go_sem, ts]
            exact ⟨Below.refl _ _, rfl⟩
          | 7, _ =>
            simp only [gTA, gCZ, gCS, gSI] at ho
            subst ho
            have ts : ρ (.tmp 6) = .pointer (some ⟨w.heap.size + 1, 0, none⟩) := hfr 6 (by kernel_rfl)
            simp [go_sem, ts]
            exact ⟨Below.refl _ _, rfl⟩
          | 8, _ =>
            simp only [gTA, gCZ, gCS, gSI] at ho
            subst ho
            have ts : ρ (.tmp 36) = .pointer (some ⟨w.heap.size + 1, 2, none⟩) := hdep 7 36 (by kernel_rfl) (by kernel_rfl)
            simp [go_sem, ts, b2]
            exact ⟨Below.refl _ _, rfl⟩
          | 9, _ =>
            simp only [gTA, gCZ, gCS, gSI] at ho
            subst ho
            have ts : ρ (.tmp 6) = .pointer (some ⟨w.heap.size + 1, 0, none⟩) := hfr 6 (by kernel_rfl)
            simp [go_sem, ts]
            exact ⟨Below.refl _ _, rfl⟩
          | 10, _ =>
            simp only [gTA, gCZ, gCS, gSI] at ho
            subst ho
            have ts : ρ (.tmp 38) = .pointer (some ⟨w.heap.size + 1, 3, none⟩) := hdep 9 38 (by kernel_rfl) (by kernel_rfl)
            simp [go_sem, ts, b3]
            exact ⟨Below.refl _ _, rfl⟩
          | 11, _ =>
            simp only [gTA, gCZ, gCS, gSI] at ho
            subst ho
            have t0 : ρ (.tmp 34) = .agg #[.string (str g.name), .slice a1 g.actors.length c1, .slice (some ⟨b, off, none⟩) g.edges.length c2, .slice a3 g.ins.length c3, .slice a4 g.outs.length c4] := hdep 5 34 (by kernel_rfl) (by kernel_rfl)
            have t1 : ρ (.tmp 35) = .int .i64 (k : Int) := hdep 6 35 (by kernel_rfl) (by kernel_rfl)
            have t2 : ρ (.tmp 37) = .int .i64 et := hdep 8 37 (by kernel_rfl) (by kernel_rfl)
            have t3 : ρ (.tmp 39) = .int .i64 etp := hdep 10 39 (by kernel_rfl) (by kernel_rfl)
            simp [go_sem, t0, t1, t2, t3, hf, hc]
            exact ⟨rfl, (ITV.out w' hb).mono fun e w'' hh => ⟨_, hh.1, hh.2, rfl⟩⟩
          | 12, _ =>
            simp only [gTA, gCZ, gCS, gSI] at ho
            subst ho
            have t0 : ρ (.tmp 29) = .agg #[.string (str g.name), .slice a1 g.actors.length c1, .slice (some ⟨b, off, none⟩) g.edges.length c2, .slice a3 g.ins.length c3, .slice a4 g.outs.length c4] := hdep 0 29 (by kernel_rfl) (by kernel_rfl)
            have t1 : ρ (.tmp 31) = .int .i64 et := hdep 2 31 (by kernel_rfl) (by kernel_rfl)
            have t2 : ρ (.tmp 33) = .int .i64 etp := hdep 4 33 (by kernel_rfl) (by kernel_rfl)
            have t3 : ρ (.tmp 40) = .bool tk2 := hdep 11 40 (by kernel_rfl) (by kernel_rfl)
            simp [go_sem, t0, t1, t2, t3, hf, hc]
            exact ⟨rfl, (EIV.out w' hb).mono fun e w'' hh => ⟨_, hh.1, hh.2, rfl⟩⟩
        · intro V9 w8 q8 hS
          have e0 : V9 0 = .agg #[.string (str g.name), .slice a1 g.actors.length c1, .slice (some ⟨b, off, none⟩) g.edges.length c2, .slice a3 g.ins.length c3, .slice a4 g.outs.length c4] := hS 0 (by decide)
          have e1 : V9 1 = .pointer (some ⟨w.heap.size + 1, 2, none⟩) := hS 1 (by decide)
          have e2 : V9 2 = .int .i64 et := hS 2 (by decide)
          have e3 : V9 3 = .pointer (some ⟨w.heap.size + 1, 3, none⟩) := hS 3 (by decide)
          have e4 : V9 4 = .int .i64 etp := hS 4 (by decide)
          have e5 : V9 5 = .agg #[.string (str g.name), .slice a1 g.actors.length c1, .slice (some ⟨b, off, none⟩) g.edges.length c2, .slice a3 g.ins.length c3, .slice a4 g.outs.length c4] := hS 5 (by decide)
          have e6 : V9 6 = .int .i64 (k : Int) := hS 6 (by decide)
          have e7 : V9 7 = .pointer (some ⟨w.heap.size + 1, 2, none⟩) := hS 7 (by decide)
          have e8 : V9 8 = .int .i64 et := hS 8 (by decide)
          have e9 : V9 9 = .pointer (some ⟨w.heap.size + 1, 3, none⟩) := hS 9 (by decide)
          have e10 : V9 10 = .int .i64 etp := hS 10 (by decide)
          have e11 : V9 11 = .bool tk2 := hS 11 (by decide)
          have e12 : V9 12 = .int .i64 ie := hS 12 (by decide)
          simp only [List.drop_succ_cons, List.drop_zero, List.take_succ_cons, List.take_zero, puts, e0, e1, e2, e3, e4, e5, e6, e7, e8, e9, e10, e11, e12]
          clear hS e0 e1 e2 e3 e4 e5 e6 e7 e8 e9 e10 e11 e12 V9
          simp only [Act.put, List.setIfInBounds_toArray, List.set_cons_zero, List.set_cons_succ]
          have B8 := hiddenG (BW.out.trans (q8.mono BW.out.size))
          clear q8
          go_wp2
          refine bodyPost_ret (v := .tuple #[.int .i64 ie, .int .i64 2]) (by simp [results, Tryz.results102, go_sem]) rfl ?_
          exact ⟨by rw [HC.out, if_neg (by decide), if_pos h2]; rfl, B8.out⟩
  · have h2 : (oe != 0) = true := by simpa using h1
    refine wp_region_said 13 (fun i u v => match i with
        | 0 => v = .agg #[.string (str g.name), .slice a1 g.actors.length c1, .slice (some ⟨b, off, none⟩) g.edges.length c2, .slice a3 g.ins.length c3, .slice a4 g.outs.length c4]
        | 1 => v = .pointer (some ⟨w.heap.size + 1, 0, none⟩)
        | 2 => v = .int .i64 ef
        | 3 => v = .pointer (some ⟨w.heap.size + 1, 1, none⟩)
        | 4 => v = .int .i64 efp
        | 5 => v = .agg #[.string (str g.name), .slice a1 g.actors.length c1, .slice (some ⟨b, off, none⟩) g.edges.length c2, .slice a3 g.ins.length c3, .slice a4 g.outs.length c4]
        | 6 => v = .int .i64 (k : Int)
        | 7 => v = .pointer (some ⟨w.heap.size + 1, 0, none⟩)
        | 8 => v = .int .i64 ef
        | 9 => v = .pointer (some ⟨w.heap.size + 1, 1, none⟩)
        | 10 => v = .int .i64 efp
        | 11 => v = .bool tk1
        | 12 => v = .int .i64 oe
        | _ => True) (by kernel_rfl) (by kernel_rfl) (by kernel_rfl) (by kernel_rfl) ?_ ?_ ?_
    · intro i w v w' h hb
      match i, h with
      | 0, h => exact h
      | 1, h => exact h
      | 2, h => exact h
      | 3, h => exact h
      | 4, h => exact h
      | 5, h => exact h
      | 6, h => exact h
      | 7, h => exact h
      | 8, h => exact h
      | 9, h => exact h
      | 10, h => exact h
      | 11, h => exact h
      | 12, h => exact h
      | _ + 13, _ => trivial
    · intro i o ρ w' hi ho hb hc hf hfr hdep
      have g0 := cell_keep hb gx0
      have g1 := cell_keep hb gx1
      have g2 := cell_keep hb gx2
      have g3 := cell_keep hb gx3
      have g4 := cell_keep hb gx4
      have b0 := cell_keep hb bb0
      have b1 := cell_keep hb bb1
      have b2 := cell_keep hb bb2
      have b3 := cell_keep hb bb3
      match i, hi with
      | 0, _ =>
        simp only [gTA, gCZ, gSI] at ho
        subst ho
        have ts : ρ (.tmp 2) = .pointer (some ⟨w.heap.size, 0, none⟩) := hfr 2 (by kernel_rfl)
        simp [go_sem, ts, g0, g1, g2, g3, g4]
        exact ⟨Below.refl _ _, rfl⟩
      | 1, _ =>
        simp only [gTA, gCZ, gCS, gSI] at ho
        subst ho
        have ts : ρ (.tmp 6) = .pointer (some ⟨w.heap.size + 1, 0, none⟩) := hfr 6 (by kernel_rfl)
        simp [go_sem, ts]
        exact ⟨Below.refl _ _, rfl⟩
      | 2, _ =>
        simp only [gTA, gCZ, gCS, gSI] at ho
        subst ho
        have ts : ρ (.tmp 14) = .pointer (some ⟨w.heap.size + 1, 0, none⟩) := hdep 1 14 (by kernel_rfl) (by kernel_rfl)
        simp [go_sem, ts, b0]
        exact ⟨Below.refl _ _, rfl⟩
      | 3, _ =>
        simp only [gTA, gCZ, gCS, gSI] at ho
        subst ho
        have ts : ρ (.tmp 6) = .pointer (some ⟨w.heap.size + 1, 0, none⟩) := hfr 6 (by kernel_rfl)
        simp [go_sem, ts]
        exact ⟨Below.refl _ _, rfl⟩
      | 4, _ =>
        simp only [gTA, gCZ, gCS, gSI] at ho
        subst ho
        have ts : ρ (.tmp 16) = .pointer (some ⟨w.heap.size + 1, 1, none⟩) := hdep 3 16 (by kernel_rfl) (by kernel_rfl)
        simp [go_sem, ts, b1]
        exact ⟨Below.refl _ _, rfl⟩
      | 5, _ =>
        simp only [gTA, gCZ, gCS, gSI] at ho
        subst ho
        have ts : ρ (.tmp 2) = .pointer (some ⟨w.heap.size, 0, none⟩) := hfr 2 (by kernel_rfl)
        simp [go_sem, ts, g0, g1, g2, g3, g4]
        exact ⟨Below.refl _ _, rfl⟩
      | 6, _ =>
        simp only [gTA, gCZ, gCS, gSI] at ho
        subst ho
        have ts : ρ (.tmp 1) = .int .i64 (k : Int) := hfr 1 (by kernel_rfl)
        simp [go_sem, ts]
        exact ⟨Below.refl _ _, rfl⟩
      | 7, _ =>
        simp only [gTA, gCZ, gCS, gSI] at ho
        subst ho
        have ts : ρ (.tmp 6) = .pointer (some ⟨w.heap.size + 1, 0, none⟩) := hfr 6 (by kernel_rfl)
        simp [go_sem, ts]
        exact ⟨Below.refl _ _, rfl⟩
      | 8, _ =>
        simp only [gTA, gCZ, gCS, gSI] at ho
        subst ho
        have ts : ρ (.tmp 20) = .pointer (some ⟨w.heap.size + 1, 0, none⟩) := hdep 7 20 (by kernel_rfl) (by kernel_rfl)
        simp [go_sem, ts, b0]
        exact ⟨Below.refl _ _, rfl⟩
      | 9, _ =>
        simp only [gTA, gCZ, gCS, gSI] at ho
        subst ho
        have ts : ρ (.tmp 6) = .pointer (some ⟨w.heap.size + 1, 0, none⟩) := hfr 6 (by kernel_rfl)
        simp [go_sem, ts]
        exact ⟨Below.refl _ _, rfl⟩
      | 10, _ =>
        simp only [gTA, gCZ, gCS, gSI] at ho
        subst ho
        have ts : ρ (.tmp 22) = .pointer (some ⟨w.heap.size + 1, 1, none⟩) := hdep 9 22 (by kernel_rfl) (by kernel_rfl)
        simp [go_sem, ts, b1]
        exact ⟨Below.refl _ _, rfl⟩
      | 11, _ =>
        simp only [gTA, gCZ, gCS, gSI] at ho
        subst ho
        have t0 : ρ (.tmp 18) = .agg #[.string (str g.name), .slice a1 g.actors.length c1, .slice (some ⟨b, off, none⟩) g.edges.length c2, .slice a3 g.ins.length c3, .slice a4 g.outs.length c4] := hdep 5 18 (by kernel_rfl) (by kernel_rfl)
        have t1 : ρ (.tmp 19) = .int .i64 (k : Int) := hdep 6 19 (by kernel_rfl) (by kernel_rfl)
        have t2 : ρ (.tmp 21) = .int .i64 ef := hdep 8 21 (by kernel_rfl) (by kernel_rfl)
        have t3 : ρ (.tmp 23) = .int .i64 efp := hdep 10 23 (by kernel_rfl) (by kernel_rfl)
        simp [go_sem, t0, t1, t2, t3, hf, hc]
        exact ⟨rfl, (OTV.out w' hb).mono fun e w'' hh => ⟨_, hh.1, hh.2, rfl⟩⟩
      | 12, _ =>
        simp only [gTA, gCZ, gCS, gSI] at ho
        subst ho
        have t0 : ρ (.tmp 13) = .agg #[.string (str g.name), .slice a1 g.actors.length c1, .slice (some ⟨b, off, none⟩) g.edges.length c2, .slice a3 g.ins.length c3, .slice a4 g.outs.length c4] := hdep 0 13 (by kernel_rfl) (by kernel_rfl)
        have t1 : ρ (.tmp 15) = .int .i64 ef := hdep 2 15 (by kernel_rfl) (by kernel_rfl)
        have t2 : ρ (.tmp 17) = .int .i64 efp := hdep 4 17 (by kernel_rfl) (by kernel_rfl)
        have t3 : ρ (.tmp 24) = .bool tk1 := hdep 11 24 (by kernel_rfl) (by kernel_rfl)
        simp [go_sem, t0, t1, t2, t3, hf, hc]
        exact ⟨rfl, (EOV.out w' hb).mono fun e w'' hh => ⟨_, hh.1, hh.2, rfl⟩⟩
    · intro V9 w9 q9 hS
      have e0 : V9 0 = .agg #[.string (str g.name), .slice a1 g.actors.length c1, .slice (some ⟨b, off, none⟩) g.edges.length c2, .slice a3 g.ins.length c3, .slice a4 g.outs.length c4] := hS 0 (by decide)
      have e1 : V9 1 = .pointer (some ⟨w.heap.size + 1, 0, none⟩) := hS 1 (by decide)
      have e2 : V9 2 = .int .i64 ef := hS 2 (by decide)
      have e3 : V9 3 = .pointer (some ⟨w.heap.size + 1, 1, none⟩) := hS 3 (by decide)
      have e4 : V9 4 = .int .i64 efp := hS 4 (by decide)
      have e5 : V9 5 = .agg #[.string (str g.name), .slice a1 g.actors.length c1, .slice (some ⟨b, off, none⟩) g.edges.length c2, .slice a3 g.ins.length c3, .slice a4 g.outs.length c4] := hS 5 (by decide)
      have e6 : V9 6 = .int .i64 (k : Int) := hS 6 (by decide)
      have e7 : V9 7 = .pointer (some ⟨w.heap.size + 1, 0, none⟩) := hS 7 (by decide)
      have e8 : V9 8 = .int .i64 ef := hS 8 (by decide)
      have e9 : V9 9 = .pointer (some ⟨w.heap.size + 1, 1, none⟩) := hS 9 (by decide)
      have e10 : V9 10 = .int .i64 efp := hS 10 (by decide)
      have e11 : V9 11 = .bool tk1 := hS 11 (by decide)
      have e12 : V9 12 = .int .i64 oe := hS 12 (by decide)
      simp only [List.drop_succ_cons, List.drop_zero, List.take_succ_cons, List.take_zero, puts, e0, e1, e2, e3, e4, e5, e6, e7, e8, e9, e10, e11, e12]
      clear hS e0 e1 e2 e3 e4 e5 e6 e7 e8 e9 e10 e11 e12 V9
      simp only [Act.put, List.setIfInBounds_toArray, List.set_cons_zero, List.set_cons_succ]
      have B8 := hiddenG (BV.out.trans (q9.mono BV.out.size))
      clear q9
      go_wp2
      refine bodyPost_ret (v := .tuple #[.int .i64 oe, .int .i64 1]) (by simp [results, Tryz.results102, go_sem]) rfl ?_
      exact ⟨by rw [HC.out, if_pos h1]; rfl, B8.out⟩
set_option maxRecDepth 100000 in
set_option maxHeartbeats 8000000 in
theorem in8_any (g : GG) (a1 a2 a3 a4 : Option Addr) (c1 c2 c3 c4 : Nat) (k : Nat) (w : World) (h : GrG w a1 a2 a3 a4 g) (hk : k < g.ins.length) :
    Calls Tryz.prog 103 #[.agg #[.string (str g.name), .slice a1 g.actors.length c1, .slice a2 g.edges.length c2, .slice a3 g.ins.length c3, .slice a4 g.outs.length c4], .int .i64 (k : Int)] w fun e w' => e = .returned (.tuple #[.int .i64 (inC g k).1, .int .i64 ((inC g k).2 : Int)]) ∧ Below w.heap.size w w' := by
  have hki : (k : Int) < (g.ins.length : Int) := by omega
  have n1 : (g.actors.length : Int) ≤ 1000000000000000 := by have := h.l1; omega
  have n2 : (g.edges.length : Int) ≤ 1000000000000000 := by have := h.l2; omega
  have n3 : (g.ins.length : Int) ≤ 1000000000000000 := by have := h.l3; omega
  have n4 : (g.outs.length : Int) ≤ 1000000000000000 := by have := h.l4; omega
  have ba := (Below.refl w.heap.size w).alloc (Nat.le_refl _) (.cells #[.string (str g.name), .slice a1 g.actors.length c1, .slice a2 g.edges.length c2, .slice a3 g.ins.length c3, .slice a4 g.outs.length c4] 26)
  have HG := hiddenG h
  have NM : Hid (∀ U, Below w.heap.size w U → Calls Tryz.prog 147 #[.agg #[.string (str g.name), .slice a1 g.actors.length c1, .slice a2 g.edges.length c2, .slice a3 g.ins.length c3, .slice a4 g.outs.length c4], .int .i64 (g.actors.length : Int), .int .i64 (k : Int), .int .i64 0, .string (str (nthP g.ins k).name)] U fun e w' => e = .returned (.bool (namedB g g.actors.length k 0 (nthP g.ins k).name)) ∧ Below U.heap.size U w') := fun U hb => named_any g a1 a2 a3 a4 c1 c2 c3 c4 g.actors.length k 0 _ U (HG.out.below hb) (Nat.le_refl _) (Nat.le_of_lt hk) (Nat.zero_le _)
  have RN : Hid (∀ U, Calls Tryz.prog 72 #[.string (str (nthP g.ins k).name)] U fun e w' => e = .returned (.bool (nameB (nthP g.ins k).name)) ∧ U = w') := fun U => rname_any _ U
  have TK : Hid (∀ U, Below w.heap.size w U → Calls Tryz.prog 151 #[.agg #[.string (str g.name), .slice a1 g.actors.length c1, .slice a2 g.edges.length c2, .slice a3 g.ins.length c3, .slice a4 g.outs.length c4], .int .i64 (g.edges.length : Int), .int .i64 (k : Int), .int .i64 (nthP g.ins k).actor, .int .i64 (nthP g.ins k).port] U fun e w' => e = .returned (.bool (inTk g g.edges.length k (nthP g.ins k).actor (nthP g.ins k).port)) ∧ Below U.heap.size U w') := fun U hb => inTaken_any g a1 a2 a3 a4 c1 c2 c3 c4 g.edges.length k _ _ U (HG.out.below hb) (Nat.le_refl _) (Nat.le_of_lt hk)
  have EN : Hid (∀ U, Below w.heap.size w U → Calls Tryz.prog 149 #[.agg #[.string (str g.name), .slice a1 g.actors.length c1, .slice a2 g.edges.length c2, .slice a3 g.ins.length c3, .slice a4 g.outs.length c4], .int .i64 (nthP g.ins k).actor, .int .i64 (nthP g.ins k).port, .bool false, .bool (inTk g g.edges.length k (nthP g.ins k).actor (nthP g.ins k).port)] U fun e w' => e = .returned (.int .i64 (inEnd g g.edges.length k (nthP g.ins k).actor (nthP g.ins k).port)) ∧ Below U.heap.size U w') := fun U hb => end8_any g a1 a2 a3 a4 c1 c2 c3 c4 _ _ false _ U (HG.out.below hb)
  have HC : Hid (inC g k = if nameB (nthP g.ins k).name = false then (82, 0) else if namedB g g.actors.length k 0 (nthP g.ins k).name = true then (83, 0) else (inEnd g g.edges.length k (nthP g.ins k).actor (nthP g.ins k).port, 2)) := by rfl
  have B0 := hiddenG (gbox_new w #[.string (str g.name), .slice a1 g.actors.length c1, .slice a2 g.edges.length c2, .slice a3 g.ins.length c3, .slice a4 g.outs.length c4])
  have y2 := B0.out.1.cell (k := 3) rfl
  obtain ⟨b, off, ha2, hc⟩ : ∃ b off, a3 = some ⟨b, off, none⟩ ∧ ∀ j, j < g.ins.length → _ := by
    rcases (h.below ba).I with e | q
    · rw [e] at hk; exact absurd hk (Nat.not_lt_zero _)
    · exact q
  obtain ⟨x0, x1, x2⟩ := hc k hk
  rw [ha2] at y2
  clear hc ba h
  generalize namedB g g.actors.length k 0 (nthP g.ins k).name = q2 at *
  generalize inEnd g g.edges.length k (nthP g.ins k).actor (nthP g.ins k).port = ev at *
  generalize inTk g g.edges.length k (nthP g.ins k).actor (nthP g.ins k).port = tk at *
  generalize nthP g.ins k = E at *
  obtain ⟨en, ac, po⟩ := E
  simp only at x0 x1 x2 NM RN TK EN HC
  generalize nameB en = q1 at *
  have bv := B0.out.2.trans (((Below.refl (w.alloc (.cells #[.string (str g.name), .slice a1 g.actors.length c1, .slice a2 g.edges.length c2, .slice a3 g.ins.length c3, .slice a4 g.outs.length c4] 26)).heap.size (w.alloc (.cells #[.string (str g.name), .slice a1 g.actors.length c1, .slice a2 g.edges.length c2, .slice a3 g.ins.length c3, .slice a4 g.outs.length c4] 26))).alloc (Nat.le_refl _) (.cells #[.string (str en), .int .i64 ac, .int .i64 po] 81)).mono B0.out.2.size)
  have GB := hiddenG (B0.out.1.below ((Below.refl (w.alloc (.cells #[.string (str g.name), .slice a1 g.actors.length c1, .slice a2 g.edges.length c2, .slice a3 g.ins.length c3, .slice a4 g.outs.length c4] 26)).heap.size (w.alloc (.cells #[.string (str g.name), .slice a1 g.actors.length c1, .slice a2 g.edges.length c2, .slice a3 g.ins.length c3, .slice a4 g.outs.length c4] 26))).alloc (Nat.le_refl _) (.cells #[.string (str en), .int .i64 ac, .int .i64 po] 81)))
  have BX : Hid (BlkA 81 (w.heap.size + 1) ((w.alloc (.cells #[.string (str g.name), .slice a1 g.actors.length c1, .slice a2 g.edges.length c2, .slice a3 g.ins.length c3, .slice a4 g.outs.length c4] 26)).alloc (.cells #[.string (str en), .int .i64 ac, .int .i64 po] 81)) #[.string (str en), .int .i64 ac, .int .i64 po]) := by
    have q := blkA_new 81 (w.alloc (.cells #[.string (str g.name), .slice a1 g.actors.length c1, .slice a2 g.edges.length c2, .slice a3 g.ins.length c3, .slice a4 g.outs.length c4] 26)) #[.string (str en), .int .i64 ac, .int .i64 po]
    rw [World.size_alloc] at q
    exact q
  have BV := hiddenG bv
  clear bv
  subst ha2
  go_enter Tryz.func103, Tryz.ntmps103
  go_upto_region 2 with fail
  generalize (w.alloc (.cells #[.string (str g.name), .slice a1 g.actors.length c1, .slice a2 g.edges.length c2, .slice (some ⟨b, off, none⟩) g.ins.length c3, .slice a4 g.outs.length c4] 26)).alloc (.cells #[.string (str en), .int .i64 ac, .int .i64 po] 81) = V at *
  have gx0 : V.cell? ⟨w.heap.size, 0, none⟩ = some (.string (str g.name)) := (GB.out).cell rfl
  have gx1 : V.cell? ⟨w.heap.size, 1, none⟩ = some (.slice a1 g.actors.length c1) := (GB.out).cell rfl
  have gx2 : V.cell? ⟨w.heap.size, 2, none⟩ = some (.slice a2 g.edges.length c2) := (GB.out).cell rfl
  have gx3 : V.cell? ⟨w.heap.size, 3, none⟩ = some (.slice (some ⟨b, off, none⟩) g.ins.length c3) := (GB.out).cell rfl
  have gx4 : V.cell? ⟨w.heap.size, 4, none⟩ = some (.slice a4 g.outs.length c4) := (GB.out).cell rfl
  have bb0 := BX.out.cell (k := 0) rfl
  have bb1 := BX.out.cell (k := 1) rfl
  have bb2 := BX.out.cell (k := 2) rfl
  clear x0 x1 x2 y2
  cases q1
  · go_wp2_with (go_at_call 72; (with_reducible refine (RN.out _).mono ?_); rintro e w' ⟨rfl, rfl⟩)
    refine bodyPost_ret (v := .tuple #[.int .i64 82, .int .i64 0]) (by simp [results, Tryz.results103, go_sem]) rfl ?_
    exact ⟨by rw [HC.out]; rfl, BV.out⟩
  · cases q2
    · go_upto_region 6 with (first
        | (go_at_call 147; (with_reducible refine (NM.out _ BV.out).mono ?_); rintro e w2 ⟨rfl, b2⟩; have B2 := hiddenG b2; clear b2)
        | (go_at_call 72; (with_reducible refine (RN.out _).mono ?_); rintro e w' ⟨rfl, rfl⟩))
      have BW := hiddenG (BV.out.trans (B2.out.mono BV.out.size))
      have gy0 := cell_keep B2.out gx0
      have gy1 := cell_keep B2.out gx1
      have gy2 := cell_keep B2.out gx2
      have gy3 := cell_keep B2.out gx3
      have gy4 := cell_keep B2.out gx4
      have bc0 := cell_keep B2.out bb0
      have bc1 := cell_keep B2.out bb1
      have bc2 := cell_keep B2.out bb2
      have TKV : Hid (∀ U, Below w2.heap.size w2 U → Calls Tryz.prog 151 #[.agg #[.string (str g.name), .slice a1 g.actors.length c1, .slice a2 g.edges.length c2, .slice (some ⟨b, off, none⟩) g.ins.length c3, .slice a4 g.outs.length c4], .int .i64 (g.edges.length : Int), .int .i64 (k : Int), .int .i64 ac, .int .i64 po] U fun e w' => e = .returned (.bool tk) ∧ Below U.heap.size U w') := fun U hb => TK.out U (BW.out.trans (hb.mono BW.out.size))
      have ENV : Hid (∀ U, Below w2.heap.size w2 U → Calls Tryz.prog 149 #[.agg #[.string (str g.name), .slice a1 g.actors.length c1, .slice a2 g.edges.length c2, .slice (some ⟨b, off, none⟩) g.ins.length c3, .slice a4 g.outs.length c4], .int .i64 ac, .int .i64 po, .bool false, .bool tk] U fun e w' => e = .returned (.int .i64 ev) ∧ Below U.heap.size U w') := fun U hb => EN.out U (BW.out.trans (hb.mono BW.out.size))
      clear gx0 gx1 gx2 gx3 gx4 bb0 bb1 bb2
      refine wp_region_said 16 (fun i u v => match i with
          | 0 => v = .agg #[.string (str g.name), .slice a1 g.actors.length c1, .slice a2 g.edges.length c2, .slice (some ⟨b, off, none⟩) g.ins.length c3, .slice a4 g.outs.length c4]
          | 1 => v = .pointer (some ⟨w.heap.size + 1, 1, none⟩)
          | 2 => v = .int .i64 ac
          | 3 => v = .pointer (some ⟨w.heap.size + 1, 2, none⟩)
          | 4 => v = .int .i64 po
          | 5 => v = .agg #[.string (str g.name), .slice a1 g.actors.length c1, .slice a2 g.edges.length c2, .slice (some ⟨b, off, none⟩) g.ins.length c3, .slice a4 g.outs.length c4]
          | 6 => v = .pointer (some ⟨w.heap.size, 2, none⟩)
          | 7 => v = .slice a2 g.edges.length c2
          | 8 => v = .int .i64 (g.edges.length : Int)
          | 9 => v = .int .i64 (k : Int)
          | 10 => v = .pointer (some ⟨w.heap.size + 1, 1, none⟩)
          | 11 => v = .int .i64 ac
          | 12 => v = .pointer (some ⟨w.heap.size + 1, 2, none⟩)
          | 13 => v = .int .i64 po
          | 14 => v = .bool tk
          | 15 => v = .int .i64 ev
          | _ => True) (by kernel_rfl) (by kernel_rfl) (by kernel_rfl) (by kernel_rfl) ?_ ?_ ?_
      · intro i w v w' h hb
        match i, h with
        | 0, h => exact h
        | 1, h => exact h
        | 2, h => exact h
        | 3, h => exact h
        | 4, h => exact h
        | 5, h => exact h
        | 6, h => exact h
        | 7, h => exact h
        | 8, h => exact h
        | 9, h => exact h
        | 10, h => exact h
        | 11, h => exact h
        | 12, h => exact h
        | 13, h => exact h
        | 14, h => exact h
        | 15, h => exact h
        | _ + 16, _ => trivial
      · intro i o ρ w' hi ho hb hc hf hfr hdep
        have g0 := cell_keep hb gy0
        have g1 := cell_keep hb gy1
        have g2 := cell_keep hb gy2
        have g3 := cell_keep hb gy3
        have g4 := cell_keep hb gy4
        have b0 := cell_keep hb bc0
        have b1 := cell_keep hb bc1
        have b2 := cell_keep hb bc2
        match i, hi with
        | 0, _ =>
          simp only [gTA, gCZ, gSI] at ho
          subst ho
          have ts : ρ (.tmp 2) = .pointer (some ⟨w.heap.size, 0, none⟩) := hfr 2 (by kernel_rfl)
          simp [go_sem, ts, g0, g1, g2, g3, g4]
          exact ⟨Below.refl _ _, rfl⟩
        | 1, _ =>
          simp only [gTA, gCZ, gCS, gSI] at ho
          subst ho
          have ts : ρ (.tmp 6) = .pointer (some ⟨w.heap.size + 1, 0, none⟩) := hfr 6 (by kernel_rfl)
          simp [go_sem, ts]
          exact ⟨Below.refl _ _, rfl⟩
        | 2, _ =>
          simp only [gTA, gCZ, gCS, gSI] at ho
          subst ho
          have ts : ρ (.tmp 25) = .pointer (some ⟨w.heap.size + 1, 1, none⟩) := hdep 1 25 (by kernel_rfl) (by kernel_rfl)
          simp [go_sem, ts, b1]
          exact ⟨Below.refl _ _, rfl⟩
        | 3, _ =>
          simp only [gTA, gCZ, gCS, gSI] at ho
          subst ho
          have ts : ρ (.tmp 6) = .pointer (some ⟨w.heap.size + 1, 0, none⟩) := hfr 6 (by kernel_rfl)
          simp [go_sem, ts]
          exact ⟨Below.refl _ _, rfl⟩
        | 4, _ =>
          simp only [gTA, gCZ, gCS, gSI] at ho
          subst ho
          have ts : ρ (.tmp 27) = .pointer (some ⟨w.heap.size + 1, 2, none⟩) := hdep 3 27 (by kernel_rfl) (by kernel_rfl)
          simp [go_sem, ts, b2]
          exact ⟨Below.refl _ _, rfl⟩
        | 5, _ =>
          simp only [gTA, gCZ, gCS, gSI] at ho
          subst ho
          have ts : ρ (.tmp 2) = .pointer (some ⟨w.heap.size, 0, none⟩) := hfr 2 (by kernel_rfl)
          simp [go_sem, ts, g0, g1, g2, g3, g4]
          exact ⟨Below.refl _ _, rfl⟩
        | 6, _ =>
          simp only [gTA, gCZ, gCS, gSI] at ho
          subst ho
          have ts : ρ (.tmp 2) = .pointer (some ⟨w.heap.size, 0, none⟩) := hfr 2 (by kernel_rfl)
          simp [go_sem, ts]
          exact ⟨Below.refl _ _, rfl⟩
        | 7, _ =>
          simp only [gTA, gCZ, gCS, gSI] at ho
          subst ho
          have ts : ρ (.tmp 30) = .pointer (some ⟨w.heap.size, 2, none⟩) := hdep 6 30 (by kernel_rfl) (by kernel_rfl)
          simp [go_sem, ts, g2]
          exact ⟨Below.refl _ _, rfl⟩
        | 8, _ =>
          simp only [gTA, gCZ, gCS, gSI] at ho
          subst ho
          have ts : ρ (.tmp 31) = .slice a2 g.edges.length c2 := hdep 7 31 (by kernel_rfl) (by kernel_rfl)
          simp [go_sem, ts]
          exact ⟨Below.refl _ _, rfl⟩
        | 9, _ =>
          simp only [gTA, gCZ, gCS, gSI] at ho
          subst ho
          have ts : ρ (.tmp 1) = .int .i64 (k : Int) := hfr 1 (by kernel_rfl)
          simp [go_sem, ts]
          exact ⟨Below.refl _ _, rfl⟩
        | 10, _ =>
          simp only [gTA, gCZ, gCS, gSI] at ho
          subst ho
          have ts : ρ (.tmp 6) = .pointer (some ⟨w.heap.size + 1, 0, none⟩) := hfr 6 (by kernel_rfl)
          simp [go_sem, ts]
          exact ⟨Below.refl _ _, rfl⟩
        | 11, _ =>
          simp only [gTA, gCZ, gCS, gSI] at ho
          subst ho
          have ts : ρ (.tmp 34) = .pointer (some ⟨w.heap.size + 1, 1, none⟩) := hdep 10 34 (by kernel_rfl) (by kernel_rfl)
          simp [go_sem, ts, b1]
          exact ⟨Below.refl _ _, rfl⟩
        | 12, _ =>
          simp only [gTA, gCZ, gCS, gSI] at ho
          subst ho
          have ts : ρ (.tmp 6) = .pointer (some ⟨w.heap.size + 1, 0, none⟩) := hfr 6 (by kernel_rfl)
          simp [go_sem, ts]
          exact ⟨Below.refl _ _, rfl⟩
        | 13, _ =>
          simp only [gTA, gCZ, gCS, gSI] at ho
          subst ho
          have ts : ρ (.tmp 36) = .pointer (some ⟨w.heap.size + 1, 2, none⟩) := hdep 12 36 (by kernel_rfl) (by kernel_rfl)
          simp [go_sem, ts, b2]
          exact ⟨Below.refl _ _, rfl⟩
        | 14, _ =>
          simp only [gTA, gCZ, gCS, gSI] at ho
          subst ho
          have t0 : ρ (.tmp 29) = .agg #[.string (str g.name), .slice a1 g.actors.length c1, .slice a2 g.edges.length c2, .slice (some ⟨b, off, none⟩) g.ins.length c3, .slice a4 g.outs.length c4] := hdep 5 29 (by kernel_rfl) (by kernel_rfl)
          have t1 : ρ (.tmp 32) = .int .i64 (g.edges.length : Int) := hdep 8 32 (by kernel_rfl) (by kernel_rfl)
          have t2 : ρ (.tmp 33) = .int .i64 (k : Int) := hdep 9 33 (by kernel_rfl) (by kernel_rfl)
          have t3 : ρ (.tmp 35) = .int .i64 ac := hdep 11 35 (by kernel_rfl) (by kernel_rfl)
          have t4 : ρ (.tmp 37) = .int .i64 po := hdep 13 37 (by kernel_rfl) (by kernel_rfl)
          simp [go_sem, t0, t1, t2, t3, t4, hf]
          exact ⟨rfl, (TKV.out w' hb).mono fun e w'' hh => ⟨_, hh.1, hh.2, rfl⟩⟩
        | 15, _ =>
          simp only [gTA, gCZ, gCS, gSI] at ho
          subst ho
          have t0 : ρ (.tmp 24) = .agg #[.string (str g.name), .slice a1 g.actors.length c1, .slice a2 g.edges.length c2, .slice (some ⟨b, off, none⟩) g.ins.length c3, .slice a4 g.outs.length c4] := hdep 0 24 (by kernel_rfl) (by kernel_rfl)
          have t1 : ρ (.tmp 26) = .int .i64 ac := hdep 2 26 (by kernel_rfl) (by kernel_rfl)
          have t2 : ρ (.tmp 28) = .int .i64 po := hdep 4 28 (by kernel_rfl) (by kernel_rfl)
          have t3 : ρ (.tmp 38) = .bool tk := hdep 14 38 (by kernel_rfl) (by kernel_rfl)
          simp [go_sem, t0, t1, t2, t3, hf, hc]
          exact ⟨rfl, (ENV.out w' hb).mono fun e w'' hh => ⟨_, hh.1, hh.2, rfl⟩⟩
        | k + 16, h => exact absurd h (by omega)
      · intro V9 w9 q9 hS
        have e0 : V9 0 = .agg #[.string (str g.name), .slice a1 g.actors.length c1, .slice a2 g.edges.length c2, .slice (some ⟨b, off, none⟩) g.ins.length c3, .slice a4 g.outs.length c4] := hS 0 (by decide)
        have e1 : V9 1 = .pointer (some ⟨w.heap.size + 1, 1, none⟩) := hS 1 (by decide)
        have e2 : V9 2 = .int .i64 ac := hS 2 (by decide)
        have e3 : V9 3 = .pointer (some ⟨w.heap.size + 1, 2, none⟩) := hS 3 (by decide)
        have e4 : V9 4 = .int .i64 po := hS 4 (by decide)
        have e5 : V9 5 = .agg #[.string (str g.name), .slice a1 g.actors.length c1, .slice a2 g.edges.length c2, .slice (some ⟨b, off, none⟩) g.ins.length c3, .slice a4 g.outs.length c4] := hS 5 (by decide)
        have e6 : V9 6 = .pointer (some ⟨w.heap.size, 2, none⟩) := hS 6 (by decide)
        have e7 : V9 7 = .slice a2 g.edges.length c2 := hS 7 (by decide)
        have e8 : V9 8 = .int .i64 (g.edges.length : Int) := hS 8 (by decide)
        have e9 : V9 9 = .int .i64 (k : Int) := hS 9 (by decide)
        have e10 : V9 10 = .pointer (some ⟨w.heap.size + 1, 1, none⟩) := hS 10 (by decide)
        have e11 : V9 11 = .int .i64 ac := hS 11 (by decide)
        have e12 : V9 12 = .pointer (some ⟨w.heap.size + 1, 2, none⟩) := hS 12 (by decide)
        have e13 : V9 13 = .int .i64 po := hS 13 (by decide)
        have e14 : V9 14 = .bool tk := hS 14 (by decide)
        have e15 : V9 15 = .int .i64 ev := hS 15 (by decide)
        simp only [List.drop_succ_cons, List.drop_zero, List.take_succ_cons, List.take_zero, puts, e0, e1, e2, e3, e4, e5, e6, e7, e8, e9, e10, e11, e12, e13, e14, e15]
        clear hS e0 e1 e2 e3 e4 e5 e6 e7 e8 e9 e10 e11 e12 e13 e14 e15 V9
        simp only [Act.put, List.setIfInBounds_toArray, List.set_cons_zero, List.set_cons_succ]
        have B8 := hiddenG (BW.out.trans (q9.mono BW.out.size))
        clear q9
        go_wp2
        refine bodyPost_ret (v := .tuple #[.int .i64 ev, .int .i64 2]) (by simp [results, Tryz.results103, go_sem]) rfl ?_
        exact ⟨by rw [HC.out]; rfl, B8.out⟩
    · go_wp2_with (first
        | (go_at_call 147; (with_reducible refine (NM.out _ BV.out).mono ?_); rintro e w2 ⟨rfl, b2⟩; have B2 := hiddenG b2; clear b2)
        | (go_at_call 72; (with_reducible refine (RN.out _).mono ?_); rintro e w' ⟨rfl, rfl⟩))
      refine bodyPost_ret (v := .tuple #[.int .i64 83, .int .i64 0]) (by simp [results, Tryz.results103, go_sem]) rfl ?_
      exact ⟨by rw [HC.out]; rfl, BV.out.trans (B2.out.mono BV.out.size)⟩
set_option maxRecDepth 100000 in
set_option maxHeartbeats 8000000 in
theorem out8_any (g : GG) (a1 a2 a3 a4 : Option Addr) (c1 c2 c3 c4 : Nat) (k : Nat) (w : World) (h : GrG w a1 a2 a3 a4 g) (hk : k < g.outs.length) :
    Calls Tryz.prog 104 #[.agg #[.string (str g.name), .slice a1 g.actors.length c1, .slice a2 g.edges.length c2, .slice a3 g.ins.length c3, .slice a4 g.outs.length c4], .int .i64 (k : Int)] w fun e w' => e = .returned (.tuple #[.int .i64 (outC g k).1, .int .i64 ((outC g k).2 : Int)]) ∧ Below w.heap.size w w' := by
  have hki : (k : Int) < (g.outs.length : Int) := by omega
  have n1 : (g.actors.length : Int) ≤ 1000000000000000 := by have := h.l1; omega
  have n2 : (g.edges.length : Int) ≤ 1000000000000000 := by have := h.l2; omega
  have n3 : (g.ins.length : Int) ≤ 1000000000000000 := by have := h.l3; omega
  have n4 : (g.outs.length : Int) ≤ 1000000000000000 := by have := h.l4; omega
  have ba := (Below.refl w.heap.size w).alloc (Nat.le_refl _) (.cells #[.string (str g.name), .slice a1 g.actors.length c1, .slice a2 g.edges.length c2, .slice a3 g.ins.length c3, .slice a4 g.outs.length c4] 26)
  have HG := hiddenG h
  have NM : Hid (∀ U, Below w.heap.size w U → Calls Tryz.prog 147 #[.agg #[.string (str g.name), .slice a1 g.actors.length c1, .slice a2 g.edges.length c2, .slice a3 g.ins.length c3, .slice a4 g.outs.length c4], .int .i64 (g.actors.length : Int), .int .i64 (g.ins.length : Int), .int .i64 (k : Int), .string (str (nthP g.outs k).name)] U fun e w' => e = .returned (.bool (namedB g g.actors.length g.ins.length k (nthP g.outs k).name)) ∧ Below U.heap.size U w') := fun U hb => named_any g a1 a2 a3 a4 c1 c2 c3 c4 g.actors.length g.ins.length k _ U (HG.out.below hb) (Nat.le_refl _) (Nat.le_refl _) (Nat.le_of_lt hk)
  have RN : Hid (∀ U, Calls Tryz.prog 72 #[.string (str (nthP g.outs k).name)] U fun e w' => e = .returned (.bool (nameB (nthP g.outs k).name)) ∧ U = w') := fun U => rname_any _ U
  have TK : Hid (∀ U, Below w.heap.size w U → Calls Tryz.prog 150 #[.agg #[.string (str g.name), .slice a1 g.actors.length c1, .slice a2 g.edges.length c2, .slice a3 g.ins.length c3, .slice a4 g.outs.length c4], .int .i64 (g.edges.length : Int), .int .i64 (k : Int), .int .i64 (nthP g.outs k).actor, .int .i64 (nthP g.outs k).port] U fun e w' => e = .returned (.bool (outTk g g.edges.length k (nthP g.outs k).actor (nthP g.outs k).port)) ∧ Below U.heap.size U w') := fun U hb => outTaken_any g a1 a2 a3 a4 c1 c2 c3 c4 g.edges.length k _ _ U (HG.out.below hb) (Nat.le_refl _) (Nat.le_of_lt hk)
  have EN : Hid (∀ U, Below w.heap.size w U → Calls Tryz.prog 149 #[.agg #[.string (str g.name), .slice a1 g.actors.length c1, .slice a2 g.edges.length c2, .slice a3 g.ins.length c3, .slice a4 g.outs.length c4], .int .i64 (nthP g.outs k).actor, .int .i64 (nthP g.outs k).port, .bool true, .bool (outTk g g.edges.length k (nthP g.outs k).actor (nthP g.outs k).port)] U fun e w' => e = .returned (.int .i64 (outEnd g g.edges.length k (nthP g.outs k).actor (nthP g.outs k).port)) ∧ Below U.heap.size U w') := fun U hb => end8_any g a1 a2 a3 a4 c1 c2 c3 c4 _ _ true _ U (HG.out.below hb)
  have HC : Hid (outC g k = if nameB (nthP g.outs k).name = false then (82, 0) else if namedB g g.actors.length g.ins.length k (nthP g.outs k).name = true then (83, 0) else (outEnd g g.edges.length k (nthP g.outs k).actor (nthP g.outs k).port, 1)) := by rfl
  have B0 := hiddenG (gbox_new w #[.string (str g.name), .slice a1 g.actors.length c1, .slice a2 g.edges.length c2, .slice a3 g.ins.length c3, .slice a4 g.outs.length c4])
  have y2 := B0.out.1.cell (k := 4) rfl
  obtain ⟨b, off, ha2, hc⟩ : ∃ b off, a4 = some ⟨b, off, none⟩ ∧ ∀ j, j < g.outs.length → _ := by
    rcases (h.below ba).O with e | q
    · rw [e] at hk; exact absurd hk (Nat.not_lt_zero _)
    · exact q
  obtain ⟨x0, x1, x2⟩ := hc k hk
  rw [ha2] at y2
  clear hc ba h
  generalize namedB g g.actors.length g.ins.length k (nthP g.outs k).name = q2 at *
  generalize outEnd g g.edges.length k (nthP g.outs k).actor (nthP g.outs k).port = ev at *
  generalize outTk g g.edges.length k (nthP g.outs k).actor (nthP g.outs k).port = tk at *
  generalize nthP g.outs k = E at *
  obtain ⟨en, ac, po⟩ := E
  simp only at x0 x1 x2 NM RN TK EN HC
  generalize nameB en = q1 at *
  have bv := B0.out.2.trans (((Below.refl (w.alloc (.cells #[.string (str g.name), .slice a1 g.actors.length c1, .slice a2 g.edges.length c2, .slice a3 g.ins.length c3, .slice a4 g.outs.length c4] 26)).heap.size (w.alloc (.cells #[.string (str g.name), .slice a1 g.actors.length c1, .slice a2 g.edges.length c2, .slice a3 g.ins.length c3, .slice a4 g.outs.length c4] 26))).alloc (Nat.le_refl _) (.cells #[.string (str en), .int .i64 ac, .int .i64 po] 81)).mono B0.out.2.size)
  have GB := hiddenG (B0.out.1.below ((Below.refl (w.alloc (.cells #[.string (str g.name), .slice a1 g.actors.length c1, .slice a2 g.edges.length c2, .slice a3 g.ins.length c3, .slice a4 g.outs.length c4] 26)).heap.size (w.alloc (.cells #[.string (str g.name), .slice a1 g.actors.length c1, .slice a2 g.edges.length c2, .slice a3 g.ins.length c3, .slice a4 g.outs.length c4] 26))).alloc (Nat.le_refl _) (.cells #[.string (str en), .int .i64 ac, .int .i64 po] 81)))
  have BX : Hid (BlkA 81 (w.heap.size + 1) ((w.alloc (.cells #[.string (str g.name), .slice a1 g.actors.length c1, .slice a2 g.edges.length c2, .slice a3 g.ins.length c3, .slice a4 g.outs.length c4] 26)).alloc (.cells #[.string (str en), .int .i64 ac, .int .i64 po] 81)) #[.string (str en), .int .i64 ac, .int .i64 po]) := by
    have q := blkA_new 81 (w.alloc (.cells #[.string (str g.name), .slice a1 g.actors.length c1, .slice a2 g.edges.length c2, .slice a3 g.ins.length c3, .slice a4 g.outs.length c4] 26)) #[.string (str en), .int .i64 ac, .int .i64 po]
    rw [World.size_alloc] at q
    exact q
  have BV := hiddenG bv
  clear bv
  subst ha2
  go_enter Tryz.func104, Tryz.ntmps104
  go_upto_region 2 with fail
  generalize (w.alloc (.cells #[.string (str g.name), .slice a1 g.actors.length c1, .slice a2 g.edges.length c2, .slice a3 g.ins.length c3, .slice (some ⟨b, off, none⟩) g.outs.length c4] 26)).alloc (.cells #[.string (str en), .int .i64 ac, .int .i64 po] 81) = V at *
  have gx0 : V.cell? ⟨w.heap.size, 0, none⟩ = some (.string (str g.name)) := (GB.out).cell rfl
  have gx1 : V.cell? ⟨w.heap.size, 1, none⟩ = some (.slice a1 g.actors.length c1) := (GB.out).cell rfl
  have gx2 : V.cell? ⟨w.heap.size, 2, none⟩ = some (.slice a2 g.edges.length c2) := (GB.out).cell rfl
  have gx3 : V.cell? ⟨w.heap.size, 3, none⟩ = some (.slice a3 g.ins.length c3) := (GB.out).cell rfl
  have gx4 : V.cell? ⟨w.heap.size, 4, none⟩ = some (.slice (some ⟨b, off, none⟩) g.outs.length c4) := (GB.out).cell rfl
  have bb0 := BX.out.cell (k := 0) rfl
  have bb1 := BX.out.cell (k := 1) rfl
  have bb2 := BX.out.cell (k := 2) rfl
  clear x0 x1 x2 y2
  cases q1
  · go_wp2_with (go_at_call 72; (with_reducible refine (RN.out _).mono ?_); rintro e w' ⟨rfl, rfl⟩)
    refine bodyPost_ret (v := .tuple #[.int .i64 82, .int .i64 0]) (by simp [results, Tryz.results104, go_sem]) rfl ?_
    exact ⟨by rw [HC.out]; rfl, BV.out⟩
  · cases q2
    · go_upto_region 6 with (first
        | (go_at_call 147; (with_reducible refine (NM.out _ BV.out).mono ?_); rintro e w2 ⟨rfl, b2⟩; have B2 := hiddenG b2; clear b2)
        | (go_at_call 72; (with_reducible refine (RN.out _).mono ?_); rintro e w' ⟨rfl, rfl⟩))
      have BW := hiddenG (BV.out.trans (B2.out.mono BV.out.size))
      have gy0 := cell_keep B2.out gx0
      have gy1 := cell_keep B2.out gx1
      have gy2 := cell_keep B2.out gx2
      have gy3 := cell_keep B2.out gx3
      have gy4 := cell_keep B2.out gx4
      have bc0 := cell_keep B2.out bb0
      have bc1 := cell_keep B2.out bb1
      have bc2 := cell_keep B2.out bb2
      have TKV : Hid (∀ U, Below w2.heap.size w2 U → Calls Tryz.prog 150 #[.agg #[.string (str g.name), .slice a1 g.actors.length c1, .slice a2 g.edges.length c2, .slice a3 g.ins.length c3, .slice (some ⟨b, off, none⟩) g.outs.length c4], .int .i64 (g.edges.length : Int), .int .i64 (k : Int), .int .i64 ac, .int .i64 po] U fun e w' => e = .returned (.bool tk) ∧ Below U.heap.size U w') := fun U hb => TK.out U (BW.out.trans (hb.mono BW.out.size))
      have ENV : Hid (∀ U, Below w2.heap.size w2 U → Calls Tryz.prog 149 #[.agg #[.string (str g.name), .slice a1 g.actors.length c1, .slice a2 g.edges.length c2, .slice a3 g.ins.length c3, .slice (some ⟨b, off, none⟩) g.outs.length c4], .int .i64 ac, .int .i64 po, .bool true, .bool tk] U fun e w' => e = .returned (.int .i64 ev) ∧ Below U.heap.size U w') := fun U hb => EN.out U (BW.out.trans (hb.mono BW.out.size))
      clear gx0 gx1 gx2 gx3 gx4 bb0 bb1 bb2
      refine wp_region_said 16 (fun i u v => match i with
          | 0 => v = .agg #[.string (str g.name), .slice a1 g.actors.length c1, .slice a2 g.edges.length c2, .slice a3 g.ins.length c3, .slice (some ⟨b, off, none⟩) g.outs.length c4]
          | 1 => v = .pointer (some ⟨w.heap.size + 1, 1, none⟩)
          | 2 => v = .int .i64 ac
          | 3 => v = .pointer (some ⟨w.heap.size + 1, 2, none⟩)
          | 4 => v = .int .i64 po
          | 5 => v = .agg #[.string (str g.name), .slice a1 g.actors.length c1, .slice a2 g.edges.length c2, .slice a3 g.ins.length c3, .slice (some ⟨b, off, none⟩) g.outs.length c4]
          | 6 => v = .pointer (some ⟨w.heap.size, 2, none⟩)
          | 7 => v = .slice a2 g.edges.length c2
          | 8 => v = .int .i64 (g.edges.length : Int)
          | 9 => v = .int .i64 (k : Int)
          | 10 => v = .pointer (some ⟨w.heap.size + 1, 1, none⟩)
          | 11 => v = .int .i64 ac
          | 12 => v = .pointer (some ⟨w.heap.size + 1, 2, none⟩)
          | 13 => v = .int .i64 po
          | 14 => v = .bool tk
          | 15 => v = .int .i64 ev
          | _ => True) (by kernel_rfl) (by kernel_rfl) (by kernel_rfl) (by kernel_rfl) ?_ ?_ ?_
      · intro i w v w' h hb
        match i, h with
        | 0, h => exact h
        | 1, h => exact h
        | 2, h => exact h
        | 3, h => exact h
        | 4, h => exact h
        | 5, h => exact h
        | 6, h => exact h
        | 7, h => exact h
        | 8, h => exact h
        | 9, h => exact h
        | 10, h => exact h
        | 11, h => exact h
        | 12, h => exact h
        | 13, h => exact h
        | 14, h => exact h
        | 15, h => exact h
        | _ + 16, _ => trivial
      · intro i o ρ w' hi ho hb hc hf hfr hdep
        have g0 := cell_keep hb gy0
        have g1 := cell_keep hb gy1
        have g2 := cell_keep hb gy2
        have g3 := cell_keep hb gy3
        have g4 := cell_keep hb gy4
        have b0 := cell_keep hb bc0
        have b1 := cell_keep hb bc1
        have b2 := cell_keep hb bc2
        match i, hi with
        | 0, _ =>
          simp only [gTA, gCZ, gSI] at ho
          subst ho
          have ts : ρ (.tmp 2) = .pointer (some ⟨w.heap.size, 0, none⟩) := hfr 2 (by kernel_rfl)
          simp [go_sem, ts, g0, g1, g2, g3, g4]
          exact ⟨Below.refl _ _, rfl⟩
        | 1, _ =>
          simp only [gTA, gCZ, gCS, gSI] at ho
          subst ho
          have ts : ρ (.tmp 6) = .pointer (some ⟨w.heap.size + 1, 0, none⟩) := hfr 6 (by kernel_rfl)
          simp [go_sem, ts]
          exact ⟨Below.refl _ _, rfl⟩
        | 2, _ =>
          simp only [gTA, gCZ, gCS, gSI] at ho
          subst ho
          have ts : ρ (.tmp 28) = .pointer (some ⟨w.heap.size + 1, 1, none⟩) := hdep 1 28 (by kernel_rfl) (by kernel_rfl)
          simp [go_sem, ts, b1]
          exact ⟨Below.refl _ _, rfl⟩
        | 3, _ =>
          simp only [gTA, gCZ, gCS, gSI] at ho
          subst ho
          have ts : ρ (.tmp 6) = .pointer (some ⟨w.heap.size + 1, 0, none⟩) := hfr 6 (by kernel_rfl)
          simp [go_sem, ts]
          exact ⟨Below.refl _ _, rfl⟩
        | 4, _ =>
          simp only [gTA, gCZ, gCS, gSI] at ho
          subst ho
          have ts : ρ (.tmp 30) = .pointer (some ⟨w.heap.size + 1, 2, none⟩) := hdep 3 30 (by kernel_rfl) (by kernel_rfl)
          simp [go_sem, ts, b2]
          exact ⟨Below.refl _ _, rfl⟩
        | 5, _ =>
          simp only [gTA, gCZ, gCS, gSI] at ho
          subst ho
          have ts : ρ (.tmp 2) = .pointer (some ⟨w.heap.size, 0, none⟩) := hfr 2 (by kernel_rfl)
          simp [go_sem, ts, g0, g1, g2, g3, g4]
          exact ⟨Below.refl _ _, rfl⟩
        | 6, _ =>
          simp only [gTA, gCZ, gCS, gSI] at ho
          subst ho
          have ts : ρ (.tmp 2) = .pointer (some ⟨w.heap.size, 0, none⟩) := hfr 2 (by kernel_rfl)
          simp [go_sem, ts]
          exact ⟨Below.refl _ _, rfl⟩
        | 7, _ =>
          simp only [gTA, gCZ, gCS, gSI] at ho
          subst ho
          have ts : ρ (.tmp 33) = .pointer (some ⟨w.heap.size, 2, none⟩) := hdep 6 33 (by kernel_rfl) (by kernel_rfl)
          simp [go_sem, ts, g2]
          exact ⟨Below.refl _ _, rfl⟩
        | 8, _ =>
          simp only [gTA, gCZ, gCS, gSI] at ho
          subst ho
          have ts : ρ (.tmp 34) = .slice a2 g.edges.length c2 := hdep 7 34 (by kernel_rfl) (by kernel_rfl)
          simp [go_sem, ts]
          exact ⟨Below.refl _ _, rfl⟩
        | 9, _ =>
          simp only [gTA, gCZ, gCS, gSI] at ho
          subst ho
          have ts : ρ (.tmp 1) = .int .i64 (k : Int) := hfr 1 (by kernel_rfl)
          simp [go_sem, ts]
          exact ⟨Below.refl _ _, rfl⟩
        | 10, _ =>
          simp only [gTA, gCZ, gCS, gSI] at ho
          subst ho
          have ts : ρ (.tmp 6) = .pointer (some ⟨w.heap.size + 1, 0, none⟩) := hfr 6 (by kernel_rfl)
          simp [go_sem, ts]
          exact ⟨Below.refl _ _, rfl⟩
        | 11, _ =>
          simp only [gTA, gCZ, gCS, gSI] at ho
          subst ho
          have ts : ρ (.tmp 37) = .pointer (some ⟨w.heap.size + 1, 1, none⟩) := hdep 10 37 (by kernel_rfl) (by kernel_rfl)
          simp [go_sem, ts, b1]
          exact ⟨Below.refl _ _, rfl⟩
        | 12, _ =>
          simp only [gTA, gCZ, gCS, gSI] at ho
          subst ho
          have ts : ρ (.tmp 6) = .pointer (some ⟨w.heap.size + 1, 0, none⟩) := hfr 6 (by kernel_rfl)
          simp [go_sem, ts]
          exact ⟨Below.refl _ _, rfl⟩
        | 13, _ =>
          simp only [gTA, gCZ, gCS, gSI] at ho
          subst ho
          have ts : ρ (.tmp 39) = .pointer (some ⟨w.heap.size + 1, 2, none⟩) := hdep 12 39 (by kernel_rfl) (by kernel_rfl)
          simp [go_sem, ts, b2]
          exact ⟨Below.refl _ _, rfl⟩
        | 14, _ =>
          simp only [gTA, gCZ, gCS, gSI] at ho
          subst ho
          have t0 : ρ (.tmp 32) = .agg #[.string (str g.name), .slice a1 g.actors.length c1, .slice a2 g.edges.length c2, .slice a3 g.ins.length c3, .slice (some ⟨b, off, none⟩) g.outs.length c4] := hdep 5 32 (by kernel_rfl) (by kernel_rfl)
          have t1 : ρ (.tmp 35) = .int .i64 (g.edges.length : Int) := hdep 8 35 (by kernel_rfl) (by kernel_rfl)
          have t2 : ρ (.tmp 36) = .int .i64 (k : Int) := hdep 9 36 (by kernel_rfl) (by kernel_rfl)
          have t3 : ρ (.tmp 38) = .int .i64 ac := hdep 11 38 (by kernel_rfl) (by kernel_rfl)
          have t4 : ρ (.tmp 40) = .int .i64 po := hdep 13 40 (by kernel_rfl) (by kernel_rfl)
          simp [go_sem, t0, t1, t2, t3, t4, hf]
          exact ⟨rfl, (TKV.out w' hb).mono fun e w'' hh => ⟨_, hh.1, hh.2, rfl⟩⟩
        | 15, _ =>
          simp only [gTA, gCZ, gCS, gSI] at ho
          subst ho
          have t0 : ρ (.tmp 27) = .agg #[.string (str g.name), .slice a1 g.actors.length c1, .slice a2 g.edges.length c2, .slice a3 g.ins.length c3, .slice (some ⟨b, off, none⟩) g.outs.length c4] := hdep 0 27 (by kernel_rfl) (by kernel_rfl)
          have t1 : ρ (.tmp 29) = .int .i64 ac := hdep 2 29 (by kernel_rfl) (by kernel_rfl)
          have t2 : ρ (.tmp 31) = .int .i64 po := hdep 4 31 (by kernel_rfl) (by kernel_rfl)
          have t3 : ρ (.tmp 41) = .bool tk := hdep 14 41 (by kernel_rfl) (by kernel_rfl)
          simp [go_sem, t0, t1, t2, t3, hf, hc]
          exact ⟨rfl, (ENV.out w' hb).mono fun e w'' hh => ⟨_, hh.1, hh.2, rfl⟩⟩
        | k + 16, h => exact absurd h (by omega)
      · intro V9 w9 q9 hS
        have e0 : V9 0 = .agg #[.string (str g.name), .slice a1 g.actors.length c1, .slice a2 g.edges.length c2, .slice a3 g.ins.length c3, .slice (some ⟨b, off, none⟩) g.outs.length c4] := hS 0 (by decide)
        have e1 : V9 1 = .pointer (some ⟨w.heap.size + 1, 1, none⟩) := hS 1 (by decide)
        have e2 : V9 2 = .int .i64 ac := hS 2 (by decide)
        have e3 : V9 3 = .pointer (some ⟨w.heap.size + 1, 2, none⟩) := hS 3 (by decide)
        have e4 : V9 4 = .int .i64 po := hS 4 (by decide)
        have e5 : V9 5 = .agg #[.string (str g.name), .slice a1 g.actors.length c1, .slice a2 g.edges.length c2, .slice a3 g.ins.length c3, .slice (some ⟨b, off, none⟩) g.outs.length c4] := hS 5 (by decide)
        have e6 : V9 6 = .pointer (some ⟨w.heap.size, 2, none⟩) := hS 6 (by decide)
        have e7 : V9 7 = .slice a2 g.edges.length c2 := hS 7 (by decide)
        have e8 : V9 8 = .int .i64 (g.edges.length : Int) := hS 8 (by decide)
        have e9 : V9 9 = .int .i64 (k : Int) := hS 9 (by decide)
        have e10 : V9 10 = .pointer (some ⟨w.heap.size + 1, 1, none⟩) := hS 10 (by decide)
        have e11 : V9 11 = .int .i64 ac := hS 11 (by decide)
        have e12 : V9 12 = .pointer (some ⟨w.heap.size + 1, 2, none⟩) := hS 12 (by decide)
        have e13 : V9 13 = .int .i64 po := hS 13 (by decide)
        have e14 : V9 14 = .bool tk := hS 14 (by decide)
        have e15 : V9 15 = .int .i64 ev := hS 15 (by decide)
        simp only [List.drop_succ_cons, List.drop_zero, List.take_succ_cons, List.take_zero, puts, e0, e1, e2, e3, e4, e5, e6, e7, e8, e9, e10, e11, e12, e13, e14, e15]
        clear hS e0 e1 e2 e3 e4 e5 e6 e7 e8 e9 e10 e11 e12 e13 e14 e15 V9
        simp only [Act.put, List.setIfInBounds_toArray, List.set_cons_zero, List.set_cons_succ]
        have B8 := hiddenG (BW.out.trans (q9.mono BW.out.size))
        clear q9
        go_wp2
        refine bodyPost_ret (v := .tuple #[.int .i64 ev, .int .i64 1]) (by simp [results, Tryz.results104, go_sem]) rfl ?_
        exact ⟨by rw [HC.out]; rfl, B8.out⟩
    · go_wp2_with (first
        | (go_at_call 147; (with_reducible refine (NM.out _ BV.out).mono ?_); rintro e w2 ⟨rfl, b2⟩; have B2 := hiddenG b2; clear b2)
        | (go_at_call 72; (with_reducible refine (RN.out _).mono ?_); rintro e w' ⟨rfl, rfl⟩))
      refine bodyPost_ret (v := .tuple #[.int .i64 83, .int .i64 0]) (by simp [results, Tryz.results104, go_sem]) rfl ?_
      exact ⟨by rw [HC.out]; rfl, BV.out.trans (B2.out.mono BV.out.size)⟩
theorem GBox.low {w u : World} {gv : Array Value} (h : GBox w gv u) : Below w.heap.size w u := h.2
theorem GBox.later {w u u' : World} {gv : Array Value} (h : GBox w gv u) (hb : Below u.heap.size u u') : GBox w gv u' := ⟨h.1.below hb, h.2.trans (hb.mono h.2.size)⟩
theorem range_yes {n k : Nat} {P : Nat → Bool} (hk : k < n) (h : P k = false) : (List.range n).any (fun p => !P p) = true := List.any_eq_true.2 ⟨k, List.mem_range.2 hk, by rw [h]; rfl⟩
theorem range_no {n : Nat} {P : Nat → Bool} (h : ∀ j, j < n → P j = true) : (List.range n).any (fun p => !P p) = false := List.any_eq_false.2 fun p hp => by rw [h p (List.mem_range.1 hp)]; decide
set_option maxRecDepth 100000 in
set_option maxHeartbeats 8000000 in
theorem open8_any (g : GG) (a1 a2 a3 a4 : Option Addr) (c1 c2 c3 c4 : Nat) (i : Nat) (w : World) (h : GrG w a1 a2 a3 a4 g) (hi : i < g.actors.length) :
    Calls Tryz.prog 105 #[.agg #[.string (str g.name), .slice a1 g.actors.length c1, .slice a2 g.edges.length c2, .slice a3 g.ins.length c3, .slice a4 g.outs.length c4], .int .i64 (i : Int)] w fun e w' => e = .returned (.bool (openB g i)) ∧ Below w.heap.size w w' := by
  have HG := hiddenG h
  have n2 : (g.edges.length : Int) ≤ 1000000000000000 := by have := h.l2; omega
  have n3 : (g.ins.length : Int) ≤ 1000000000000000 := by have := h.l3; omega
  have n4 : (g.outs.length : Int) ≤ 1000000000000000 := by have := h.l4; omega
  have s1 : insN g i ≤ 1024 := (of_small _ _).1
  have s2 : outsN g i ≤ 1024 := (of_small _ _).2
  have RT : Hid (∀ U, Below w.heap.size w U → Calls Tryz.prog 152 #[.agg #[.string (str g.name), .slice a1 g.actors.length c1, .slice a2 g.edges.length c2, .slice a3 g.ins.length c3, .slice a4 g.outs.length c4], .int .i64 (i : Int)] U fun e w' => e = .returned (.tuple #[.int .i64 (insN g i : Int), .int .i64 (outsN g i : Int)]) ∧ Below U.heap.size U w') := fun U hb => rates8_any g a1 a2 a3 a4 c1 c2 c3 c4 i U (HG.out.below hb) hi
  have IT : Hid (∀ U (p : Int), Below w.heap.size w U → Calls Tryz.prog 151 #[.agg #[.string (str g.name), .slice a1 g.actors.length c1, .slice a2 g.edges.length c2, .slice a3 g.ins.length c3, .slice a4 g.outs.length c4], .int .i64 (g.edges.length : Int), .int .i64 (g.ins.length : Int), .int .i64 (i : Int), .int .i64 p] U fun e w' => e = .returned (.bool (inTk g g.edges.length g.ins.length (i : Int) p)) ∧ Below U.heap.size U w') := fun U p hb => inTaken_any g a1 a2 a3 a4 c1 c2 c3 c4 _ _ _ _ U (HG.out.below hb) (Nat.le_refl _) (Nat.le_refl _)
  have OT : Hid (∀ U (p : Int), Below w.heap.size w U → Calls Tryz.prog 150 #[.agg #[.string (str g.name), .slice a1 g.actors.length c1, .slice a2 g.edges.length c2, .slice a3 g.ins.length c3, .slice a4 g.outs.length c4], .int .i64 (g.edges.length : Int), .int .i64 (g.outs.length : Int), .int .i64 (i : Int), .int .i64 p] U fun e w' => e = .returned (.bool (outTk g g.edges.length g.outs.length (i : Int) p)) ∧ Below U.heap.size U w') := fun U p hb => outTaken_any g a1 a2 a3 a4 c1 c2 c3 c4 _ _ _ _ U (HG.out.below hb) (Nat.le_refl _) (Nat.le_refl _)
  have HO : Hid (openB g i = ((List.range (insN g i)).any (fun p => !inTk g g.edges.length g.ins.length (i : Int) (p : Int)) || (List.range (outsN g i)).any (fun p => !outTk g g.edges.length g.outs.length (i : Int) (p : Int)))) := by rfl
  have B0 := hiddenG (gbox_new w #[.string (str g.name), .slice a1 g.actors.length c1, .slice a2 g.edges.length c2, .slice a3 g.ins.length c3, .slice a4 g.outs.length c4])
  clear h hi HG
  generalize insN g i = nI at *
  generalize outsN g i = nO at *
  generalize inTk g g.edges.length g.ins.length (i : Int) = FI at *
  generalize outTk g g.edges.length g.outs.length (i : Int) = FO at *
  go_enter Tryz.func105, Tryz.ntmps105
  go_upto_region 1 with fail
  generalize w.alloc (.cells #[.string (str g.name), .slice a1 g.actors.length c1, .slice a2 g.edges.length c2, .slice a3 g.ins.length c3, .slice a4 g.outs.length c4] 26) = W0 at *
  have g0 : W0.cell? ⟨w.heap.size, 0, none⟩ = some (.string (str g.name)) := B0.out.1.cell rfl
  have g1 : W0.cell? ⟨w.heap.size, 1, none⟩ = some (.slice a1 g.actors.length c1) := B0.out.1.cell rfl
  have g2 : W0.cell? ⟨w.heap.size, 2, none⟩ = some (.slice a2 g.edges.length c2) := B0.out.1.cell rfl
  have g3 : W0.cell? ⟨w.heap.size, 3, none⟩ = some (.slice a3 g.ins.length c3) := B0.out.1.cell rfl
  have g4 : W0.cell? ⟨w.heap.size, 4, none⟩ = some (.slice a4 g.outs.length c4) := B0.out.1.cell rfl
  go_wp2_with (go_at_call 152; (with_reducible refine (RT.out _ B0.out.low).mono ?_); rintro e w2 ⟨rfl, b2⟩; have B2 := hiddenG (B0.out.later b2); clear b2)
  clear g0 g1 g2 g3 g4 RT
  go_loopg [7] nI (fun gk v wr => ∃ k : Nat, k ≤ nI ∧ gk = nI - k ∧ v = .int .i64 (k : Int) ∧ GBox w #[.string (str g.name), .slice a1 g.actors.length c1, .slice a2 g.edges.length c2, .slice a3 g.ins.length c3, .slice a4 g.outs.length c4] wr ∧ ∀ j : Nat, j < k → FI (j : Int) = true)
  case atStart => exact ⟨0, Nat.zero_le _, rfl, rfl, B2.out, fun j hj => absurd hj (Nat.not_lt_zero _)⟩
  case round =>
    clear B2 B0
    obtain ⟨k, hk, rfl, rfl, hB, hall⟩ := hrel
    have HB := hiddenG hB
    have HAL := hiddenG hall
    have g0 : wr.cell? ⟨w.heap.size, 0, none⟩ = some (.string (str g.name)) := hB.1.cell rfl
    have g1 : wr.cell? ⟨w.heap.size, 1, none⟩ = some (.slice a1 g.actors.length c1) := hB.1.cell rfl
    have g2 : wr.cell? ⟨w.heap.size, 2, none⟩ = some (.slice a2 g.edges.length c2) := hB.1.cell rfl
    have g3 : wr.cell? ⟨w.heap.size, 3, none⟩ = some (.slice a3 g.ins.length c3) := hB.1.cell rfl
    have g4 : wr.cell? ⟨w.heap.size, 4, none⟩ = some (.slice a4 g.outs.length c4) := hB.1.cell rfl
    clear hB hall
    by_cases hlt : k < nI
    · have hki : (k : Int) < (nI : Int) := by omega
      have HYES : Hid (FI (k : Int) = false → openB g i = true) := fun e => by rw [HO.out, range_yes (P := fun p : Nat => FI (p : Int)) hlt e, Bool.true_or]
      have HNO : Hid (FI (k : Int) = true → ∀ j : Nat, j < k + 1 → FI (j : Int) = true) := fun e j hj => by
        by_cases q : j < k
        · exact HAL.out j q
        · rw [show j = k by omega]; exact e
      have CK := hiddenG (IT.out wr (k : Int) HB.out.2)
      obtain ⟨q1, hq1⟩ : ∃ q, FI (k : Int) = q := ⟨_, rfl⟩
      rw [hq1] at HYES HNO CK
      clear hq1
      cases q1
      · go_wp2_with (go_at_call 151; (with_reducible refine CK.out.mono ?_); rintro e w3 ⟨rfl, b3⟩; have B3 := hiddenG (HB.out.later b3); clear b3)
        go_ret
        exact ⟨by rw [HYES.out (by trivial)]; rfl, B3.out.2⟩
      · go_wp2_with (go_at_call 151; (with_reducible refine CK.out.mono ?_); rintro e w3 ⟨rfl, b3⟩; have B3 := hiddenG (HB.out.later b3); clear b3)
        go_roundg (nI - (k + 1))
        case measure => omega
        case rel => exact ⟨k + 1, by omega, rfl, by go_num, B3.out, HNO.out (by trivial)⟩
    · have hki : ¬ (k : Int) < (nI : Int) := by omega
      have Z0 : Hid ((List.range nI).any (fun p => !FI (p : Int)) = false) := range_no (P := fun p : Nat => FI (p : Int)) (fun j hj => HAL.out j (by omega))
      clear g0 g1 g2 g3 g4 HAL hlt hk
      go_wp2
      go_loopg [8] nO (fun gk v wr => ∃ k : Nat, k ≤ nO ∧ gk = nO - k ∧ v = .int .i64 (k : Int) ∧ GBox w #[.string (str g.name), .slice a1 g.actors.length c1, .slice a2 g.edges.length c2, .slice a3 g.ins.length c3, .slice a4 g.outs.length c4] wr ∧ ∀ j : Nat, j < k → FO (j : Int) = true)
      case atStart => exact ⟨0, Nat.zero_le _, rfl, rfl, HB.out, fun j hj => absurd hj (Nat.not_lt_zero _)⟩
      case round =>
        clear HB hki
        obtain ⟨k, hk, rfl, rfl, hB, hall⟩ := hrel
        have HB := hiddenG hB
        have HAL := hiddenG hall
        have g0 : wr.cell? ⟨w.heap.size, 0, none⟩ = some (.string (str g.name)) := hB.1.cell rfl
        have g1 : wr.cell? ⟨w.heap.size, 1, none⟩ = some (.slice a1 g.actors.length c1) := hB.1.cell rfl
        have g2 : wr.cell? ⟨w.heap.size, 2, none⟩ = some (.slice a2 g.edges.length c2) := hB.1.cell rfl
        have g3 : wr.cell? ⟨w.heap.size, 3, none⟩ = some (.slice a3 g.ins.length c3) := hB.1.cell rfl
        have g4 : wr.cell? ⟨w.heap.size, 4, none⟩ = some (.slice a4 g.outs.length c4) := hB.1.cell rfl
        clear hB hall
        by_cases hlt : k < nO
        · have hki : (k : Int) < (nO : Int) := by omega
          have HYES : Hid (FO (k : Int) = false → openB g i = true) := fun e => by rw [HO.out, Z0.out, range_yes (P := fun p : Nat => FO (p : Int)) hlt e, Bool.false_or]
          have HNO : Hid (FO (k : Int) = true → ∀ j : Nat, j < k + 1 → FO (j : Int) = true) := fun e j hj => by
            by_cases q : j < k
            · exact HAL.out j q
            · rw [show j = k by omega]; exact e
          have CK := hiddenG (OT.out wr (k : Int) HB.out.2)
          obtain ⟨q1, hq1⟩ : ∃ q, FO (k : Int) = q := ⟨_, rfl⟩
          rw [hq1] at HYES HNO CK
          clear hq1
          cases q1
          · go_wp2_with (go_at_call 150; (with_reducible refine CK.out.mono ?_); rintro e w3 ⟨rfl, b3⟩; have B3 := hiddenG (HB.out.later b3); clear b3)
            go_ret
            exact ⟨by rw [HYES.out (by trivial)]; rfl, B3.out.2⟩
          · go_wp2_with (go_at_call 150; (with_reducible refine CK.out.mono ?_); rintro e w3 ⟨rfl, b3⟩; have B3 := hiddenG (HB.out.later b3); clear b3)
            go_roundg (nO - (k + 1))
            case measure => omega
            case rel => exact ⟨k + 1, by omega, rfl, by go_num, B3.out, HNO.out (by trivial)⟩
        · have hki : ¬ (k : Int) < (nO : Int) := by omega
          have Z1 : Hid ((List.range nO).any (fun p => !FO (p : Int)) = false) := range_no (P := fun p : Nat => FO (p : Int)) (fun j hj => HAL.out j (by omega))
          have HP0 : Hid (openB g i = false) := by show _ = _; rw [HO.out, Z0.out, Z1.out]; rfl
          go_wp2
          go_ret
          exact ⟨by rw [HP0.out]; rfl, HB.out.2⟩
theorem LentA.cells {B : Nat} {w : World} {a : Option Addr} {c : Nat} {As : List GA} (h : LentA B w a c As) : ∃ b z, a = some ⟨b, z, none⟩ ∧ As.length + 1 ≤ c ∧ (∀ k, k < As.length → ∃ gq, w.cell? ⟨b, z + k * 3 + 2, none⟩ = some (.slice (some ⟨gq, 0, none⟩) (nthA As k).params.length ((nthA As k).params.length + 4)) ∧ Lend B w gq (nthA As k).params.length (nthA As k).params) ∧ w.cell? ⟨b, z + As.length * 3 + 1, none⟩ = some (.int .u8 99) := by
  obtain ⟨b, M, rfl, -, h3, h4, h5, h6⟩ := h
  have hl : M.length = As.length := by rw [← h4, List.length_map]
  have e1 : M.flatMap aP ++ aP markA = (M ++ [markA]).flatMap aP := by rw [List.flatMap_append]; simp
  have e2 : As.length + 1 = (M ++ [markA]).length := by rw [List.length_append, hl]; rfl
  rw [e1] at h5
  have h7 : w.ownsRow B 62 3 (.slice (some ⟨b, 0, none⟩) (As.length + 1) c) (M ++ [markA]).length ((M ++ [markA]).flatMap aP) := by rw [← e2]; exact h5
  refine ⟨b, 0, rfl, h3, fun k hk => ?_, ?_⟩
  · have hkm : k < M.length := by omega
    have hk2 : k < (M ++ [markA]).length := by omega
    have e3 : (M ++ [markA])[k] = M[k] := List.getElem_append_left hkm
    have e4 : nthA As k = M[k].1 := by
      subst h4
      rw [nthA_get hk, List.getElem_map]
    obtain ⟨gq, e5, h8⟩ := h6 M[k] (List.getElem_mem hkm)
    rw [e4, Nat.zero_add]
    exact ⟨gq, row_cell aP_len h7 hk2 (r := 2) (by decide) (by rw [e3, ← e5]; rfl), h8⟩
  · have hk2 : As.length < (M ++ [markA]).length := by omega
    have e3 : (M ++ [markA])[As.length] = markA := by
      rw [List.getElem_append_right (by omega)]
      simp
    rw [Nat.zero_add]
    exact row_cell aP_len h7 hk2 (r := 1) (by decide) (by rw [e3]; rfl)
theorem LentE.cells {B : Nat} {w : World} {a : Option Addr} {c : Nat} {As : List GE} (h : LentE B w a c As) : ∃ b z, a = some ⟨b, z, none⟩ ∧ As.length + 1 ≤ c ∧ (∀ k, k < As.length → ∃ gq, w.cell? ⟨b, z + k * 5 + 4, none⟩ = some (.slice (some ⟨gq, 0, none⟩) (nthE As k).start.length ((nthE As k).start.length + 4)) ∧ Lend B w gq (nthE As k).start.length (nthE As k).start) ∧ w.cell? ⟨b, z + As.length * 5 + 0, none⟩ = some (.int .i64 (-7770777)) := by
  obtain ⟨b, M, rfl, -, h3, h4, h5, h6⟩ := h
  have hl : M.length = As.length := by rw [← h4, List.length_map]
  have e1 : M.flatMap eP ++ eP markE = (M ++ [markE]).flatMap eP := by rw [List.flatMap_append]; simp
  have e2 : As.length + 1 = (M ++ [markE]).length := by rw [List.length_append, hl]; rfl
  rw [e1] at h5
  have h7 : w.ownsRow B 65 5 (.slice (some ⟨b, 0, none⟩) (As.length + 1) c) (M ++ [markE]).length ((M ++ [markE]).flatMap eP) := by rw [← e2]; exact h5
  refine ⟨b, 0, rfl, h3, fun k hk => ?_, ?_⟩
  · have hkm : k < M.length := by omega
    have hk2 : k < (M ++ [markE]).length := by omega
    have e3 : (M ++ [markE])[k] = M[k] := List.getElem_append_left hkm
    have e4 : nthE As k = M[k].1 := by
      subst h4
      rw [nthE_get hk, List.getElem_map]
    obtain ⟨gq, e5, h8⟩ := h6 M[k] (List.getElem_mem hkm)
    rw [e4, Nat.zero_add]
    exact ⟨gq, row_cell eP_len h7 hk2 (r := 4) (by decide) (by rw [e3, ← e5]; rfl), h8⟩
  · have hk2 : As.length < (M ++ [markE]).length := by omega
    have e3 : (M ++ [markE])[As.length] = markE := by
      rw [List.getElem_append_right (by omega)]
      simp
    rw [Nat.zero_add]
    exact row_cell eP_len h7 hk2 (r := 0) (by decide) (by rw [e3]; rfl)
theorem LentP.mark {B : Nat} {w : World} {a : Option Addr} {c : Nat} {Ps : List GP} (h : LentP B w a c Ps) : ∃ b z, a = some ⟨b, z, none⟩ ∧ Ps.length + 1 ≤ c ∧ w.cell? ⟨b, z + Ps.length * 3 + 1, none⟩ = some (.int .i64 (-7770777)) := by
  obtain ⟨b, rfl, -, h3, h5⟩ := h
  have e1 : Ps.flatMap pP ++ pP markP = (Ps ++ [markP]).flatMap pP := by rw [List.flatMap_append]; simp
  have e2 : Ps.length + 1 = (Ps ++ [markP]).length := by rw [List.length_append]; rfl
  rw [e1] at h5
  have h7 : w.ownsRow B 81 3 (.slice (some ⟨b, 0, none⟩) (Ps.length + 1) c) (Ps ++ [markP]).length ((Ps ++ [markP]).flatMap pP) := by rw [← e2]; exact h5
  have hk2 : Ps.length < (Ps ++ [markP]).length := by omega
  have e3 : (Ps ++ [markP])[Ps.length] = markP := by
    rw [List.getElem_append_right (by omega)]
    simp
  exact ⟨b, 0, rfl, h3, by rw [Nat.zero_add]; exact row_cell pP_len h7 hk2 (r := 1) (by decide) (by rw [e3]; rfl)⟩
/-- The two boxes. -/
def KBox (w : World) (ov gv : Array Value) (u : World) : Prop := BlkA 26 w.heap.size u ov ∧ BlkA 26 (w.heap.size + 1) u gv ∧ Below w.heap.size w u
theorem KBox.low {w u : World} {ov gv : Array Value} (h : KBox w ov gv u) : Below w.heap.size w u := h.2.2
theorem KBox.later {w u u' : World} {ov gv : Array Value} (h : KBox w ov gv u) (hb : Below u.heap.size u u') : KBox w ov gv u' := ⟨h.1.below hb, h.2.1.below hb, h.2.2.trans (hb.mono h.2.2.size)⟩
end Go.Proofs.YtolpelfdhcccnaaGreatDoor

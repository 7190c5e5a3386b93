/- Texts of one chain, laid one behind the other. -/
import Derived.Test.YtlfmmdioondaoaaPartGraphNames25
import Derived.Deep.SlicePairs
import Derived.SizedLaws
import Derived.Test.YtlfmmdioondaoaaPartGraphNames7
import Derived.Test.YtlfmmdioondaoaaPartGraphNames20
namespace Go.Proofs.Ytlfmmdioondaoaa
open Go.ChangeShapes Go.WideShapes Go.ChangeAt Go.RowKit
/-- What a walk is told of a graph that came in. -/
structure ArgG (w : World) (a1 a2 a3 a4 : Option Addr) (c3 c4 : Nat) (g : GG) : Prop where
  gr : GrG w a1 a2 a3 a4 g
  n3 : a3 = none → c3 = 0
  n4 : a4 = none → c4 = 0
theorem ArgG.below {w w' : World} {a1 a2 a3 a4 : Option Addr} {c3 c4 : Nat} {g : GG} (h : ArgG w a1 a2 a3 a4 c3 c4 g) (hb : Below w.heap.size w w') : ArgG w' a1 a2 a3 a4 c3 c4 g := ⟨h.gr.below hb, h.n3, h.n4⟩
section
variable {H : Type} {enc : TypeId × Value → H} {W : World} {base : Nat} {held : Bool}
end
/-- A graph that is not heavy. -/
structure Light (g : GG) : Prop where
  a : g.actors.length ≤ 1048576
  e : g.edges.length ≤ 1048576
  i : g.ins.length ≤ 1048576
  o : g.outs.length ≤ 1048576
  pa : ∀ x ∈ g.actors, x.params.length ≤ 1048576
  pe : ∀ x ∈ g.edges, x.start.length ≤ 1048576
theorem GrA.len {w : World} {a : Option Addr} {As : List GA} (h : GrA w a As) : ∀ x ∈ As, x.params.length ≤ 17592186043904 := fun x hx => by
  obtain ⟨k, hk, rfl⟩ := memA hx
  rcases h with h | ⟨b, off, -, hc⟩
  · rw [h] at hk; exact absurd hk (Nat.not_lt_zero _)
  · obtain ⟨-, -, -, y, c, -, h5⟩ := hc k hk
    have := h5.reach
    omega
theorem GrE.len {w : World} {a : Option Addr} {As : List GE} (h : GrE w a As) : ∀ x ∈ As, x.start.length ≤ 17592186043904 := fun x hx => by
  obtain ⟨k, hk, rfl⟩ := memE hx
  rcases h with h | ⟨b, off, -, hc⟩
  · rw [h] at hk; exact absurd hk (Nat.not_lt_zero _)
  · obtain ⟨-, -, -, -, y, c, -, h5⟩ := hc k hk
    have := h5.reach
    omega
theorem flat_len {α : Type} (f : α → List Value) (c : Nat) (hc : ∀ x, (f x).length = c) : ∀ (L : List α), (L.flatMap f).length = L.length * c
  | [] => by simp
  | x :: r => by rw [List.flatMap_cons, List.length_append, hc, flat_len f c hc r, List.length_cons, Nat.succ_mul]; omega
/-- The head of a row of a call's own is one, too. -/
theorem owns_head {w : World} {base T c g n cap : Nat} {xs ys : List Value} {m : Nat} (h : w.ownsRow base T c (.slice (some ⟨g, 0, none⟩) n cap) n (xs ++ ys)) (hm : xs.length = m * c) (hmn : m ≤ n) : w.ownsRow base T c (.slice (some ⟨g, 0, none⟩) m cap) m xs := by
  obtain ⟨h1, h2⟩ := h
  refine ⟨hm, ?_⟩
  rcases h2 with ⟨hv, -⟩ | ⟨g', c', cur, hv, hg, hh, hc, hmm, hs, ht⟩
  · cases hv
  · cases hv
    refine .inr ⟨_, _, cur, rfl, hg, hh, by omega, hmm, hs, ?_⟩
    have h3 := congrArg (List.take (m * c)) ht
    rw [List.take_take, Nat.min_eq_left (Nat.mul_le_mul_right _ hmn)] at h3
    rw [h3, ← hm, List.take_left]
def markP : GP := ⟨[109, 97, 114, 107], -7770777, 0⟩
/-- Ports that were lent: a row of their own, a marked one behind them. -/
def LentP (B : Nat) (w : World) (a : Option Addr) (c : Nat) (Ps : List GP) : Prop := ∃ b, a = some ⟨b, 0, none⟩ ∧ B ≤ b ∧ Ps.length + 1 ≤ c ∧ w.ownsRow B 56 3 (.slice a (Ps.length + 1) c) (Ps.length + 1) (Ps.flatMap pP ++ pP markP)
theorem LentP.keep {B : Nat} {w w' : World} {a : Option Addr} {c : Nat} {Ps : List GP} (h : LentP B w a c Ps) (hk : ∀ k, B ≤ k → k < w.heap.size → w'.heap[k]? = w.heap[k]?) : LentP B w' a c Ps := by
  obtain ⟨b, h1, h2, h3, h4⟩ := h
  exact ⟨b, h1, h2, h3, ownR_keep h4 fun k e => hk k (own_row h4 k e) (own_lt h4 k e)⟩
theorem LentP.at {B : Nat} {w : World} {a : Option Addr} {c : Nat} {Ps : List GP} (h : LentP B w a c Ps) : AtPt w a Ps := by
  obtain ⟨b, rfl, -, -, h4⟩ := h
  exact rowP_at (n := Ps.length) (cp := c) (owns_head h4 (flat_len pP 3 pP_len Ps) (Nat.le_succ _))
theorem cell_blk {w w' : World} {b k : Nat} (h : w'.heap[b]? = w.heap[b]?) : w'.cell? ⟨b, k, none⟩ = w.cell? ⟨b, k, none⟩ := by simp [World.cell?, h]
theorem Lend.keepB {B : Nat} {w w' : World} {g len : Nat} {zs : List Int} (h : Lend B w g len zs) (hk : w'.heap[g]? = w.heap[g]?) : Lend B w' g len zs := by
  obtain ⟨h1, h2, h3⟩ := h
  refine ⟨h1, h2, ?_⟩
  rcases h3 with h3 | ⟨b, off, e, hc⟩
  · exact .inl h3
  · cases e
    exact .inr ⟨g, 0, rfl, fun k hk2 => by rw [cell_blk hk]; exact hc k hk2⟩
theorem Lend.lt {B : Nat} {w : World} {g len : Nat} {zs : List Int} (h : Lend B w g len zs) : g < w.heap.size := block_lt_of_cell (h.cells.2 len (Nat.le_refl _) (by omega))
theorem Lend.base {B B' : Nat} {w : World} {g len : Nat} {zs : List Int} (h : Lend B w g len zs) (hb : B' ≤ B) : Lend B' w g len zs := ⟨Nat.le_trans hb h.1, h.2⟩
theorem Lend.arg {B : Nat} {w : World} {g : Nat} {zs : List Int} (h : Lend B w g zs.length zs) (ho : NumsOk zs) : Arg w (some ⟨g, 0, none⟩) zs.length (zs.length + 4) zs := ⟨rfl, ho.2, (fun e => by cases e), ho.1, h.at, by omega⟩
/-- Numbers that were lent. -/
def LentQ (B : Nat) (w : World) (q : Value) (ns : List Int) : Prop := ∃ gq, q = .slice (some ⟨gq, 0, none⟩) ns.length (ns.length + 4) ∧ Lend B w gq ns.length ns
theorem LentQ.lt {B : Nat} {w : World} {q : Value} {ns : List Int} (h : LentQ B w q ns) : ∀ k, q.ownBlock = some k → B ≤ k ∧ k < w.heap.size := by
  obtain ⟨gq, rfl, h⟩ := h
  intro k e
  cases e
  exact ⟨h.1, h.lt⟩
theorem LentQ.keep {B : Nat} {w w' : World} {q : Value} {ns : List Int} (h : LentQ B w q ns) (hk : ∀ k, q.ownBlock = some k → w'.heap[k]? = w.heap[k]?) : LentQ B w' q ns := by
  obtain ⟨gq, rfl, h⟩ := h
  exact ⟨gq, rfl, h.keepB (hk gq rfl)⟩
theorem LentQ.base {B B' : Nat} {w : World} {q : Value} {ns : List Int} (h : LentQ B w q ns) (hb : B' ≤ B) : LentQ B' w q ns := by
  obtain ⟨gq, h1, h2⟩ := h
  exact ⟨gq, h1, h2.base hb⟩
def markA : GA × Value := (⟨[109, 97, 114, 107], 99, []⟩, .slice none 0 0)
def markE : GE × Value := (⟨-7770777, 0, 0, 0, []⟩, .slice none 0 0)
structure LtA (w W1 : World) (nm : List UInt8) (u2 u3 u4 v : Value) (M : List (GA × Value)) (wr : World) : Prop where
  ob : BlkA 31 (w.heap.size + 2) wr #[.string (str nm), v, u2, u3, u4]
  row : wr.ownsRow W1.heap.size 59 3 v M.length (M.flatMap aP)
  qs : ∀ p ∈ M, LentQ W1.heap.size wr p.2 p.1.params
  ap : ∀ p ∈ M, NB v p.2
  chg : Chg (fun k => k = w.heap.size + 2 ∨ W1.heap.size ≤ k) W1 wr
  hk : w.heap.size + 2 < W1.heap.size
theorem LtA.put {w W1 nm u2 u3 u4 v M} {V : World} (h : LtA w W1 nm u2 u3 u4 v M V) {w2 w4 : World} {p : GA × Value} {v' : Value} (hb : Below V.heap.size V w2) (hq : LentQ V.heap.size w2 p.2 p.1.params)
    (ho : w4.ownsRow W1.heap.size 59 3 v' (M.length + 1) (M.flatMap aP ++ aP p))
    (ht : (∃ g cap, v = .slice (some ⟨g, 0, none⟩) M.length cap ∧ v' = .slice (some ⟨g, 0, none⟩) (M.length + 1) cap ∧ w2.grownBy w4 (some g)) ∨ (∃ cap, v' = .slice (some ⟨w2.heap.size, 0, none⟩) (M.length + 1) cap ∧ w2.grownBy w4 none)) :
    LtA w W1 nm u2 u3 u4 v' (M ++ [p]) (w4.setCell ⟨w.heap.size + 2, 1, none⟩ v') ∧ BlkA 31 (w.heap.size + 2) w4 #[.string (str nm), v, u2, u3, u4] := by
  have hk := h.hk
  have h1 := h.chg.size
  have hsz := hb.size
  have tk := told_keep ht
  have kp : ∀ d, d < V.heap.size → v.ownBlock ≠ some d → w4.heap[d]? = V.heap[d]? := fun d hd hn => (tk.2 d (by omega) hn).trans (hb.block d hd)
  have lowr : ∀ d, d < W1.heap.size → v.ownBlock ≠ some d := fun d hd e => by have := own_row h.row d e; omega
  have b3 := h.ob.keep (kp _ (by omega) (lowr _ hk))
  have set : ∀ k, k ≠ w.heap.size + 2 → (w4.setCell ⟨w.heap.size + 2, 1, none⟩ v').heap[k]? = w4.heap[k]? := fun k hk => Below.heap_setCell w4 ⟨w.heap.size + 2, 1, none⟩ v' k hk
  have np : NB v p.2 := fun k e1 e2 => by have := own_lt h.row k e1; have := (hq.lt k e2).1; omega
  refine ⟨⟨b3.set 1 v', ?_, fun q hq' => ?_, fun q hq' => ?_, ?_, hk⟩, b3⟩
  · rw [flat_one, List.length_append]
    exact ownR_keep ho fun k e => set k (by have := own_row ho k e; omega)
  · rcases List.mem_append.1 hq' with hm | hm
    · have l := h.qs q hm
      exact l.keep fun k e => (set k (by have := (l.lt k e).1; omega)).trans (kp k (l.lt k e).2 (fun e2 => h.ap q hm k e2 e))
    · rw [List.mem_singleton.1 hm]
      exact (hq.keep fun k e => (set k (by have := (hq.lt k e).1; omega)).trans (tk.2 k (hq.lt k e).2 (fun e2 => np k e2 e))).base h1
  · rcases List.mem_append.1 hq' with hm | hm
    · exact NB.told (h.ap q hm) (fun k e => Nat.lt_of_lt_of_le ((h.qs q hm).lt k e).2 hsz) ht
    · rw [List.mem_singleton.1 hm]
      exact NB.told np (fun k e => (hq.lt k e).2) ht
  · obtain ⟨row, hg, hrow⟩ := told_grown ht
    have c1 : Chg (fun k => k = w.heap.size + 2 ∨ W1.heap.size ≤ k) V w2 := Chg.of_below hb
    have c2 : Chg (fun k => k = w.heap.size + 2 ∨ W1.heap.size ≤ k) w2 w4 := Chg.grown hg fun k e => .inr (own_row h.row k (hrow k e))
    exact ((h.chg.trans' c1).trans' c2).trans' (Chg.set w4 (.inl rfl) 1 v')
/-- Actors that were lent: a row of their own, a marked one behind them; each one's numbers lent, too. -/
def LentA (B : Nat) (w : World) (a : Option Addr) (c : Nat) (As : List GA) : Prop := ∃ (b : Nat) (M : List (GA × Value)), a = some ⟨b, 0, none⟩ ∧ B ≤ b ∧ As.length + 1 ≤ c ∧ M.map Prod.fst = As ∧ w.ownsRow B 59 3 (.slice a (As.length + 1) c) (As.length + 1) (M.flatMap aP ++ aP markA) ∧ ∀ p ∈ M, LentQ B w p.2 p.1.params
theorem LentA.keep {B : Nat} {w w' : World} {a : Option Addr} {c : Nat} {As : List GA} (h : LentA B w a c As) (hk : ∀ k, B ≤ k → k < w.heap.size → w'.heap[k]? = w.heap[k]?) : LentA B w' a c As := by
  obtain ⟨b, M, h1, h2, h3, h4, h5, h6⟩ := h
  exact ⟨b, M, h1, h2, h3, h4, ownR_keep h5 fun k e => hk k (own_row h5 k e) (own_lt h5 k e), fun p hp => (h6 p hp).keep fun k e => hk k ((h6 p hp).lt k e).1 ((h6 p hp).lt k e).2⟩
theorem LentA.base {B B' : Nat} {w : World} {a : Option Addr} {c : Nat} {As : List GA} (h : LentA B w a c As) (hb : B' ≤ B) : LentA B' w a c As := by
  obtain ⟨b, M, h1, h2, h3, h4, h5, h6⟩ := h
  exact ⟨b, M, h1, Nat.le_trans hb h2, h3, h4, owns_mono h5 hb, fun p hp => (h6 p hp).base hb⟩
theorem LentA.gr {B : Nat} {w : World} {a : Option Addr} {c : Nat} {As : List GA} (h : LentA B w a c As) (ho : ∀ x ∈ As, x.tag ≤ 255 ∧ NumsOk x.params) : GrA w a As := by
  obtain ⟨b, M, rfl, -, -, h4, h5, h6⟩ := h
  have hl : M.length = As.length := by rw [← h4, List.length_map]
  rw [← hl] at h5
  have r := rowA_gr (n := M.length) (cp := c) (owns_head h5 (flat_len aP 3 aP_len M) (Nat.le_succ _)) (fun p hp => by
    have hx := ho p.1 (by rw [← h4]; exact List.mem_map_of_mem hp)
    obtain ⟨gq, e, hq⟩ := h6 p hp
    exact ⟨hx.1, _, _, e, hq.arg hx.2⟩)
  rw [h4] at r
  exact r
structure LtE (w W1 : World) (nm : List UInt8) (u1 u3 u4 v : Value) (M : List (GE × Value)) (wr : World) : Prop where
  ob : BlkA 31 (w.heap.size + 2) wr #[.string (str nm), u1, v, u3, u4]
  row : wr.ownsRow W1.heap.size 54 5 v M.length (M.flatMap eP)
  qs : ∀ p ∈ M, LentQ W1.heap.size wr p.2 p.1.start
  ap : ∀ p ∈ M, NB v p.2
  chg : Chg (fun k => k = w.heap.size + 2 ∨ W1.heap.size ≤ k) W1 wr
  hk : w.heap.size + 2 < W1.heap.size
theorem LtE.put {w W1 nm u1 u3 u4 v M} {V : World} (h : LtE w W1 nm u1 u3 u4 v M V) {w2 w4 : World} {p : GE × Value} {v' : Value} (hb : Below V.heap.size V w2) (hq : LentQ V.heap.size w2 p.2 p.1.start)
    (ho : w4.ownsRow W1.heap.size 54 5 v' (M.length + 1) (M.flatMap eP ++ eP p))
    (ht : (∃ g cap, v = .slice (some ⟨g, 0, none⟩) M.length cap ∧ v' = .slice (some ⟨g, 0, none⟩) (M.length + 1) cap ∧ w2.grownBy w4 (some g)) ∨ (∃ cap, v' = .slice (some ⟨w2.heap.size, 0, none⟩) (M.length + 1) cap ∧ w2.grownBy w4 none)) :
    LtE w W1 nm u1 u3 u4 v' (M ++ [p]) (w4.setCell ⟨w.heap.size + 2, 2, none⟩ v') ∧ BlkA 31 (w.heap.size + 2) w4 #[.string (str nm), u1, v, u3, u4] := by
  have hk := h.hk
  have h1 := h.chg.size
  have hsz := hb.size
  have tk := told_keep ht
  have kp : ∀ d, d < V.heap.size → v.ownBlock ≠ some d → w4.heap[d]? = V.heap[d]? := fun d hd hn => (tk.2 d (by omega) hn).trans (hb.block d hd)
  have lowr : ∀ d, d < W1.heap.size → v.ownBlock ≠ some d := fun d hd e => by have := own_row h.row d e; omega
  have b3 := h.ob.keep (kp _ (by omega) (lowr _ hk))
  have set : ∀ k, k ≠ w.heap.size + 2 → (w4.setCell ⟨w.heap.size + 2, 2, none⟩ v').heap[k]? = w4.heap[k]? := fun k hk => Below.heap_setCell w4 ⟨w.heap.size + 2, 2, none⟩ v' k hk
  have np : NB v p.2 := fun k e1 e2 => by have := own_lt h.row k e1; have := (hq.lt k e2).1; omega
  refine ⟨⟨b3.set 2 v', ?_, fun q hq' => ?_, fun q hq' => ?_, ?_, hk⟩, b3⟩
  · rw [flat_one, List.length_append]
    exact ownR_keep ho fun k e => set k (by have := own_row ho k e; omega)
  · rcases List.mem_append.1 hq' with hm | hm
    · have l := h.qs q hm
      exact l.keep fun k e => (set k (by have := (l.lt k e).1; omega)).trans (kp k (l.lt k e).2 (fun e2 => h.ap q hm k e2 e))
    · rw [List.mem_singleton.1 hm]
      exact (hq.keep fun k e => (set k (by have := (hq.lt k e).1; omega)).trans (tk.2 k (hq.lt k e).2 (fun e2 => np k e2 e))).base h1
  · rcases List.mem_append.1 hq' with hm | hm
    · exact NB.told (h.ap q hm) (fun k e => Nat.lt_of_lt_of_le ((h.qs q hm).lt k e).2 hsz) ht
    · rw [List.mem_singleton.1 hm]
      exact NB.told np (fun k e => (hq.lt k e).2) ht
  · obtain ⟨row, hg, hrow⟩ := told_grown ht
    have c1 : Chg (fun k => k = w.heap.size + 2 ∨ W1.heap.size ≤ k) V w2 := Chg.of_below hb
    have c2 : Chg (fun k => k = w.heap.size + 2 ∨ W1.heap.size ≤ k) w2 w4 := Chg.grown hg fun k e => .inr (own_row h.row k (hrow k e))
    exact ((h.chg.trans' c1).trans' c2).trans' (Chg.set w4 (.inl rfl) 2 v')
/-- Edges that were lent: a row of their own, a marked one behind them; each one's numbers lent, too. -/
def LentE (B : Nat) (w : World) (a : Option Addr) (c : Nat) (As : List GE) : Prop := ∃ (b : Nat) (M : List (GE × Value)), a = some ⟨b, 0, none⟩ ∧ B ≤ b ∧ As.length + 1 ≤ c ∧ M.map Prod.fst = As ∧ w.ownsRow B 54 5 (.slice a (As.length + 1) c) (As.length + 1) (M.flatMap eP ++ eP markE) ∧ ∀ p ∈ M, LentQ B w p.2 p.1.start
theorem LentE.keep {B : Nat} {w w' : World} {a : Option Addr} {c : Nat} {As : List GE} (h : LentE B w a c As) (hk : ∀ k, B ≤ k → k < w.heap.size → w'.heap[k]? = w.heap[k]?) : LentE B w' a c As := by
  obtain ⟨b, M, h1, h2, h3, h4, h5, h6⟩ := h
  exact ⟨b, M, h1, h2, h3, h4, ownR_keep h5 fun k e => hk k (own_row h5 k e) (own_lt h5 k e), fun p hp => (h6 p hp).keep fun k e => hk k ((h6 p hp).lt k e).1 ((h6 p hp).lt k e).2⟩
theorem LentE.base {B B' : Nat} {w : World} {a : Option Addr} {c : Nat} {As : List GE} (h : LentE B w a c As) (hb : B' ≤ B) : LentE B' w a c As := by
  obtain ⟨b, M, h1, h2, h3, h4, h5, h6⟩ := h
  exact ⟨b, M, h1, Nat.le_trans hb h2, h3, h4, owns_mono h5 hb, fun p hp => (h6 p hp).base hb⟩
theorem LentE.gr {B : Nat} {w : World} {a : Option Addr} {c : Nat} {As : List GE} (h : LentE B w a c As) (ho : ∀ x ∈ As, NumsOk x.start) : GrE w a As := by
  obtain ⟨b, M, rfl, -, -, h4, h5, h6⟩ := h
  have hl : M.length = As.length := by rw [← h4, List.length_map]
  rw [← hl] at h5
  have r := rowE_gr (n := M.length) (cp := c) (owns_head h5 (flat_len eP 5 eP_len M) (Nat.le_succ _)) (fun p hp => by
    have hx := ho p.1 (by rw [← h4]; exact List.mem_map_of_mem hp)
    obtain ⟨gq, e, hq⟩ := h6 p hp
    exact ⟨_, _, e, hq.arg hx⟩)
  rw [h4] at r
  exact r
theorem LentP.base {B B' : Nat} {w : World} {a : Option Addr} {c : Nat} {Ps : List GP} (h : LentP B w a c Ps) (hb : B' ≤ B) : LentP B' w a c Ps := by
  obtain ⟨b, h1, h2, h3, h4⟩ := h
  exact ⟨b, h1, Nat.le_trans hb h2, h3, owns_mono h4 hb⟩
/-- A graph that was lent. -/
structure LentG (B : Nat) (w : World) (x1 x2 x3 x4 : Option Addr) (c1 c2 c3 c4 : Nat) (g : GG) : Prop where
  a : LentA B w x1 c1 g.actors
  e : LentE B w x2 c2 g.edges
  i : LentP B w x3 c3 g.ins
  o : LentP B w x4 c4 g.outs
theorem LentG.keep {B : Nat} {w w' : World} {x1 x2 x3 x4 : Option Addr} {c1 c2 c3 c4 : Nat} {g : GG} (h : LentG B w x1 x2 x3 x4 c1 c2 c3 c4 g) (hk : ∀ k, B ≤ k → k < w.heap.size → w'.heap[k]? = w.heap[k]?) : LentG B w' x1 x2 x3 x4 c1 c2 c3 c4 g := ⟨h.a.keep hk, h.e.keep hk, h.i.keep hk, h.o.keep hk⟩
/-- What is told of a graph's numbers. -/
def NumsG (g : GG) : Prop := (∀ x ∈ g.actors, x.tag ≤ 255 ∧ NumsOk x.params) ∧ (∀ x ∈ g.edges, NumsOk x.start)
theorem GrG.nums {w : World} {a1 a2 a3 a4 : Option Addr} {g : GG} (h : GrG w a1 a2 a3 a4 g) : NumsG g := by
  refine ⟨fun x hx => ?_, fun x hx => ?_⟩
  · obtain ⟨k, hk, rfl⟩ := memA hx
    rcases h.A with e | ⟨b, off, -, hc⟩
    · rw [e] at hk; exact absurd hk (Nat.not_lt_zero _)
    · obtain ⟨-, -, h3, y, c, -, h5⟩ := hc k hk
      exact ⟨h3, h5.fits, h5.reach⟩
  · obtain ⟨k, hk, rfl⟩ := memE hx
    rcases h.E with e | ⟨b, off, -, hc⟩
    · rw [e] at hk; exact absurd hk (Nat.not_lt_zero _)
    · obtain ⟨-, -, -, -, y, c, -, h5⟩ := hc k hk
      exact ⟨h5.fits, h5.reach⟩
theorem LentG.gr {B : Nat} {w : World} {x1 x2 x3 x4 : Option Addr} {c1 c2 c3 c4 : Nat} {g : GG} (h : LentG B w x1 x2 x3 x4 c1 c2 c3 c4 g) (ho : NumsG g) (hl : Light g) : GrG w x1 x2 x3 x4 g :=
  ⟨h.a.gr ho.1, h.e.gr ho.2, h.i.at, h.o.at, Nat.le_trans hl.a (by decide), Nat.le_trans hl.e (by decide), Nat.le_trans hl.i (by decide), Nat.le_trans hl.o (by decide)⟩
/-- The boxes of what comes in and of what is answered. -/
structure LB (w : World) (gv : Array Value) (u : World) : Prop where
  i : BlkA 31 w.heap.size u gv
  r : BlkA 31 (w.heap.size + 1) u #[.string ⟨#[]⟩, .slice none 0 0, .slice none 0 0, .slice none 0 0, .slice none 0 0]
  bel : Below w.heap.size w u
theorem LB.below {w gv} {u u' : World} (h : LB w gv u) (hb : Below u.heap.size u u') : LB w gv u' := ⟨h.i.below hb, h.r.below hb, h.bel.trans (hb.mono h.bel.size)⟩
theorem LB.chg {w gv} {u u' : World} {N : Nat} (h : LB w gv u) (hc : Chg (fun k => k = w.heap.size + 2 ∨ N ≤ k) u u') (hN : w.heap.size + 2 < N) : LB w gv u' :=
  ⟨h.i.keep (hc.block _ h.i.lt (by omega)), h.r.keep (hc.block _ h.r.lt (by omega)), h.bel.trans (hc.below (L := w.heap.size) (fun k e => by omega) h.bel.size)⟩
theorem LB.set {w gv} {u : World} (h : LB w gv u) (f : Nat) (v : Value) : LB w gv (u.setCell ⟨w.heap.size + 2, f, none⟩ v) :=
  ⟨h.i.keep (Below.heap_setCell _ ⟨w.heap.size + 2, f, none⟩ _ _ (by show w.heap.size ≠ w.heap.size + 2; omega)), h.r.keep (Below.heap_setCell _ ⟨w.heap.size + 2, f, none⟩ _ _ (by show w.heap.size + 1 ≠ w.heap.size + 2; omega)), h.bel.setCell (p := ⟨w.heap.size + 2, f, none⟩) (Nat.le_add_right _ 2) _⟩
theorem own_type {B n c : Nat} {w : World} {T S : TypeId} {v : Value} {xs : List Value} {cs : Array Value} {hb : Nat} (h : w.ownsRow B T c v n xs) (hX : BlkA S hb w cs) (hT : S ≠ T) : ∀ k, v.ownBlock = some k → k ≠ hb := by
  intro k hk e
  rcases h.2 with ⟨hv, -⟩ | ⟨g, cap, cur, hv, hg, hh, -⟩
  · rw [hv] at hk; cases hk
  · rw [hv] at hk
    cases hk
    subst e
    rw [show w.heap[g]? = some (.cells cs S (0, 0)) from hX] at hh
    injection hh with hh
    injection hh with h1 h2
    exact hT h2
/-- A graph's box and the row in its field f, while that row is filled; w0: the world ahead of it. -/
structure FilO (w0 wr : World) (hb : Nat) (T : TypeId) (c : Nat) (cs : Array Value) (v : Value) (n : Nat) (xs : List Value) : Prop where
  blk : BlkA 31 hb wr cs
  row : wr.ownsRow w0.heap.size T c v n xs
  old : hb < w0.heap.size
  chg : Chg (fun k => k = hb ∨ w0.heap.size ≤ k) w0 wr
theorem FilO.far {w0 wr : World} {hb : Nat} {T : TypeId} {c : Nat} {cs : Array Value} {v : Value} {n : Nat} {xs : List Value} (h : FilO w0 wr hb T c cs v n xs) : v.ownBlock ≠ some hb := fun e => by
  have := own_row h.row _ e
  have := h.old
  omega
theorem FilO.nil {w0 : World} {hb : Nat} (T : TypeId) (c : Nat) {cs : Array Value} (h : BlkA 31 hb w0 cs) : FilO w0 w0 hb T c cs (.slice none 0 0) 0 [] :=
  ⟨h, World.ownsRow_nil _ _ _ _, h.lt, Chg.of_below (Below.refl _ _)⟩
theorem FilO.step {w0 V u : World} {hb : Nat} {T : TypeId} {c f : Nat} {cs : Array Value} {v : Value} {n : Nat} {xs e : List Value} (h : FilO w0 V hb T c cs v n xs) (ap : AppE (fun _ es => es = e) V w0.heap.size T c v n xs 31 hb f cs u) : ∃ g k, FilO w0 u hb T c (cs.setIfInBounds f (.slice (some ⟨g, 0, none⟩) (n + 1) k)) (.slice (some ⟨g, 0, none⟩) (n + 1) k) (n + 1) (xs ++ e) := by
  obtain ⟨es, w1, u1, z, hD, hbut, hblk⟩ := ap
  obtain ⟨g, cap, rfl⟩ := hD.shape
  have e1 : es = e := hD.el
  subst e1
  have hgB : w0.heap.size ≤ g := own_row hD.own g rfl
  have hold := h.old
  refine ⟨g, cap, hblk, ownR_keep hD.own (fun k hk => hbut.block k (own_lt hD.own k hk) (by have := own_row hD.own k hk; omega)), h.old, ?_⟩
  have c1 := h.chg.trans hD.chg (fun k hk => .inr (own_row h.row k hk))
  exact c1.trans (F' := fun k => k = hb) ⟨hbut.os, hbut.tape, hbut.output, hbut.size, fun k hk hn => hbut.block k hk hn⟩ (fun k hk => .inl (.inl hk))
theorem FilO.bel {w0 wr : World} {hb : Nat} {T : TypeId} {c : Nat} {cs : Array Value} {v : Value} {n : Nat} {xs : List Value} (h : FilO w0 wr hb T c cs v n xs) {Q : Nat} (hQ : Q ≤ hb) : Below Q w0 wr := by
  have := h.old
  exact ⟨h.chg.os, h.chg.tape, h.chg.output, h.chg.size, fun k hk => h.chg.block k (by omega) (by omega)⟩
theorem FilO.keep {w0 wr : World} {hb : Nat} {T : TypeId} {c : Nat} {cs : Array Value} {v : Value} {n : Nat} {xs : List Value} (h : FilO w0 wr hb T c cs v n xs) : ∀ k, k < w0.heap.size → k ≠ hb → wr.heap[k]? = w0.heap[k]? := fun k hk hn => h.chg.block k hk (by omega)
theorem GrE.tail {w : World} {b off : Nat} {e : GE} {es : List GE} (h : GrE w (some ⟨b, off, none⟩) (e :: es)) : GrE w (some ⟨b, off + 5, none⟩) es := by
  rcases h with h | ⟨b', off', e1, hc⟩
  · cases h
  · cases e1
    refine .inr ⟨b, off + 5, rfl, fun k hk => ?_⟩
    have := hc (k + 1) (Nat.succ_lt_succ hk)
    have e2 : off + (k + 1) * 5 = off + 5 + k * 5 := by omega
    rw [e2] at this
    exact this
theorem AtPt.tail {w : World} {b off : Nat} {e : GP} {es : List GP} (h : AtPt w (some ⟨b, off, none⟩) (e :: es)) : AtPt w (some ⟨b, off + 3, none⟩) es := by
  rcases h with h | ⟨b', off', e1, hc⟩
  · cases h
  · cases e1
    refine .inr ⟨b, off + 3, rfl, fun k hk => ?_⟩
    have := hc (k + 1) (Nat.succ_lt_succ hk)
    have e2 : off + (k + 1) * 3 = off + 3 + k * 3 := by omega
    rw [e2] at this
    exact this
theorem Try.infoEdgeO : (Try.prog.info? 54).map (fun i => (i.zero, i.size, i.bytes)) = some (some (.agg #[.int .i64 0, .int .i64 0, .int .i64 0, .int .i64 0, .slice none 0 0]), 5, 56) := by kernel_rfl
theorem doneO_eq (d : Nat → Bool) (i : Nat) : doneAt d i i = true := by unfold doneAt; rw [if_pos rfl]
theorem doneO_ne (d : Nat → Bool) {i j : Nat} (h : j ≠ i) : doneAt d i j = d j := by unfold doneAt; rw [if_neg h]
theorem own_capO {B n c cap : Nat} {w : World} {T : TypeId} {a : Option Addr} {xs : List Value} (h : w.ownsRow B T c (.slice a n cap) n xs) : n ≤ cap := by
  rcases h.2 with ⟨hv, hn⟩ | ⟨g, cap', cur, hv, hg, hh, hc, -⟩
  · omega
  · cases hv; exact hc
end Go.Proofs.Ytlfmmdioondaoaa
namespace Go.Proofs.Ytlfmmdioondaoaa
open Go.RowKit
def aN : GA := ⟨[97], 0, []⟩
def gAN (nm : List UInt8) (n : Nat) : GG := ⟨nm, List.replicate n aN, [], [], []⟩
def gSN (second : List UInt8) (es : List GE) : GG := ⟨[103], [⟨[97], 2, [2]⟩, ⟨second, 8, []⟩], es, [⟨[120], 0, 0⟩], [⟨[121], 1, 0⟩]⟩
def eSN (f : Int) (start : List Int) : GE := ⟨f, 0, 1, 0, start⟩
theorem codeN0 : (firstF (gAN [] 0)).code = 82 := by decide +kernel
theorem codeN1 : (firstF (gAN [103] 0)).code = 80 := by decide +kernel
theorem codeN2 : (firstF (gAN [103] 32)).code = 60 := by decide +kernel
theorem codeN3 : (firstF (gAN [103] 33)).code = 81 := by decide +kernel
theorem codeN4 : (firstF (gSN [97] [eSN 0 [7]])).code = 83 := by decide +kernel
theorem codeN5 : (firstF (gSN [98] [eSN 2 [7]])).code = 84 := by decide +kernel
theorem codeN6 : (firstF (gSN [98] [eSN 0 [7], eSN 0 [7]])).code = 86 := by decide +kernel
theorem codeN7 : (firstF (gSN [98] [eSN 0 (7 :: List.replicate 255 1)])).code = 0 := by decide +kernel
theorem codeN8 : (firstF (gSN [98] [eSN 0 (7 :: List.replicate 256 1)])).code = 88 := by decide +kernel
end Go.Proofs.Ytlfmmdioondaoaa
namespace Go.Proofs.Ytlfmmdioondaoaa
open Go.ChangeShapes Go.WideShapes Go.ChangeAt Go.RowKit
/-- A graph's box and the row in its field f, while that row is filled; w0: the world ahead of it. -/
structure FilS (S : TypeId) (w0 wr : World) (hb : Nat) (T : TypeId) (c : Nat) (cs : Array Value) (v : Value) (n : Nat) (xs : List Value) : Prop where
  blk : BlkA S hb wr cs
  row : wr.ownsRow w0.heap.size T c v n xs
  old : hb < w0.heap.size
  chg : Chg (fun k => k = hb ∨ w0.heap.size ≤ k) w0 wr
theorem FilS.far {S : TypeId} {w0 wr : World} {hb : Nat} {T : TypeId} {c : Nat} {cs : Array Value} {v : Value} {n : Nat} {xs : List Value} (h : FilS S w0 wr hb T c cs v n xs) : v.ownBlock ≠ some hb := fun e => by
  have := own_row h.row _ e
  have := h.old
  omega
theorem FilS.nil {S : TypeId} {w0 : World} {hb : Nat} (T : TypeId) (c : Nat) {cs : Array Value} (h : BlkA S hb w0 cs) : FilS S w0 w0 hb T c cs (.slice none 0 0) 0 [] :=
  ⟨h, World.ownsRow_nil _ _ _ _, h.lt, Chg.of_below (Below.refl _ _)⟩
theorem FilS.step {S : TypeId} {w0 V u : World} {hb : Nat} {T : TypeId} {c f : Nat} {cs : Array Value} {v : Value} {n : Nat} {xs e : List Value} (h : FilS S w0 V hb T c cs v n xs) (ap : AppE (fun _ es => es = e) V w0.heap.size T c v n xs S hb f cs u) : ∃ g k, FilS S w0 u hb T c (cs.setIfInBounds f (.slice (some ⟨g, 0, none⟩) (n + 1) k)) (.slice (some ⟨g, 0, none⟩) (n + 1) k) (n + 1) (xs ++ e) := by
  obtain ⟨es, w1, u1, z, hD, hbut, hblk⟩ := ap
  obtain ⟨g, cap, rfl⟩ := hD.shape
  have e1 : es = e := hD.el
  subst e1
  have hgB : w0.heap.size ≤ g := own_row hD.own g rfl
  have hold := h.old
  refine ⟨g, cap, hblk, ownR_keep hD.own (fun k hk => hbut.block k (own_lt hD.own k hk) (by have := own_row hD.own k hk; omega)), h.old, ?_⟩
  have c1 := h.chg.trans hD.chg (fun k hk => .inr (own_row h.row k hk))
  exact c1.trans (F' := fun k => k = hb) ⟨hbut.os, hbut.tape, hbut.output, hbut.size, fun k hk hn => hbut.block k hk hn⟩ (fun k hk => .inl (.inl hk))
theorem FilS.bel {S : TypeId} {w0 wr : World} {hb : Nat} {T : TypeId} {c : Nat} {cs : Array Value} {v : Value} {n : Nat} {xs : List Value} (h : FilS S w0 wr hb T c cs v n xs) {Q : Nat} (hQ : Q ≤ hb) : Below Q w0 wr := by
  have := h.old
  exact ⟨h.chg.os, h.chg.tape, h.chg.output, h.chg.size, fun k hk => h.chg.block k (by omega) (by omega)⟩
theorem FilS.keep {S : TypeId} {w0 wr : World} {hb : Nat} {T : TypeId} {c : Nat} {cs : Array Value} {v : Value} {n : Nat} {xs : List Value} (h : FilS S w0 wr hb T c cs v n xs) : ∀ k, k < w0.heap.size → k ≠ hb → wr.heap[k]? = w0.heap[k]? := fun k hk hn => h.chg.block k hk (by omega)
/-- The blocks of a small graph, its second actor's name and its edges aside. -/
structure SmX (b : Nat) (nm : ByteArray) (w : World) : Prop where
  i2 : BlkA 3 (b + 1) w #[.int .i64 2]
  ac : BlkA 59 (b + 2) w #[.string ⟨#[97]⟩, .int .u8 2, .slice (some ⟨b + 1, 0, none⟩) 1 1, .string nm, .int .u8 8, .slice none 0 0]
  pi : BlkA 56 (b + 5) w #[.string ⟨#[120]⟩, .int .i64 0, .int .i64 0]
  po : BlkA 56 (b + 6) w #[.string ⟨#[121]⟩, .int .i64 1, .int .i64 0]
theorem SmX.keep {b : Nat} {nm : ByteArray} {w w' : World} (h : SmX b nm w) (hk : ∀ k, k = b + 1 ∨ k = b + 2 ∨ k = b + 5 ∨ k = b + 6 → k < w.heap.size → w'.heap[k]? = w.heap[k]?) : SmX b nm w' :=
  ⟨h.i2.keep (hk _ (by omega) h.i2.lt), h.ac.keep (hk _ (by omega) h.ac.lt), h.pi.keep (hk _ (by omega) h.pi.lt), h.po.keep (hk _ (by omega) h.po.lt)⟩
theorem SmB.x {b : Nat} {tp : Int} {w : World} (h : SmB b tp w) : SmX b ⟨#[98]⟩ w := ⟨h.i2, h.ac, h.pi, h.po⟩
theorem SmB.but {b gb : Nat} {tp : Int} {w w' : World} (h : SmB b tp w) (hB : But gb w w') (hg : gb < b) : SmB b tp w' :=
  ⟨h.i2.keep (hB.block _ h.i2.lt (by omega)), h.ac.keep (hB.block _ h.ac.lt (by omega)), h.i7.keep (hB.block _ h.i7.lt (by omega)), h.ed.keep (hB.block _ h.ed.lt (by omega)), h.pi.keep (hB.block _ h.pi.lt (by omega)), h.po.keep (hB.block _ h.po.lt (by omega))⟩
theorem SmX.gr {b : Nat} {nm : List UInt8} {w : World} (h : SmX b (str nm) w) {x : Option Addr} {es : List GE} (hE : GrE w x es) (hl : es.length ≤ 10) : GrG w (some ⟨b + 2, 0, none⟩) x (some ⟨b + 5, 0, none⟩) (some ⟨b + 6, 0, none⟩) (gSN nm es) := by
  refine ⟨.inr ⟨b + 2, 0, rfl, fun k hk => ?_⟩, hE, .inr ⟨b + 5, 0, rfl, fun k hk => ?_⟩, .inr ⟨b + 6, 0, rfl, fun k hk => ?_⟩, by show 2 ≤ 1000000000000000; decide, by show es.length ≤ 1000000000000000; omega, by show 1 ≤ 1000000000000000; decide, by show 1 ≤ 1000000000000000; decide⟩
  · match k, hk with
    | 0, _ => exact ⟨h.ac.cell (k := 0) rfl, h.ac.cell (k := 1) rfl, by show 2 ≤ 255; decide, _, _, h.ac.cell (k := 2) rfl, arg_one h.i2 (by decide)⟩
    | 1, _ => exact ⟨h.ac.cell (k := 3) rfl, h.ac.cell (k := 4) rfl, by show 8 ≤ 255; decide, _, _, h.ac.cell (k := 5) rfl, arg_nil⟩
    | k + 2, hk => exact absurd hk (by show ¬ k + 2 < 2; omega)
  · match k, hk with
    | 0, _ => exact ⟨h.pi.cell (k := 0) rfl, h.pi.cell (k := 1) rfl, h.pi.cell (k := 2) rfl⟩
    | k + 1, hk => exact absurd hk (by show ¬ k + 1 < 1; omega)
  · match k, hk with
    | 0, _ => exact ⟨h.po.cell (k := 0) rfl, h.po.cell (k := 1) rfl, h.po.cell (k := 2) rfl⟩
    | k + 1, hk => exact absurd hk (by show ¬ k + 1 < 1; omega)
theorem grE_one {w : World} {g : Nat} {f : Int} {d : Option Addr} {k : Nat} {st : List Int} (h : BlkA 54 g w #[.int .i64 f, .int .i64 0, .int .i64 1, .int .i64 0, .slice d st.length k]) (ha : Arg w d st.length k st) : GrE w (some ⟨g, 0, none⟩) [eSN f st] :=
  .inr ⟨g, 0, rfl, fun i hi => by
    match i, hi with
    | 0, _ => exact ⟨h.cell (k := 0) rfl, h.cell (k := 1) rfl, h.cell (k := 2) rfl, h.cell (k := 3) rfl, _, _, h.cell (k := 4) rfl, ha⟩
    | i + 1, hi => exact absurd hi (by show ¬ i + 1 < 1; omega)⟩
theorem own_blk {T : TypeId} {g n c : Nat} {w : World} {cs : Array Value} (h : BlkA T g w cs) (hs : cs.size = n * c) (hn : n ≤ 1000) {B : Nat} (hB : B ≤ g) : w.ownsRow B T c (.slice (some ⟨g, 0, none⟩) n n) n cs.toList := by
  refine ⟨by simpa using hs, .inr ⟨g, n, cs, rfl, hB, h, Nat.le_refl _, by unfold maxLen; omega, hs, ?_⟩⟩
  exact List.take_of_length_le (by rw [Array.length_toList, hs]; exact Nat.le_refl _)
/-- The actors of a graph that is being filled. -/
def aVN : List Value := [.string ⟨#[97]⟩, .int .u8 0, .slice none 0 0]
def rowGN (n : Nat) : List (GA × Value) := List.replicate n (aN, .slice none 0 0)
theorem rowGN_next (n : Nat) : (rowGN (n + 1)).flatMap aP = (rowGN n).flatMap aP ++ aVN := by
  unfold rowGN
  rw [List.replicate_succ', List.flatMap_append, List.flatMap_singleton]
  rfl
theorem grAN {B n k : Nat} {w : World} {d : Option Addr} (h : w.ownsRow B 59 3 (.slice d n k) n ((rowGN n).flatMap aP)) (hn : n ≤ 100) : GrG w d none none none (gAN [103] n) := by
  have hl : (rowGN n).length = n := List.length_replicate ..
  have r := rowA_gr (n := n) (cp := k) (As := rowGN n) (by rw [hl]; exact h) (fun p hp => by
    rw [(List.mem_replicate.1 hp).2]
    exact ⟨by show 0 ≤ 255; decide, none, 0, rfl, arg_nil⟩)
  have e : (rowGN n).map Prod.fst = List.replicate n aN := by unfold rowGN; rw [List.map_replicate]
  rw [e] at r
  exact ⟨r, .inl rfl, .inl rfl, .inl rfl, by show (List.replicate n aN).length ≤ _; rw [List.length_replicate]; omega, by show 0 ≤ _; omega, by show 0 ≤ _; omega, by show 0 ≤ _; omega⟩
theorem FilS.later {S : TypeId} {w0 wr w' : World} {hb : Nat} {T : TypeId} {c : Nat} {cs : Array Value} {v : Value} {n : Nat} {xs : List Value} (h : FilS S w0 wr hb T c cs v n xs) (hb' : Below wr.heap.size wr w') : FilS S w0 w' hb T c cs v n xs :=
  ⟨h.blk.below hb', owns_below h.row hb', h.old, h.chg.trans (F' := fun k => k = hb ∨ w0.heap.size ≤ k) (Chg.of_below hb') (fun _ hk => .inl hk)⟩
/-- The small graph whose edge's tokens grow: k of them behind the first. -/
structure FilT (w wr : World) (b k : Nat) (d : Option Addr) (kk : Nat) : Prop where
  box : BlkA 54 (b + 4) wr #[.int .i64 0, .int .i64 0, .int .i64 1, .int .i64 0, .slice d (k + 1) kk]
  row : wr.ownsRow (b + 3) 3 1 (.slice d (k + 1) kk) (k + 1) (((7 : Int) :: List.replicate k 1).map (Value.int .i64))
  sx : SmX b ⟨#[98]⟩ wr
  gx : BlkA 31 w.heap.size wr #[.string ⟨#[103]⟩, .slice (some ⟨b + 2, 0, none⟩) 2 2, .slice (some ⟨b + 4, 0, none⟩) 1 1, .slice (some ⟨b + 5, 0, none⟩) 1 1, .slice (some ⟨b + 6, 0, none⟩) 1 1]
  low : w.heap.size < b
  bel : Below w.heap.size w wr
theorem FilT.far {w wr : World} {b k : Nat} {d : Option Addr} {kk : Nat} (h : FilT w wr b k d kk) : (.slice d (k + 1) kk : Value).ownBlock ≠ some (b + 4) := fun e => own_type h.row h.box (by decide) _ e rfl
theorem tok_next (k : Nat) : ((7 : Int) :: List.replicate (k + 1) 1).map (Value.int .i64) = ((7 : Int) :: List.replicate k 1).map (Value.int .i64) ++ [.int .i64 1] := by
  rw [List.replicate_succ', ← List.cons_append, List.map_append]
  rfl
theorem FilT.step {w V u : World} {b k : Nat} {d : Option Addr} {kk : Nat} (h : FilT w V b k d kk) (ap : AppE (fun _ es => es = [.int .i64 1]) V (b + 3) 3 1 (.slice d (k + 1) kk) (k + 1) (((7 : Int) :: List.replicate k 1).map (Value.int .i64)) 54 (b + 4) 4 #[.int .i64 0, .int .i64 0, .int .i64 1, .int .i64 0, .slice d (k + 1) kk] u) : ∃ d' kk', FilT w u b (k + 1) d' kk' := by
  obtain ⟨es, w1, u1, z, hD, hbut, hblk⟩ := ap
  obtain ⟨g, cap, rfl⟩ := hD.shape
  have e1 : es = [.int .i64 1] := hD.el
  subst e1
  have hlow := h.low
  have hb1 : BlkA 54 (b + 4) u1 _ := h.box.keep (hD.chg.block _ h.box.lt h.far)
  have kp : ∀ j, j < V.heap.size → (.slice d (k + 1) kk : Value).ownBlock ≠ some j → j ≠ b + 4 → u.heap[j]? = V.heap[j]? := fun j hj hn h4 => (hbut.block j (Nat.lt_of_lt_of_le hj hD.chg.size) h4).trans (hD.chg.block j hj hn)
  have no : ∀ j, j < b + 3 → (.slice d (k + 1) kk : Value).ownBlock ≠ some j := fun j hj e => by have := own_row h.row j e; omega
  refine ⟨some ⟨g, 0, none⟩, cap, hblk, ?_, ?_, ?_, h.low, ?_⟩
  · rw [tok_next]
    exact ownR_keep hD.own (fun j hj => hbut.block j (own_lt hD.own j hj) (own_type hD.own hb1 (by decide) j hj))
  · refine h.sx.keep fun j hj hl => kp j hl ?_ (by omega)
    rcases hj with rfl | rfl | rfl | rfl
    · exact no _ (by omega)
    · exact no _ (by omega)
    · exact fun e => own_type h.row h.sx.pi (by decide) _ e rfl
    · exact fun e => own_type h.row h.sx.po (by decide) _ e rfl
  · exact h.gx.keep (kp _ h.gx.lt (no _ (by omega)) (by omega))
  · exact h.bel.trans ⟨hbut.os.trans hD.chg.os, hbut.tape.trans hD.chg.tape, hbut.output.trans hD.chg.output, Nat.le_trans hD.chg.size hbut.size, fun j hj => kp j (Nat.lt_of_lt_of_le hj h.bel.size) (no _ (by omega)) (by omega)⟩
theorem FilT.later {w wr w' : World} {b k : Nat} {d : Option Addr} {kk : Nat} (h : FilT w wr b k d kk) (hb : Below wr.heap.size wr w') : FilT w w' b k d kk :=
  ⟨h.box.below hb, owns_below h.row hb, h.sx.keep (fun j _ hl => hb.block j hl), h.gx.below hb, h.low, h.bel.trans (hb.mono h.bel.size)⟩
theorem FilT.gr {w wr : World} {b k : Nat} {d : Option Addr} {kk : Nat} (h : FilT w wr b k d kk) (hk : k ≤ 300) : GrG wr (some ⟨b + 2, 0, none⟩) (some ⟨b + 4, 0, none⟩) (some ⟨b + 5, 0, none⟩) (some ⟨b + 6, 0, none⟩) (gSN [98] [eSN 0 (7 :: List.replicate k 1)]) := by
  have hl : ((7 : Int) :: List.replicate k 1).length = k + 1 := by simp
  have hcap := own_capO h.row
  refine SmX.gr (nm := [98]) h.sx (grE_one (d := d) (k := kk) (by rw [hl]; exact h.box) ?_) (by simp)
  rw [hl]
  refine ⟨hl, by omega, fun e => ?_, fun i => ?_, ?_, hcap⟩
  · subst e
    rcases h.row.2 with ⟨hv, hn⟩ | ⟨g, c, cur, hv, -⟩
    · omega
    · cases hv
  · unfold nth
    rw [List.getD_eq_getElem?_getD]
    by_cases hi : i < ((7 : Int) :: List.replicate k 1).length
    · rw [List.getElem?_eq_getElem hi]
      have hm := List.getElem_mem hi
      simp only [Option.getD_some]
      rcases List.mem_cons.1 hm with e | e
      · rw [e]; decide
      · rw [(List.mem_replicate.1 e).2]; decide
    · rw [List.getElem?_eq_none (by omega)]; decide
  · have q : CapR (b + 3) wr d kk ((7 : Int) :: List.replicate k 1) := by unfold CapR; rw [hl]; exact h.row
    exact q.at
theorem aVN_one : ∀ u ∈ aVN, u.oneCell' = true := by
  intro u hu
  simp [aVN] at hu
  rcases hu with rfl | rfl | rfl <;> rfl
theorem grN0 (w : World) (nm : List UInt8) : GrG w none none none none (gAN nm 0) := ⟨.inl rfl, .inl rfl, .inl rfl, .inl rfl, by show 0 ≤ _; omega, by show 0 ≤ _; omega, by show 0 ≤ _; omega, by show 0 ≤ _; omega⟩
def eLN (b : Nat) : List Value := [.int .i64 0, .int .i64 0, .int .i64 1, .int .i64 0, .slice (some ⟨b + 3, 0, none⟩) 1 1]
theorem eLN_one (b : Nat) : ∀ u ∈ eLN b, u.oneCell' = true := by
  intro u hu
  simp [eLN] at hu
  rcases hu with rfl | rfl | rfl | rfl <;> rfl
theorem elA_new {E : World → List Value → Prop} {V u : World} {B c n g : Nat} {T : TypeId} {xs : List Value} {z : Value} (h : ElA E V B T c (.slice (some ⟨g, 0, none⟩) n n) n xs u z) : Below V.heap.size V u := by
  obtain ⟨es, w1, u1, hD, hb⟩ := h
  rcases hD.told with ⟨g', cap, e1, e2, -⟩ | ⟨cap, e2, hg⟩
  · subst e2
    cases e1
    exact absurd (own_capO hD.own) (by omega)
  · have q : Below V.heap.size V u1 := hD.bel.grown hg hD.bel.size (fun k e => by cases e)
    exact q.trans (hb.mono q.size)
theorem twoE {w V u : World} {b : Nat} (hS : SmB b 0 V) (_ : BlkA 31 w.heap.size V #[.string ⟨#[103]⟩, .slice (some ⟨b + 2, 0, none⟩) 2 2, .slice (some ⟨b + 4, 0, none⟩) 1 1, .slice (some ⟨b + 5, 0, none⟩) 1 1, .slice (some ⟨b + 6, 0, none⟩) 1 1]) (hlow : w.heap.size < b) (hL : Below w.heap.size w V) (ap : AppE (fun _ es => es = eLN b) V (b + 4) 54 5 (.slice (some ⟨b + 4, 0, none⟩) 1 1) 1 (eLN b) 31 w.heap.size 2 #[.string ⟨#[103]⟩, .slice (some ⟨b + 2, 0, none⟩) 2 2, .slice (some ⟨b + 4, 0, none⟩) 1 1, .slice (some ⟨b + 5, 0, none⟩) 1 1, .slice (some ⟨b + 6, 0, none⟩) 1 1] u) :
    ∃ g cap, BlkA 31 w.heap.size u #[.string ⟨#[103]⟩, .slice (some ⟨b + 2, 0, none⟩) 2 2, .slice (some ⟨g, 0, none⟩) 2 cap, .slice (some ⟨b + 5, 0, none⟩) 1 1, .slice (some ⟨b + 6, 0, none⟩) 1 1] ∧ SmX b ⟨#[98]⟩ u ∧ GrE u (some ⟨g, 0, none⟩) [eSN 0 [7], eSN 0 [7]] ∧ Below w.heap.size w u := by
  obtain ⟨es, w1, u1, z, hD, hbut, hblk⟩ := ap
  obtain ⟨g, cap, rfl⟩ := hD.shape
  have e1 : es = eLN b := hD.el
  subst e1
  have kp : ∀ j, j < V.heap.size → j ≠ b + 4 → j ≠ w.heap.size → u.heap[j]? = V.heap[j]? := fun j hj h4 h5 => (hbut.block j (Nat.lt_of_lt_of_le hj hD.chg.size) h5).trans (hD.chg.block j hj (fun e => by cases e; exact h4 rfl))
  have i7 : BlkA 3 (b + 3) u #[.int .i64 7] := hS.i7.keep (kp _ hS.i7.lt (by omega) (by omega))
  refine ⟨g, cap, hblk, hS.x.keep (fun k hk hl => kp k hl (by omega) (by omega)), ?_, ?_⟩
  · exact rowE_gr (n := 2) (cp := cap) (As := [(eSN 0 [7], .slice (some ⟨b + 3, 0, none⟩) 1 1), (eSN 0 [7], .slice (some ⟨b + 3, 0, none⟩) 1 1)]) (B := b + 4) (ownR_keep hD.own (fun k hk => hbut.block k (own_lt hD.own k hk) (by have := own_row hD.own k hk; omega))) (fun p hp => by
      simp at hp
      subst hp
      exact ⟨some ⟨b + 3, 0, none⟩, 1, rfl, arg_one i7 (by decide)⟩)
  · exact hL.trans ⟨hbut.os.trans hD.chg.os, hbut.tape.trans hD.chg.tape, hbut.output.trans hD.chg.output, Nat.le_trans hD.chg.size hbut.size, fun j hj => kp j (Nat.lt_of_lt_of_le hj hL.size) (by omega) (by omega)⟩
set_option maxRecDepth 100000 in
set_option maxHeartbeats 64000000 in
theorem graphNames_walk (w : World) : Calls Try.prog 7 #[] w fun e w' => e = .returned (.bool true) ∧ Below w.heap.size w w' := by
  obtain ⟨i0, hi, hz0, hz1, hz2⟩ := info_parts Try.infoA
  have AW : Hid (∀ U, Calls Try.prog 14 #[] U fun e w' => e = .returned (.bool true) ∧ Below U.heap.size U w') := fun U => awake8 U
  have SM : Hid (∀ U, Calls Try.prog 27 #[] U fun e w' => e = .returned (.agg #[.string ⟨#[103]⟩, .slice (some ⟨U.heap.size + 2, 0, none⟩) 2 2, .slice (some ⟨U.heap.size + 4, 0, none⟩) 1 1, .slice (some ⟨U.heap.size + 5, 0, none⟩) 1 1, .slice (some ⟨U.heap.size + 6, 0, none⟩) 1 1]) ∧ SmB U.heap.size 0 w' ∧ Below U.heap.size U w') := fun U => small_any U
  have C0 : Hid (∀ U, Calls Try.prog 25 #[.agg #[.string ⟨#[]⟩, .slice none 0 0, .slice none 0 0, .slice none 0 0, .slice none 0 0]] U fun e w' => e = .returned (.int .i64 82) ∧ Below U.heap.size U w') := fun U => by
    have q := check_any (gAN [] 0) none none none none 0 0 0 0 U (grN0 U [])
    rw [codeN0] at q
    exact q
  have C1 : Hid (∀ U, Calls Try.prog 25 #[.agg #[.string ⟨#[103]⟩, .slice none 0 0, .slice none 0 0, .slice none 0 0, .slice none 0 0]] U fun e w' => e = .returned (.int .i64 80) ∧ Below U.heap.size U w') := fun U => by
    have q := check_any (gAN [103] 0) none none none none 0 0 0 0 U (grN0 U [103])
    rw [codeN1] at q
    exact q
  have C2 : Hid (∀ U d kk, GrG U d none none none (gAN [103] 32) → Calls Try.prog 25 #[.agg #[.string ⟨#[103]⟩, .slice d 32 kk, .slice none 0 0, .slice none 0 0, .slice none 0 0]] U fun e w' => e = .returned (.int .i64 60) ∧ Below U.heap.size U w') := fun U d kk hg => by
    have q := check_any (gAN [103] 32) d none none none kk 0 0 0 U hg
    rw [codeN2] at q
    exact q
  have C3 : Hid (∀ U d kk, GrG U d none none none (gAN [103] 33) → Calls Try.prog 25 #[.agg #[.string ⟨#[103]⟩, .slice d 33 kk, .slice none 0 0, .slice none 0 0, .slice none 0 0]] U fun e w' => e = .returned (.int .i64 81) ∧ Below U.heap.size U w') := fun U d kk hg => by
    have q := check_any (gAN [103] 33) d none none none kk 0 0 0 U hg
    rw [codeN3] at q
    exact q
  have b1 := (Below.refl w.heap.size w).alloc (Nat.le_refl _) (.cells #[.string ⟨#[]⟩, .slice none 0 0, .slice none 0 0, .slice none 0 0, .slice none 0 0] 31)
  have XW1 := hiddenG (blkA_new 31 w #[.string ⟨#[]⟩, .slice none 0 0, .slice none 0 0, .slice none 0 0, .slice none 0 0])
  have LW1 := hiddenG b1
  clear b1
  go_enter Try.func7, Try.ntmps7
  go_upto_region 2 with fail
  generalize w.alloc (.cells #[.string ⟨#[]⟩, .slice none 0 0, .slice none 0 0, .slice none 0 0, .slice none 0 0] 31) = W1 at *
  have z0 := XW1.out.cell (k := 0) rfl
  have z1 := XW1.out.cell (k := 1) rfl
  have z2 := XW1.out.cell (k := 2) rfl
  have z3 := XW1.out.cell (k := 3) rfl
  have z4 := XW1.out.cell (k := 4) rfl
  simp only [List.getElem_toArray, List.getElem_cons_zero, List.getElem_cons_succ] at z0 z1 z2 z3 z4
  go_upto_region 3 with (go_at_call 25; (with_reducible refine (C0.out W1).mono ?_); rintro e W2 ⟨rfl, b9⟩; have LW2 := hiddenG (LW1.out.trans (b9.mono LW1.out.size)); have XW2 := hiddenG (XW1.out.below b9); clear b9 z0 z1 z2 z3 z4)
  have z0 := XW2.out.cell (k := 0) rfl
  simp only [List.getElem_toArray, List.getElem_cons_zero] at z0
  have fz := XW2.out.frozen 0
  go_upto_region 4 with fail
  have q1 := XW2.out.set 0 (.string ⟨#[103]⟩)
  simp only [List.setIfInBounds_toArray, List.set_cons_zero] at q1
  have XW3 := hiddenG q1
  have LW3 := hiddenG (LW2.out.trans ((But.set W2 w.heap.size 0 (.string ⟨#[103]⟩)).below (Nat.le_refl _) LW2.out.size))
  generalize W2.setCell ⟨w.heap.size, 0, none⟩ (.string ⟨#[103]⟩) = W3 at *
  clear q1 z0 fz XW1 LW1 XW2 LW2 C0
  have z0 := XW3.out.cell (k := 0) rfl
  have z1 := XW3.out.cell (k := 1) rfl
  have z2 := XW3.out.cell (k := 2) rfl
  have z3 := XW3.out.cell (k := 3) rfl
  have z4 := XW3.out.cell (k := 4) rfl
  simp only [List.getElem_toArray, List.getElem_cons_zero, List.getElem_cons_succ] at z0 z1 z2 z3 z4
  go_upto_region 5 with (go_at_call 25; (with_reducible refine (C1.out W3).mono ?_); rintro e W4 ⟨rfl, b9⟩; have LW4 := hiddenG (LW3.out.trans (b9.mono LW3.out.size)); have XW4 := hiddenG (XW3.out.below b9); clear b9 z0 z1 z2 z3 z4)
  clear XW3 LW3 C1
  have FI0 : Hid (FilS 31 W4 W4 w.heap.size 59 3 #[.string ⟨#[103]⟩, .slice none 0 0, .slice none 0 0, .slice none 0 0, .slice none 0 0] (.slice none 0 0) 0 ((rowGN 0).flatMap aP)) := FilS.nil 59 3 XW4.out
  go_wp2
  go_loopg [4] 32 (fun gk u wr => ∃ (k : Nat) (d : Option Addr) (kk : Nat), k ≤ 32 ∧ gk = 32 - k ∧ u = .int .i64 (k : Int) ∧ FilS 31 W4 wr w.heap.size 59 3 #[.string ⟨#[103]⟩, .slice d k kk, .slice none 0 0, .slice none 0 0, .slice none 0 0] (.slice d k kk) k ((rowGN k).flatMap aP))
  case atStart => exact ⟨0, none, 0, by omega, rfl, rfl, FI0.out⟩
  case round =>
    obtain ⟨k, d, kk, hk, rfl, rfl, hF⟩ := hrel
    have FX := hiddenG hF
    clear hF FI0
    have z0 := FX.out.blk.cell (k := 0) rfl
    have z1 := FX.out.blk.cell (k := 1) rfl
    simp only [List.getElem_toArray, List.getElem_cons_zero, List.getElem_cons_succ] at z0 z1
    by_cases hlt : k < 32
    · have hki : (k : Int) < 32 := by omega
      have bv := (Below.refl wr.heap.size wr).alloc (Nat.le_refl _) (.cells #[.string ⟨#[97]⟩, .int .u8 0, .slice none 0 0] 59)
      have RV := hiddenG (owns_below FX.out.row bv)
      have NV := hiddenG (blkA_new 59 wr #[.string ⟨#[97]⟩, .int .u8 0, .slice none 0 0])
      have BV := hiddenG bv
      have CV : Hid (∀ j u, aVN[j]? = some u → (wr.alloc (.cells #[.string ⟨#[97]⟩, .int .u8 0, .slice none 0 0] 59)).cell? ((⟨wr.heap.size, 0, none⟩ : Addr).add j) = some u) := fun j u hu => by
        rw [Addr.add_lit, Nat.zero_add]
        match j, hu with
        | 0, hu => cases hu; exact NV.out.cell rfl
        | 1, hu => cases hu; exact NV.out.cell rfl
        | 2, hu => cases hu; exact NV.out.cell rfl
      have LBV : Hid (W4.heap.size ≤ (wr.alloc (.cells #[.string ⟨#[97]⟩, .int .u8 0, .slice none 0 0] 59)).heap.size) := Nat.le_trans FX.out.chg.size bv.size
      clear bv
      go_wp2_with (at_builtin; refine wpList_append_told _ rfl _ _ 27 rfl W4.heap.size 59 i0 _ 3 48 Try.underlying27 hi hz0 hz1 hz2 rfl (by decide) (.slice d k kk) k _ rfl RV.out ⟨wr.heap.size, 0, none⟩ 1 1 (by decide) aVN rfl rfl CV.out aVN_one (by unfold maxLen; omega) (by omega) LBV.out ?_; intro zv u1 hown htold; have hG : ElA (fun _ es => es = aVN) wr W4.heap.size 59 3 (.slice d k kk) k _ u1 zv := ⟨aVN, _, u1, ⟨BV.out, rfl, hown, htold⟩, Below.refl _ _⟩; obtain ⟨gz, cz, rfl⟩ := hG.shape; have hF := appE_store (f := 1) hG FX.out.blk FX.out.far; have AE := hiddenG hF.1; have z1 := hF.2.cell (k := 1) rfl; have fz := hF.2.frozen 1; simp only [List.getElem_toArray, List.getElem_cons_zero, List.getElem_cons_succ] at z1; clear hown htold hG hF z0)
      obtain ⟨g9, k9, F9⟩ := FX.out.step AE.out
      go_roundg (32 - (k + 1))
      case measure => omega
      case rel => exact ⟨k + 1, some ⟨g9, 0, none⟩, k9, by omega, rfl, by go_num, by rw [rowGN_next]; exact F9⟩
    have ek : k = 32 := by omega
    subst ek
    have hki : ¬ ((32 : Nat) : Int) < 32 := by decide
    generalize wr = V8 at *
    have LV8 := hiddenG (LW4.out.trans (FX.out.bel (Nat.le_refl _)))
    have G8 := hiddenG (grAN FX.out.row (by decide))
    have XV8 := hiddenG FX.out.blk
    clear z0 z1
    have z0 := XV8.out.cell (k := 0) rfl
    have z1 := XV8.out.cell (k := 1) rfl
    have z2 := XV8.out.cell (k := 2) rfl
    have z3 := XV8.out.cell (k := 3) rfl
    have z4 := XV8.out.cell (k := 4) rfl
    simp only [List.getElem_toArray, List.getElem_cons_zero, List.getElem_cons_succ] at z0 z1 z2 z3 z4
    go_upto_region 10 with (go_at_call 25; (with_reducible refine (C2.out V8 d kk G8.out).mono ?_); rintro e V9 ⟨rfl, b9⟩; have LV9 := hiddenG (LV8.out.trans (b9.mono LV8.out.size)); have FX9 := hiddenG (FX.out.later b9); clear b9 z0 z1 z2 z3 z4)
    have FX := hiddenG FX9.out
    clear FX9 LV8 G8 XV8 C2
    have z0 := FX.out.blk.cell (k := 0) rfl
    have z1 := FX.out.blk.cell (k := 1) rfl
    simp only [List.getElem_toArray, List.getElem_cons_zero, List.getElem_cons_succ] at z0 z1
    have bv := (Below.refl V9.heap.size V9).alloc (Nat.le_refl _) (.cells #[.string ⟨#[97]⟩, .int .u8 0, .slice none 0 0] 59)
    have RV := hiddenG (owns_below FX.out.row bv)
    have NV := hiddenG (blkA_new 59 V9 #[.string ⟨#[97]⟩, .int .u8 0, .slice none 0 0])
    have BV := hiddenG bv
    have CV : Hid (∀ j u, aVN[j]? = some u → (V9.alloc (.cells #[.string ⟨#[97]⟩, .int .u8 0, .slice none 0 0] 59)).cell? ((⟨V9.heap.size, 0, none⟩ : Addr).add j) = some u) := fun j u hu => by
      rw [Addr.add_lit, Nat.zero_add]
      match j, hu with
      | 0, hu => cases hu; exact NV.out.cell rfl
      | 1, hu => cases hu; exact NV.out.cell rfl
      | 2, hu => cases hu; exact NV.out.cell rfl
    have LBV : Hid (W4.heap.size ≤ (V9.alloc (.cells #[.string ⟨#[97]⟩, .int .u8 0, .slice none 0 0] 59)).heap.size) := Nat.le_trans FX.out.chg.size bv.size
    clear bv
    go_upto_region 11 with (at_builtin; refine wpList_append_told _ rfl _ _ 27 rfl W4.heap.size 59 i0 _ 3 48 Try.underlying27 hi hz0 hz1 hz2 rfl (by decide) (.slice d 32 kk) 32 _ rfl RV.out ⟨V9.heap.size, 0, none⟩ 1 1 (by decide) aVN rfl rfl CV.out aVN_one (by unfold maxLen; omega) (by omega) LBV.out ?_; intro zv u1 hown htold; have hG : ElA (fun _ es => es = aVN) V9 W4.heap.size 59 3 (.slice d 32 kk) 32 _ u1 zv := ⟨aVN, _, u1, ⟨BV.out, rfl, hown, htold⟩, Below.refl _ _⟩; obtain ⟨gz, cz, rfl⟩ := hG.shape; have hF := appE_store (f := 1) hG FX.out.blk FX.out.far; have AE := hiddenG hF.1; have z1 := hF.2.cell (k := 1) rfl; have fz := hF.2.frozen 1; simp only [List.getElem_toArray, List.getElem_cons_zero, List.getElem_cons_succ] at z1; clear hown htold hG hF z0)
    obtain ⟨g9, k9, F9⟩ := FX.out.step AE.out
    have FY := hiddenG F9
    clear F9 FX RV NV BV CV LBV AE z1 fz
    generalize u1.setCell ⟨w.heap.size, 1, none⟩ (.slice (some ⟨gz, 0, none⟩) (32 + 1) cz) = V10 at *
    have LV10 := hiddenG (LW4.out.trans (FY.out.bel (Nat.le_refl _)))
    have G10 := hiddenG (grAN (n := 33) (by have q := FY.out.row; rw [← rowGN_next] at q; exact q) (by decide))
    have XV10 := hiddenG FY.out.blk
    simp only [List.setIfInBounds_toArray, List.set_cons_zero, List.set_cons_succ] at XV10
    clear FY LV9
    have z0 := XV10.out.cell (k := 0) rfl
    have z1 := XV10.out.cell (k := 1) rfl
    have z2 := XV10.out.cell (k := 2) rfl
    have z3 := XV10.out.cell (k := 3) rfl
    have z4 := XV10.out.cell (k := 4) rfl
    simp only [List.getElem_toArray, List.getElem_cons_zero, List.getElem_cons_succ] at z0 z1 z2 z3 z4
    go_upto_region 12 with (go_at_call 25; (with_reducible refine (C3.out V10 _ _ G10.out).mono ?_); rintro e V11 ⟨rfl, b9⟩; have LV11 := hiddenG (LV10.out.trans (b9.mono LV10.out.size)); have XV11 := hiddenG (XV10.out.below b9); clear b9 z0 z1 z2 z3 z4)
    clear G10 XV10 LV10 C3
    have hlow : w.heap.size < V11.heap.size := XV11.out.lt
    go_upto_region 13 with (first
      | (go_at_call 27; (with_reducible refine (SM.out _).mono ?_); rintro e U1 ⟨rfl, s1, b1⟩; have SB1 := hiddenG s1; have XU1 := hiddenG (XV11.out.below b1); have LU1 := hiddenG (LV11.out.trans (b1.mono LV11.out.size)); clear s1 b1)
      | (refine wpList_storeW _ rfl 31 (.tmp 1) (.tmp 38) rfl rfl w.heap.size 31 _ _ rfl rfl XU1.out sizG rfl rfl ?_; intro V12 hN hU; have XV12 := hiddenG hN; have SV12 := hiddenG (SB1.out.but hU hlow); have LV12 := hiddenG (LU1.out.trans (hU.below (Nat.le_refl _) LU1.out.size)); clear hN hU))
    clear XU1 LU1 SB1 XV11 LV11
    obtain ⟨b, hb⟩ : ∃ q, V11.heap.size = q := ⟨_, rfl⟩
    rw [hb] at XV12 SV12 hlow
    rw [hb]
    clear hb
    have z1 := XV12.out.cell (k := 1) rfl
    have c3 := SV12.out.ac.cell (k := 3) rfl
    simp only [List.getElem_toArray, List.getElem_cons_zero, List.getElem_cons_succ] at z1 c3
    have fz := SV12.out.ac.frozen 3
    go_upto_region 14 with fail
    have q1 := SV12.out.ac.set 3 (.string ⟨#[97]⟩)
    simp only [List.setIfInBounds_toArray, List.set_cons_zero, List.set_cons_succ] at q1
    have q2 := But.set V12 (b + 2) 3 (.string ⟨#[97]⟩)
    have LV13 := hiddenG (LV12.out.trans (q2.below (show w.heap.size ≤ b + 2 by omega) LV12.out.size))
    have XV13 := hiddenG (XV12.out.keep (q2.block _ XV12.out.lt (by omega)))
    have SX : Hid (SmX b ⟨#[97]⟩ (V12.setCell ⟨b + 2, 3, none⟩ (.string ⟨#[97]⟩))) := ⟨SV12.out.i2.keep (q2.block _ SV12.out.i2.lt (by omega)), q1, SV12.out.pi.keep (q2.block _ SV12.out.pi.lt (by omega)), SV12.out.po.keep (q2.block _ SV12.out.po.lt (by omega))⟩
    have GE := hiddenG (grE_one (f := 0) (st := [7]) (SV12.out.ed.keep (q2.block _ SV12.out.ed.lt (by omega))) (arg_one (SV12.out.i7.keep (q2.block _ SV12.out.i7.lt (by omega))) (by decide)))
    generalize V12.setCell ⟨b + 2, 3, none⟩ (.string ⟨#[97]⟩) = V13 at *
    clear q1 q2 z1 c3 fz XV12 LV12 SV12
    have CSx : Hid (∀ U x kk, GrG U (some ⟨b + 2, 0, none⟩) x (some ⟨b + 5, 0, none⟩) (some ⟨b + 6, 0, none⟩) (gSN [97] [eSN 0 [7]]) → Calls Try.prog 25 #[.agg #[.string ⟨#[103]⟩, .slice (some ⟨b + 2, 0, none⟩) 2 2, .slice x 1 kk, .slice (some ⟨b + 5, 0, none⟩) 1 1, .slice (some ⟨b + 6, 0, none⟩) 1 1]] U fun e w' => e = .returned (.int .i64 83) ∧ Below U.heap.size U w') := fun U x kk hg => by
      have q := check_any (gSN [97] [eSN 0 [7]]) (some ⟨b + 2, 0, none⟩) x (some ⟨b + 5, 0, none⟩) (some ⟨b + 6, 0, none⟩) 2 kk 1 1 U hg
      rw [codeN4] at q
      exact q
    have GG4 := hiddenG (SmX.gr (nm := [97]) SX.out GE.out (by decide))
    have z0 := XV13.out.cell (k := 0) rfl
    have z1 := XV13.out.cell (k := 1) rfl
    have z2 := XV13.out.cell (k := 2) rfl
    have z3 := XV13.out.cell (k := 3) rfl
    have z4 := XV13.out.cell (k := 4) rfl
    simp only [List.getElem_toArray, List.getElem_cons_zero, List.getElem_cons_succ] at z0 z1 z2 z3 z4
    go_upto_region 15 with (go_at_call 25; (with_reducible refine (CSx.out V13 _ _ GG4.out).mono ?_); rintro e V14 ⟨rfl, b9⟩; have LV14 := hiddenG (LV13.out.trans (b9.mono LV13.out.size)); have XV14 := hiddenG (XV13.out.below b9); clear b9 z0 z1 z2 z3 z4)
    clear GG4 CSx SX GE XV13 LV13 hlow
    have hlow : w.heap.size < V14.heap.size := XV14.out.lt
    go_upto_region 16 with (first
      | (go_at_call 27; (with_reducible refine (SM.out _).mono ?_); rintro e U1 ⟨rfl, s1, b1⟩; have SB1 := hiddenG s1; have XU1 := hiddenG (XV14.out.below b1); have LU1 := hiddenG (LV14.out.trans (b1.mono LV14.out.size)); clear s1 b1)
      | (refine wpList_storeW _ rfl 31 (.tmp 1) (.tmp 45) rfl rfl w.heap.size 31 _ _ rfl rfl XU1.out sizG rfl rfl ?_; intro V15 hN hU; have XV15 := hiddenG hN; have SV15 := hiddenG (SB1.out.but hU hlow); have LV15 := hiddenG (LU1.out.trans (hU.below (Nat.le_refl _) LU1.out.size)); clear hN hU))
    clear XU1 LU1 SB1 XV14 LV14
    obtain ⟨b, hb⟩ : ∃ q, V14.heap.size = q := ⟨_, rfl⟩
    rw [hb] at XV15 SV15 hlow
    rw [hb]
    clear hb
    have z2 := XV15.out.cell (k := 2) rfl
    have c0 := SV15.out.ed.cell (k := 0) rfl
    simp only [List.getElem_toArray, List.getElem_cons_zero, List.getElem_cons_succ] at z2 c0
    have fz := SV15.out.ed.frozen 0
    go_upto_region 17 with fail
    have q1 := SV15.out.ed.set 0 (.int .i64 2)
    simp only [List.setIfInBounds_toArray, List.set_cons_zero] at q1
    have q2 := But.set V15 (b + 4) 0 (.int .i64 2)
    have LV16 := hiddenG (LV15.out.trans (q2.below (show w.heap.size ≤ b + 4 by omega) LV15.out.size))
    have XV16 := hiddenG (XV15.out.keep (q2.block _ XV15.out.lt (by omega)))
    have SX : Hid (SmX b ⟨#[98]⟩ (V15.setCell ⟨b + 4, 0, none⟩ (.int .i64 2))) := SV15.out.x.keep fun k hk hl => q2.block k hl (by omega)
    have GE := hiddenG (grE_one (f := 2) (st := [7]) q1 (arg_one (SV15.out.i7.keep (q2.block _ SV15.out.i7.lt (by omega))) (by decide)))
    generalize V15.setCell ⟨b + 4, 0, none⟩ (.int .i64 2) = V16 at *
    clear q1 q2 z2 c0 fz XV15 LV15 SV15
    have CSx : Hid (∀ U x kk, GrG U (some ⟨b + 2, 0, none⟩) x (some ⟨b + 5, 0, none⟩) (some ⟨b + 6, 0, none⟩) (gSN [98] [eSN 2 [7]]) → Calls Try.prog 25 #[.agg #[.string ⟨#[103]⟩, .slice (some ⟨b + 2, 0, none⟩) 2 2, .slice x 1 kk, .slice (some ⟨b + 5, 0, none⟩) 1 1, .slice (some ⟨b + 6, 0, none⟩) 1 1]] U fun e w' => e = .returned (.int .i64 84) ∧ Below U.heap.size U w') := fun U x kk hg => by
      have q := check_any (gSN [98] [eSN 2 [7]]) (some ⟨b + 2, 0, none⟩) x (some ⟨b + 5, 0, none⟩) (some ⟨b + 6, 0, none⟩) 2 kk 1 1 U hg
      rw [codeN5] at q
      exact q
    have GG4 := hiddenG (SmX.gr (nm := [98]) SX.out GE.out (by decide))
    have z0 := XV16.out.cell (k := 0) rfl
    have z1 := XV16.out.cell (k := 1) rfl
    have z2 := XV16.out.cell (k := 2) rfl
    have z3 := XV16.out.cell (k := 3) rfl
    have z4 := XV16.out.cell (k := 4) rfl
    simp only [List.getElem_toArray, List.getElem_cons_zero, List.getElem_cons_succ] at z0 z1 z2 z3 z4
    go_upto_region 18 with (go_at_call 25; (with_reducible refine (CSx.out V16 _ _ GG4.out).mono ?_); rintro e V17 ⟨rfl, b9⟩; have LV17 := hiddenG (LV16.out.trans (b9.mono LV16.out.size)); have XV17 := hiddenG (XV16.out.below b9); clear b9 z0 z1 z2 z3 z4)
    clear GG4 CSx SX GE XV16 LV16 hlow
    have hlow : w.heap.size < V17.heap.size := XV17.out.lt
    go_upto_region 19 with (first
      | (go_at_call 27; (with_reducible refine (SM.out _).mono ?_); rintro e U1 ⟨rfl, s1, b1⟩; have SB1 := hiddenG s1; have XU1 := hiddenG (XV17.out.below b1); have LU1 := hiddenG (LV17.out.trans (b1.mono LV17.out.size)); clear s1 b1)
      | (refine wpList_storeW _ rfl 31 (.tmp 1) (.tmp 52) rfl rfl w.heap.size 31 _ _ rfl rfl XU1.out sizG rfl rfl ?_; intro V18 hN hU; have XV18 := hiddenG hN; have SV18 := hiddenG (SB1.out.but hU hlow); have LV18 := hiddenG (LU1.out.trans (hU.below (Nat.le_refl _) LU1.out.size)); clear hN hU))
    clear XU1 LU1 SB1 XV17 LV17
    obtain ⟨b, hb⟩ : ∃ q, V17.heap.size = q := ⟨_, rfl⟩
    rw [hb] at XV18 SV18 hlow
    rw [hb]
    clear hb
    obtain ⟨j0, hj, hy0, hy1, hy2⟩ := info_parts Try.infoEdgeO
    obtain ⟨j1, hk1, hx0, hx1, hx2⟩ := info_parts Try.info3
    have e0 := SV18.out.ed.cell (k := 0) rfl
    have e1 := SV18.out.ed.cell (k := 1) rfl
    have e2 := SV18.out.ed.cell (k := 2) rfl
    have e3 := SV18.out.ed.cell (k := 3) rfl
    have e4 := SV18.out.ed.cell (k := 4) rfl
    simp only [List.getElem_toArray, List.getElem_cons_zero, List.getElem_cons_succ] at e0 e1 e2 e3 e4
    have NG : Hid ((.slice (some ⟨b + 4, 0, none⟩) 1 1 : Value).ownBlock ≠ some w.heap.size) := fun e => by have q : b + 4 = w.heap.size := Option.some.inj e; omega
    have RW : Hid (V18.ownsRow (b + 4) 54 5 (.slice (some ⟨b + 4, 0, none⟩) 1 1) 1 (eLN b)) := own_blk (n := 1) (c := 5) SV18.out.ed rfl (by decide) (Nat.le_refl _)
    have LB : Hid (b + 4 ≤ V18.heap.size) := Nat.le_of_lt SV18.out.ed.lt
    refine wp_region_gen [7, 9] (fun d_ i u z => match i with
        | 0 => z = .pointer (some ⟨w.heap.size, 2, none⟩)
        | 1 => z = .slice (some ⟨b + 4, 0, none⟩) 1 1
        | 2 => z = .pointer (some ⟨w.heap.size, 2, none⟩)
        | 3 => z = .slice (some ⟨b + 4, 0, none⟩) 1 1
        | 4 => z = .pointer (some ⟨b + 4, 0, none⟩)
        | 5 => z = .agg #[.int .i64 0, .int .i64 0, .int .i64 1, .int .i64 0, .slice (some ⟨b + 3, 0, none⟩) 1 1]
        | 6 => (d_ 7 = false → ElC (fun _ es => es = eLN b) V18 u z)
        | 7 => (d_ 7 = true ∧ (d_ 9 = false → ElA (fun _ es => es = eLN b) V18 (b + 4) 54 5 (.slice (some ⟨b + 4, 0, none⟩) 1 1) 1 (eLN b) u z))
        | 8 => z = .pointer (some ⟨w.heap.size, 2, none⟩)
        | 9 => True
        | _ => True) (fun d_ u => (d_ 7 = false → Below V18.heap.size V18 u) ∧ (d_ 9 = false → Below V18.heap.size V18 u) ∧ (d_ 9 = true → AppE (fun _ es => es = eLN b) V18 (b + 4) 54 5 (.slice (some ⟨b + 4, 0, none⟩) 1 1) 1 (eLN b) 31 w.heap.size 2 #[.string ⟨#[103]⟩, .slice (some ⟨b + 2, 0, none⟩) 2 2, .slice (some ⟨b + 4, 0, none⟩) 1 1, .slice (some ⟨b + 5, 0, none⟩) 1 1, .slice (some ⟨b + 6, 0, none⟩) 1 1] u)) (by kernel_rfl) (by kernel_rfl) (by kernel_rfl) ?_ ?_ ?_ ?_ ?_ ?_ (by kernel_rfl)
    · intro d_ i w_ v_ w' h hb_
      match i, h with
      | 0, h => exact h
      | 1, h => exact h
      | 2, h => exact h
      | 3, h => exact h
      | 4, h => exact h
      | 5, h => exact h
      | 6, h => exact fun e => (h e).later (fun _ _ _ h _ => h) hb_
      | 7, h => exact ⟨h.1, fun e => (h.2 e).later hb_⟩
      | 8, h => exact h
      | 9, h => exact h
      | _ + 10, _ => trivial
    · intro d_ u u' h hb_
      exact ⟨fun e => (h.1 e).trans (hb_.mono (h.1 e).size), fun e => (h.2.1 e).trans (hb_.mono (h.2.1 e).size), fun e => (h.2.2 e).later hb_⟩
    · exact ⟨fun _ => Below.refl _ _, fun _ => Below.refl _ _, fun e => absurd e (by decide)⟩
    · intro d_ i o ρ w' hm ho hf hg hC hcs hfs hfr hdep
      match i, hm, ho, hf, hg, hfr, hdep with
      | 0, _, ho, hf, hg, hfr, hdep =>
        simp only [gTA, gCZ, gSI] at ho
        subst ho
        refine ⟨fun _ => ?_, fun hw => absurd (show true = false from hw) (by decide)⟩
        have ts : ρ (.tmp 1) = .pointer (some ⟨w.heap.size, 0, none⟩) := hfr 1 (by kernel_rfl)
        simp [go_sem, ts]
        exact ⟨Below.refl _ _, rfl⟩
      | 1, _, ho, hf, hg, hfr, hdep =>
        simp only [gTA, gCZ, gCS, gSI] at ho
        subst ho
        refine ⟨fun _ => ?_, fun hw => absurd (show true = false from hw) (by decide)⟩
        have h9 : d_ 9 = false := hf 9 (by decide) (by kernel_rfl)
        have cc : w'.cell? ⟨w.heap.size, 2, none⟩ = some (.slice (some ⟨b + 4, 0, none⟩) 1 1) := (XV18.out.below (hC.2.1 h9)).cell rfl
        have d0 : ρ (.tmp 53) = .pointer (some ⟨w.heap.size, 2, none⟩) := hdep 0 53 (by kernel_rfl) (by kernel_rfl)
        simp [go_sem, d0, cc]
        exact ⟨Below.refl _ _, rfl⟩
      | 2, _, ho, hf, hg, hfr, hdep =>
        simp only [gTA, gCZ, gCS, gSI] at ho
        subst ho
        refine ⟨fun _ => ?_, fun hw => absurd (show true = false from hw) (by decide)⟩
        have ts : ρ (.tmp 1) = .pointer (some ⟨w.heap.size, 0, none⟩) := hfr 1 (by kernel_rfl)
        simp [go_sem, ts]
        exact ⟨Below.refl _ _, rfl⟩
      | 3, _, ho, hf, hg, hfr, hdep =>
        simp only [gTA, gCZ, gCS, gSI] at ho
        subst ho
        refine ⟨fun _ => ?_, fun hw => absurd (show true = false from hw) (by decide)⟩
        have h9 : d_ 9 = false := hf 9 (by decide) (by kernel_rfl)
        have cc : w'.cell? ⟨w.heap.size, 2, none⟩ = some (.slice (some ⟨b + 4, 0, none⟩) 1 1) := (XV18.out.below (hC.2.1 h9)).cell rfl
        have d0 : ρ (.tmp 55) = .pointer (some ⟨w.heap.size, 2, none⟩) := hdep 2 55 (by kernel_rfl) (by kernel_rfl)
        simp [go_sem, d0, cc]
        exact ⟨Below.refl _ _, rfl⟩
      | 4, _, ho, hf, hg, hfr, hdep =>
        simp only [gTA, gCZ, gCS, gSI] at ho
        subst ho
        refine ⟨fun _ => ?_, fun hw => absurd (show true = false from hw) (by decide)⟩
        have d0 : ρ (.tmp 56) = .slice (some ⟨b + 4, 0, none⟩) 1 1 := hdep 3 56 (by kernel_rfl) (by kernel_rfl)
        simp [go_sem, d0, hcs]
        exact ⟨Below.refl _ _, rfl⟩
      | 5, _, ho, hf, hg, hfr, hdep =>
        simp only [gTA, gCZ, gCS, gSI] at ho
        subst ho
        refine ⟨fun _ => ?_, fun hw => absurd (show true = false from hw) (by decide)⟩
        have h9 : d_ 9 = false := hf 9 (by decide) (by kernel_rfl)
        have q0 := cellG (hC.2.1 h9) e0
        have q1 := cellG (hC.2.1 h9) e1
        have q2 := cellG (hC.2.1 h9) e2
        have q3 := cellG (hC.2.1 h9) e3
        have q4 := cellG (hC.2.1 h9) e4
        have d0 : ρ (.tmp 57) = .pointer (some ⟨b + 4, 0, none⟩) := hdep 4 57 (by kernel_rfl) (by kernel_rfl)
        simp [go_sem, d0, q0, q1, q2, q3, q4]
        exact ⟨Below.refl _ _, rfl⟩
      | 6, _, ho, hf, hg, hfr, hdep =>
        simp only [gTA, gCZ, gCS, gSI] at ho
        subst ho
        refine ⟨fun _ => ?_, fun hw => absurd (show true = false from hw) (by decide)⟩
        have t0 : ρ (.tmp 58) = .agg #[.int .i64 0, .int .i64 0, .int .i64 1, .int .i64 0, .slice (some ⟨b + 3, 0, none⟩) 1 1] := hdep 5 58 (by kernel_rfl) (by kernel_rfl)
        have h7 : d_ 7 = false := hf 7 (by decide) (by kernel_rfl)
        simp [go_sem, t0]
        exact ⟨(Below.refl _ _).alloc (Nat.le_refl _) _, fun _ => elC_new (fun _ _ _ h _ => h) 54 (es := eLN b) rfl (hC.1 h7).size⟩
      | 7, hm, _, _, _, _, _ => exact absurd hm (by decide)
      | 8, _, ho, hf, hg, hfr, hdep =>
        simp only [gTA, gCZ, gCS, gSI] at ho
        subst ho
        refine ⟨fun _ => ?_, fun hw => absurd (show true = false from hw) (by decide)⟩
        have ts : ρ (.tmp 1) = .pointer (some ⟨w.heap.size, 0, none⟩) := hfr 1 (by kernel_rfl)
        simp [go_sem, ts]
        exact ⟨Below.refl _ _, rfl⟩
      | 9, hm, _, _, _, _, _ => exact absurd hm (by decide)
      | n + 10, _, ho, _, _, _, _ => simp at ho
    · intro d_ i o ρ w' hm ho h0 hf hg hC hcs hfs hfr hdep
      match i, hm, ho, h0, hf, hg, hfr, hdep with
      | 0, hm, _, _, _, _, _, _ => exact absurd hm (by decide)
      | 1, hm, _, _, _, _, _, _ => exact absurd hm (by decide)
      | 2, hm, _, _, _, _, _, _ => exact absurd hm (by decide)
      | 3, hm, _, _, _, _, _, _ => exact absurd hm (by decide)
      | 4, hm, _, _, _, _, _, _ => exact absurd hm (by decide)
      | 5, hm, _, _, _, _, _, _ => exact absurd hm (by decide)
      | 6, hm, _, _, _, _, _, _ => exact absurd hm (by decide)
      | 7, _, ho, h0, hf, hg, hfr, hdep =>
        simp only [gTA, gCZ, gCS, gSI] at ho
        subst ho
        have t0 : ρ (.tmp 54) = .slice (some ⟨b + 4, 0, none⟩) 1 1 := hdep 1 54 (by kernel_rfl) (by kernel_rfl)
        have t5 : ElC (fun _ es => es = eLN b) V18 w' (ρ (.tmp 59)) := hdep 6 59 (by kernel_rfl) (by kernel_rfl) h0
        have h9 : d_ 9 = false := hf 9 (by decide) (by kernel_rfl)
        refine ⟨rfl, mark_appE (.tmp 54) (.tmp 59) 28 54 j0 _ 5 56 rfl Try.underlying28 hj hy0 hy1 hy2 rfl (by decide) t0 rfl RW.out (hC.1 h0) (fun _ _ h => by subst h; exact ⟨rfl, eLN_one b⟩) t5 LB.out (by omega) (by omega) ?_⟩
        intro u9 v9 hG
        refine ⟨⟨fun e => absurd e (by rw [doneO_eq]; decide), fun _ => elA_new hG, fun e => absurd ((doneO_ne d_ (by decide)).symm.trans e) (by rw [h9]; decide)⟩, fun _ => ⟨doneO_eq _ _, fun _ => hG⟩, ?_⟩
        intro j t hj hs
        match j, hs with
        | 0, hs => exact hs
        | 1, hs => exact hs
        | 2, hs => exact hs
        | 3, hs => exact hs
        | 4, hs => exact hs
        | 5, hs => exact hs
        | 6, hs => exact fun e => absurd e (by rw [doneO_eq]; decide)
        | 7, hs => exact absurd hs.1 (by rw [h0]; decide)
        | 8, hs => exact hs
        | 9, _ => trivial
        | _ + 10, _ => trivial
      | 8, hm, _, _, _, _, _, _ => exact absurd hm (by decide)
      | 9, _, ho, h0, hf, hg, hfr, hdep =>
        simp only [gTA, gCZ, gCS, gSI] at ho
        subst ho
        have t0 : ρ (.tmp 61) = .pointer (some ⟨w.heap.size, 2, none⟩) := hdep 8 61 (by kernel_rfl) (by kernel_rfl)
        have t9 : d_ 7 = true ∧ (d_ 9 = false → ElA (fun _ es => es = eLN b) V18 (b + 4) 54 5 (.slice (some ⟨b + 4, 0, none⟩) 1 1) 1 (eLN b) w' (ρ (.tmp 60))) := hdep 7 60 (by kernel_rfl) (by kernel_rfl)
        have hG := t9.2 h0
        obtain ⟨gz, cz, e9⟩ := hG.shape
        rw [e9] at hG
        have hF := appE_store (f := 2) hG XV18.out NG.out
        have c1_ : w'.cell? ⟨w.heap.size, 2, none⟩ = some (.slice (some ⟨b + 4, 0, none⟩) 1 1) := hF.2.cell rfl
        have f1 := hF.2.frozen 2
        refine ⟨rfl, markUpon_skip (w' := w'.setCell ⟨w.heap.size, 2, none⟩ (.slice (some ⟨gz, 0, none⟩) (1 + 1) cz)) (by simp [go_sem, t0, e9, c1_, f1]) ?_⟩
        refine ⟨⟨fun e => absurd ((doneO_ne d_ (by decide)).symm.trans e) (by rw [t9.1]; decide), fun e => absurd e (by rw [doneO_eq]; decide), fun _ => hF.1⟩, fun h => absurd rfl h, ?_⟩
        intro j t hj hs
        match j, hs with
        | 0, hs => exact hs
        | 1, hs => exact hs
        | 2, hs => exact hs
        | 3, hs => exact hs
        | 4, hs => exact hs
        | 5, hs => exact hs
        | 6, hs => exact fun e => absurd ((doneO_ne d_ (by decide)).symm.trans e) (by rw [t9.1]; decide)
        | 7, hs => exact ⟨(doneO_ne d_ (by decide)).trans hs.1, fun e => absurd e (by rw [doneO_eq]; decide)⟩
        | 8, hs => exact hs
        | 9, _ => trivial
        | _ + 10, _ => trivial
      | n + 10, _, ho, _, _, _, _, _ => simp at ho
    · intro U8 V8x hC8 hS
      simp only [puts, put_none]
      simp only [Act.put, List.setIfInBounds_toArray, List.set_cons_zero, List.set_cons_succ]
      clear hS 
      obtain ⟨g9, cap9, q1, q2, q3, q4⟩ := twoE SV18.out XV18.out hlow LV18.out (hC8.2.2 rfl)
      have XV19 := hiddenG q1
      have SX := hiddenG q2
      have GE := hiddenG q3
      have LV19 := hiddenG q4
      clear q1 q2 q3 q4 hC8 NG RW LB e0 e1 e2 e3 e4 XV18 SV18 LV18
      generalize V8x = V19 at *
      have CSx : Hid (∀ U x kk, GrG U (some ⟨b + 2, 0, none⟩) x (some ⟨b + 5, 0, none⟩) (some ⟨b + 6, 0, none⟩) (gSN [98] [eSN 0 [7], eSN 0 [7]]) → Calls Try.prog 25 #[.agg #[.string ⟨#[103]⟩, .slice (some ⟨b + 2, 0, none⟩) 2 2, .slice x 2 kk, .slice (some ⟨b + 5, 0, none⟩) 1 1, .slice (some ⟨b + 6, 0, none⟩) 1 1]] U fun e w' => e = .returned (.int .i64 86) ∧ Below U.heap.size U w') := fun U x kk hg => by
        have q := check_any (gSN [98] [eSN 0 [7], eSN 0 [7]]) (some ⟨b + 2, 0, none⟩) x (some ⟨b + 5, 0, none⟩) (some ⟨b + 6, 0, none⟩) 2 kk 1 1 U hg
        rw [codeN6] at q
        exact q
      have GG4 := hiddenG (SmX.gr (nm := [98]) SX.out GE.out (by decide))
      have z0 := XV19.out.cell (k := 0) rfl
      have z1 := XV19.out.cell (k := 1) rfl
      have z2 := XV19.out.cell (k := 2) rfl
      have z3 := XV19.out.cell (k := 3) rfl
      have z4 := XV19.out.cell (k := 4) rfl
      simp only [List.getElem_toArray, List.getElem_cons_zero, List.getElem_cons_succ] at z0 z1 z2 z3 z4
      go_upto_region 21 with (go_at_call 25; (with_reducible refine (CSx.out V19 _ _ GG4.out).mono ?_); rintro e V20 ⟨rfl, b9⟩; have LV20 := hiddenG (LV19.out.trans (b9.mono LV19.out.size)); have XV20 := hiddenG (XV19.out.below b9); clear b9 z0 z1 z2 z3 z4)
      clear GG4 CSx SX GE XV19 LV19 hlow
      have hlow : w.heap.size < V20.heap.size := XV20.out.lt
      go_upto_region 22 with (first
        | (go_at_call 27; (with_reducible refine (SM.out _).mono ?_); rintro e U1 ⟨rfl, s1, b1⟩; have SB1 := hiddenG s1; have XU1 := hiddenG (XV20.out.below b1); have LU1 := hiddenG (LV20.out.trans (b1.mono LV20.out.size)); clear s1 b1)
        | (refine wpList_storeW _ rfl 31 (.tmp 1) (.tmp 64) rfl rfl w.heap.size 31 _ _ rfl rfl XU1.out sizG rfl rfl ?_; intro V21 hN hU; have XV21 := hiddenG hN; have SV21 := hiddenG (SB1.out.but hU hlow); have LV21 := hiddenG (LU1.out.trans (hU.below (Nat.le_refl _) LU1.out.size)); clear hN hU))
      clear XU1 LU1 SB1 XV20 LV20
      obtain ⟨b, hb⟩ : ∃ q, V20.heap.size = q := ⟨_, rfl⟩
      rw [hb] at XV21 SV21 hlow
      rw [hb]
      clear hb
      have FT0 : Hid (FilT w V21 b 0 (some ⟨b + 3, 0, none⟩) 1) := ⟨SV21.out.ed, own_blk (n := 1) (c := 1) SV21.out.i7 rfl (by decide) (Nat.le_refl _), SV21.out.x, XV21.out, hlow, LV21.out⟩
      have CT : Hid (∀ (k : Nat) U, GrG U (some ⟨b + 2, 0, none⟩) (some ⟨b + 4, 0, none⟩) (some ⟨b + 5, 0, none⟩) (some ⟨b + 6, 0, none⟩) (gSN [98] [eSN 0 (7 :: List.replicate k 1)]) → Calls Try.prog 25 #[.agg #[.string ⟨#[103]⟩, .slice (some ⟨b + 2, 0, none⟩) 2 2, .slice (some ⟨b + 4, 0, none⟩) 1 1, .slice (some ⟨b + 5, 0, none⟩) 1 1, .slice (some ⟨b + 6, 0, none⟩) 1 1]] U fun e w' => e = .returned (.int .i64 (firstF (gSN [98] [eSN 0 (7 :: List.replicate k 1)])).code) ∧ Below U.heap.size U w') := fun k U hg => check_any (gSN [98] [eSN 0 (7 :: List.replicate k 1)]) (some ⟨b + 2, 0, none⟩) (some ⟨b + 4, 0, none⟩) (some ⟨b + 5, 0, none⟩) (some ⟨b + 6, 0, none⟩) 2 1 1 1 U hg
      have CT7 := hiddenG (CT.out 255)
      have CT8 := hiddenG (CT.out 256)
      rw [codeN7] at CT7
      rw [codeN8] at CT8
      clear CT XV21 SV21 LV21
      go_wp2
      go_loopg [10] 255 (fun gk u wr => ∃ (k : Nat) (d : Option Addr) (kk : Nat), k ≤ 255 ∧ gk = 255 - k ∧ u = .int .i64 (k : Int) ∧ FilT w wr b k d kk)
      case atStart => exact ⟨0, _, _, by omega, rfl, rfl, FT0.out⟩
      case round =>
        clear FT0
        obtain ⟨k, d, kk, hk, rfl, rfl, hF⟩ := hrel
        have FT := hiddenG hF
        clear hF
        by_cases hlt : k < 255
        · have hki : (k : Int) < 255 := by omega
          have NG : Hid ((.slice d (k + 1) kk : Value).ownBlock ≠ some w.heap.size) := fun e => by have := own_row FT.out.row _ e; have := FT.out.low; omega
          have LB : Hid (b + 3 ≤ wr.heap.size) := by have := FT.out.box.lt; show b + 3 ≤ _; omega
          go_upto_region 25 with fail
          refine wp_region_gen [8, 11] (fun d_ i u z => match i with
              | 0 => z = .pointer (some ⟨w.heap.size, 2, none⟩)
              | 1 => z = .slice (some ⟨b + 4, 0, none⟩) 1 1
              | 2 => z = .pointer (some ⟨w.heap.size, 2, none⟩)
              | 3 => z = .slice (some ⟨b + 4, 0, none⟩) 1 1
              | 4 => z = .pointer (some ⟨b + 4, 0, none⟩)
              | 5 => z = .pointer (some ⟨b + 4, 4, none⟩)
              | 6 => z = .slice d (k + 1) kk
              | 7 => (d_ 8 = false → ElC (fun _ es => es = [.int .i64 1]) wr u z)
              | 8 => (d_ 8 = true ∧ (d_ 11 = false → ElA (fun _ es => es = [.int .i64 1]) wr (b + 3) 3 1 (.slice d (k + 1) kk) (k + 1) (((7 : Int) :: List.replicate k 1).map (Value.int .i64)) u z))
              | 9 => z = .pointer (some ⟨b + 4, 0, none⟩)
              | 10 => z = .pointer (some ⟨b + 4, 4, none⟩)
              | 11 => True
              | _ => True) (fun d_ u => (d_ 8 = false → Below wr.heap.size wr u) ∧ (d_ 11 = false → Chg (fun kz => (.slice d (k + 1) kk : Value).ownBlock = some kz) wr u) ∧ (d_ 11 = true → AppE (fun _ es => es = [.int .i64 1]) wr (b + 3) 3 1 (.slice d (k + 1) kk) (k + 1) (((7 : Int) :: List.replicate k 1).map (Value.int .i64)) 54 (b + 4) 4 #[.int .i64 0, .int .i64 0, .int .i64 1, .int .i64 0, .slice d (k + 1) kk] u)) (by kernel_rfl) (by kernel_rfl) (by kernel_rfl) ?_ ?_ ?_ ?_ ?_ ?_ (by kernel_rfl)
          · intro d_ i w_ v_ w' h hb_
            match i, h with
            | 0, h => exact h
            | 1, h => exact h
            | 2, h => exact h
            | 3, h => exact h
            | 4, h => exact h
            | 5, h => exact h
            | 6, h => exact h
            | 7, h => exact fun e => (h e).later (fun _ _ _ h _ => h) hb_
            | 8, h => exact ⟨h.1, fun e => (h.2 e).later hb_⟩
            | 9, h => exact h
            | 10, h => exact h
            | 11, h => exact h
            | _ + 12, _ => trivial
          · intro d_ u u' h hb_
            exact ⟨fun e => (h.1 e).trans (hb_.mono (h.1 e).size), fun e => (h.2.1 e).trans' (Chg.of_below hb_), fun e => (h.2.2 e).later hb_⟩
          · exact ⟨fun _ => Below.refl _ _, fun _ => Chg.of_below (Below.refl _ _), fun e => absurd e (by decide)⟩
          · intro d_ i o ρ w' hm ho hf hg hC hcs hfs hfr hdep
            match i, hm, ho, hf, hg, hfr, hdep with
            | 0, _, ho, hf, hg, hfr, hdep =>
              simp only [gTA, gCZ, gSI] at ho
              subst ho
              refine ⟨fun _ => ?_, fun hw => absurd (show true = false from hw) (by decide)⟩
              have ts : ρ (.tmp 1) = .pointer (some ⟨w.heap.size, 0, none⟩) := hfr 1 (by kernel_rfl)
              simp [go_sem, ts]
              exact ⟨Below.refl _ _, rfl⟩
            | 1, _, ho, hf, hg, hfr, hdep =>
              simp only [gTA, gCZ, gCS, gSI] at ho
              subst ho
              refine ⟨fun _ => ?_, fun hw => absurd (show true = false from hw) (by decide)⟩
              have h11 : d_ 11 = false := hf 11 (by decide) (by kernel_rfl)
              have cc : w'.cell? ⟨w.heap.size, 2, none⟩ = some (.slice (some ⟨b + 4, 0, none⟩) 1 1) := (FT.out.gx.keep ((hC.2.1 h11).block _ FT.out.gx.lt NG.out)).cell rfl
              have d0 : ρ (.tmp 69) = .pointer (some ⟨w.heap.size, 2, none⟩) := hdep 0 69 (by kernel_rfl) (by kernel_rfl)
              simp [go_sem, d0, cc]
              exact ⟨Below.refl _ _, rfl⟩
            | 2, _, ho, hf, hg, hfr, hdep =>
              simp only [gTA, gCZ, gCS, gSI] at ho
              subst ho
              refine ⟨fun _ => ?_, fun hw => absurd (show true = false from hw) (by decide)⟩
              have ts : ρ (.tmp 1) = .pointer (some ⟨w.heap.size, 0, none⟩) := hfr 1 (by kernel_rfl)
              simp [go_sem, ts]
              exact ⟨Below.refl _ _, rfl⟩
            | 3, _, ho, hf, hg, hfr, hdep =>
              simp only [gTA, gCZ, gCS, gSI] at ho
              subst ho
              refine ⟨fun _ => ?_, fun hw => absurd (show true = false from hw) (by decide)⟩
              have h11 : d_ 11 = false := hf 11 (by decide) (by kernel_rfl)
              have cc : w'.cell? ⟨w.heap.size, 2, none⟩ = some (.slice (some ⟨b + 4, 0, none⟩) 1 1) := (FT.out.gx.keep ((hC.2.1 h11).block _ FT.out.gx.lt NG.out)).cell rfl
              have d0 : ρ (.tmp 71) = .pointer (some ⟨w.heap.size, 2, none⟩) := hdep 2 71 (by kernel_rfl) (by kernel_rfl)
              simp [go_sem, d0, cc]
              exact ⟨Below.refl _ _, rfl⟩
            | 4, _, ho, hf, hg, hfr, hdep =>
              simp only [gTA, gCZ, gCS, gSI] at ho
              subst ho
              refine ⟨fun _ => ?_, fun hw => absurd (show true = false from hw) (by decide)⟩
              have d0 : ρ (.tmp 72) = .slice (some ⟨b + 4, 0, none⟩) 1 1 := hdep 3 72 (by kernel_rfl) (by kernel_rfl)
              simp [go_sem, d0, hcs]
              exact ⟨Below.refl _ _, rfl⟩
            | 5, _, ho, hf, hg, hfr, hdep =>
              simp only [gTA, gCZ, gCS, gSI] at ho
              subst ho
              refine ⟨fun _ => ?_, fun hw => absurd (show true = false from hw) (by decide)⟩
              have d0 : ρ (.tmp 73) = .pointer (some ⟨b + 4, 0, none⟩) := hdep 4 73 (by kernel_rfl) (by kernel_rfl)
              simp [go_sem, d0]
              exact ⟨Below.refl _ _, rfl⟩
            | 6, _, ho, hf, hg, hfr, hdep =>
              simp only [gTA, gCZ, gCS, gSI] at ho
              subst ho
              refine ⟨fun _ => ?_, fun hw => absurd (show true = false from hw) (by decide)⟩
              have h11 : d_ 11 = false := hf 11 (by decide) (by kernel_rfl)
              have cc : w'.cell? ⟨b + 4, 4, none⟩ = some (.slice d (k + 1) kk) := (FT.out.box.keep ((hC.2.1 h11).block _ FT.out.box.lt FT.out.far)).cell rfl
              have d0 : ρ (.tmp 74) = .pointer (some ⟨b + 4, 4, none⟩) := hdep 5 74 (by kernel_rfl) (by kernel_rfl)
              simp [go_sem, d0, cc]
              exact ⟨Below.refl _ _, rfl⟩
            | 7, _, ho, hf, hg, hfr, hdep =>
              simp only [gTA, gCZ, gCS, gSI] at ho
              subst ho
              refine ⟨fun _ => ?_, fun hw => absurd (show true = false from hw) (by decide)⟩
              have h8 : d_ 8 = false := hf 8 (by decide) (by kernel_rfl)
              simp [go_sem, hcs]
              exact ⟨(Below.refl _ _).alloc (Nat.le_refl _) _, fun _ => elC_new (fun _ _ _ h _ => h) 3 (es := [.int .i64 1]) rfl (hC.1 h8).size⟩
            | 8, hm, _, _, _, _, _ => exact absurd hm (by decide)
            | 9, _, ho, hf, hg, hfr, hdep =>
              simp only [gTA, gCZ, gCS, gSI] at ho
              subst ho
              refine ⟨fun _ => ?_, fun hw => absurd (show true = false from hw) (by decide)⟩
              have d0 : ρ (.tmp 70) = .slice (some ⟨b + 4, 0, none⟩) 1 1 := hdep 1 70 (by kernel_rfl) (by kernel_rfl)
              simp [go_sem, d0, hcs]
              exact ⟨Below.refl _ _, rfl⟩
            | 10, _, ho, hf, hg, hfr, hdep =>
              simp only [gTA, gCZ, gCS, gSI] at ho
              subst ho
              refine ⟨fun _ => ?_, fun hw => absurd (show true = false from hw) (by decide)⟩
              have d0 : ρ (.tmp 78) = .pointer (some ⟨b + 4, 0, none⟩) := hdep 9 78 (by kernel_rfl) (by kernel_rfl)
              simp [go_sem, d0]
              exact ⟨Below.refl _ _, rfl⟩
            | 11, hm, _, _, _, _, _ => exact absurd hm (by decide)
            | n + 12, _, ho, _, _, _, _ => simp at ho
          · intro d_ i o ρ w' hm ho h0 hf hg hC hcs hfs hfr hdep
            match i, hm, ho, h0, hf, hg, hfr, hdep with
            | 0, hm, _, _, _, _, _, _ => exact absurd hm (by decide)
            | 1, hm, _, _, _, _, _, _ => exact absurd hm (by decide)
            | 2, hm, _, _, _, _, _, _ => exact absurd hm (by decide)
            | 3, hm, _, _, _, _, _, _ => exact absurd hm (by decide)
            | 4, hm, _, _, _, _, _, _ => exact absurd hm (by decide)
            | 5, hm, _, _, _, _, _, _ => exact absurd hm (by decide)
            | 6, hm, _, _, _, _, _, _ => exact absurd hm (by decide)
            | 7, hm, _, _, _, _, _, _ => exact absurd hm (by decide)
            | 8, _, ho, h0, hf, hg, hfr, hdep =>
              simp only [gTA, gCZ, gCS, gSI] at ho
              subst ho
              have t0 : ρ (.tmp 75) = .slice d (k + 1) kk := hdep 6 75 (by kernel_rfl) (by kernel_rfl)
              have t5 : ElC (fun _ es => es = [.int .i64 1]) wr w' (ρ (.tmp 76)) := hdep 7 76 (by kernel_rfl) (by kernel_rfl) h0
              have h11 : d_ 11 = false := hf 11 (by decide) (by kernel_rfl)
              refine ⟨rfl, mark_appE (.tmp 75) (.tmp 76) 46 3 j1 _ 1 8 rfl Try.underlying46 hk1 hx0 hx1 hx2 rfl (by decide) t0 rfl FT.out.row (hC.1 h0) (fun _ _ h => by subst h; exact ⟨rfl, fun u hu => by rw [List.mem_singleton.1 hu]; rfl⟩) t5 LB.out (by omega) (by omega) ?_⟩
              intro u9 v9 hG
              refine ⟨⟨fun e => absurd e (by rw [doneO_eq]; decide), fun _ => hG.chg, fun e => absurd ((doneO_ne d_ (by decide)).symm.trans e) (by rw [h11]; decide)⟩, fun _ => ⟨doneO_eq _ _, fun _ => hG⟩, ?_⟩
              intro j t hj hs
              match j, hs with
              | 0, hs => exact hs
              | 1, hs => exact hs
              | 2, hs => exact hs
              | 3, hs => exact hs
              | 4, hs => exact hs
              | 5, hs => exact hs
              | 6, hs => exact hs
              | 7, hs => exact fun e => absurd e (by rw [doneO_eq]; decide)
              | 8, hs => exact absurd hs.1 (by rw [h0]; decide)
              | 9, hs => exact hs
              | 10, hs => exact hs
              | 11, _ => trivial
              | _ + 12, _ => trivial
            | 9, hm, _, _, _, _, _, _ => exact absurd hm (by decide)
            | 10, hm, _, _, _, _, _, _ => exact absurd hm (by decide)
            | 11, _, ho, h0, hf, hg, hfr, hdep =>
              simp only [gTA, gCZ, gCS, gSI] at ho
              subst ho
              have t0 : ρ (.tmp 79) = .pointer (some ⟨b + 4, 4, none⟩) := hdep 10 79 (by kernel_rfl) (by kernel_rfl)
              have t9 : d_ 8 = true ∧ (d_ 11 = false → ElA (fun _ es => es = [.int .i64 1]) wr (b + 3) 3 1 (.slice d (k + 1) kk) (k + 1) (((7 : Int) :: List.replicate k 1).map (Value.int .i64)) w' (ρ (.tmp 77))) := hdep 8 77 (by kernel_rfl) (by kernel_rfl)
              have hG := t9.2 h0
              obtain ⟨gz, cz, e9⟩ := hG.shape
              rw [e9] at hG
              have hF := appE_store (f := 4) hG FT.out.box FT.out.far
              have c1_ : w'.cell? ⟨b + 4, 4, none⟩ = some (.slice d (k + 1) kk) := hF.2.cell rfl
              have f1 := hF.2.frozen 4
              refine ⟨rfl, markUpon_skip (w' := w'.setCell ⟨b + 4, 4, none⟩ (.slice (some ⟨gz, 0, none⟩) (k + 1 + 1) cz)) (by simp [go_sem, t0, e9, c1_, f1]) ?_⟩
              refine ⟨⟨fun e => absurd ((doneO_ne d_ (by decide)).symm.trans e) (by rw [t9.1]; decide), fun e => absurd e (by rw [doneO_eq]; decide), fun _ => hF.1⟩, fun h => absurd rfl h, ?_⟩
              intro j t hj hs
              match j, hs with
              | 0, hs => exact hs
              | 1, hs => exact hs
              | 2, hs => exact hs
              | 3, hs => exact hs
              | 4, hs => exact hs
              | 5, hs => exact hs
              | 6, hs => exact hs
              | 7, hs => exact fun e => absurd ((doneO_ne d_ (by decide)).symm.trans e) (by rw [t9.1]; decide)
              | 8, hs => exact ⟨(doneO_ne d_ (by decide)).trans hs.1, fun e => absurd e (by rw [doneO_eq]; decide)⟩
              | 9, hs => exact hs
              | 10, hs => exact hs
              | 11, _ => trivial
              | _ + 12, _ => trivial
            | n + 12, _, ho, _, _, _, _, _ => simp at ho
          · intro U8 V8x hC8 hS
            simp only [puts, put_none]
            simp only [Act.put, List.setIfInBounds_toArray, List.set_cons_zero, List.set_cons_succ]
            clear hS 
            obtain ⟨d9, k9, F9⟩ := FT.out.step (hC8.2.2 rfl)
            have F9h := hiddenG F9
            clear hC8 F9 FT NG LB
            go_wp2
            go_roundg (255 - (k + 1))
            case measure => omega
            case rel => exact ⟨k + 1, d9, k9, by omega, rfl, by go_num, F9h.out⟩
        have ek : k = 255 := by omega
        subst ek
        have hki : ¬ ((255 : Nat) : Int) < 255 := by decide
        generalize wr = V26 at *
        have z0 := FT.out.gx.cell (k := 0) rfl
        have z1 := FT.out.gx.cell (k := 1) rfl
        have z2 := FT.out.gx.cell (k := 2) rfl
        have z3 := FT.out.gx.cell (k := 3) rfl
        have z4 := FT.out.gx.cell (k := 4) rfl
        simp only [List.getElem_toArray, List.getElem_cons_zero, List.getElem_cons_succ] at z0 z1 z2 z3 z4
        have GT7 := hiddenG (FT.out.gr (by decide))
        go_upto_region 27 with (go_at_call 25; (with_reducible refine (CT7.out V26 GT7.out).mono ?_); rintro e V27 ⟨rfl, b9⟩; have FT9 := hiddenG (FT.out.later b9); clear b9 z0 z1 z2 z3 z4)
        have FT := hiddenG FT9.out
        clear FT9 GT7 CT7
        have NG : Hid ((.slice d (255 + 1) kk : Value).ownBlock ≠ some w.heap.size) := fun e => by have := own_row FT.out.row _ e; have := FT.out.low; omega
        have LB : Hid (b + 3 ≤ V27.heap.size) := by have := FT.out.box.lt; show b + 3 ≤ _; omega
        refine wp_region_gen [8, 11] (fun d_ i u z => match i with
            | 0 => z = .pointer (some ⟨w.heap.size, 2, none⟩)
            | 1 => z = .slice (some ⟨b + 4, 0, none⟩) 1 1
            | 2 => z = .pointer (some ⟨w.heap.size, 2, none⟩)
            | 3 => z = .slice (some ⟨b + 4, 0, none⟩) 1 1
            | 4 => z = .pointer (some ⟨b + 4, 0, none⟩)
            | 5 => z = .pointer (some ⟨b + 4, 4, none⟩)
            | 6 => z = .slice d (255 + 1) kk
            | 7 => (d_ 8 = false → ElC (fun _ es => es = [.int .i64 1]) V27 u z)
            | 8 => (d_ 8 = true ∧ (d_ 11 = false → ElA (fun _ es => es = [.int .i64 1]) V27 (b + 3) 3 1 (.slice d (255 + 1) kk) (255 + 1) (((7 : Int) :: List.replicate 255 1).map (Value.int .i64)) u z))
            | 9 => z = .pointer (some ⟨b + 4, 0, none⟩)
            | 10 => z = .pointer (some ⟨b + 4, 4, none⟩)
            | 11 => True
            | _ => True) (fun d_ u => (d_ 8 = false → Below V27.heap.size V27 u) ∧ (d_ 11 = false → Chg (fun kz => (.slice d (255 + 1) kk : Value).ownBlock = some kz) V27 u) ∧ (d_ 11 = true → AppE (fun _ es => es = [.int .i64 1]) V27 (b + 3) 3 1 (.slice d (255 + 1) kk) (255 + 1) (((7 : Int) :: List.replicate 255 1).map (Value.int .i64)) 54 (b + 4) 4 #[.int .i64 0, .int .i64 0, .int .i64 1, .int .i64 0, .slice d (255 + 1) kk] u)) (by kernel_rfl) (by kernel_rfl) (by kernel_rfl) ?_ ?_ ?_ ?_ ?_ ?_ (by kernel_rfl)
        · intro d_ i w_ v_ w' h hb_
          match i, h with
          | 0, h => exact h
          | 1, h => exact h
          | 2, h => exact h
          | 3, h => exact h
          | 4, h => exact h
          | 5, h => exact h
          | 6, h => exact h
          | 7, h => exact fun e => (h e).later (fun _ _ _ h _ => h) hb_
          | 8, h => exact ⟨h.1, fun e => (h.2 e).later hb_⟩
          | 9, h => exact h
          | 10, h => exact h
          | 11, h => exact h
          | _ + 12, _ => trivial
        · intro d_ u u' h hb_
          exact ⟨fun e => (h.1 e).trans (hb_.mono (h.1 e).size), fun e => (h.2.1 e).trans' (Chg.of_below hb_), fun e => (h.2.2 e).later hb_⟩
        · exact ⟨fun _ => Below.refl _ _, fun _ => Chg.of_below (Below.refl _ _), fun e => absurd e (by decide)⟩
        · intro d_ i o ρ w' hm ho hf hg hC hcs hfs hfr hdep
          match i, hm, ho, hf, hg, hfr, hdep with
          | 0, _, ho, hf, hg, hfr, hdep =>
            simp only [gTA, gCZ, gSI] at ho
            subst ho
            refine ⟨fun _ => ?_, fun hw => absurd (show true = false from hw) (by decide)⟩
            have ts : ρ (.tmp 1) = .pointer (some ⟨w.heap.size, 0, none⟩) := hfr 1 (by kernel_rfl)
            simp [go_sem, ts]
            exact ⟨Below.refl _ _, rfl⟩
          | 1, _, ho, hf, hg, hfr, hdep =>
            simp only [gTA, gCZ, gCS, gSI] at ho
            subst ho
            refine ⟨fun _ => ?_, fun hw => absurd (show true = false from hw) (by decide)⟩
            have h11 : d_ 11 = false := hf 11 (by decide) (by kernel_rfl)
            have cc : w'.cell? ⟨w.heap.size, 2, none⟩ = some (.slice (some ⟨b + 4, 0, none⟩) 1 1) := (FT.out.gx.keep ((hC.2.1 h11).block _ FT.out.gx.lt NG.out)).cell rfl
            have d0 : ρ (.tmp 82) = .pointer (some ⟨w.heap.size, 2, none⟩) := hdep 0 82 (by kernel_rfl) (by kernel_rfl)
            simp [go_sem, d0, cc]
            exact ⟨Below.refl _ _, rfl⟩
          | 2, _, ho, hf, hg, hfr, hdep =>
            simp only [gTA, gCZ, gCS, gSI] at ho
            subst ho
            refine ⟨fun _ => ?_, fun hw => absurd (show true = false from hw) (by decide)⟩
            have ts : ρ (.tmp 1) = .pointer (some ⟨w.heap.size, 0, none⟩) := hfr 1 (by kernel_rfl)
            simp [go_sem, ts]
            exact ⟨Below.refl _ _, rfl⟩
          | 3, _, ho, hf, hg, hfr, hdep =>
            simp only [gTA, gCZ, gCS, gSI] at ho
            subst ho
            refine ⟨fun _ => ?_, fun hw => absurd (show true = false from hw) (by decide)⟩
            have h11 : d_ 11 = false := hf 11 (by decide) (by kernel_rfl)
            have cc : w'.cell? ⟨w.heap.size, 2, none⟩ = some (.slice (some ⟨b + 4, 0, none⟩) 1 1) := (FT.out.gx.keep ((hC.2.1 h11).block _ FT.out.gx.lt NG.out)).cell rfl
            have d0 : ρ (.tmp 84) = .pointer (some ⟨w.heap.size, 2, none⟩) := hdep 2 84 (by kernel_rfl) (by kernel_rfl)
            simp [go_sem, d0, cc]
            exact ⟨Below.refl _ _, rfl⟩
          | 4, _, ho, hf, hg, hfr, hdep =>
            simp only [gTA, gCZ, gCS, gSI] at ho
            subst ho
            refine ⟨fun _ => ?_, fun hw => absurd (show true = false from hw) (by decide)⟩
            have d0 : ρ (.tmp 85) = .slice (some ⟨b + 4, 0, none⟩) 1 1 := hdep 3 85 (by kernel_rfl) (by kernel_rfl)
            simp [go_sem, d0, hcs]
            exact ⟨Below.refl _ _, rfl⟩
          | 5, _, ho, hf, hg, hfr, hdep =>
            simp only [gTA, gCZ, gCS, gSI] at ho
            subst ho
            refine ⟨fun _ => ?_, fun hw => absurd (show true = false from hw) (by decide)⟩
            have d0 : ρ (.tmp 86) = .pointer (some ⟨b + 4, 0, none⟩) := hdep 4 86 (by kernel_rfl) (by kernel_rfl)
            simp [go_sem, d0]
            exact ⟨Below.refl _ _, rfl⟩
          | 6, _, ho, hf, hg, hfr, hdep =>
            simp only [gTA, gCZ, gCS, gSI] at ho
            subst ho
            refine ⟨fun _ => ?_, fun hw => absurd (show true = false from hw) (by decide)⟩
            have h11 : d_ 11 = false := hf 11 (by decide) (by kernel_rfl)
            have cc : w'.cell? ⟨b + 4, 4, none⟩ = some (.slice d (255 + 1) kk) := (FT.out.box.keep ((hC.2.1 h11).block _ FT.out.box.lt FT.out.far)).cell rfl
            have d0 : ρ (.tmp 87) = .pointer (some ⟨b + 4, 4, none⟩) := hdep 5 87 (by kernel_rfl) (by kernel_rfl)
            simp [go_sem, d0, cc]
            exact ⟨Below.refl _ _, rfl⟩
          | 7, _, ho, hf, hg, hfr, hdep =>
            simp only [gTA, gCZ, gCS, gSI] at ho
            subst ho
            refine ⟨fun _ => ?_, fun hw => absurd (show true = false from hw) (by decide)⟩
            have h8 : d_ 8 = false := hf 8 (by decide) (by kernel_rfl)
            simp [go_sem, hcs]
            exact ⟨(Below.refl _ _).alloc (Nat.le_refl _) _, fun _ => elC_new (fun _ _ _ h _ => h) 3 (es := [.int .i64 1]) rfl (hC.1 h8).size⟩
          | 8, hm, _, _, _, _, _ => exact absurd hm (by decide)
          | 9, _, ho, hf, hg, hfr, hdep =>
            simp only [gTA, gCZ, gCS, gSI] at ho
            subst ho
            refine ⟨fun _ => ?_, fun hw => absurd (show true = false from hw) (by decide)⟩
            have d0 : ρ (.tmp 83) = .slice (some ⟨b + 4, 0, none⟩) 1 1 := hdep 1 83 (by kernel_rfl) (by kernel_rfl)
            simp [go_sem, d0, hcs]
            exact ⟨Below.refl _ _, rfl⟩
          | 10, _, ho, hf, hg, hfr, hdep =>
            simp only [gTA, gCZ, gCS, gSI] at ho
            subst ho
            refine ⟨fun _ => ?_, fun hw => absurd (show true = false from hw) (by decide)⟩
            have d0 : ρ (.tmp 91) = .pointer (some ⟨b + 4, 0, none⟩) := hdep 9 91 (by kernel_rfl) (by kernel_rfl)
            simp [go_sem, d0]
            exact ⟨Below.refl _ _, rfl⟩
          | 11, hm, _, _, _, _, _ => exact absurd hm (by decide)
          | n + 12, _, ho, _, _, _, _ => simp at ho
        · intro d_ i o ρ w' hm ho h0 hf hg hC hcs hfs hfr hdep
          match i, hm, ho, h0, hf, hg, hfr, hdep with
          | 0, hm, _, _, _, _, _, _ => exact absurd hm (by decide)
          | 1, hm, _, _, _, _, _, _ => exact absurd hm (by decide)
          | 2, hm, _, _, _, _, _, _ => exact absurd hm (by decide)
          | 3, hm, _, _, _, _, _, _ => exact absurd hm (by decide)
          | 4, hm, _, _, _, _, _, _ => exact absurd hm (by decide)
          | 5, hm, _, _, _, _, _, _ => exact absurd hm (by decide)
          | 6, hm, _, _, _, _, _, _ => exact absurd hm (by decide)
          | 7, hm, _, _, _, _, _, _ => exact absurd hm (by decide)
          | 8, _, ho, h0, hf, hg, hfr, hdep =>
            simp only [gTA, gCZ, gCS, gSI] at ho
            subst ho
            have t0 : ρ (.tmp 88) = .slice d (255 + 1) kk := hdep 6 88 (by kernel_rfl) (by kernel_rfl)
            have t5 : ElC (fun _ es => es = [.int .i64 1]) V27 w' (ρ (.tmp 89)) := hdep 7 89 (by kernel_rfl) (by kernel_rfl) h0
            have h11 : d_ 11 = false := hf 11 (by decide) (by kernel_rfl)
            refine ⟨rfl, mark_appE (.tmp 88) (.tmp 89) 46 3 j1 _ 1 8 rfl Try.underlying46 hk1 hx0 hx1 hx2 rfl (by decide) t0 rfl FT.out.row (hC.1 h0) (fun _ _ h => by subst h; exact ⟨rfl, fun u hu => by rw [List.mem_singleton.1 hu]; rfl⟩) t5 LB.out (by omega) (by omega) ?_⟩
            intro u9 v9 hG
            refine ⟨⟨fun e => absurd e (by rw [doneO_eq]; decide), fun _ => hG.chg, fun e => absurd ((doneO_ne d_ (by decide)).symm.trans e) (by rw [h11]; decide)⟩, fun _ => ⟨doneO_eq _ _, fun _ => hG⟩, ?_⟩
            intro j t hj hs
            match j, hs with
            | 0, hs => exact hs
            | 1, hs => exact hs
            | 2, hs => exact hs
            | 3, hs => exact hs
            | 4, hs => exact hs
            | 5, hs => exact hs
            | 6, hs => exact hs
            | 7, hs => exact fun e => absurd e (by rw [doneO_eq]; decide)
            | 8, hs => exact absurd hs.1 (by rw [h0]; decide)
            | 9, hs => exact hs
            | 10, hs => exact hs
            | 11, _ => trivial
            | _ + 12, _ => trivial
          | 9, hm, _, _, _, _, _, _ => exact absurd hm (by decide)
          | 10, hm, _, _, _, _, _, _ => exact absurd hm (by decide)
          | 11, _, ho, h0, hf, hg, hfr, hdep =>
            simp only [gTA, gCZ, gCS, gSI] at ho
            subst ho
            have t0 : ρ (.tmp 92) = .pointer (some ⟨b + 4, 4, none⟩) := hdep 10 92 (by kernel_rfl) (by kernel_rfl)
            have t9 : d_ 8 = true ∧ (d_ 11 = false → ElA (fun _ es => es = [.int .i64 1]) V27 (b + 3) 3 1 (.slice d (255 + 1) kk) (255 + 1) (((7 : Int) :: List.replicate 255 1).map (Value.int .i64)) w' (ρ (.tmp 90))) := hdep 8 90 (by kernel_rfl) (by kernel_rfl)
            have hG := t9.2 h0
            obtain ⟨gz, cz, e9⟩ := hG.shape
            rw [e9] at hG
            have hF := appE_store (f := 4) hG FT.out.box FT.out.far
            have c1_ : w'.cell? ⟨b + 4, 4, none⟩ = some (.slice d (255 + 1) kk) := hF.2.cell rfl
            have f1 := hF.2.frozen 4
            refine ⟨rfl, markUpon_skip (w' := w'.setCell ⟨b + 4, 4, none⟩ (.slice (some ⟨gz, 0, none⟩) (255 + 1 + 1) cz)) (by simp [go_sem, t0, e9, c1_, f1]) ?_⟩
            refine ⟨⟨fun e => absurd ((doneO_ne d_ (by decide)).symm.trans e) (by rw [t9.1]; decide), fun e => absurd e (by rw [doneO_eq]; decide), fun _ => hF.1⟩, fun h => absurd rfl h, ?_⟩
            intro j t hj hs
            match j, hs with
            | 0, hs => exact hs
            | 1, hs => exact hs
            | 2, hs => exact hs
            | 3, hs => exact hs
            | 4, hs => exact hs
            | 5, hs => exact hs
            | 6, hs => exact hs
            | 7, hs => exact fun e => absurd ((doneO_ne d_ (by decide)).symm.trans e) (by rw [t9.1]; decide)
            | 8, hs => exact ⟨(doneO_ne d_ (by decide)).trans hs.1, fun e => absurd e (by rw [doneO_eq]; decide)⟩
            | 9, hs => exact hs
            | 10, hs => exact hs
            | 11, _ => trivial
            | _ + 12, _ => trivial
          | n + 12, _, ho, _, _, _, _, _ => simp at ho
        · intro U8 V8x hC8 hS
          simp only [puts, put_none]
          simp only [Act.put, List.setIfInBounds_toArray, List.set_cons_zero, List.set_cons_succ]
          clear hS 
          obtain ⟨d9, k9, F9⟩ := FT.out.step (hC8.2.2 rfl)
          have FU := hiddenG F9
          clear hC8 F9 FT NG LB
          generalize V8x = V28 at *
          have z0 := FU.out.gx.cell (k := 0) rfl
          have z1 := FU.out.gx.cell (k := 1) rfl
          have z2 := FU.out.gx.cell (k := 2) rfl
          have z3 := FU.out.gx.cell (k := 3) rfl
          have z4 := FU.out.gx.cell (k := 4) rfl
          simp only [List.getElem_toArray, List.getElem_cons_zero, List.getElem_cons_succ] at z0 z1 z2 z3 z4
          have GT8 := hiddenG (FU.out.gr (by decide))
          go_upto_region 29 with (go_at_call 25; (with_reducible refine (CT8.out V28 GT8.out).mono ?_); rintro e V29 ⟨rfl, b9⟩; have L29 := hiddenG (FU.out.bel.trans (b9.mono FU.out.bel.size)); clear b9 z0 z1 z2 z3 z4)
          go_wp2_with (go_at_call 14; (with_reducible refine (AW.out _).mono ?_); rintro e VE ⟨rfl, ve⟩; have ME := hiddenG (L29.out.trans (ve.mono L29.out.size)); clear ve)
          go_ret
          exact ⟨rfl, ME.out⟩
end Go.Proofs.Ytlfmmdioondaoaa

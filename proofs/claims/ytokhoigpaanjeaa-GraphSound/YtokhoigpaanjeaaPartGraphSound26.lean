/- Texts of one chain, laid one behind the other. -/
import Derived.Test.YtokhoigpaanjeaaPartGraphSound25
import Derived.Deep.SlicePairs
import Derived.SizedLaws
import Derived.Test.YtokhoigpaanjeaaPartGraphSound7
import Derived.Test.YtokhoigpaanjeaaPartGraphSound20
import Derived.Test.YtokhoigpaanjeaaPartGraphSound23
namespace Go.Proofs.Ytokhoigpaanjeaa
open Go.ChangeShapes Go.WideShapes Go.ChangeAt Go.RowKit
/-- What a walk is told of a graph that came in. -/
structure ArgG (w : World) (a1 a2 a3 a4 : Option Addr) (c3 c4 : Nat) (g : GG) : Prop where
  gr : GrG w a1 a2 a3 a4 g
  n3 : a3 = none → c3 = 0
  n4 : a4 = none → c4 = 0
theorem ArgG.below {w w' : World} {a1 a2 a3 a4 : Option Addr} {c3 c4 : Nat} {g : GG} (h : ArgG w a1 a2 a3 a4 c3 c4 g) (hb : Below w.heap.size w w') : ArgG w' a1 a2 a3 a4 c3 c4 g := ⟨h.gr.below hb, h.n3, h.n4⟩
section
variable {H : Type} {enc : TypeId × Value → H} {W : World} {base : Nat} {held : Bool}
end
/-- A graph that is not heavy. -/
structure Light (g : GG) : Prop where
  a : g.actors.length ≤ 1048576
  e : g.edges.length ≤ 1048576
  i : g.ins.length ≤ 1048576
  o : g.outs.length ≤ 1048576
  pa : ∀ x ∈ g.actors, x.params.length ≤ 1048576
  pe : ∀ x ∈ g.edges, x.start.length ≤ 1048576
theorem GrA.len {w : World} {a : Option Addr} {As : List GA} (h : GrA w a As) : ∀ x ∈ As, x.params.length ≤ 17592186043904 := fun x hx => by
  obtain ⟨k, hk, rfl⟩ := memA hx
  rcases h with h | ⟨b, off, -, hc⟩
  · rw [h] at hk; exact absurd hk (Nat.not_lt_zero _)
  · obtain ⟨-, -, -, y, c, -, h5⟩ := hc k hk
    have := h5.reach
    omega
theorem GrE.len {w : World} {a : Option Addr} {As : List GE} (h : GrE w a As) : ∀ x ∈ As, x.start.length ≤ 17592186043904 := fun x hx => by
  obtain ⟨k, hk, rfl⟩ := memE hx
  rcases h with h | ⟨b, off, -, hc⟩
  · rw [h] at hk; exact absurd hk (Nat.not_lt_zero _)
  · obtain ⟨-, -, -, -, y, c, -, h5⟩ := hc k hk
    have := h5.reach
    omega
theorem flat_len {α : Type} (f : α → List Value) (c : Nat) (hc : ∀ x, (f x).length = c) : ∀ (L : List α), (L.flatMap f).length = L.length * c
  | [] => by simp
  | x :: r => by rw [List.flatMap_cons, List.length_append, hc, flat_len f c hc r, List.length_cons, Nat.succ_mul]; omega
/-- The head of a row of a call's own is one, too. -/
theorem owns_head {w : World} {base T c g n cap : Nat} {xs ys : List Value} {m : Nat} (h : w.ownsRow base T c (.slice (some ⟨g, 0, none⟩) n cap) n (xs ++ ys)) (hm : xs.length = m * c) (hmn : m ≤ n) : w.ownsRow base T c (.slice (some ⟨g, 0, none⟩) m cap) m xs := by
  obtain ⟨h1, h2⟩ := h
  refine ⟨hm, ?_⟩
  rcases h2 with ⟨hv, -⟩ | ⟨g', c', cur, hv, hg, hh, hc, hmm, hs, ht⟩
  · cases hv
  · cases hv
    refine .inr ⟨_, _, cur, rfl, hg, hh, by omega, hmm, hs, ?_⟩
    have h3 := congrArg (List.take (m * c)) ht
    rw [List.take_take, Nat.min_eq_left (Nat.mul_le_mul_right _ hmn)] at h3
    rw [h3, ← hm, List.take_left]
def markP : GP := ⟨[109, 97, 114, 107], -7770777, 0⟩
/-- Ports that were lent: a row of their own, a marked one behind them. -/
def LentP (B : Nat) (w : World) (a : Option Addr) (c : Nat) (Ps : List GP) : Prop := ∃ b, a = some ⟨b, 0, none⟩ ∧ B ≤ b ∧ Ps.length + 1 ≤ c ∧ w.ownsRow B 80 3 (.slice a (Ps.length + 1) c) (Ps.length + 1) (Ps.flatMap pP ++ pP markP)
theorem LentP.keep {B : Nat} {w w' : World} {a : Option Addr} {c : Nat} {Ps : List GP} (h : LentP B w a c Ps) (hk : ∀ k, B ≤ k → k < w.heap.size → w'.heap[k]? = w.heap[k]?) : LentP B w' a c Ps := by
  obtain ⟨b, h1, h2, h3, h4⟩ := h
  exact ⟨b, h1, h2, h3, ownR_keep h4 fun k e => hk k (own_row h4 k e) (own_lt h4 k e)⟩
theorem LentP.at {B : Nat} {w : World} {a : Option Addr} {c : Nat} {Ps : List GP} (h : LentP B w a c Ps) : AtPt w a Ps := by
  obtain ⟨b, rfl, -, -, h4⟩ := h
  exact rowP_at (n := Ps.length) (cp := c) (owns_head h4 (flat_len pP 3 pP_len Ps) (Nat.le_succ _))
theorem cell_blk {w w' : World} {b k : Nat} (h : w'.heap[b]? = w.heap[b]?) : w'.cell? ⟨b, k, none⟩ = w.cell? ⟨b, k, none⟩ := by simp [World.cell?, h]
theorem Lend.keepB {B : Nat} {w w' : World} {g len : Nat} {zs : List Int} (h : Lend B w g len zs) (hk : w'.heap[g]? = w.heap[g]?) : Lend B w' g len zs := by
  obtain ⟨h1, h2, h3⟩ := h
  refine ⟨h1, h2, ?_⟩
  rcases h3 with h3 | ⟨b, off, e, hc⟩
  · exact .inl h3
  · cases e
    exact .inr ⟨g, 0, rfl, fun k hk2 => by rw [cell_blk hk]; exact hc k hk2⟩
theorem Lend.lt {B : Nat} {w : World} {g len : Nat} {zs : List Int} (h : Lend B w g len zs) : g < w.heap.size := block_lt_of_cell (h.cells.2 len (Nat.le_refl _) (by omega))
theorem Lend.base {B B' : Nat} {w : World} {g len : Nat} {zs : List Int} (h : Lend B w g len zs) (hb : B' ≤ B) : Lend B' w g len zs := ⟨Nat.le_trans hb h.1, h.2⟩
theorem Lend.arg {B : Nat} {w : World} {g : Nat} {zs : List Int} (h : Lend B w g zs.length zs) (ho : NumsOk zs) : Arg w (some ⟨g, 0, none⟩) zs.length (zs.length + 4) zs := ⟨rfl, ho.2, (fun e => by cases e), ho.1, h.at, by omega⟩
/-- Numbers that were lent. -/
def LentQ (B : Nat) (w : World) (q : Value) (ns : List Int) : Prop := ∃ gq, q = .slice (some ⟨gq, 0, none⟩) ns.length (ns.length + 4) ∧ Lend B w gq ns.length ns
theorem LentQ.lt {B : Nat} {w : World} {q : Value} {ns : List Int} (h : LentQ B w q ns) : ∀ k, q.ownBlock = some k → B ≤ k ∧ k < w.heap.size := by
  obtain ⟨gq, rfl, h⟩ := h
  intro k e
  cases e
  exact ⟨h.1, h.lt⟩
theorem LentQ.keep {B : Nat} {w w' : World} {q : Value} {ns : List Int} (h : LentQ B w q ns) (hk : ∀ k, q.ownBlock = some k → w'.heap[k]? = w.heap[k]?) : LentQ B w' q ns := by
  obtain ⟨gq, rfl, h⟩ := h
  exact ⟨gq, rfl, h.keepB (hk gq rfl)⟩
theorem LentQ.base {B B' : Nat} {w : World} {q : Value} {ns : List Int} (h : LentQ B w q ns) (hb : B' ≤ B) : LentQ B' w q ns := by
  obtain ⟨gq, h1, h2⟩ := h
  exact ⟨gq, h1, h2.base hb⟩
def markA : GA × Value := (⟨[109, 97, 114, 107], 99, []⟩, .slice none 0 0)
def markE : GE × Value := (⟨-7770777, 0, 0, 0, []⟩, .slice none 0 0)
structure LtA (w W1 : World) (nm : List UInt8) (u2 u3 u4 v : Value) (M : List (GA × Value)) (wr : World) : Prop where
  ob : BlkA 31 (w.heap.size + 2) wr #[.string (str nm), v, u2, u3, u4]
  row : wr.ownsRow W1.heap.size 64 3 v M.length (M.flatMap aP)
  qs : ∀ p ∈ M, LentQ W1.heap.size wr p.2 p.1.params
  ap : ∀ p ∈ M, NB v p.2
  chg : Chg (fun k => k = w.heap.size + 2 ∨ W1.heap.size ≤ k) W1 wr
  hk : w.heap.size + 2 < W1.heap.size
theorem LtA.put {w W1 nm u2 u3 u4 v M} {V : World} (h : LtA w W1 nm u2 u3 u4 v M V) {w2 w4 : World} {p : GA × Value} {v' : Value} (hb : Below V.heap.size V w2) (hq : LentQ V.heap.size w2 p.2 p.1.params)
    (ho : w4.ownsRow W1.heap.size 64 3 v' (M.length + 1) (M.flatMap aP ++ aP p))
    (ht : (∃ g cap, v = .slice (some ⟨g, 0, none⟩) M.length cap ∧ v' = .slice (some ⟨g, 0, none⟩) (M.length + 1) cap ∧ w2.grownBy w4 (some g)) ∨ (∃ cap, v' = .slice (some ⟨w2.heap.size, 0, none⟩) (M.length + 1) cap ∧ w2.grownBy w4 none)) :
    LtA w W1 nm u2 u3 u4 v' (M ++ [p]) (w4.setCell ⟨w.heap.size + 2, 1, none⟩ v') ∧ BlkA 31 (w.heap.size + 2) w4 #[.string (str nm), v, u2, u3, u4] := by
  have hk := h.hk
  have h1 := h.chg.size
  have hsz := hb.size
  have tk := told_keep ht
  have kp : ∀ d, d < V.heap.size → v.ownBlock ≠ some d → w4.heap[d]? = V.heap[d]? := fun d hd hn => (tk.2 d (by omega) hn).trans (hb.block d hd)
  have lowr : ∀ d, d < W1.heap.size → v.ownBlock ≠ some d := fun d hd e => by have := own_row h.row d e; omega
  have b3 := h.ob.keep (kp _ (by omega) (lowr _ hk))
  have set : ∀ k, k ≠ w.heap.size + 2 → (w4.setCell ⟨w.heap.size + 2, 1, none⟩ v').heap[k]? = w4.heap[k]? := fun k hk => Below.heap_setCell w4 ⟨w.heap.size + 2, 1, none⟩ v' k hk
  have np : NB v p.2 := fun k e1 e2 => by have := own_lt h.row k e1; have := (hq.lt k e2).1; omega
  refine ⟨⟨b3.set 1 v', ?_, fun q hq' => ?_, fun q hq' => ?_, ?_, hk⟩, b3⟩
  · rw [flat_one, List.length_append]
    exact ownR_keep ho fun k e => set k (by have := own_row ho k e; omega)
  · rcases List.mem_append.1 hq' with hm | hm
    · have l := h.qs q hm
      exact l.keep fun k e => (set k (by have := (l.lt k e).1; omega)).trans (kp k (l.lt k e).2 (fun e2 => h.ap q hm k e2 e))
    · rw [List.mem_singleton.1 hm]
      exact (hq.keep fun k e => (set k (by have := (hq.lt k e).1; omega)).trans (tk.2 k (hq.lt k e).2 (fun e2 => np k e2 e))).base h1
  · rcases List.mem_append.1 hq' with hm | hm
    · exact NB.told (h.ap q hm) (fun k e => Nat.lt_of_lt_of_le ((h.qs q hm).lt k e).2 hsz) ht
    · rw [List.mem_singleton.1 hm]
      exact NB.told np (fun k e => (hq.lt k e).2) ht
  · obtain ⟨row, hg, hrow⟩ := told_grown ht
    have c1 : Chg (fun k => k = w.heap.size + 2 ∨ W1.heap.size ≤ k) V w2 := Chg.of_below hb
    have c2 : Chg (fun k => k = w.heap.size + 2 ∨ W1.heap.size ≤ k) w2 w4 := Chg.grown hg fun k e => .inr (own_row h.row k (hrow k e))
    exact ((h.chg.trans' c1).trans' c2).trans' (Chg.set w4 (.inl rfl) 1 v')
/-- Actors that were lent: a row of their own, a marked one behind them; each one's numbers lent, too. -/
def LentA (B : Nat) (w : World) (a : Option Addr) (c : Nat) (As : List GA) : Prop := ∃ (b : Nat) (M : List (GA × Value)), a = some ⟨b, 0, none⟩ ∧ B ≤ b ∧ As.length + 1 ≤ c ∧ M.map Prod.fst = As ∧ w.ownsRow B 64 3 (.slice a (As.length + 1) c) (As.length + 1) (M.flatMap aP ++ aP markA) ∧ ∀ p ∈ M, LentQ B w p.2 p.1.params
theorem LentA.keep {B : Nat} {w w' : World} {a : Option Addr} {c : Nat} {As : List GA} (h : LentA B w a c As) (hk : ∀ k, B ≤ k → k < w.heap.size → w'.heap[k]? = w.heap[k]?) : LentA B w' a c As := by
  obtain ⟨b, M, h1, h2, h3, h4, h5, h6⟩ := h
  exact ⟨b, M, h1, h2, h3, h4, ownR_keep h5 fun k e => hk k (own_row h5 k e) (own_lt h5 k e), fun p hp => (h6 p hp).keep fun k e => hk k ((h6 p hp).lt k e).1 ((h6 p hp).lt k e).2⟩
theorem LentA.base {B B' : Nat} {w : World} {a : Option Addr} {c : Nat} {As : List GA} (h : LentA B w a c As) (hb : B' ≤ B) : LentA B' w a c As := by
  obtain ⟨b, M, h1, h2, h3, h4, h5, h6⟩ := h
  exact ⟨b, M, h1, Nat.le_trans hb h2, h3, h4, owns_mono h5 hb, fun p hp => (h6 p hp).base hb⟩
theorem LentA.gr {B : Nat} {w : World} {a : Option Addr} {c : Nat} {As : List GA} (h : LentA B w a c As) (ho : ∀ x ∈ As, x.tag ≤ 255 ∧ NumsOk x.params) : GrA w a As := by
  obtain ⟨b, M, rfl, -, -, h4, h5, h6⟩ := h
  have hl : M.length = As.length := by rw [← h4, List.length_map]
  rw [← hl] at h5
  have r := rowA_gr (n := M.length) (cp := c) (owns_head h5 (flat_len aP 3 aP_len M) (Nat.le_succ _)) (fun p hp => by
    have hx := ho p.1 (by rw [← h4]; exact List.mem_map_of_mem hp)
    obtain ⟨gq, e, hq⟩ := h6 p hp
    exact ⟨hx.1, _, _, e, hq.arg hx.2⟩)
  rw [h4] at r
  exact r
structure LtE (w W1 : World) (nm : List UInt8) (u1 u3 u4 v : Value) (M : List (GE × Value)) (wr : World) : Prop where
  ob : BlkA 31 (w.heap.size + 2) wr #[.string (str nm), u1, v, u3, u4]
  row : wr.ownsRow W1.heap.size 67 5 v M.length (M.flatMap eP)
  qs : ∀ p ∈ M, LentQ W1.heap.size wr p.2 p.1.start
  ap : ∀ p ∈ M, NB v p.2
  chg : Chg (fun k => k = w.heap.size + 2 ∨ W1.heap.size ≤ k) W1 wr
  hk : w.heap.size + 2 < W1.heap.size
theorem LtE.put {w W1 nm u1 u3 u4 v M} {V : World} (h : LtE w W1 nm u1 u3 u4 v M V) {w2 w4 : World} {p : GE × Value} {v' : Value} (hb : Below V.heap.size V w2) (hq : LentQ V.heap.size w2 p.2 p.1.start)
    (ho : w4.ownsRow W1.heap.size 67 5 v' (M.length + 1) (M.flatMap eP ++ eP p))
    (ht : (∃ g cap, v = .slice (some ⟨g, 0, none⟩) M.length cap ∧ v' = .slice (some ⟨g, 0, none⟩) (M.length + 1) cap ∧ w2.grownBy w4 (some g)) ∨ (∃ cap, v' = .slice (some ⟨w2.heap.size, 0, none⟩) (M.length + 1) cap ∧ w2.grownBy w4 none)) :
    LtE w W1 nm u1 u3 u4 v' (M ++ [p]) (w4.setCell ⟨w.heap.size + 2, 2, none⟩ v') ∧ BlkA 31 (w.heap.size + 2) w4 #[.string (str nm), u1, v, u3, u4] := by
  have hk := h.hk
  have h1 := h.chg.size
  have hsz := hb.size
  have tk := told_keep ht
  have kp : ∀ d, d < V.heap.size → v.ownBlock ≠ some d → w4.heap[d]? = V.heap[d]? := fun d hd hn => (tk.2 d (by omega) hn).trans (hb.block d hd)
  have lowr : ∀ d, d < W1.heap.size → v.ownBlock ≠ some d := fun d hd e => by have := own_row h.row d e; omega
  have b3 := h.ob.keep (kp _ (by omega) (lowr _ hk))
  have set : ∀ k, k ≠ w.heap.size + 2 → (w4.setCell ⟨w.heap.size + 2, 2, none⟩ v').heap[k]? = w4.heap[k]? := fun k hk => Below.heap_setCell w4 ⟨w.heap.size + 2, 2, none⟩ v' k hk
  have np : NB v p.2 := fun k e1 e2 => by have := own_lt h.row k e1; have := (hq.lt k e2).1; omega
  refine ⟨⟨b3.set 2 v', ?_, fun q hq' => ?_, fun q hq' => ?_, ?_, hk⟩, b3⟩
  · rw [flat_one, List.length_append]
    exact ownR_keep ho fun k e => set k (by have := own_row ho k e; omega)
  · rcases List.mem_append.1 hq' with hm | hm
    · have l := h.qs q hm
      exact l.keep fun k e => (set k (by have := (l.lt k e).1; omega)).trans (kp k (l.lt k e).2 (fun e2 => h.ap q hm k e2 e))
    · rw [List.mem_singleton.1 hm]
      exact (hq.keep fun k e => (set k (by have := (hq.lt k e).1; omega)).trans (tk.2 k (hq.lt k e).2 (fun e2 => np k e2 e))).base h1
  · rcases List.mem_append.1 hq' with hm | hm
    · exact NB.told (h.ap q hm) (fun k e => Nat.lt_of_lt_of_le ((h.qs q hm).lt k e).2 hsz) ht
    · rw [List.mem_singleton.1 hm]
      exact NB.told np (fun k e => (hq.lt k e).2) ht
  · obtain ⟨row, hg, hrow⟩ := told_grown ht
    have c1 : Chg (fun k => k = w.heap.size + 2 ∨ W1.heap.size ≤ k) V w2 := Chg.of_below hb
    have c2 : Chg (fun k => k = w.heap.size + 2 ∨ W1.heap.size ≤ k) w2 w4 := Chg.grown hg fun k e => .inr (own_row h.row k (hrow k e))
    exact ((h.chg.trans' c1).trans' c2).trans' (Chg.set w4 (.inl rfl) 2 v')
/-- Edges that were lent: a row of their own, a marked one behind them; each one's numbers lent, too. -/
def LentE (B : Nat) (w : World) (a : Option Addr) (c : Nat) (As : List GE) : Prop := ∃ (b : Nat) (M : List (GE × Value)), a = some ⟨b, 0, none⟩ ∧ B ≤ b ∧ As.length + 1 ≤ c ∧ M.map Prod.fst = As ∧ w.ownsRow B 67 5 (.slice a (As.length + 1) c) (As.length + 1) (M.flatMap eP ++ eP markE) ∧ ∀ p ∈ M, LentQ B w p.2 p.1.start
theorem LentE.keep {B : Nat} {w w' : World} {a : Option Addr} {c : Nat} {As : List GE} (h : LentE B w a c As) (hk : ∀ k, B ≤ k → k < w.heap.size → w'.heap[k]? = w.heap[k]?) : LentE B w' a c As := by
  obtain ⟨b, M, h1, h2, h3, h4, h5, h6⟩ := h
  exact ⟨b, M, h1, h2, h3, h4, ownR_keep h5 fun k e => hk k (own_row h5 k e) (own_lt h5 k e), fun p hp => (h6 p hp).keep fun k e => hk k ((h6 p hp).lt k e).1 ((h6 p hp).lt k e).2⟩
theorem LentE.base {B B' : Nat} {w : World} {a : Option Addr} {c : Nat} {As : List GE} (h : LentE B w a c As) (hb : B' ≤ B) : LentE B' w a c As := by
  obtain ⟨b, M, h1, h2, h3, h4, h5, h6⟩ := h
  exact ⟨b, M, h1, Nat.le_trans hb h2, h3, h4, owns_mono h5 hb, fun p hp => (h6 p hp).base hb⟩
theorem LentE.gr {B : Nat} {w : World} {a : Option Addr} {c : Nat} {As : List GE} (h : LentE B w a c As) (ho : ∀ x ∈ As, NumsOk x.start) : GrE w a As := by
  obtain ⟨b, M, rfl, -, -, h4, h5, h6⟩ := h
  have hl : M.length = As.length := by rw [← h4, List.length_map]
  rw [← hl] at h5
  have r := rowE_gr (n := M.length) (cp := c) (owns_head h5 (flat_len eP 5 eP_len M) (Nat.le_succ _)) (fun p hp => by
    have hx := ho p.1 (by rw [← h4]; exact List.mem_map_of_mem hp)
    obtain ⟨gq, e, hq⟩ := h6 p hp
    exact ⟨_, _, e, hq.arg hx⟩)
  rw [h4] at r
  exact r
theorem LentP.base {B B' : Nat} {w : World} {a : Option Addr} {c : Nat} {Ps : List GP} (h : LentP B w a c Ps) (hb : B' ≤ B) : LentP B' w a c Ps := by
  obtain ⟨b, h1, h2, h3, h4⟩ := h
  exact ⟨b, h1, Nat.le_trans hb h2, h3, owns_mono h4 hb⟩
/-- A graph that was lent. -/
structure LentG (B : Nat) (w : World) (x1 x2 x3 x4 : Option Addr) (c1 c2 c3 c4 : Nat) (g : GG) : Prop where
  a : LentA B w x1 c1 g.actors
  e : LentE B w x2 c2 g.edges
  i : LentP B w x3 c3 g.ins
  o : LentP B w x4 c4 g.outs
theorem LentG.keep {B : Nat} {w w' : World} {x1 x2 x3 x4 : Option Addr} {c1 c2 c3 c4 : Nat} {g : GG} (h : LentG B w x1 x2 x3 x4 c1 c2 c3 c4 g) (hk : ∀ k, B ≤ k → k < w.heap.size → w'.heap[k]? = w.heap[k]?) : LentG B w' x1 x2 x3 x4 c1 c2 c3 c4 g := ⟨h.a.keep hk, h.e.keep hk, h.i.keep hk, h.o.keep hk⟩
/-- What is told of a graph's numbers. -/
def NumsG (g : GG) : Prop := (∀ x ∈ g.actors, x.tag ≤ 255 ∧ NumsOk x.params) ∧ (∀ x ∈ g.edges, NumsOk x.start)
theorem GrG.nums {w : World} {a1 a2 a3 a4 : Option Addr} {g : GG} (h : GrG w a1 a2 a3 a4 g) : NumsG g := by
  refine ⟨fun x hx => ?_, fun x hx => ?_⟩
  · obtain ⟨k, hk, rfl⟩ := memA hx
    rcases h.A with e | ⟨b, off, -, hc⟩
    · rw [e] at hk; exact absurd hk (Nat.not_lt_zero _)
    · obtain ⟨-, -, h3, y, c, -, h5⟩ := hc k hk
      exact ⟨h3, h5.fits, h5.reach⟩
  · obtain ⟨k, hk, rfl⟩ := memE hx
    rcases h.E with e | ⟨b, off, -, hc⟩
    · rw [e] at hk; exact absurd hk (Nat.not_lt_zero _)
    · obtain ⟨-, -, -, -, y, c, -, h5⟩ := hc k hk
      exact ⟨h5.fits, h5.reach⟩
theorem LentG.gr {B : Nat} {w : World} {x1 x2 x3 x4 : Option Addr} {c1 c2 c3 c4 : Nat} {g : GG} (h : LentG B w x1 x2 x3 x4 c1 c2 c3 c4 g) (ho : NumsG g) (hl : Light g) : GrG w x1 x2 x3 x4 g :=
  ⟨h.a.gr ho.1, h.e.gr ho.2, h.i.at, h.o.at, Nat.le_trans hl.a (by decide), Nat.le_trans hl.e (by decide), Nat.le_trans hl.i (by decide), Nat.le_trans hl.o (by decide)⟩
/-- The boxes of what comes in and of what is answered. -/
structure LB (w : World) (gv : Array Value) (u : World) : Prop where
  i : BlkA 31 w.heap.size u gv
  r : BlkA 31 (w.heap.size + 1) u #[.string ⟨#[]⟩, .slice none 0 0, .slice none 0 0, .slice none 0 0, .slice none 0 0]
  bel : Below w.heap.size w u
theorem LB.below {w gv} {u u' : World} (h : LB w gv u) (hb : Below u.heap.size u u') : LB w gv u' := ⟨h.i.below hb, h.r.below hb, h.bel.trans (hb.mono h.bel.size)⟩
theorem LB.chg {w gv} {u u' : World} {N : Nat} (h : LB w gv u) (hc : Chg (fun k => k = w.heap.size + 2 ∨ N ≤ k) u u') (hN : w.heap.size + 2 < N) : LB w gv u' :=
  ⟨h.i.keep (hc.block _ h.i.lt (by omega)), h.r.keep (hc.block _ h.r.lt (by omega)), h.bel.trans (hc.below (L := w.heap.size) (fun k e => by omega) h.bel.size)⟩
theorem LB.set {w gv} {u : World} (h : LB w gv u) (f : Nat) (v : Value) : LB w gv (u.setCell ⟨w.heap.size + 2, f, none⟩ v) :=
  ⟨h.i.keep (Below.heap_setCell _ ⟨w.heap.size + 2, f, none⟩ _ _ (by show w.heap.size ≠ w.heap.size + 2; omega)), h.r.keep (Below.heap_setCell _ ⟨w.heap.size + 2, f, none⟩ _ _ (by show w.heap.size + 1 ≠ w.heap.size + 2; omega)), h.bel.setCell (p := ⟨w.heap.size + 2, f, none⟩) (Nat.le_add_right _ 2) _⟩
theorem own_type {B n c : Nat} {w : World} {T S : TypeId} {v : Value} {xs : List Value} {cs : Array Value} {hb : Nat} (h : w.ownsRow B T c v n xs) (hX : BlkA S hb w cs) (hT : S ≠ T) : ∀ k, v.ownBlock = some k → k ≠ hb := by
  intro k hk e
  rcases h.2 with ⟨hv, -⟩ | ⟨g, cap, cur, hv, hg, hh, -⟩
  · rw [hv] at hk; cases hk
  · rw [hv] at hk
    cases hk
    subst e
    rw [show w.heap[g]? = some (.cells cs S (0, 0)) from hX] at hh
    injection hh with hh
    injection hh with h1 h2
    exact hT h2
/-- A graph's box and the row in its field f, while that row is filled; w0: the world ahead of it. -/
structure FilO (w0 wr : World) (hb : Nat) (T : TypeId) (c : Nat) (cs : Array Value) (v : Value) (n : Nat) (xs : List Value) : Prop where
  blk : BlkA 31 hb wr cs
  row : wr.ownsRow w0.heap.size T c v n xs
  old : hb < w0.heap.size
  chg : Chg (fun k => k = hb ∨ w0.heap.size ≤ k) w0 wr
theorem FilO.far {w0 wr : World} {hb : Nat} {T : TypeId} {c : Nat} {cs : Array Value} {v : Value} {n : Nat} {xs : List Value} (h : FilO w0 wr hb T c cs v n xs) : v.ownBlock ≠ some hb := fun e => by
  have := own_row h.row _ e
  have := h.old
  omega
theorem FilO.nil {w0 : World} {hb : Nat} (T : TypeId) (c : Nat) {cs : Array Value} (h : BlkA 31 hb w0 cs) : FilO w0 w0 hb T c cs (.slice none 0 0) 0 [] :=
  ⟨h, World.ownsRow_nil _ _ _ _, h.lt, Chg.of_below (Below.refl _ _)⟩
theorem FilO.step {w0 V u : World} {hb : Nat} {T : TypeId} {c f : Nat} {cs : Array Value} {v : Value} {n : Nat} {xs e : List Value} (h : FilO w0 V hb T c cs v n xs) (ap : AppE (fun _ es => es = e) V w0.heap.size T c v n xs 31 hb f cs u) : ∃ g k, FilO w0 u hb T c (cs.setIfInBounds f (.slice (some ⟨g, 0, none⟩) (n + 1) k)) (.slice (some ⟨g, 0, none⟩) (n + 1) k) (n + 1) (xs ++ e) := by
  obtain ⟨es, w1, u1, z, hD, hbut, hblk⟩ := ap
  obtain ⟨g, cap, rfl⟩ := hD.shape
  have e1 : es = e := hD.el
  subst e1
  have hgB : w0.heap.size ≤ g := own_row hD.own g rfl
  have hold := h.old
  refine ⟨g, cap, hblk, ownR_keep hD.own (fun k hk => hbut.block k (own_lt hD.own k hk) (by have := own_row hD.own k hk; omega)), h.old, ?_⟩
  have c1 := h.chg.trans hD.chg (fun k hk => .inr (own_row h.row k hk))
  exact c1.trans (F' := fun k => k = hb) ⟨hbut.os, hbut.tape, hbut.output, hbut.size, fun k hk hn => hbut.block k hk hn⟩ (fun k hk => .inl (.inl hk))
theorem FilO.bel {w0 wr : World} {hb : Nat} {T : TypeId} {c : Nat} {cs : Array Value} {v : Value} {n : Nat} {xs : List Value} (h : FilO w0 wr hb T c cs v n xs) {Q : Nat} (hQ : Q ≤ hb) : Below Q w0 wr := by
  have := h.old
  exact ⟨h.chg.os, h.chg.tape, h.chg.output, h.chg.size, fun k hk => h.chg.block k (by omega) (by omega)⟩
theorem FilO.keep {w0 wr : World} {hb : Nat} {T : TypeId} {c : Nat} {cs : Array Value} {v : Value} {n : Nat} {xs : List Value} (h : FilO w0 wr hb T c cs v n xs) : ∀ k, k < w0.heap.size → k ≠ hb → wr.heap[k]? = w0.heap[k]? := fun k hk hn => h.chg.block k hk (by omega)
theorem GrE.tail {w : World} {b off : Nat} {e : GE} {es : List GE} (h : GrE w (some ⟨b, off, none⟩) (e :: es)) : GrE w (some ⟨b, off + 5, none⟩) es := by
  rcases h with h | ⟨b', off', e1, hc⟩
  · cases h
  · cases e1
    refine .inr ⟨b, off + 5, rfl, fun k hk => ?_⟩
    have := hc (k + 1) (Nat.succ_lt_succ hk)
    have e2 : off + (k + 1) * 5 = off + 5 + k * 5 := by omega
    rw [e2] at this
    exact this
theorem AtPt.tail {w : World} {b off : Nat} {e : GP} {es : List GP} (h : AtPt w (some ⟨b, off, none⟩) (e :: es)) : AtPt w (some ⟨b, off + 3, none⟩) es := by
  rcases h with h | ⟨b', off', e1, hc⟩
  · cases h
  · cases e1
    refine .inr ⟨b, off + 3, rfl, fun k hk => ?_⟩
    have := hc (k + 1) (Nat.succ_lt_succ hk)
    have e2 : off + (k + 1) * 3 = off + 3 + k * 3 := by omega
    rw [e2] at this
    exact this
theorem doneO_eq (d : Nat → Bool) (i : Nat) : doneAt d i i = true := by unfold doneAt; rw [if_pos rfl]
theorem doneO_ne (d : Nat → Bool) {i j : Nat} (h : j ≠ i) : doneAt d i j = d j := by unfold doneAt; rw [if_neg h]
theorem own_capO {B n c cap : Nat} {w : World} {T : TypeId} {a : Option Addr} {xs : List Value} (h : w.ownsRow B T c (.slice a n cap) n xs) : n ≤ cap := by
  rcases h.2 with ⟨hv, hn⟩ | ⟨g, cap', cur, hv, hg, hh, hc, -⟩
  · omega
  · cases hv; exact hc
theorem cell_chg {F : Nat → Prop} {w w' : World} {p : Addr} {v : Value} (hB : Chg F w w') (hp : ¬ F p.block) (h : w.cell? p = some v) : w'.cell? p = some v := by
  rw [← h]
  exact World.cell?_of_block (w := w) (hB.block p.block (block_lt_of_cell h) hp)
end Go.Proofs.Ytokhoigpaanjeaa
namespace Go.Proofs.Ytokhoigpaanjeaa
open Go.RowKit
def gSN (second : List UInt8) (es : List GE) : GG := ⟨[103], [⟨[97], 2, [2]⟩, ⟨second, 8, []⟩], es, [⟨[120], 0, 0⟩], [⟨[121], 1, 0⟩]⟩
def eSN (f : Int) (start : List Int) : GE := ⟨f, 0, 1, 0, start⟩
end Go.Proofs.Ytokhoigpaanjeaa
namespace Go.Proofs.Ytokhoigpaanjeaa
open Go.ChangeShapes Go.WideShapes Go.ChangeAt Go.RowKit
/-- A graph's box and the row in its field f, while that row is filled; w0: the world ahead of it. -/
structure FilS (S : TypeId) (w0 wr : World) (hb : Nat) (T : TypeId) (c : Nat) (cs : Array Value) (v : Value) (n : Nat) (xs : List Value) : Prop where
  blk : BlkA S hb wr cs
  row : wr.ownsRow w0.heap.size T c v n xs
  old : hb < w0.heap.size
  chg : Chg (fun k => k = hb ∨ w0.heap.size ≤ k) w0 wr
theorem FilS.far {S : TypeId} {w0 wr : World} {hb : Nat} {T : TypeId} {c : Nat} {cs : Array Value} {v : Value} {n : Nat} {xs : List Value} (h : FilS S w0 wr hb T c cs v n xs) : v.ownBlock ≠ some hb := fun e => by
  have := own_row h.row _ e
  have := h.old
  omega
theorem FilS.nil {S : TypeId} {w0 : World} {hb : Nat} (T : TypeId) (c : Nat) {cs : Array Value} (h : BlkA S hb w0 cs) : FilS S w0 w0 hb T c cs (.slice none 0 0) 0 [] :=
  ⟨h, World.ownsRow_nil _ _ _ _, h.lt, Chg.of_below (Below.refl _ _)⟩
theorem FilS.step {S : TypeId} {w0 V u : World} {hb : Nat} {T : TypeId} {c f : Nat} {cs : Array Value} {v : Value} {n : Nat} {xs e : List Value} (h : FilS S w0 V hb T c cs v n xs) (ap : AppE (fun _ es => es = e) V w0.heap.size T c v n xs S hb f cs u) : ∃ g k, FilS S w0 u hb T c (cs.setIfInBounds f (.slice (some ⟨g, 0, none⟩) (n + 1) k)) (.slice (some ⟨g, 0, none⟩) (n + 1) k) (n + 1) (xs ++ e) := by
  obtain ⟨es, w1, u1, z, hD, hbut, hblk⟩ := ap
  obtain ⟨g, cap, rfl⟩ := hD.shape
  have e1 : es = e := hD.el
  subst e1
  have hgB : w0.heap.size ≤ g := own_row hD.own g rfl
  have hold := h.old
  refine ⟨g, cap, hblk, ownR_keep hD.own (fun k hk => hbut.block k (own_lt hD.own k hk) (by have := own_row hD.own k hk; omega)), h.old, ?_⟩
  have c1 := h.chg.trans hD.chg (fun k hk => .inr (own_row h.row k hk))
  exact c1.trans (F' := fun k => k = hb) ⟨hbut.os, hbut.tape, hbut.output, hbut.size, fun k hk hn => hbut.block k hk hn⟩ (fun k hk => .inl (.inl hk))
theorem FilS.bel {S : TypeId} {w0 wr : World} {hb : Nat} {T : TypeId} {c : Nat} {cs : Array Value} {v : Value} {n : Nat} {xs : List Value} (h : FilS S w0 wr hb T c cs v n xs) {Q : Nat} (hQ : Q ≤ hb) : Below Q w0 wr := by
  have := h.old
  exact ⟨h.chg.os, h.chg.tape, h.chg.output, h.chg.size, fun k hk => h.chg.block k (by omega) (by omega)⟩
theorem FilS.keep {S : TypeId} {w0 wr : World} {hb : Nat} {T : TypeId} {c : Nat} {cs : Array Value} {v : Value} {n : Nat} {xs : List Value} (h : FilS S w0 wr hb T c cs v n xs) : ∀ k, k < w0.heap.size → k ≠ hb → wr.heap[k]? = w0.heap[k]? := fun k hk hn => h.chg.block k hk (by omega)
/-- The blocks of a small graph, its second actor's name and its edges aside. -/
structure SmX (b : Nat) (nm : ByteArray) (w : World) : Prop where
  i2 : BlkA 3 (b + 1) w #[.int .i64 2]
  ac : BlkA 64 (b + 2) w #[.string ⟨#[97]⟩, .int .u8 2, .slice (some ⟨b + 1, 0, none⟩) 1 1, .string nm, .int .u8 8, .slice none 0 0]
  pi : BlkA 80 (b + 5) w #[.string ⟨#[120]⟩, .int .i64 0, .int .i64 0]
  po : BlkA 80 (b + 6) w #[.string ⟨#[121]⟩, .int .i64 1, .int .i64 0]
theorem SmX.keep {b : Nat} {nm : ByteArray} {w w' : World} (h : SmX b nm w) (hk : ∀ k, k = b + 1 ∨ k = b + 2 ∨ k = b + 5 ∨ k = b + 6 → k < w.heap.size → w'.heap[k]? = w.heap[k]?) : SmX b nm w' :=
  ⟨h.i2.keep (hk _ (by omega) h.i2.lt), h.ac.keep (hk _ (by omega) h.ac.lt), h.pi.keep (hk _ (by omega) h.pi.lt), h.po.keep (hk _ (by omega) h.po.lt)⟩
theorem SmB.x {b : Nat} {tp : Int} {w : World} (h : SmB b tp w) : SmX b ⟨#[98]⟩ w := ⟨h.i2, h.ac, h.pi, h.po⟩
theorem SmB.but {b gb : Nat} {tp : Int} {w w' : World} (h : SmB b tp w) (hB : But gb w w') (hg : gb < b) : SmB b tp w' :=
  ⟨h.i2.keep (hB.block _ h.i2.lt (by omega)), h.ac.keep (hB.block _ h.ac.lt (by omega)), h.i7.keep (hB.block _ h.i7.lt (by omega)), h.ed.keep (hB.block _ h.ed.lt (by omega)), h.pi.keep (hB.block _ h.pi.lt (by omega)), h.po.keep (hB.block _ h.po.lt (by omega))⟩
theorem SmX.gr {b : Nat} {nm : List UInt8} {w : World} (h : SmX b (str nm) w) {x : Option Addr} {es : List GE} (hE : GrE w x es) (hl : es.length ≤ 10) : GrG w (some ⟨b + 2, 0, none⟩) x (some ⟨b + 5, 0, none⟩) (some ⟨b + 6, 0, none⟩) (gSN nm es) := by
  refine ⟨.inr ⟨b + 2, 0, rfl, fun k hk => ?_⟩, hE, .inr ⟨b + 5, 0, rfl, fun k hk => ?_⟩, .inr ⟨b + 6, 0, rfl, fun k hk => ?_⟩, by show 2 ≤ 1000000000000000; decide, by show es.length ≤ 1000000000000000; omega, by show 1 ≤ 1000000000000000; decide, by show 1 ≤ 1000000000000000; decide⟩
  · match k, hk with
    | 0, _ => exact ⟨h.ac.cell (k := 0) rfl, h.ac.cell (k := 1) rfl, by show 2 ≤ 255; decide, _, _, h.ac.cell (k := 2) rfl, arg_one h.i2 (by decide)⟩
    | 1, _ => exact ⟨h.ac.cell (k := 3) rfl, h.ac.cell (k := 4) rfl, by show 8 ≤ 255; decide, _, _, h.ac.cell (k := 5) rfl, arg_nil⟩
    | k + 2, hk => exact absurd hk (by show ¬ k + 2 < 2; omega)
  · match k, hk with
    | 0, _ => exact ⟨h.pi.cell (k := 0) rfl, h.pi.cell (k := 1) rfl, h.pi.cell (k := 2) rfl⟩
    | k + 1, hk => exact absurd hk (by show ¬ k + 1 < 1; omega)
  · match k, hk with
    | 0, _ => exact ⟨h.po.cell (k := 0) rfl, h.po.cell (k := 1) rfl, h.po.cell (k := 2) rfl⟩
    | k + 1, hk => exact absurd hk (by show ¬ k + 1 < 1; omega)
theorem grE_one {w : World} {g : Nat} {f : Int} {d : Option Addr} {k : Nat} {st : List Int} (h : BlkA 67 g w #[.int .i64 f, .int .i64 0, .int .i64 1, .int .i64 0, .slice d st.length k]) (ha : Arg w d st.length k st) : GrE w (some ⟨g, 0, none⟩) [eSN f st] :=
  .inr ⟨g, 0, rfl, fun i hi => by
    match i, hi with
    | 0, _ => exact ⟨h.cell (k := 0) rfl, h.cell (k := 1) rfl, h.cell (k := 2) rfl, h.cell (k := 3) rfl, _, _, h.cell (k := 4) rfl, ha⟩
    | i + 1, hi => exact absurd hi (by show ¬ i + 1 < 1; omega)⟩
theorem FilS.later {S : TypeId} {w0 wr w' : World} {hb : Nat} {T : TypeId} {c : Nat} {cs : Array Value} {v : Value} {n : Nat} {xs : List Value} (h : FilS S w0 wr hb T c cs v n xs) (hb' : Below wr.heap.size wr w') : FilS S w0 w' hb T c cs v n xs :=
  ⟨h.blk.below hb', owns_below h.row hb', h.old, h.chg.trans (F' := fun k => k = hb ∨ w0.heap.size ≤ k) (Chg.of_below hb') (fun _ hk => .inl hk)⟩
/-- The small graph whose edge's tokens grow: k of them behind the first. -/
structure FilT (w wr : World) (b k : Nat) (d : Option Addr) (kk : Nat) : Prop where
  box : BlkA 67 (b + 4) wr #[.int .i64 0, .int .i64 0, .int .i64 1, .int .i64 0, .slice d (k + 1) kk]
  row : wr.ownsRow (b + 3) 3 1 (.slice d (k + 1) kk) (k + 1) (((7 : Int) :: List.replicate k 1).map (Value.int .i64))
  sx : SmX b ⟨#[98]⟩ wr
  gx : BlkA 31 w.heap.size wr #[.string ⟨#[103]⟩, .slice (some ⟨b + 2, 0, none⟩) 2 2, .slice (some ⟨b + 4, 0, none⟩) 1 1, .slice (some ⟨b + 5, 0, none⟩) 1 1, .slice (some ⟨b + 6, 0, none⟩) 1 1]
  low : w.heap.size < b
  bel : Below w.heap.size w wr
theorem FilT.far {w wr : World} {b k : Nat} {d : Option Addr} {kk : Nat} (h : FilT w wr b k d kk) : (.slice d (k + 1) kk : Value).ownBlock ≠ some (b + 4) := fun e => own_type h.row h.box (by decide) _ e rfl
theorem tok_next (k : Nat) : ((7 : Int) :: List.replicate (k + 1) 1).map (Value.int .i64) = ((7 : Int) :: List.replicate k 1).map (Value.int .i64) ++ [.int .i64 1] := by
  rw [List.replicate_succ', ← List.cons_append, List.map_append]
  rfl
theorem FilT.step {w V u : World} {b k : Nat} {d : Option Addr} {kk : Nat} (h : FilT w V b k d kk) (ap : AppE (fun _ es => es = [.int .i64 1]) V (b + 3) 3 1 (.slice d (k + 1) kk) (k + 1) (((7 : Int) :: List.replicate k 1).map (Value.int .i64)) 67 (b + 4) 4 #[.int .i64 0, .int .i64 0, .int .i64 1, .int .i64 0, .slice d (k + 1) kk] u) : ∃ d' kk', FilT w u b (k + 1) d' kk' := by
  obtain ⟨es, w1, u1, z, hD, hbut, hblk⟩ := ap
  obtain ⟨g, cap, rfl⟩ := hD.shape
  have e1 : es = [.int .i64 1] := hD.el
  subst e1
  have hlow := h.low
  have hb1 : BlkA 67 (b + 4) u1 _ := h.box.keep (hD.chg.block _ h.box.lt h.far)
  have kp : ∀ j, j < V.heap.size → (.slice d (k + 1) kk : Value).ownBlock ≠ some j → j ≠ b + 4 → u.heap[j]? = V.heap[j]? := fun j hj hn h4 => (hbut.block j (Nat.lt_of_lt_of_le hj hD.chg.size) h4).trans (hD.chg.block j hj hn)
  have no : ∀ j, j < b + 3 → (.slice d (k + 1) kk : Value).ownBlock ≠ some j := fun j hj e => by have := own_row h.row j e; omega
  refine ⟨some ⟨g, 0, none⟩, cap, hblk, ?_, ?_, ?_, h.low, ?_⟩
  · rw [tok_next]
    exact ownR_keep hD.own (fun j hj => hbut.block j (own_lt hD.own j hj) (own_type hD.own hb1 (by decide) j hj))
  · refine h.sx.keep fun j hj hl => kp j hl ?_ (by omega)
    rcases hj with rfl | rfl | rfl | rfl
    · exact no _ (by omega)
    · exact no _ (by omega)
    · exact fun e => own_type h.row h.sx.pi (by decide) _ e rfl
    · exact fun e => own_type h.row h.sx.po (by decide) _ e rfl
  · exact h.gx.keep (kp _ h.gx.lt (no _ (by omega)) (by omega))
  · exact h.bel.trans ⟨hbut.os.trans hD.chg.os, hbut.tape.trans hD.chg.tape, hbut.output.trans hD.chg.output, Nat.le_trans hD.chg.size hbut.size, fun j hj => kp j (Nat.lt_of_lt_of_le hj h.bel.size) (no _ (by omega)) (by omega)⟩
theorem FilT.later {w wr w' : World} {b k : Nat} {d : Option Addr} {kk : Nat} (h : FilT w wr b k d kk) (hb : Below wr.heap.size wr w') : FilT w w' b k d kk :=
  ⟨h.box.below hb, owns_below h.row hb, h.sx.keep (fun j _ hl => hb.block j hl), h.gx.below hb, h.low, h.bel.trans (hb.mono h.bel.size)⟩
theorem FilT.gr {w wr : World} {b k : Nat} {d : Option Addr} {kk : Nat} (h : FilT w wr b k d kk) (hk : k ≤ 300) : GrG wr (some ⟨b + 2, 0, none⟩) (some ⟨b + 4, 0, none⟩) (some ⟨b + 5, 0, none⟩) (some ⟨b + 6, 0, none⟩) (gSN [98] [eSN 0 (7 :: List.replicate k 1)]) := by
  have hl : ((7 : Int) :: List.replicate k 1).length = k + 1 := by simp
  have hcap := own_capO h.row
  refine SmX.gr (nm := [98]) h.sx (grE_one (d := d) (k := kk) (by rw [hl]; exact h.box) ?_) (by simp)
  rw [hl]
  refine ⟨hl, by omega, fun e => ?_, fun i => ?_, ?_, hcap⟩
  · subst e
    rcases h.row.2 with ⟨hv, hn⟩ | ⟨g, c, cur, hv, -⟩
    · omega
    · cases hv
  · unfold nth
    rw [List.getD_eq_getElem?_getD]
    by_cases hi : i < ((7 : Int) :: List.replicate k 1).length
    · rw [List.getElem?_eq_getElem hi]
      have hm := List.getElem_mem hi
      simp only [Option.getD_some]
      rcases List.mem_cons.1 hm with e | e
      · rw [e]; decide
      · rw [(List.mem_replicate.1 e).2]; decide
    · rw [List.getElem?_eq_none (by omega)]; decide
  · have q : CapR (b + 3) wr d kk ((7 : Int) :: List.replicate k 1) := by unfold CapR; rw [hl]; exact h.row
    exact q.at
def HeavyEnd (w : World) (n : Nat) (L : List (Itm × Value)) (e : Ending) (w' : World) : Prop := ∃ b, e = .returned (.bool b) ∧ (b = false → n ≤ 1048576 ∧ ∀ p ∈ L, p.1.nums.length ≤ 1048576) ∧ Below w.heap.size w w'
set_option maxRecDepth 100000 in
set_option maxHeartbeats 4000000 in
theorem heavy_any (nm : List UInt8) (a : Option Addr) (n c : Nat) (L : List (Itm × Value)) (w : World) (h : ArgS w a n L) :
    Calls Try.prog 5 #[.agg #[.string (str nm), .slice a n c]] w (HeavyEnd w n L) := by
  have hb0 := (Below.refl w.heap.size w).alloc (Nat.le_refl _) (.cells #[.string (str nm), .slice a n c] 24)
  have HB0 := hiddenG hb0
  have HK0 := hiddenG (blkA_new 24 w #[.string (str nm), .slice a n c])
  have HA0 := hiddenG (h.below hb0)
  have hn := h.size
  have hr := h.reach
  have hnI : (n : Int) ≤ 140737488351232 := by omega
  clear h hb0
  go_enter Try.func5, Try.ntmps5
  go_wp2
  go_loopg [3, 4] n (fun gk sv v wr => ∃ (k s : Nat), k ≤ n ∧ gk = n - k ∧ v = .int .i64 (k : Int) ∧ sv = .int .i64 (s : Int) ∧ n ≤ s ∧ s ≤ 562949953421312 ∧ (∀ j, j < k → (nthI L j).1.nums.length ≤ s) ∧ Below w.heap.size w wr ∧ BlkA 24 w.heap.size wr #[.string (str nm), .slice a n c] ∧ ArgS wr a n L)
  case atStart => exact ⟨0, n, Nat.zero_le _, rfl, rfl, rfl, Nat.le_refl _, by omega, fun j hj => by omega, HB0.out, HK0.out, HA0.out⟩
  case round =>
    clear HB0 HK0 HA0
    obtain ⟨k, s, hk, rfl, rfl, rfl, hns, hs, hall, hbe, hbk, hA⟩ := hrel
    have HBE := hiddenG hbe
    have HBK := hiddenG hbk
    have HA := hiddenG hA
    have HALL := hiddenG hall
    have y1 : wr.cell? ⟨w.heap.size, 1, none⟩ = some (.slice a n c) := hbk.cell (k := 1) rfl
    clear hbe hbk hA hall
    have hsI : (s : Int) ≤ 562949953421312 := by omega
    by_cases hlt : k < n ∧ s ≤ 1048576
    · obtain ⟨hlt, hs2⟩ := hlt
      have hki : (k : Int) < (n : Int) := by omega
      have hsj : (s : Int) ≤ 1048576 := by omega
      rcases HA.out.lies.lie with e | ⟨g, off, rfl, hc⟩
      · rw [e] at hn; simp at hn; omega
      have c3 := (hc k (by omega)).c3
      obtain ⟨a1, k1, e2, -⟩ := HA.out.lies.nums _ (nthI_mem (L := L) (k := k) (by omega))
      rw [e2] at c3
      have hm := HA.out.nums _ (nthI_mem (L := L) (k := k) (by omega))
      have HAL2 : Hid (∀ j, j < k + 1 → (nthI L j).1.nums.length ≤ s + (nthI L k).1.nums.length) := fun j hj => by
        by_cases e : j < k
        · have := HALL.out j e; omega
        · have : j = k := by omega
          subst this; omega
      clear hc e2
      generalize hm2 : (nthI L k).1.nums.length = m at *
      have hmI : (m : Int) ≤ 140737488351232 := by omega
      have hs0 : (0 : Int) ≤ (s : Int) := by omega
      have hm0 : (0 : Int) ≤ (m : Int) := by omega
      go_wp2
      go_roundg (n - (k + 1))
      case measure => omega
      case rel => exact ⟨k + 1, s + m, by omega, rfl, by go_num, by go_num, by omega, by omega, HAL2.out, HBE.out, HBK.out, HA.out⟩
    · by_cases hkn : k < n
      · have hki : (k : Int) < (n : Int) := by omega
        have hsj : ¬ ((s : Int) ≤ 1048576) := by omega
        have hsk : (s : Int) > 1048576 := by omega
        go_wp2
        go_ret
        exact ⟨true, by first | rfl | (simp; omega), (fun e => by cases e), HBE.out⟩
      · have ek : k = n := by omega
        subst ek
        have hki : ¬ ((k : Int) < (k : Int)) := by omega
        by_cases hs3 : s ≤ 1048576
        · have hsk : ¬ ((s : Int) > 1048576) := by omega
          go_wp2
          go_ret
          refine ⟨false, by first | rfl | (simp; omega), fun _ => ⟨by omega, fun p hp => ?_⟩, HBE.out⟩
          obtain ⟨j, hj, rfl⟩ := List.mem_iff_getElem.1 hp
          have := HALL.out j (by omega)
          have e : nthI L j = L[j] := by unfold nthI; rw [List.getD_eq_getElem?_getD, List.getElem?_eq_getElem hj]; rfl
          rw [e] at this
          omega
        · have hsk : (s : Int) > 1048576 := by omega
          go_wp2
          go_ret
          exact ⟨true, by first | rfl | (simp; omega), (fun e => by cases e), HBE.out⟩
theorem Try.cells5PL : Try.prog.cellsOf 43 = 3 := by kernel_rfl
theorem Try.cells5IT : Try.prog.cellsOf 45 = 11 := by kernel_rfl
theorem Try.cells5SK : Try.prog.cellsOf 24 = 2 := by kernel_rfl
theorem Try.cells5IS : Try.prog.cellsOf 22 = 1 := by kernel_rfl
theorem Try.cells5SL : Try.prog.cellsOf 41 = 1 := by kernel_rfl
theorem Try.cells59 : Try.prog.cellsOf 9 = 1 := by kernel_rfl
theorem Try.cells53 : Try.prog.cellsOf 3 = 1 := by kernel_rfl
theorem Try.bytes5IT : Try.prog.bytesOf 45 = 136 := by kernel_rfl
theorem Try.bytes53 : Try.prog.bytesOf 3 = 8 := by kernel_rfl
theorem choose5 {α : Type} {n : Nat} {p : Nat → α → Prop} (d : α) (h : ∀ i, i < n → ∃ a, p i a) : ∃ f : Nat → α, ∀ i, i < n → p i (f i) :=
  ⟨fun i => if hi : i < n then (h i hi).choose else d, fun i hi => by simp only [hi, dif_pos]; exact (h i hi).choose_spec⟩
theorem off_none {W : World} {x : Addr} {v : Value} (h : W.cell? (x.add 0) = some v) : x.spot = none := by
  obtain ⟨b, off, sp⟩ := x
  cases sp with
  | none => rfl
  | some s => simp [World.cell?, Addr.add] at h; split at h <;> cases h
section
variable {H : Type} {enc : TypeId × Value → H} {W : World} {base : Nat} {held : Bool}
theorem wAll_mem {P : Program} {e : TypeId} {q : Nat → Bool} : ∀ {l : List (DataW H)} {d : DataW H}, d ∈ l → (DataW.weightsAll P e l).all q = true → (d.weights P e).all q = true
  | [], _, h, _ => by simp at h
  | d0 :: l, d, h, hw => by
    simp only [DataW.weightsAll, List.all_append, Bool.and_eq_true] at hw
    rcases List.mem_cons.1 h with rfl | h
    · exact hw.1
    · exact wAll_mem h hw.2
/-- What is known of an item that came in. -/
structure ItZ (W : World) (p : Itm × Value) : Prop where
  ints : IntsAt W p.2 p.1.nums
  nums : p.1.nums.length ≤ 140737488351232
  shp : ∃ b d, p.2 = .slice b p.1.nums.length d ∧ (b = none → p.1.nums.length = 0 ∧ d = 0) ∧ p.1.nums.length ≤ d
  fits : (-9223372036854775808 ≤ p.1.frm.port ∧ p.1.frm.port ≤ 9223372036854775807) ∧ (-9223372036854775808 ≤ p.1.tgt.port ∧ p.1.tgt.port ≤ 9223372036854775807) ∧ ∀ x ∈ p.1.nums, -9223372036854775808 ≤ x ∧ x ≤ 9223372036854775807
/-- What is known of a slice of numbers that came in. -/
theorem nums_open {n : Nat} {v : Value} {y : DataW H × List MemPlace} (h : DataW.trod enc Try.prog W base (fun _ => true) held n 41 [v] = some y) (hw : (y.1.weights Try.prog 41).all (· ≤ reachBytes) = true) :
    ∃ ns : List Int, IntsAt W v ns ∧ ns.length ≤ 140737488351232 ∧ (∃ b d, v = .slice b ns.length d ∧ (b = none → ns.length = 0 ∧ d = 0) ∧ ns.length ≤ d) ∧ ∀ x ∈ ns, -9223372036854775808 ≤ x ∧ x ≤ 9223372036854775807 := by
  rcases open_ints Try.underlying41 Try.underlying3 Try.cells53 h with ⟨h1, -⟩ | ⟨a, len, cap, zs, h1, -, hl, -, hz, hx, hc, hb⟩
  · simp only [List.cons.injEq, and_true] at h1
    subst h1
    exact ⟨[], ⟨none, 0, rfl, .inl rfl⟩, by decide, ⟨none, 0, rfl, fun _ => ⟨rfl, rfl⟩, Nat.le_refl _⟩, fun x hx => by cases hx⟩
  · simp only [List.cons.injEq, and_true] at h1
    subst h1
    simp only [if_true] at hz
    have hl2 : (zs.take len).length = len := by rw [List.length_take]; omega
    have hr : len ≤ 140737488351232 := by
      rw [hx] at hw
      simp only [DataW.weights, Try.underlying41, List.all_cons, Bool.and_eq_true, decide_eq_true_eq, Try.bytes53] at hw
      have := hw.1
      simp only [reachBytes, lits, List.length_map, List.length_take, List.length_drop] at this
      omega
    refine ⟨zs.take len, ?_, by omega, ⟨some a, cap, by rw [hl2], (fun e => by cases e), by omega⟩, fun x hx => bounds_i64 (hb x (List.mem_of_mem_take hx))⟩
    refine ⟨some a, cap, by rw [hl2], ?_⟩
    by_cases h0 : 0 < len
    · have hs := off_none (hc 0 (by omega))
      obtain ⟨b, off, sp⟩ := a
      simp only at hs
      subst hs
      refine .inr ⟨b, off, rfl, fun k hk => ?_⟩
      rw [hl2] at hk
      have := hc k (by omega)
      rw [Addr.add_lit] at this
      rw [this, List.getD_eq_getElem?_getD, List.getD_eq_getElem?_getD, List.getElem?_take_of_lt hk]
    · left
      have e : len = 0 := by omega
      rw [e]; rfl
end
theorem BlkA.grown {T n w w' cs} {row : Option Nat} (h : BlkA T n w cs) (hg : w.grownBy w' row) (hn : some n ≠ row) : BlkA T n w' cs := (hg.block n h.lt hn).trans h
theorem BlkA.other {T n w cs} (h : BlkA T n w cs) {m k : Nat} (hn : n ≠ m) (u : Value) : BlkA T n (w.setCell ⟨m, k, none⟩ u) cs := (Below.heap_setCell w _ _ n hn).trans h
structure LSk (w : World) (nm : List UInt8) (a : Option Addr) (n c : Nat) (L : List (Itm × Value)) (k : Nat) (v : Value) (M : List (Itm × Value)) (wr : World) : Prop where
  b1 : BlkA 24 w.heap.size wr #[.string (str nm), .slice a n c]
  b2 : BlkA 24 (w.heap.size + 1) wr #[.string ⟨#[]⟩, .slice none 0 0]
  b3 : BlkA 24 (w.heap.size + 2) wr #[.string (str nm), v]
  its : Its (w.heap.size + 3) wr v M
  same : M.map Prod.fst = (L.take k).map Prod.fst
  len : M.length = k
  bel : Below w.heap.size w wr
  big : w.heap.size + 3 ≤ wr.heap.size
theorem LSk.put {w nm a n c L k v M wr} {L2 : List (Itm × Value)} (h : LSk w nm a n c L k v M wr) {w2 w4 : World} {x : Itm} {q v' : Value} {m : Nat} {M' : List (Itm × Value)} {k' : Nat} (hb : Below wr.heap.size wr w2) (hq : Ints m w2 q x.nums) (hm : wr.heap.size ≤ m)
    (ho : w4.ownsRow (w.heap.size + 3) 45 11 v' (M.length + 1) (M.flatMap itP ++ itP (x, q)))
    (ht : (∃ g cap, v = .slice (some ⟨g, 0, none⟩) M.length cap ∧ v' = .slice (some ⟨g, 0, none⟩) (M.length + 1) cap ∧ w2.grownBy w4 (some g)) ∨ (∃ cap, v' = .slice (some ⟨w2.heap.size, 0, none⟩) (M.length + 1) cap ∧ w2.grownBy w4 none))
    (hM : M' = M ++ [(x, q)]) (hs : M'.map Prod.fst = (L2.take k').map Prod.fst) (hk : M'.length = k') : LSk w nm a n c L2 k' v' M' (w4.setCell ⟨w.heap.size + 2, 1, none⟩ v') := by
  subst hM
  have hbig := h.big
  have hsz := hb.size
  have i1 := h.its.below hb
  have i2 := i1.app hq (fun k hk => by
    rcases hk with hk | ⟨p, hp, hk⟩
    · have := own_lt h.its.row k hk; omega
    · have := own_lt (h.its.nums p hp) k hk; omega) (by omega) ho ht
  have hg : ∃ row, w2.grownBy w4 row ∧ ∀ k, row = some k → w.heap.size + 3 ≤ k := by
    rcases ht with ⟨g, cap, e, -, hg⟩ | ⟨cap, -, hg⟩
    · refine ⟨_, hg, fun k hk => ?_⟩
      cases hk
      exact own_row h.its.row g (by rw [e]; rfl)
    · exact ⟨_, hg, fun k hk => by cases hk⟩
  obtain ⟨row, hg, hrow⟩ := hg
  have ne : ∀ d, d < w.heap.size + 3 → some d ≠ row := fun d hd e => by have := hrow d e.symm; omega
  have b3 := ((h.b3.below hb).grown hg (ne _ (by omega))).set 1 v'
  refine ⟨((h.b1.below hb).grown hg (ne _ (by omega))).other (by omega) _, ((h.b2.below hb).grown hg (ne _ (by omega))).other (by omega) _, b3, i2.put (by omega), hs, hk, ?_, ?_⟩
  · have h1 : Below w.heap.size w w2 := h.bel.trans (hb.mono h.bel.size)
    exact (below_grownO h1 hg (fun k hk => by have := hrow k hk; omega) h1.size).setCell (p := ⟨w.heap.size + 2, 1, none⟩) (by show w.heap.size ≤ w.heap.size + 2; omega) _
  · have := hg.size
    simp
    omega
theorem LSk.blk3 {w nm a n c L k v M wr} (h : LSk w nm a n c L k v M wr) {w2 w4 : World} {v' : Value} {t : Nat} (hb : Below wr.heap.size wr w2)
    (ht : (∃ g cap, v = .slice (some ⟨g, 0, none⟩) t cap ∧ v' = .slice (some ⟨g, 0, none⟩) (t + 1) cap ∧ w2.grownBy w4 (some g)) ∨ (∃ cap, v' = .slice (some ⟨w2.heap.size, 0, none⟩) (t + 1) cap ∧ w2.grownBy w4 none)) :
    BlkA 24 (w.heap.size + 2) w4 #[.string (str nm), v] ∧ ∃ x y, v' = .slice x (t + 1) y := by
  rcases ht with ⟨g, cap, e, e2, hg⟩ | ⟨cap, e2, hg⟩
  · refine ⟨(h.b3.below hb).grown hg (fun q => ?_), _, _, e2⟩
    have := own_row h.its.row g (by rw [e]; rfl)
    have := Option.some.inj q
    omega
  · exact ⟨(h.b3.below hb).grown hg (fun q => by cases q), _, _, e2⟩
theorem LSk.blks {w nm a n c L k v M wr} (h : LSk w nm a n c L k v M wr) {w2 w4 : World} {v' : Value} {t : Nat} (hb : Below wr.heap.size wr w2)
    (ht : (∃ g cap, v = .slice (some ⟨g, 0, none⟩) t cap ∧ v' = .slice (some ⟨g, 0, none⟩) (t + 1) cap ∧ w2.grownBy w4 (some g)) ∨ (∃ cap, v' = .slice (some ⟨w2.heap.size, 0, none⟩) (t + 1) cap ∧ w2.grownBy w4 none)) :
    BlkA 24 w.heap.size w4 #[.string (str nm), .slice a n c] ∧ BlkA 24 (w.heap.size + 1) w4 #[.string ⟨#[]⟩, .slice none 0 0] := by
  rcases ht with ⟨g, cap, e, e2, hg⟩ | ⟨cap, e2, hg⟩
  · have := own_row h.its.row g (by rw [e]; rfl)
    exact ⟨(h.b1.below hb).grown hg (fun q => by have := Option.some.inj q; omega), (h.b2.below hb).grown hg (fun q => by have := Option.some.inj q; omega)⟩
  · exact ⟨(h.b1.below hb).grown hg (fun q => by cases q), (h.b2.below hb).grown hg (fun q => by cases q)⟩
def markI : Itm := ⟨99, [], [], [], noPlc, noPlc, 0⟩
theorem row11 (W : World) (T : TypeId) (c0 c1 c2 c3 c4 c5 c6 c7 c8 c9 c10 : Value) : ∀ j u, [c0, c1, c2, c3, c4, c5, c6, c7, c8, c9, c10][j]? = some u → (W.alloc (.cells #[c0, c1, c2, c3, c4, c5, c6, c7, c8, c9, c10] T)).cell? ((⟨W.heap.size, 0, none⟩ : Addr).add j) = some u := by
  intro j u hu
  rw [add_zero5]
  have h := blkA_new T W #[c0, c1, c2, c3, c4, c5, c6, c7, c8, c9, c10]
  exact h.cell (k := j) (by rw [← hu]; simp)
theorem At.block8 {w w' : World} {a : Option Addr} {zs : List Int} (h : At w a zs) (hb : ∀ x, a = some x → w'.heap[x.block]? = w.heap[x.block]?) : At w' a zs := by
  rcases h with h | ⟨b, off, rfl, hc⟩
  · exact .inl h
  · refine .inr ⟨b, off, rfl, fun k hk => ?_⟩
    rw [World.cell?_of_block (w := w) (w' := w') (a := ⟨b, off + k, none⟩) (hb ⟨b, off, none⟩ rfl)]
    exact hc k hk
/-- Items whose numbers have the marks behind them. -/
def LM (B : Nat) (wr : World) (M : List (Itm × Value)) : Prop := ∀ p ∈ M, ∃ g, B ≤ g ∧ g < wr.heap.size ∧ p.2 = .slice (some ⟨g, 0, none⟩) p.1.nums.length (p.1.nums.length + 4) ∧ At wr (some ⟨g, 0, none⟩) (p.1.nums ++ [-7770777, -7770777, -7770777, -7770777])
theorem lm_nil (B : Nat) (w : World) : LM B w [] := fun p hp => by cases hp
theorem LM.set {B : Nat} {wr : World} {M : List (Itm × Value)} (h : LM B wr M) {b : Nat} (hb : b < B) (k : Nat) (u : Value) : LM B (wr.setCell ⟨b, k, none⟩ u) M := fun p hp => by
  obtain ⟨g, h1, h2, h3, h4⟩ := h p hp
  exact ⟨g, h1, by rw [World.size_setCell]; exact h2, h3, h4.block8 fun x hx => by cases hx; exact Below.heap_setCell _ _ _ _ (by show g ≠ b; omega)⟩
theorem LM.below {B : Nat} {w w' : World} {M : List (Itm × Value)} (h : LM B w M) (hb : Below w.heap.size w w') : LM B w' M := fun p hp => by
  obtain ⟨g, h1, h2, h3, h4⟩ := h p hp
  exact ⟨g, h1, Nat.lt_of_lt_of_le h2 hb.size, h3, h4.below hb⟩
theorem LM.go {w nm a n c L k v M wr} (h : LSk w nm a n c L k v M wr) (hm : LM (w.heap.size + 3) wr M) {w2 w4 : World} {v' : Value} (hb : Below wr.heap.size wr w2)
    (ht : (∃ g cap, v = .slice (some ⟨g, 0, none⟩) M.length cap ∧ v' = .slice (some ⟨g, 0, none⟩) (M.length + 1) cap ∧ w2.grownBy w4 (some g)) ∨ (∃ cap, v' = .slice (some ⟨w2.heap.size, 0, none⟩) (M.length + 1) cap ∧ w2.grownBy w4 none)) : LM (w.heap.size + 3) (w4.setCell ⟨w.heap.size + 2, 1, none⟩ v') M := by
  refine LM.set (fun p hp => ?_) (by omega) _ _
  obtain ⟨g, h1, h2, h3, h4⟩ := (hm.below hb) p hp
  have hoff := h.its.off p hp g (by rw [h3]; rfl)
  have key : w4.heap[g]? = w2.heap[g]? ∧ w2.heap.size ≤ w4.heap.size := by
    rcases ht with ⟨g', cap, e, -, hg⟩ | ⟨cap, -, hg⟩
    · exact ⟨hg.block g h2 (fun e2 => hoff (by rw [e]; exact e2.symm)), hg.size⟩
    · exact ⟨hg.block g h2 (fun e2 => by cases e2), hg.size⟩
  exact ⟨g, h1, Nat.lt_of_lt_of_le h2 key.2, h3, h4.block8 fun x hx => by cases hx; exact key.1⟩
theorem LM.put {w nm a n c L k v M wr} (h : LSk w nm a n c L k v M wr) (hm : LM (w.heap.size + 3) wr M) {w2 w4 : World} {x : Itm} {g : Nat} {v' : Value} (hb : Below wr.heap.size wr w2) (hg : wr.heap.size ≤ g) (hlt : g < w2.heap.size) (hat : At w2 (some ⟨g, 0, none⟩) (x.nums ++ [-7770777, -7770777, -7770777, -7770777]))
    (ht : (∃ g cap, v = .slice (some ⟨g, 0, none⟩) M.length cap ∧ v' = .slice (some ⟨g, 0, none⟩) (M.length + 1) cap ∧ w2.grownBy w4 (some g)) ∨ (∃ cap, v' = .slice (some ⟨w2.heap.size, 0, none⟩) (M.length + 1) cap ∧ w2.grownBy w4 none)) : LM (w.heap.size + 3) (w4.setCell ⟨w.heap.size + 2, 1, none⟩ v') (M ++ [(x, .slice (some ⟨g, 0, none⟩) x.nums.length (x.nums.length + 4))]) := by
  intro p hp
  rcases List.mem_append.1 hp with hp | hp
  · exact LM.go h hm hb ht p hp
  · rw [List.mem_singleton] at hp
    subst hp
    have hbig := h.big
    have key : w4.heap[g]? = w2.heap[g]? ∧ w2.heap.size ≤ w4.heap.size := by
      rcases ht with ⟨g', cap, e, -, hgg⟩ | ⟨cap, -, hgg⟩
      · exact ⟨hgg.block g hlt (fun e2 => by
          have h1 := own_lt h.its.row g' (by rw [e]; rfl)
          have h2 := Option.some.inj e2
          omega), hgg.size⟩
      · exact ⟨hgg.block g hlt (fun e2 => by cases e2), hgg.size⟩
    exact ⟨g, by omega, by rw [World.size_setCell]; exact Nat.lt_of_lt_of_le hlt key.2, rfl, (hat.block8 fun y hy => by cases hy; exact key.1).block8 fun y hy => by cases hy; exact Below.heap_setCell _ _ _ _ (by show g ≠ w.heap.size + 2; omega)⟩
/-- How the making of a sketch of one's own ends, told with the marks. -/
def LentM (w : World) (nm : List UInt8) (n : Nat) (L : List (Itm × Value)) (e : Ending) (w' : World) : Prop :=
  ∃ a' c' M, e = .returned (.agg #[.string (str nm), .slice a' n c']) ∧ M.map Prod.fst = L.map Prod.fst ∧ M.length = n ∧ ItR w' a' (M ++ [(markI, Value.slice none 0 0)]) ∧ LM (w.heap.size + 3) w' M ∧ n + 1 ≤ c' ∧ Below w.heap.size w w'
set_option maxRecDepth 100000 in
set_option maxHeartbeats 8000000 in
theorem lent8m_any (nm : List UInt8) (a : Option Addr) (n c : Nat) (L : List (Itm × Value)) (w : World) (h : ArgS w a n L) (hn : n ≤ 1048576) (hm : ∀ p ∈ L, p.1.nums.length ≤ 1048576) :
    Calls Try.prog 6 #[.agg #[.string (str nm), .slice a n c]] w (LentM w nm n L) := by
  have HA := hiddenG h
  have HL := hiddenG h.size
  have HM := hiddenG hm
  obtain ⟨i0, hi, hz0, hz1, hz2⟩ := info_parts Try.infoIT
  have HJ := hiddenG hi
  have HJ0 := hiddenG hz0
  have HJ1 := hiddenG hz1
  have HJ2 := hiddenG hz2
  have hnI : (n : Int) ≤ 1048576 := by omega
  have HS0 : Hid (LSk w nm a n c L 0 (.slice none 0 0) [] (((w.alloc (.cells #[.string (str nm), .slice a n c] 24)).alloc (.cells #[.string ⟨#[]⟩, .slice none 0 0] 24)).alloc (.cells #[.string (str nm), .slice none 0 0] 24))) := by
    have q1 := (Below.refl w.heap.size w).alloc (Nat.le_refl _) (.cells #[.string (str nm), .slice a n c] 24)
    have s1 : (w.alloc (.cells #[.string (str nm), .slice a n c] 24)).heap.size = w.heap.size + 1 := by simp
    have s2 : ((w.alloc (.cells #[.string (str nm), .slice a n c] 24)).alloc (.cells #[.string ⟨#[]⟩, .slice none 0 0] 24)).heap.size = w.heap.size + 2 := by simp
    have k1 := blkA_new 24 w #[.string (str nm), .slice a n c]
    have k2 := blkA_new 24 (w.alloc (.cells #[.string (str nm), .slice a n c] 24)) #[.string ⟨#[]⟩, .slice none 0 0]
    have k3 := blkA_new 24 ((w.alloc (.cells #[.string (str nm), .slice a n c] 24)).alloc (.cells #[.string ⟨#[]⟩, .slice none 0 0] 24)) #[.string (str nm), .slice none 0 0]
    rw [s1] at k2
    rw [s2] at k3
    exact ⟨(k1.below ((Below.refl _ _).alloc (Nat.le_refl _) _)).below ((Below.refl _ _).alloc (Nat.le_refl _) _), k2.below ((Below.refl _ _).alloc (Nat.le_refl _) _), k3, its_nil _ _, by simp, rfl, (q1.alloc (by simp) _).alloc (by simp; omega) _, by simp⟩
  clear h hm hi hz0 hz1 hz2
  go_enter Try.func6, Try.ntmps6
  go_wp2
  go_loopg [4] n (fun gk v wr => ∃ (k : Nat) (va : Option Addr) (vc : Nat) (M : List (Itm × Value)), k ≤ n ∧ gk = n - k ∧ v = .int .i64 (k : Int) ∧ LSk w nm a n c L k (.slice va k vc) M wr ∧ LM (w.heap.size + 3) wr M)
  case atStart => exact ⟨0, none, 0, [], Nat.zero_le _, rfl, rfl, HS0.out, lm_nil _ _⟩
  case round =>
    clear HS0
    obtain ⟨k, va, vc, M, hk, rfl, rfl, hs, hlm⟩ := hrel
    have HLM := hiddenG hlm
    have HS := hiddenG hs
    have HAW := hiddenG (HA.out.below hs.bel)
    have y1 : wr.cell? ⟨w.heap.size, 1, none⟩ = some (.slice a n c) := hs.b1.cell (k := 1) rfl
    have y3 : wr.cell? ⟨w.heap.size + 2, 1, none⟩ = some (.slice va k vc) := hs.b3.cell (k := 1) rfl
    clear hs hlm
    by_cases hlt : k < n
    · have hki : (k : Int) < (n : Int) := by omega
      rcases HAW.out.lies.lie with e | ⟨g, off, rfl, hc⟩
      · have := HL.out; rw [e] at this; simp at this; omega
      obtain ⟨c0, c1, c2, c3, c4, c5, c6, c7, c8, c9, c10⟩ := hc k (by have := HL.out; omega)
      have hmem := nthI_mem (L := L) (k := k) (by have := HL.out; omega)
      obtain ⟨b, d, e2, hnone, hroom⟩ := HAW.out.shp _ hmem
      have hint := HAW.out.lies.nums _ hmem
      rw [e2] at c3 hint
      have HLE : Hid (∀ W, Below wr.heap.size wr W → Calls Try.prog 18 #[.slice b (nthI L k).1.nums.length d] W (fun e w' => ∃ g, e = .returned (.slice (some ⟨g, 0, none⟩) (nthI L k).1.nums.length ((nthI L k).1.nums.length + 4)) ∧ Below W.heap.size W w' ∧ Ints W.heap.size w' (.slice (some ⟨g, 0, none⟩) (nthI L k).1.nums.length ((nthI L k).1.nums.length + 4)) (nthI L k).1.nums ∧ W.heap.size ≤ g ∧ At w' (some ⟨g, 0, none⟩) ((nthI L k).1.nums ++ [-7770777, -7770777, -7770777, -7770777]))) := fun W hb =>
        (lent_full b (nthI L k).1.nums (nthI L k).1.nums.length d W (ints_arg (hint.below hb) hnone hroom (HM.out _ hmem) (HAW.out.fits _ hmem).2.2)).mono fun e w' ⟨g, h1, h2, h3, h4⟩ => ⟨g, h1, h3, h4, h2.1, h2.2.2⟩
      have HTK : Hid ((L.take (k + 1)).map Prod.fst = (L.take k).map Prod.fst ++ [(nthI L k).1])   := take_oneI (by have := HL.out; omega)
      clear hc e2 hint hmem hnone hroom
      generalize (nthI L k).1 = x at *
      obtain ⟨ki, xn, xt, ns, ⟨fn, fp, fa⟩, ⟨tn, tp, ta⟩, pl⟩ := x
      simp only at c0 c1 c2 c3 c4 c5 c6 c7 c8 c9 c10 HLE
      generalize hnl : ns.length = nl at *
      have HNL := hiddenG hnl
      clear hnl
      go_wp2_with (first
        | (at_builtin; refine wpList_append_told _ rfl _ _ 22 rfl (w.heap.size + 3) 45 i0 (.agg #[.int .u8 0, .string ⟨#[]⟩, .string ⟨#[]⟩, .slice none 0 0, .string ⟨#[]⟩, .int .i64 0, .int .i64 0, .string ⟨#[]⟩, .int .i64 0, .int .i64 0, .int .i64 0]) 11 136 Try.underlying22 HJ.out HJ0.out HJ1.out HJ2.out rfl (by decide) (.slice va k vc) k (M.flatMap itP) rfl (by have q := (HS.out.its.below ((HB2.out.setCell (p := ⟨wr.heap.size, 3, none⟩) (Nat.le_refl _) (.slice (some ⟨gl, 0, none⟩) nl (nl + 4))).alloc (by have := HB2.out.size; simp; omega) (.cells #[.int .u8 ki, .string (str xn), .string (str xt), .slice (some ⟨gl, 0, none⟩) nl (nl + 4), .string (str fn), .int .i64 fp, .int .i64 fa, .string (str tn), .int .i64 tp, .int .i64 ta, .int .i64 pl] 45))).row; rw [HS.out.len] at q; exact q) ⟨w2.heap.size, 0, none⟩ 1 1 (by decide) (itP (⟨ki, xn, xt, ns, ⟨fn, fp, fa⟩, ⟨tn, tp, ta⟩, pl⟩, .slice (some ⟨gl, 0, none⟩) nl (nl + 4))) rfl rfl (by have q := row11 (w2.setCell ⟨wr.heap.size, 3, none⟩ (.slice (some ⟨gl, 0, none⟩) nl (nl + 4))) 45 (.int .u8 ki) (.string (str xn)) (.string (str xt)) (.slice (some ⟨gl, 0, none⟩) nl (nl + 4)) (.string (str fn)) (.int .i64 fp) (.int .i64 fa) (.string (str tn)) (.int .i64 tp) (.int .i64 ta) (.int .i64 pl); have e9 : (w2.setCell ⟨wr.heap.size, 3, none⟩ (.slice (some ⟨gl, 0, none⟩) nl (nl + 4))).heap.size = w2.heap.size := (by simp); rw [e9] at q; exact q) (itP_one _ _ _ _) (by unfold maxLen; omega) (by omega) (by have := HB2.out.size; have := HS.out.big; simp; omega) ?_; intro v4 w4 ho ht; have HO := hiddenG ho; have HT := hiddenG ht; obtain ⟨hbk, va4, vc4, rfl⟩ := HS.out.blk3 ((HB2.out.setCell (p := ⟨wr.heap.size, 3, none⟩) (Nat.le_refl _) (.slice (some ⟨gl, 0, none⟩) nl (nl + 4))).alloc (by have := HB2.out.size; simp; omega) (.cells #[.int .u8 ki, .string (str xn), .string (str xt), .slice (some ⟨gl, 0, none⟩) nl (nl + 4), .string (str fn), .int .i64 fp, .int .i64 fa, .string (str tn), .int .i64 tp, .int .i64 ta, .int .i64 pl] 45)) ht; have z1 : w4.cell? ⟨w.heap.size + 1 + 1, 1, none⟩ = some (.slice va k vc) := hbk.cell (k := 1) rfl; have z2 : w4.frozen? ⟨w.heap.size + 1 + 1, 1, none⟩ = false := hbk.frozen 1; clear ho ht hbk)
        | (go_at_call 18; (with_reducible refine (HLE.out _ ((Below.refl _ _).alloc (Nat.le_refl _) _)).mono ?_); rintro e w2 ⟨gl, rfl, b2, hI, hgl, hmk⟩; have HMK := hiddenG hmk; have HGL := hiddenG hgl; clear hmk hgl; have BK := hiddenG ((blkA_new 45 wr #[.int .u8 ki, .string (str xn), .string (str xt), .slice b nl d, .string (str fn), .int .i64 fp, .int .i64 fa, .string (str tn), .int .i64 tp, .int .i64 ta, .int .i64 pl]).below b2); have HI2 := hiddenG hI; have HB2 : Hid (Below wr.heap.size wr w2) := ((Below.refl wr.heap.size wr).alloc (Nat.le_refl _) _).trans (b2.mono (by simp)); have f3 := BK.out.frozen 3; have j3 : w2.cell? ⟨w.heap.size + 1 + 1, 1, none⟩ = some (.slice va k vc) := cell_keep HB2.out y3; have ne1 : ¬ (w.heap.size + 1 + 1 = wr.heap.size) := (by have := HS.out.big; omega); have ne2 : ¬ (wr.heap.size = w.heap.size + 1 + 1) := (by have := HS.out.big; omega); have k0 : w2.cell? ⟨wr.heap.size, 0, none⟩ = some (.int .u8 ki) := BK.out.cell (k := 0) rfl; have k1 : w2.cell? ⟨wr.heap.size, 1, none⟩ = some (.string (str xn)) := BK.out.cell (k := 1) rfl; have k2 : w2.cell? ⟨wr.heap.size, 2, none⟩ = some (.string (str xt)) := BK.out.cell (k := 2) rfl; have k3 : w2.cell? ⟨wr.heap.size, 3, none⟩ = some (.slice b nl d) := BK.out.cell (k := 3) rfl; have k4 : w2.cell? ⟨wr.heap.size, 4, none⟩ = some (.string (str fn)) := BK.out.cell (k := 4) rfl; have k5 : w2.cell? ⟨wr.heap.size, 5, none⟩ = some (.int .i64 fp) := BK.out.cell (k := 5) rfl; have k6 : w2.cell? ⟨wr.heap.size, 6, none⟩ = some (.int .i64 fa) := BK.out.cell (k := 6) rfl; have k7 : w2.cell? ⟨wr.heap.size, 7, none⟩ = some (.string (str tn)) := BK.out.cell (k := 7) rfl; have k8 : w2.cell? ⟨wr.heap.size, 8, none⟩ = some (.int .i64 tp) := BK.out.cell (k := 8) rfl; have k9 : w2.cell? ⟨wr.heap.size, 9, none⟩ = some (.int .i64 ta) := BK.out.cell (k := 9) rfl; have k10 : w2.cell? ⟨wr.heap.size, 10, none⟩ = some (.int .i64 pl) := BK.out.cell (k := 10) rfl; clear b2 hI))
      go_roundg (n - (k + 1))
      case measure => omega
      case rel =>
        refine ⟨k + 1, va4, vc4, M ++ [(⟨ki, xn, xt, ns, ⟨fn, fp, fa⟩, ⟨tn, tp, ta⟩, pl⟩, .slice (some ⟨gl, 0, none⟩) nl (nl + 4))], by omega, rfl, by go_num, ?_, ?_⟩
        · have hl := HS.out.len
          refine HS.out.put ((HB2.out.setCell (p := ⟨wr.heap.size, 3, none⟩) (Nat.le_refl _) (.slice (some ⟨gl, 0, none⟩) nl (nl + 4))).alloc (by have := HB2.out.size; simp; omega) (.cells #[.int .u8 ki, .string (str xn), .string (str xt), .slice (some ⟨gl, 0, none⟩) nl (nl + 4), .string (str fn), .int .i64 fp, .int .i64 fa, .string (str tn), .int .i64 tp, .int .i64 ta, .int .i64 pl] 45)) (x := ⟨ki, xn, xt, ns, ⟨fn, fp, fa⟩, ⟨tn, tp, ta⟩, pl⟩) (q := .slice (some ⟨gl, 0, none⟩) nl (nl + 4)) (m := wr.heap.size + 1) ?_ (by omega) (by rw [hl]; exact HO.out) (by rw [hl]; exact HT.out) rfl (by rw [List.map_append, HS.out.same, HTK.out]; rfl) (by simp; omega)
          have q : Ints (wr.heap.size + 1) w2 (.slice (some ⟨gl, 0, none⟩) nl (nl + 4)) ns := by have := HI2.out; simp at this; exact this
          exact (q.put (by omega)).below ((Below.refl _ _).alloc (Nat.le_refl _) _)
        · have hl := HS.out.len
          have hgl : wr.heap.size + 1 ≤ gl := by have := HGL.out; simp at this; exact this
          have hlt2 : gl < w2.heap.size := by
            rcases HMK.out with e | ⟨b, o, e, hc⟩
            · exact absurd (congrArg List.length e) (by simp)
            · cases e
              exact block_lt_of_cell (hc 0 (by simp))
          have hat := ((HMK.out.block8 (w' := w2.setCell ⟨wr.heap.size, 3, none⟩ (.slice (some ⟨gl, 0, none⟩) nl (nl + 4))) fun x hx => by cases hx; exact Below.heap_setCell _ _ _ _ (by show gl ≠ wr.heap.size; omega)).below ((Below.refl _ _).alloc (Nat.le_refl _) (.cells #[.int .u8 ki, .string (str xn), .string (str xt), .slice (some ⟨gl, 0, none⟩) nl (nl + 4), .string (str fn), .int .i64 fp, .int .i64 fa, .string (str tn), .int .i64 tp, .int .i64 ta, .int .i64 pl] 45)))
          have r := LM.put HS.out HLM.out (x := ⟨ki, xn, xt, ns, ⟨fn, fp, fa⟩, ⟨tn, tp, ta⟩, pl⟩) (g := gl) ((HB2.out.setCell (p := ⟨wr.heap.size, 3, none⟩) (Nat.le_refl _) (.slice (some ⟨gl, 0, none⟩) nl (nl + 4))).alloc (by have := HB2.out.size; simp; omega) (.cells #[.int .u8 ki, .string (str xn), .string (str xt), .slice (some ⟨gl, 0, none⟩) nl (nl + 4), .string (str fn), .int .i64 fp, .int .i64 fa, .string (str tn), .int .i64 tp, .int .i64 ta, .int .i64 pl] 45)) (by omega) (by simp; omega) hat (by rw [hl]; exact HT.out)
          rw [HNL.out] at r
          exact r
    · have ek : k = n := by omega
      subst ek
      have hki : ¬ ((k : Int) < (k : Int)) := by omega
      have y3' : wr.cell? ⟨w.heap.size + 1 + 1, 1, none⟩ = some (.slice va k vc) := y3
      go_wp2_with (at_builtin; refine wpList_append_told _ rfl _ _ 22 rfl (w.heap.size + 3) 45 i0 (.agg #[.int .u8 0, .string ⟨#[]⟩, .string ⟨#[]⟩, .slice none 0 0, .string ⟨#[]⟩, .int .i64 0, .int .i64 0, .string ⟨#[]⟩, .int .i64 0, .int .i64 0, .int .i64 0]) 11 136 Try.underlying22 HJ.out HJ0.out HJ1.out HJ2.out rfl (by decide) (.slice va k vc) k (M.flatMap itP) rfl (by have q := (HS.out.its.below ((Below.refl wr.heap.size wr).alloc (Nat.le_refl _) (.cells #[.int .u8 99, .string ⟨#[]⟩, .string ⟨#[]⟩, .slice none 0 0, .string ⟨#[]⟩, .int .i64 0, .int .i64 0, .string ⟨#[]⟩, .int .i64 0, .int .i64 0, .int .i64 0] 45))).row; rw [HS.out.len] at q; exact q) ⟨wr.heap.size, 0, none⟩ 1 1 (by decide) (itP (markI, .slice none 0 0)) rfl rfl (row11 wr 45 (.int .u8 99) (.string ⟨#[]⟩) (.string ⟨#[]⟩) (.slice none 0 0) (.string ⟨#[]⟩) (.int .i64 0) (.int .i64 0) (.string ⟨#[]⟩) (.int .i64 0) (.int .i64 0) (.int .i64 0)) (itP_one _ _ _ _) (by unfold maxLen; omega) (by omega) (by have := HS.out.big; simp; omega) ?_; intro v4 w4 ho ht; have HO := hiddenG ho; have HT := hiddenG ht; obtain ⟨hbk, va4, vc4, rfl⟩ := HS.out.blk3 ((Below.refl wr.heap.size wr).alloc (Nat.le_refl _) (.cells #[.int .u8 99, .string ⟨#[]⟩, .string ⟨#[]⟩, .slice none 0 0, .string ⟨#[]⟩, .int .i64 0, .int .i64 0, .string ⟨#[]⟩, .int .i64 0, .int .i64 0, .int .i64 0] 45)) ht; obtain ⟨hb1, hb2⟩ := HS.out.blks ((Below.refl wr.heap.size wr).alloc (Nat.le_refl _) (.cells #[.int .u8 99, .string ⟨#[]⟩, .string ⟨#[]⟩, .slice none 0 0, .string ⟨#[]⟩, .int .i64 0, .int .i64 0, .string ⟨#[]⟩, .int .i64 0, .int .i64 0, .int .i64 0] 45)) ht; have hcap := row_cap ho (Nat.succ_pos _); have z0 : w4.cell? ⟨w.heap.size + 1 + 1, 0, none⟩ = some (.string (str nm)) := hbk.cell (k := 0) rfl; have z1 : w4.cell? ⟨w.heap.size + 1 + 1, 1, none⟩ = some (.slice va k vc) := hbk.cell (k := 1) rfl; have z2 : w4.frozen? ⟨w.heap.size + 1 + 1, 1, none⟩ = false := hbk.frozen 1; have x1 : w4.cell? ⟨w.heap.size, 1, none⟩ = some (.slice a k c) := hb1.cell (k := 1) rfl; have u0 : w4.cell? ⟨w.heap.size + 1, 0, none⟩ = some (.string ⟨#[]⟩) := hb2.cell (k := 0) rfl; have u1 : w4.cell? ⟨w.heap.size + 1, 1, none⟩ = some (.slice none 0 0) := hb2.cell (k := 1) rfl; have u2 : w4.frozen? ⟨w.heap.size + 1, 0, none⟩ = false := hb2.frozen 0; have u3 : w4.frozen? ⟨w.heap.size + 1, 1, none⟩ = false := hb2.frozen 1; have cI : (k : Int) ≤ (vc4 : Int) := (by omega); have cJ : (k : Int) + 1 ≤ (vc4 : Int) := (by omega); clear ho ht hbk hb1 hb2)
      have hl := HS.out.len
      have hlen : (M ++ [(markI, Value.slice none 0 0)]).length = k + 1 := by simp; omega
      have E5 : LSk w nm a k c (M ++ [(markI, Value.slice none 0 0)]) (k + 1) (.slice va4 (k + 1) vc4) (M ++ [(markI, Value.slice none 0 0)]) (w4.setCell ⟨w.heap.size + 2, 1, none⟩ (.slice va4 (k + 1) vc4)) :=
        HS.out.put ((Below.refl wr.heap.size wr).alloc (Nat.le_refl _) (.cells #[.int .u8 99, .string ⟨#[]⟩, .string ⟨#[]⟩, .slice none 0 0, .string ⟨#[]⟩, .int .i64 0, .int .i64 0, .string ⟨#[]⟩, .int .i64 0, .int .i64 0, .int .i64 0] 45)) (x := markI) (q := .slice none 0 0) (m := wr.heap.size) (World.ownsRow_nil _ _ _ _) (Nat.le_refl _) (by rw [hl]; exact HO.out) (by rw [hl]; exact HT.out) rfl (by rw [List.take_of_length_le (by omega)]) hlen
      have i7 := ((E5.its.put (I := w.heap.size + 2) (k := 1) (u := .slice va4 k vc4) (by omega)).put (I := w.heap.size + 1) (k := 0) (u := .string (str nm)) (by omega)).put (I := w.heap.size + 1) (k := 1) (u := .slice va4 k vc4) (by omega)
      have r7 := (Its.at5 (c := vc4) (L := M ++ [(markI, Value.slice none 0 0)]) (by rw [hlen]; exact i7))
      refine bodyPost_ret (v := .agg #[.string (str nm), .slice va4 k vc4]) (by simp [results, Try.results6, go_sem, u0, u1]) rfl ⟨va4, vc4, M, rfl, ?_, hl, r7, ?_, hcap, ?_⟩
      · rw [HS.out.same, List.take_of_length_le (by have := HL.out; omega)]
      · have r := LM.go HS.out HLM.out ((Below.refl wr.heap.size wr).alloc (Nat.le_refl _) (.cells #[.int .u8 99, .string ⟨#[]⟩, .string ⟨#[]⟩, .slice none 0 0, .string ⟨#[]⟩, .int .i64 0, .int .i64 0, .string ⟨#[]⟩, .int .i64 0, .int .i64 0, .int .i64 0] 45)) (by rw [hl]; exact HT.out) (v' := .slice va4 (k + 1) vc4)
        exact ((r.set (by omega) _ _).set (by omega) _ _).set (by omega) _ _
      · exact ((E5.bel.setCell (p := ⟨w.heap.size + 2, 1, none⟩) (by show w.heap.size ≤ w.heap.size + 2; omega) _).setCell (p := ⟨w.heap.size + 1, 0, none⟩) (Nat.le_succ _) _).setCell (p := ⟨w.heap.size + 1, 1, none⟩) (Nat.le_succ _) _
theorem kindF_append (k : Int) (L M : List Itm) : kindF k (L ++ M) = kindF k L ++ kindF k M := by
  unfold kindF
  exact List.filter_append ..
/-- An item with nothing but what its Kind uses. -/
def cleanI (x : Itm) : Itm := ⟨x.kind, if x.kind = 2 then [] else x.name, if x.kind = 1 then x.tag else [], if x.kind = 1 ∨ x.kind = 2 then x.nums else [], if x.kind = 2 ∨ x.kind = 4 then x.frm else noPlc, if x.kind = 2 ∨ x.kind = 3 then x.tgt else noPlc, x.place⟩
/-- The items of a list, Kind by Kind. -/
def sortL (L : List Itm) : List Itm := kindF 1 L ++ (kindF 2 L ++ (kindF 3 L ++ kindF 4 L))
/-- A flaw whose end is one that its Kind has. -/
def WellF (f : FL) : Prop := f.kind ≤ 4 ∧ (f.stop = 1 → f.kind = 2 ∨ f.kind = 4) ∧ (f.stop = 2 → f.kind = 2 ∨ f.kind = 3)
theorem wellF_loop {f : Nat → Int × Nat} {k : Nat} (hk : k ≤ 4) (h : ∀ i, ((f i).2 = 1 → k = 2 ∨ k = 4) ∧ ((f i).2 = 2 → k = 2 ∨ k = 3)) : ∀ n i, WellF (loopC n i f k)
  | 0, _ => by simp [loopC, WellF, fl0]
  | n + 1, i => by
    unfold loopC
    by_cases h1 : (f i).1 ≠ 0
    · rw [if_pos h1]; exact ⟨hk, (h i).1, (h i).2⟩
    · rw [if_neg h1]; exact wellF_loop hk h n (i + 1)
theorem wellF_head (g : GG) : WellF (headF g) := by
  unfold headF
  repeat' split
  all_goals simp [WellF, fl0]
theorem inC_stop (g : GG) (i : Nat) : (inC g i).2 ≠ 1 := by
  unfold inC
  repeat' split
  all_goals simp
theorem outC_stop (g : GG) (i : Nat) : (outC g i).2 ≠ 2 := by
  unfold outC
  repeat' split
  all_goals simp
theorem wellF_first (g : GG) : WellF (firstF g) := by
  rw [first_find]
  unfold findS
  split
  · exact wellF_head g
  split
  · exact wellF_loop (by decide) (fun i => ⟨fun e => by simp at e, fun e => by simp at e⟩) _ _
  split
  · exact wellF_loop (by decide) (fun i => ⟨fun _ => .inl rfl, fun _ => .inl rfl⟩) _ _
  split
  · exact wellF_loop (by decide) (fun i => ⟨fun e => absurd e (inC_stop g i), fun _ => .inr rfl⟩) _ _
  split
  · exact wellF_loop (by decide) (fun i => ⟨fun _ => .inr rfl, fun e => absurd e (outC_stop g i)⟩) _ _
  · exact wellF_loop (by decide) (fun i => ⟨fun e => by simp [openC] at e, fun e => by simp [openC] at e⟩) _ _
theorem kindF_cons (k : Int) (x : Itm) (r : List Itm) : kindF k (x :: r) = if x.kind = k then x :: kindF k r else kindF k r := by
  unfold kindF
  by_cases h : x.kind = k
  · rw [if_pos h, List.filter_cons_of_pos (by simpa using h)]
  · rw [if_neg h, List.filter_cons_of_neg (by simpa using h)]
theorem kindF_mem {k : Int} {L : List Itm} {x : Itm} (h : x ∈ kindF k L) : x ∈ L ∧ x.kind = k := by
  unfold kindF at h
  rw [List.mem_filter] at h
  exact ⟨h.1, by simpa using h.2⟩
theorem kindF_all {k : Int} {L : List Itm} (h : ∀ x ∈ L, x.kind = k) : kindF k L = L := List.filter_eq_self.2 fun x hx => by simpa using h x hx
theorem kindF_none {k : Int} {L : List Itm} (h : ∀ x ∈ L, x.kind ≠ k) : kindF k L = [] := List.filter_eq_nil_iff.2 fun x hx => by simpa using h x hx
theorem kindF_same (k : Int) (L : List Itm) : kindF k (kindF k L) = kindF k L := kindF_all fun _ hx => (kindF_mem hx).2
theorem kindF_other {k j : Int} (h : j ≠ k) (L : List Itm) : kindF k (kindF j L) = [] := kindF_none fun x hx => by rw [(kindF_mem hx).2]; exact h
theorem kindF_sort {k : Int} (L : List Itm) (hk : k = 1 ∨ k = 2 ∨ k = 3 ∨ k = 4) : kindF k (sortL L) = kindF k L := by
  unfold sortL
  rw [kindF_append, kindF_append, kindF_append]
  rcases hk with rfl | rfl | rfl | rfl
  · rw [kindF_same, kindF_other (by decide), kindF_other (by decide), kindF_other (by decide)]; simp
  · rw [kindF_other (by decide), kindF_same, kindF_other (by decide), kindF_other (by decide)]; simp
  · rw [kindF_other (by decide), kindF_other (by decide), kindF_same, kindF_other (by decide)]; simp
  · rw [kindF_other (by decide), kindF_other (by decide), kindF_other (by decide), kindF_same]; simp
theorem sort_mem {L : List Itm} {x : Itm} (h : x ∈ sortL L) : x ∈ L ∧ (x.kind = 1 ∨ x.kind = 2 ∨ x.kind = 3 ∨ x.kind = 4) := by
  unfold sortL at h
  rw [List.mem_append, List.mem_append, List.mem_append] at h
  rcases h with h | h | h | h
  · exact ⟨(kindF_mem h).1, .inl (kindF_mem h).2⟩
  · exact ⟨(kindF_mem h).1, .inr (.inl (kindF_mem h).2)⟩
  · exact ⟨(kindF_mem h).1, .inr (.inr (.inl (kindF_mem h).2))⟩
  · exact ⟨(kindF_mem h).1, .inr (.inr (.inr (kindF_mem h).2))⟩
theorem kindF_clean (k : Int) : ∀ (L : List Itm), kindF k (L.map cleanI) = (kindF k L).map cleanI
  | [] => rfl
  | x :: r => by
    rw [List.map_cons, kindF_cons, kindF_cons, kindF_clean k r]
    show (if x.kind = k then _ else _) = _
    by_cases h : x.kind = k
    · rw [if_pos h, if_pos h]; rfl
    · rw [if_neg h, if_neg h]
theorem kind_of {x : Itm} (h : lessK x = false) : x.kind = 1 ∨ x.kind = 2 ∨ x.kind = 3 ∨ x.kind = 4 := by
  unfold lessK at h
  simp at h
  omega
theorem placeG_kind (f : FL) : ∀ (L : List Itm) (n : Nat), placeG L n f = placeG (kindF (f.kind : Int) L) n f
  | [], _ => rfl
  | x :: r, n => by
    rw [kindF_cons]
    by_cases h : x.kind = (f.kind : Int)
    · rw [if_pos h]
      show (if x.kind = (f.kind : Int) then _ else _) = (if x.kind = (f.kind : Int) then _ else _)
      rw [if_pos h, if_pos h, placeG_kind f r (n + 1)]
    · rw [if_neg h]
      show (if x.kind = (f.kind : Int) then _ else _) = _
      rw [if_neg h]
      exact placeG_kind f r n
theorem within_clean {f : FL} (hw : WellF f) {x : Itm} (h : x.kind = (f.kind : Int)) : withinS (cleanI x) f.stop = withinS x f.stop := by
  unfold withinS cleanI
  by_cases h1 : f.stop = 1
  · rw [if_pos h1, if_pos h1]
    have := hw.2.1 h1
    rw [if_pos (show x.kind = 2 ∨ x.kind = 4 by omega)]
  · rw [if_neg h1, if_neg h1]
    by_cases h2 : f.stop = 2
    · rw [if_pos h2, if_pos h2]
      have := hw.2.2 h2
      rw [if_pos (show x.kind = 2 ∨ x.kind = 3 by omega)]
    · rw [if_neg h2, if_neg h2]
theorem placeG_clean {f : FL} (hw : WellF f) : ∀ (L : List Itm) (n : Nat), placeG (L.map cleanI) n f = placeG L n f
  | [], _ => rfl
  | x :: r, n => by
    rw [List.map_cons]
    show (if x.kind = (f.kind : Int) then (if n = f.number then withinS (cleanI x) f.stop else _) else _) = (if x.kind = (f.kind : Int) then _ else _)
    by_cases h : x.kind = (f.kind : Int)
    · rw [if_pos h, if_pos h, within_clean hw h, placeG_clean hw r (n + 1)]
    · rw [if_neg h, if_neg h]
      exact placeG_clean hw r n
theorem placeG_sort {f : FL} (hw : WellF f) (L : List Itm) (n : Nat) (hk : ∀ x ∈ L, lessK x = false) : placeG (sortL (L.map cleanI)) n f = placeG L n f := by
  rw [placeG_kind f (sortL _), placeG_kind f L]
  by_cases h0 : f.kind = 0
  · rw [h0, kindF_none (k := ((0 : Nat) : Int)) (L := sortL (L.map cleanI)) (fun x hx => by have := (sort_mem hx).2; omega), kindF_none (k := ((0 : Nat) : Int)) (L := L) (fun x hx => by have := kind_of (hk x hx); omega)]
  · have h4 := hw.1
    rw [kindF_sort _ (by omega), kindF_clean]
    exact placeG_clean hw _ n
theorem clean_name {x : Itm} (h : x.kind ≠ 2) : (cleanI x).name = x.name := by unfold cleanI; simp [h]
theorem act_sort (L : List Itm) : actN (sortL (L.map cleanI)) = actN L := by
  unfold actN
  rw [kindF_sort _ (.inl rfl), kindF_clean, List.map_map]
  exact List.map_congr_left fun x hx => clean_name (by rw [(kindF_mem hx).2]; decide)
theorem look_sort (nm : List UInt8) (L : List Itm) : lookS nm (sortL (L.map cleanI)) = lookS nm L := by
  unfold lookS
  rw [act_sort]
  unfold lookG
  rw [kindF_sort _ (.inl rfl), kindF_sort _ (.inr (.inl rfl)), kindF_sort _ (.inr (.inr (.inl rfl))), kindF_sort _ (.inr (.inr (.inr rfl))), kindF_clean, kindF_clean, kindF_clean, kindF_clean, List.map_map, List.map_map, List.map_map, List.map_map]
  congr 1
  · exact List.map_congr_left fun x hx => by have h := (kindF_mem hx).2; simp [luA, cleanI, h]
  · exact List.map_congr_left fun x hx => by have h := (kindF_mem hx).2; simp [luE, cleanI, h]
  · exact List.map_congr_left fun x hx => by have h := (kindF_mem hx).2; simp [luI, cleanI, h]
  · exact List.map_congr_left fun x hx => by have h := (kindF_mem hx).2; simp [luO, cleanI, h]
theorem idxG_none : ∀ (L : List Itm) (i : Nat), (∀ x ∈ L, lessK x = false) → idxG L i = -1
  | [], _, _ => rfl
  | x :: r, i, h => by
    show (if lessK x = true then (i : Int) else idxG r (i + 1)) = -1
    rw [if_neg (by rw [h x (List.mem_cons_self ..)]; decide)]
    exact idxG_none r (i + 1) fun y hy => h y (List.mem_cons_of_mem _ hy)
/-- What is built hangs on nothing but what each Kind uses, in its own order. -/
theorem build_sort (nm : List UInt8) (L : List Itm) (hk : ∀ x ∈ L, lessK x = false) : buildS nm (sortL (L.map cleanI)) = buildS nm L := by
  have h1 := idxG_none L 0 hk
  have h2 := idxG_none (sortL (L.map cleanI)) 0 (fun x hx => by have := (sort_mem hx).2; unfold lessK; simp; omega)
  unfold buildS
  rw [h1, h2, look_sort, placeG_sort (wellF_first _) L 0 hk]
  simp
/-- The elements of a Kind. -/
def kV (k : Int) (L : List (Itm × Value)) : List (Itm × Value) := L.filter (fun p => p.1.kind == k)
/-- The elements of Kinds 1 to q, Kind by Kind. -/
def svL : Nat → List (Itm × Value) → List (Itm × Value)
  | 0, _ => []
  | q + 1, L => svL q L ++ kV ((q : Int) + 1) L
theorem kV_len (k : Int) (L : List (Itm × Value)) : (kV k L).length ≤ L.length := List.length_filter_le _ _
theorem svL_len : ∀ (q : Nat) (L : List (Itm × Value)), (svL q L).length ≤ q * L.length
  | 0, _ => by simp [svL]
  | q + 1, L => by
    have h1 := svL_len q L
    have h2 := kV_len ((q : Int) + 1) L
    unfold svL
    rw [List.length_append, Nat.add_mul]
    omega
theorem kV_next {k : Int} {L : List (Itm × Value)} {j : Nat} (h : j < L.length) : kV k (L.take (j + 1)) = if (nthI L j).1.kind = k then kV k (L.take j) ++ [nthI L j] else kV k (L.take j) := by
  have e : L.take (j + 1) = L.take j ++ [nthI L j] := by
    rw [List.take_add_one, List.getElem?_eq_getElem h]
    unfold nthI
    rw [List.getD_eq_getElem?_getD, List.getElem?_eq_getElem h]
    rfl
  unfold kV
  rw [e, List.filter_append]
  by_cases hk : (nthI L j).1.kind = k
  · rw [if_pos hk, List.filter_cons_of_pos (by simpa using hk)]; rfl
  · rw [if_neg hk, List.filter_cons_of_neg (by simpa using hk)]; simp
theorem kV_map (k : Int) (L : List (Itm × Value)) : (kV k L).map Prod.fst = kindF k (L.map Prod.fst) := by
  unfold kV kindF
  rw [List.filter_map]
  congr 1
theorem svL_map (L : List (Itm × Value)) : (svL 4 L).map Prod.fst = sortL (L.map Prod.fst) := by
  simp only [svL, sortL, List.map_append, kV_map, List.nil_append, List.append_assoc]
  rfl
theorem svL_mem : ∀ (q : Nat) {L : List (Itm × Value)} {p : Itm × Value}, p ∈ svL q L → p ∈ L
  | 0, _, _, h => by simp [svL] at h
  | q + 1, L, p, h => by
    unfold svL at h
    rcases List.mem_append.1 h with h | h
    · exact svL_mem q h
    · exact (List.mem_filter.1 h).1
theorem row_lie {base c : Nat} {w : World} {a : Option Addr} {L : List (Itm × Value)} (h : w.ownsRow base 45 11 (.slice a L.length c) L.length (L.flatMap itP)) : L = [] ∨ ∃ g off, a = some ⟨g, off, none⟩ ∧ ∀ k, k < L.length → Cell11 w g (off + k * 11) (nthI L k) := by
  rcases h.2 with ⟨e, h0⟩ | ⟨g, cap, cur, e, -⟩
  · exact Or.inl (List.eq_nil_of_length_eq_zero h0)
  · cases e
    refine Or.inr ⟨g, 0, rfl, fun k hk => ?_⟩
    have f : ∀ r u, r < 11 → (itP (nthI L k))[r]? = some u → w.cell? ⟨g, 0 + k * 11 + r, none⟩ = some u := fun r u hr hu => by
      have h1 := World.ownsRow.cells h (g := g) rfl (k * 11 + r) u (by rw [flat11 L k r hk hr]; exact hu)
      rw [add_zero5] at h1
      rw [Nat.zero_add]
      exact h1
    exact ⟨f 0 _ (by decide) rfl, f 1 _ (by decide) rfl, f 2 _ (by decide) rfl, f 3 _ (by decide) rfl, f 4 _ (by decide) rfl, f 5 _ (by decide) rfl, f 6 _ (by decide) rfl, f 7 _ (by decide) rfl, f 8 _ (by decide) rfl, f 9 _ (by decide) rfl, f 10 _ (by decide) rfl⟩
def SortE (w : World) (nm : List UInt8) (L : List (Itm × Value)) (e : Ending) (w' : World) : Prop :=
  ∃ d k, e = .returned (.agg #[.string (str nm), .slice d (svL 4 L).length k]) ∧ ItR w' d (svL 4 L) ∧ ItO w' (svL 4 L) ∧ Below w.heap.size w w'
set_option maxRecDepth 100000 in
set_option maxHeartbeats 16000000 in
theorem sorted_any (nm : List UInt8) (a : Option Addr) (n c : Nat) (L : List (Itm × Value)) (w : World) (h : ItR w a L) (hO : ItO w L) (hl : L.length = n) (hn : n ≤ 1048576) :
    Calls Try.prog 13 #[.agg #[.string (str nm), .slice a n c]] w (SortE w nm L) := by
  have HI := hiddenG h
  have HO := hiddenG hO
  have HL := hiddenG hl
  have hnI : (n : Int) ≤ 1048576 := by omega
  obtain ⟨i0, hi, hz0, hz1, hz2⟩ := info_parts Try.infoIT
  have HJ := hiddenG hi
  have HJ0 := hiddenG hz0
  have HJ1 := hiddenG hz1
  have HJ2 := hiddenG hz2
  have q1 := (Below.refl w.heap.size w).alloc (Nat.le_refl _) (.cells #[.string (str nm), .slice a n c] 24)
  have s1 : (w.alloc (.cells #[.string (str nm), .slice a n c] 24)).heap.size = w.heap.size + 1 := by simp
  have s2 : ((w.alloc (.cells #[.string (str nm), .slice a n c] 24)).alloc (.cells #[.string ⟨#[]⟩, .slice none 0 0] 24)).heap.size = w.heap.size + 2 := by simp
  have k1 := blkA_new 24 w #[.string (str nm), .slice a n c]
  have k2 := blkA_new 24 (w.alloc (.cells #[.string (str nm), .slice a n c] 24)) #[.string ⟨#[]⟩, .slice none 0 0]
  have k3 := blkA_new 24 ((w.alloc (.cells #[.string (str nm), .slice a n c] 24)).alloc (.cells #[.string ⟨#[]⟩, .slice none 0 0] 24)) #[.string (str nm), .slice none 0 0]
  rw [s1] at k2
  rw [s2] at k3
  have XG0 := hiddenG ((k1.below ((Below.refl _ _).alloc (Nat.le_refl _) (.cells #[.string ⟨#[]⟩, .slice none 0 0] 24))).below ((Below.refl _ _).alloc (Nat.le_refl _) (.cells #[.string (str nm), .slice none 0 0] 24)))
  have XR0 := hiddenG (k2.below ((Below.refl _ _).alloc (Nat.le_refl _) (.cells #[.string (str nm), .slice none 0 0] 24)))
  have LW0 : Hid (Below w.heap.size w (((w.alloc (.cells #[.string (str nm), .slice a n c] 24)).alloc (.cells #[.string ⟨#[]⟩, .slice none 0 0] 24)).alloc (.cells #[.string (str nm), .slice none 0 0] 24))) := (q1.alloc (by simp) _).alloc (by simp; omega) _
  have BK0 := hiddenG k3
  clear q1 s1 s2 k1 k2 k3 h hO hl hi hz0 hz1 hz2
  go_enter Try.func13, Try.ntmps13
  go_upto_region 2 with fail
  generalize (((w.alloc (.cells #[.string (str nm), .slice a n c] 24)).alloc (.cells #[.string ⟨#[]⟩, .slice none 0 0] 24)).alloc (.cells #[.string (str nm), .slice none 0 0] 24)) = W0 at *
  obtain ⟨hb, hhb⟩ : ∃ q, w.heap.size + 1 + 1 = q := ⟨_, rfl⟩
  rw [hhb]
  rw [show w.heap.size + 2 = hb from hhb] at BK0
  have FI0 : Hid (FilS 24 W0 W0 hb 45 11 #[.string (str nm), .slice none ([] : List (Itm × Value)).length 0] (.slice none ([] : List (Itm × Value)).length 0) ([] : List (Itm × Value)).length (([] : List (Itm × Value)).flatMap itP)) := FilS.nil 45 11 BK0.out
  have hwh : w.heap.size ≤ hb := by omega
  have hgh : w.heap.size ≠ hb := by omega
  have hrh : w.heap.size + 1 ≠ hb := by omega
  clear BK0
  go_wp2
  go_loopg [4] 4 (fun gk u wr => ∃ (q : Nat) (d : Option Addr) (kk : Nat) (M : List (Itm × Value)), q ≤ 4 ∧ gk = 4 - q ∧ u = .int .u8 ((q : Int) + 1) ∧ M = svL q L ∧ FilS 24 W0 wr hb 45 11 #[.string (str nm), .slice d M.length kk] (.slice d M.length kk) M.length (M.flatMap itP))
  case atStart => exact ⟨0, none, 0, [], by omega, rfl, rfl, rfl, FI0.out⟩
  case round =>
    obtain ⟨q, d, kk, M, hq, rfl, rfl, hM, hF⟩ := hrel
    have FX := hiddenG hF
    have HM := hiddenG hM
    clear hF hM FI0
    by_cases hlt : q < 4
    · have hqi : (q : Int) + 1 ≤ 4 := by omega
      have hwq : IntKind.u8.wrap ((q : Int) + 1 + 1) = (q : Int) + 1 + 1 := by simp [IntKind.wrap, IntKind.bits, IntKind.signed]; omega
      go_wp2
      go_loopg [5] n (fun gk u wr => ∃ (j : Nat) (d : Option Addr) (kk : Nat) (M : List (Itm × Value)), j ≤ n ∧ gk = n - j ∧ u = .int .i64 (j : Int) ∧ M = svL q L ++ kV ((q : Int) + 1) (L.take j) ∧ FilS 24 W0 wr hb 45 11 #[.string (str nm), .slice d M.length kk] (.slice d M.length kk) M.length (M.flatMap itP))
      case atStart => exact ⟨0, d, kk, M, Nat.zero_le _, rfl, rfl, by rw [HM.out]; simp [kV], FX.out⟩
      case round =>
        clear HM FX M d kk
        obtain ⟨j, d, kk, M, hj, rfl, rfl, hM, hF⟩ := hrel
        have FX := hiddenG hF
        have HM := hiddenG hM
        have hMl : M.length ≤ 5 * n := by
          have e1 := congrArg List.length hM
          rw [List.length_append] at e1
          have e2 := svL_len q L
          have e3 := kV_len ((q : Int) + 1) (L.take j)
          rw [HL.out] at e2
          rw [List.length_take] at e3
          have : q * n ≤ 4 * n := Nat.mul_le_mul_right _ hq
          omega
        clear hF hM
        have XG := hiddenG (XG0.out.keep (FX.out.keep _ XG0.out.lt hgh))
        have BW := hiddenG (LW0.out.trans (FX.out.bel hwh))
        have y1 : wr.cell? ⟨w.heap.size, 1, none⟩ = some (.slice a n c) := XG.out.cell (k := 1) rfl
        by_cases hlj : j < n
        · have hji : (j : Int) < (n : Int) := by omega
          have hkl : j < n := hlj
          have hjL : j < L.length := by rw [HL.out]; exact hlj
          have NX := hiddenG (kV_next (k := (q : Int) + 1) hjL)
          rcases HI.out.lie with e | ⟨eb, eo, ee, hce⟩
          · rw [e] at hjL; exact absurd hjL (Nat.not_lt_zero _)
          subst ee
          obtain ⟨f0, f1, f2, f3, f4, f5, f6, f7, f8, f9, f10⟩ := hce j hjL
          obtain ⟨xb, xc, hxv, -⟩ := HI.out.nums _ (nthI_mem hjL)
          rw [hxv] at f3
          have fe0 := hiddenG f0
          have HXV := hiddenG hxv
          have e0 := cellG BW.out f0
          have e1 := cellG BW.out f1
          have e2 := cellG BW.out f2
          have e3 := cellG BW.out f3
          have e4 := cellG BW.out f4
          have e5 := cellG BW.out f5
          have e6 := cellG BW.out f6
          have e7 := cellG BW.out f7
          have e8 := cellG BW.out f8
          have e9 := cellG BW.out f9
          have e10 := cellG BW.out f10
          clear f0 f1 f2 f3 f4 f5 f6 f7 f8 f9 f10 hce hxv
          have heb := block_lt_of_cell fe0.out
          simp only at heb
          clear fe0
          generalize nthI L j = p at *
          obtain ⟨⟨ki, xn, xt, ns, ⟨fn, fp, fa⟩, ⟨tn, tp, ta⟩, pl⟩, pv⟩ := p
          have hpv : pv = .slice xb ns.length xc := HXV.out
          subst hpv
          simp only at e0 e1 e2 e3 e4 e5 e6 e7 e8 e9 e10 NX
          clear HXV
          have hwl : w.heap.size < W0.heap.size := XG0.out.lt
          have NG : Hid ((.slice d M.length kk : Value).ownBlock ≠ some w.heap.size) := fun e => by have := own_row FX.out.row _ e; omega
          have NE : Hid (¬ (.slice d M.length kk : Value).ownBlock = some eb) := fun e => by have := own_row FX.out.row _ e; omega
          have LB : Hid (W0.heap.size ≤ wr.heap.size) := FX.out.chg.size
          have hwj : IntKind.i64.wrap ((j : Int) + 1) = (j : Int) + 1 := by rw [IntKind.wrap_i64]; omega
          by_cases hk : ki = (q : Int) + 1
          · rw [if_pos hk] at NX
            go_upto_region 9 with fail
            refine wp_region_gen [8, 10] (fun d_ i u z => match i with
                | 0 => z = .pointer (some ⟨hb, 1, none⟩)
                | 1 => z = .slice d M.length kk
                | 2 => z = .pointer (some ⟨w.heap.size, 1, none⟩)
                | 3 => z = .slice (some ⟨eb, eo, none⟩) n c
                | 4 => z = .int .i64 (j : Int)
                | 5 => z = .pointer (some ⟨eb, eo + j * 11, none⟩)
                | 6 => z = .agg #[.int .u8 ki, .string (str xn), .string (str xt), .slice xb ns.length xc, .string (str fn), .int .i64 fp, .int .i64 fa, .string (str tn), .int .i64 tp, .int .i64 ta, .int .i64 pl]
                | 7 => (d_ 8 = false → ElC (fun _ es => es = itP (⟨ki, xn, xt, ns, ⟨fn, fp, fa⟩, ⟨tn, tp, ta⟩, pl⟩, .slice xb ns.length xc)) wr u z)
                | 8 => (d_ 8 = true ∧ (d_ 10 = false → ElA (fun _ es => es = itP (⟨ki, xn, xt, ns, ⟨fn, fp, fa⟩, ⟨tn, tp, ta⟩, pl⟩, .slice xb ns.length xc)) wr W0.heap.size 45 11 (.slice d M.length kk) M.length (M.flatMap itP) u z))
                | 9 => z = .pointer (some ⟨hb, 1, none⟩)
                | 10 => True
                | _ => True) (fun d_ u => (d_ 8 = false → Below wr.heap.size wr u) ∧ (d_ 10 = false → Chg (fun k => (.slice d M.length kk : Value).ownBlock = some k) wr u) ∧ (d_ 10 = true → AppE (fun _ es => es = itP (⟨ki, xn, xt, ns, ⟨fn, fp, fa⟩, ⟨tn, tp, ta⟩, pl⟩, .slice xb ns.length xc)) wr W0.heap.size 45 11 (.slice d M.length kk) M.length (M.flatMap itP) 24 hb 1 #[.string (str nm), .slice d M.length kk] u)) (by kernel_rfl) (by kernel_rfl) (by kernel_rfl) ?_ ?_ ?_ ?_ ?_ ?_ (by kernel_rfl)
            · intro d_ i w_ v_ w' h hb_
              match i, h with
              | 0, h => exact h
              | 1, h => exact h
              | 2, h => exact h
              | 3, h => exact h
              | 4, h => exact h
              | 5, h => exact h
              | 6, h => exact h
              | 7, h => exact fun e => (h e).later (fun _ _ _ h _ => h) hb_
              | 8, h => exact ⟨h.1, fun e => (h.2 e).later hb_⟩
              | 9, h => exact h
              | 10, h => exact h
              | _ + 11, _ => trivial
            · intro d_ u u' h hb_
              exact ⟨fun e => (h.1 e).trans (hb_.mono (h.1 e).size), fun e => (h.2.1 e).trans' (Chg.of_below hb_), fun e => (h.2.2 e).later hb_⟩
            · exact ⟨fun _ => Below.refl _ _, fun _ => Chg.of_below (Below.refl _ _), fun e => absurd e (by decide)⟩
            · intro d_ i o ρ w' hm ho hf hg hC hcs hfs hfr hdep
              match i, hm, ho, hf, hg, hfr, hdep with
              | 0, _, ho, hf, hg, hfr, hdep =>
                simp only [gTA, gCZ, gSI] at ho
                subst ho
                refine ⟨fun _ => ?_, fun hw => absurd (show true = false from hw) (by decide)⟩
                have ts : ρ (.tmp 3) = .pointer (some ⟨hb, 0, none⟩) := hfr 3 (by kernel_rfl)
                simp [go_sem, ts]
                exact ⟨Below.refl _ _, rfl⟩
              | 1, _, ho, hf, hg, hfr, hdep =>
                simp only [gTA, gCZ, gCS, gSI] at ho
                subst ho
                refine ⟨fun _ => ?_, fun hw => absurd (show true = false from hw) (by decide)⟩
                have h8 : d_ 8 = false := hf 8 (by decide) (by kernel_rfl)
                have cc : w'.cell? ⟨hb, 1, none⟩ = some (.slice d M.length kk) := (FX.out.blk.below (hC.1 h8)).cell rfl
                have d0 : ρ (.tmp 28) = .pointer (some ⟨hb, 1, none⟩) := hdep 0 28 (by kernel_rfl) (by kernel_rfl)
                simp [go_sem, d0, cc]
                exact ⟨Below.refl _ _, rfl⟩
              | 2, _, ho, hf, hg, hfr, hdep =>
                simp only [gTA, gCZ, gCS, gSI] at ho
                subst ho
                refine ⟨fun _ => ?_, fun hw => absurd (show true = false from hw) (by decide)⟩
                have ts : ρ (.tmp 1) = .pointer (some ⟨w.heap.size, 0, none⟩) := hfr 1 (by kernel_rfl)
                simp [go_sem, ts]
                exact ⟨Below.refl _ _, rfl⟩
              | 3, _, ho, hf, hg, hfr, hdep =>
                simp only [gTA, gCZ, gCS, gSI] at ho
                subst ho
                refine ⟨fun _ => ?_, fun hw => absurd (show true = false from hw) (by decide)⟩
                have h10 : d_ 10 = false := hf 10 (by decide) (by kernel_rfl)
                have cc : w'.cell? ⟨w.heap.size, 1, none⟩ = some (.slice (some ⟨eb, eo, none⟩) n c) := (XG.out.keep ((hC.2.1 h10).block _ XG.out.lt NG.out)).cell rfl
                have d0 : ρ (.tmp 30) = .pointer (some ⟨w.heap.size, 1, none⟩) := hdep 2 30 (by kernel_rfl) (by kernel_rfl)
                simp [go_sem, d0, cc]
                exact ⟨Below.refl _ _, rfl⟩
              | 4, _, ho, hf, hg, hfr, hdep =>
                simp only [gTA, gCZ, gCS, gSI] at ho
                subst ho
                refine ⟨fun _ => ?_, fun hw => absurd (show true = false from hw) (by decide)⟩
                have ts : ρ (.tmp 5) = .int .i64 (j : Int) := hfr 5 (by kernel_rfl)
                simp [go_sem, ts]
                exact ⟨Below.refl _ _, rfl⟩
              | 5, _, ho, hf, hg, hfr, hdep =>
                simp only [gTA, gCZ, gCS, gSI] at ho
                subst ho
                refine ⟨fun _ => ?_, fun hw => absurd (show true = false from hw) (by decide)⟩
                have d0 : ρ (.tmp 31) = .slice (some ⟨eb, eo, none⟩) n c := hdep 3 31 (by kernel_rfl) (by kernel_rfl)
                have d1 : ρ (.tmp 32) = .int .i64 (j : Int) := hdep 4 32 (by kernel_rfl) (by kernel_rfl)
                simp [go_sem, d0, d1, hkl]
                exact ⟨Below.refl _ _, rfl⟩
              | 6, _, ho, hf, hg, hfr, hdep =>
                simp only [gTA, gCZ, gCS, gSI] at ho
                subst ho
                refine ⟨fun _ => ?_, fun hw => absurd (show true = false from hw) (by decide)⟩
                have h10 : d_ 10 = false := hf 10 (by decide) (by kernel_rfl)
                have q0 := cell_chg (hC.2.1 h10) NE.out e0
                have q1 := cell_chg (hC.2.1 h10) NE.out e1
                have q2 := cell_chg (hC.2.1 h10) NE.out e2
                have q3 := cell_chg (hC.2.1 h10) NE.out e3
                have q4 := cell_chg (hC.2.1 h10) NE.out e4
                have q5 := cell_chg (hC.2.1 h10) NE.out e5
                have q6 := cell_chg (hC.2.1 h10) NE.out e6
                have q7 := cell_chg (hC.2.1 h10) NE.out e7
                have q8 := cell_chg (hC.2.1 h10) NE.out e8
                have q9 := cell_chg (hC.2.1 h10) NE.out e9
                have q10 := cell_chg (hC.2.1 h10) NE.out e10
                have d0 : ρ (.tmp 33) = .pointer (some ⟨eb, eo + j * 11, none⟩) := hdep 5 33 (by kernel_rfl) (by kernel_rfl)
                simp [go_sem, d0, q0, q1, q2, q3, q4, q5, q6, q7, q8, q9, q10]
                exact ⟨Below.refl _ _, rfl⟩
              | 7, _, ho, hf, hg, hfr, hdep =>
                simp only [gTA, gCZ, gCS, gSI] at ho
                subst ho
                refine ⟨fun _ => ?_, fun hw => absurd (show true = false from hw) (by decide)⟩
                have t0 : ρ (.tmp 34) = .agg #[.int .u8 ki, .string (str xn), .string (str xt), .slice xb ns.length xc, .string (str fn), .int .i64 fp, .int .i64 fa, .string (str tn), .int .i64 tp, .int .i64 ta, .int .i64 pl] := hdep 6 34 (by kernel_rfl) (by kernel_rfl)
                have h8 : d_ 8 = false := hf 8 (by decide) (by kernel_rfl)
                simp [go_sem, t0]
                exact ⟨(Below.refl _ _).alloc (Nat.le_refl _) _, fun _ => elC_new (fun _ _ _ h _ => h) 45 (es := itP (⟨ki, xn, xt, ns, ⟨fn, fp, fa⟩, ⟨tn, tp, ta⟩, pl⟩, .slice xb ns.length xc)) rfl (hC.1 h8).size⟩
              | 8, hm, _, _, _, _, _ => exact absurd hm (by decide)
              | 9, _, ho, hf, hg, hfr, hdep =>
                simp only [gTA, gCZ, gCS, gSI] at ho
                subst ho
                refine ⟨fun _ => ?_, fun hw => absurd (show true = false from hw) (by decide)⟩
                have ts : ρ (.tmp 3) = .pointer (some ⟨hb, 0, none⟩) := hfr 3 (by kernel_rfl)
                simp [go_sem, ts]
                exact ⟨Below.refl _ _, rfl⟩
              | 10, hm, _, _, _, _, _ => exact absurd hm (by decide)
              | n + 11, _, ho, _, _, _, _ => simp at ho
            · intro d_ i o ρ w' hm ho h0 hf hg hC hcs hfs hfr hdep
              match i, hm, ho, h0, hf, hg, hfr, hdep with
              | 0, hm, _, _, _, _, _, _ => exact absurd hm (by decide)
              | 1, hm, _, _, _, _, _, _ => exact absurd hm (by decide)
              | 2, hm, _, _, _, _, _, _ => exact absurd hm (by decide)
              | 3, hm, _, _, _, _, _, _ => exact absurd hm (by decide)
              | 4, hm, _, _, _, _, _, _ => exact absurd hm (by decide)
              | 5, hm, _, _, _, _, _, _ => exact absurd hm (by decide)
              | 6, hm, _, _, _, _, _, _ => exact absurd hm (by decide)
              | 7, hm, _, _, _, _, _, _ => exact absurd hm (by decide)
              | 8, _, ho, h0, hf, hg, hfr, hdep =>
                simp only [gTA, gCZ, gCS, gSI] at ho
                subst ho
                have t0 : ρ (.tmp 29) = .slice d M.length kk := hdep 1 29 (by kernel_rfl) (by kernel_rfl)
                have t5 : ElC (fun _ es => es = itP (⟨ki, xn, xt, ns, ⟨fn, fp, fa⟩, ⟨tn, tp, ta⟩, pl⟩, .slice xb ns.length xc)) wr w' (ρ (.tmp 35)) := hdep 7 35 (by kernel_rfl) (by kernel_rfl) h0
                have h10 : d_ 10 = false := hf 10 (by decide) (by kernel_rfl)
                refine ⟨rfl, mark_appE (.tmp 29) (.tmp 35) 22 45 i0 _ 11 136 rfl Try.underlying22 HJ.out HJ0.out HJ1.out HJ2.out rfl (by decide) t0 rfl FX.out.row (hC.1 h0) (fun _ _ h => by subst h; exact ⟨rfl, itP_one _ _ _ _⟩) t5 LB.out (by omega) (by omega) ?_⟩
                intro u9 v9 hG
                refine ⟨⟨fun e => absurd e (by rw [doneO_eq]; decide), fun _ => hG.chg, fun e => absurd ((doneO_ne d_ (by decide)).symm.trans e) (by rw [h10]; decide)⟩, fun _ => ⟨doneO_eq _ _, fun _ => hG⟩, ?_⟩
                intro j t hj hs
                match j, hs with
                | 0, hs => exact hs
                | 1, hs => exact hs
                | 2, hs => exact hs
                | 3, hs => exact hs
                | 4, hs => exact hs
                | 5, hs => exact hs
                | 6, hs => exact hs
                | 7, hs => exact fun e => absurd e (by rw [doneO_eq]; decide)
                | 8, hs => exact absurd hs.1 (by rw [h0]; decide)
                | 9, hs => exact hs
                | 10, _ => trivial
                | _ + 11, _ => trivial
              | 9, hm, _, _, _, _, _, _ => exact absurd hm (by decide)
              | 10, _, ho, h0, hf, hg, hfr, hdep =>
                simp only [gTA, gCZ, gCS, gSI] at ho
                subst ho
                have t0 : ρ (.tmp 37) = .pointer (some ⟨hb, 1, none⟩) := hdep 9 37 (by kernel_rfl) (by kernel_rfl)
                have t9 : d_ 8 = true ∧ (d_ 10 = false → ElA (fun _ es => es = itP (⟨ki, xn, xt, ns, ⟨fn, fp, fa⟩, ⟨tn, tp, ta⟩, pl⟩, .slice xb ns.length xc)) wr W0.heap.size 45 11 (.slice d M.length kk) M.length (M.flatMap itP) w' (ρ (.tmp 36))) := hdep 8 36 (by kernel_rfl) (by kernel_rfl)
                have hG := t9.2 h0
                obtain ⟨gz, cz, e9⟩ := hG.shape
                rw [e9] at hG
                have hF := appE_store (f := 1) hG FX.out.blk FX.out.far
                have c1_ : w'.cell? ⟨hb, 1, none⟩ = some (.slice d M.length kk) := hF.2.cell rfl
                have f1 := hF.2.frozen 1
                refine ⟨rfl, markUpon_skip (w' := w'.setCell ⟨hb, 1, none⟩ (.slice (some ⟨gz, 0, none⟩) (M.length + 1) cz)) (by simp [go_sem, t0, e9, c1_, f1]) ?_⟩
                refine ⟨⟨fun e => absurd ((doneO_ne d_ (by decide)).symm.trans e) (by rw [t9.1]; decide), fun e => absurd e (by rw [doneO_eq]; decide), fun _ => hF.1⟩, fun h => absurd rfl h, ?_⟩
                intro j t hj hs
                match j, hs with
                | 0, hs => exact hs
                | 1, hs => exact hs
                | 2, hs => exact hs
                | 3, hs => exact hs
                | 4, hs => exact hs
                | 5, hs => exact hs
                | 6, hs => exact hs
                | 7, hs => exact fun e => absurd ((doneO_ne d_ (by decide)).symm.trans e) (by rw [t9.1]; decide)
                | 8, hs => exact ⟨(doneO_ne d_ (by decide)).trans hs.1, fun e => absurd e (by rw [doneO_eq]; decide)⟩
                | 9, hs => exact hs
                | 10, _ => trivial
                | _ + 11, _ => trivial
              | n + 11, _, ho, _, _, _, _, _ => simp at ho
            · intro U8 V8x hC8 hS
              simp only [puts, put_none]
              simp only [Act.put, List.setIfInBounds_toArray, List.set_cons_zero, List.set_cons_succ]
              clear hS 
              obtain ⟨g9, k9, F9⟩ := FX.out.step (hC8.2.2 rfl)
              have F9h := hiddenG F9
              clear hC8 F9 FX XG
              go_wp2
              go_roundg (n - (j + 1))
              case measure => omega
              case rel =>
                refine ⟨j + 1, some ⟨g9, 0, none⟩, k9, M ++ [(⟨ki, xn, xt, ns, ⟨fn, fp, fa⟩, ⟨tn, tp, ta⟩, pl⟩, .slice xb ns.length xc)], by omega, rfl, by first | rfl | go_num, ?_, ?_⟩
                · rw [NX.out, HM.out, List.append_assoc]
                · rw [List.length_append, List.flatMap_append, List.flatMap_singleton]
                  exact F9h.out
          · rw [if_neg hk] at NX
            go_wp2
            go_roundg (n - (j + 1))
            case measure => omega
            case rel => exact ⟨j + 1, d, kk, M, by omega, rfl, by first | rfl | go_num, by rw [NX.out]; exact HM.out, FX.out⟩
        · have ej : j = n := by omega
          subst ej
          have hji : ¬ ((j : Int) < (j : Int)) := by omega
          go_wp2
          go_roundg (4 - (q + 1))
          case measure => omega
          case rel => exact ⟨q + 1, d, kk, M, by omega, rfl, by first | rfl | go_num, by rw [HM.out, ← HL.out, List.take_length]; rfl, FX.out⟩
    · have eq : q = 4 := by omega
      subst eq
      have hqi : ¬ (((4 : Nat) : Int) + 1 ≤ 4) := by decide
      have z0 := FX.out.blk.cell (k := 0) rfl
      have z1 := FX.out.blk.cell (k := 1) rfl
      simp only [List.getElem_toArray, List.getElem_cons_zero, List.getElem_cons_succ] at z0 z1
      have XR := hiddenG (XR0.out.keep (FX.out.keep _ XR0.out.lt hrh))
      have r0 := XR.out.cell (k := 0) rfl
      have r1 := XR.out.cell (k := 1) rfl
      simp only [List.getElem_toArray, List.getElem_cons_zero, List.getElem_cons_succ] at r0 r1
      have fr0 := XR.out.frozen 0
      have fr1 := XR.out.frozen 1
      go_wp2
      have x1 := XR.out.set 0 (.string (str nm))
      have x2 := x1.set 1 (.slice d M.length kk)
      simp only [List.setIfInBounds_toArray, List.set_cons_zero, List.set_cons_succ] at x2
      have u0 := x2.cell (k := 0) rfl
      have u1 := x2.cell (k := 1) rfl
      simp only [List.getElem_toArray, List.getElem_cons_zero, List.getElem_cons_succ] at u0 u1
      have hwl : w.heap.size + 1 < W0.heap.size := XR0.out.lt
      have bw : Below w.heap.size w ((wr.setCell ⟨w.heap.size + 1, 0, none⟩ (.string (str nm))).setCell ⟨w.heap.size + 1, 1, none⟩ (.slice d M.length kk)) := ((LW0.out.trans (FX.out.bel hwh)).setCell (p := ⟨w.heap.size + 1, 0, none⟩) (Nat.le_succ _) _).setCell (p := ⟨w.heap.size + 1, 1, none⟩) (Nat.le_succ _) _
      have rw_ := row_lie (ownsRow_setCell_below (a := ⟨w.heap.size + 1, 1, none⟩) (ownsRow_setCell_below (a := ⟨w.heap.size + 1, 0, none⟩) FX.out.row hwl (.string (str nm))) hwl (.slice d M.length kk))
      have hM := HM.out
      subst hM
      exact bodyPost_ret (v := .agg #[.string (str nm), .slice d (svL 4 L).length kk]) (by simp [results, Try.results13, go_sem, u0, u1]) rfl ⟨d, kk, rfl, ⟨rw_, fun p hp => (HI.out.nums p (svL_mem 4 hp)).below bw⟩, ⟨fun p hp => (HO.out.below bw).args p (svL_mem 4 hp), fun p hp => HO.out.names p (svL_mem 4 hp)⟩, bw⟩
/-- An item's names are no longer than memory. -/
def NmZ (x : Itm) : Prop := x.name.length ≤ 140737488355328 ∧ x.frm.name.length ≤ 140737488355328 ∧ x.tgt.name.length ≤ 140737488355328
section
variable {H : Type} {enc : TypeId × Value → H} {W : World} {base : Nat} {held : Bool}
set_option maxRecDepth 100000 in
theorem place_openN {n : Nat} {cs : List Value} {y : DataW H × List MemPlace} (h : DataW.trod enc Try.prog W base (fun _ => true) held n 43 cs = some y) (hw : (y.1.weights Try.prog 43).all (· ≤ reachBytes) = true) :
    ∃ p : Plc, cs = [.string (str p.name), .int .i64 p.port, .int .i64 p.place] ∧ (-9223372036854775808 ≤ p.port ∧ p.port ≤ 9223372036854775807) ∧ p.name.length ≤ 140737488355328 := by
  obtain ⟨xs, k, hk, hxy, hcl, hxl, hf⟩ := DataW.trod_struct Try.underlying43 h
  rw [Try.cells5PL] at hcl
  match xs, hxl, cs, hcl with
  | [y0, y1, y2], _, [v0, v1, v2], _ =>
    have g0 := hf 0 _ rfl
    have g1 := hf 1 _ rfl
    have g2 := hf 2 _ rfl
    simp [Try.cells59, Try.cells53] at g0 g1 g2
    have hw0 : (y0.1.weights Try.prog 9).all (· ≤ reachBytes) = true := by
      rw [hxy] at hw
      simp only [DataW.weights, Try.underlying43] at hw
      rw [List.all_eq_true] at hw ⊢
      exact fun m hm => hw m (DataW.weights_mem_each (j := 0) (t := 9) (d := y0.1) rfl rfl m hm)
    obtain ⟨z0, q0, e0, -⟩ := DataW.trod_string Try.underlying9 g0
    rw [e0] at hw0
    have lz0 : z0.data.toList.length ≤ 140737488355328 := by
      have hx := List.all_eq_true.1 hw0 z0.data.toList.length (by simp [DataW.weights])
      have hy := of_decide_eq_true hx
      unfold reachBytes at hy
      omega
    obtain ⟨z1, q1, -, b1⟩ := DataW.trod_int Try.underlying3 g1
    obtain ⟨z2, q2, -, -⟩ := DataW.trod_int Try.underlying3 g2
    simp only [List.cons.injEq, and_true] at q0 q1 q2
    subst q0 q1 q2
    exact ⟨⟨z0.data.toList, z1, z2⟩, rfl, bounds_i64 b1, lz0⟩
end
end Go.Proofs.Ytokhoigpaanjeaa

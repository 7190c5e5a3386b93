/- Texts of one chain. -/
import Derived.Test.YtgoconkleicmkaaPartQ
import Derived.Test.YtgoconkleicmkaaPartGraphBuilds29
import Derived.Deep.SlicePairs
import Derived.SizedLaws
import Derived.Test.YtgoconkleicmkaaPartGraphBuilds7
import Derived.Test.YtgoconkleicmkaaPartGraphBuilds10
import Derived.Test.YtgoconkleicmkaaPartGraphBuilds25
import Derived.Test.YtgoconkleicmkaaPartGraphBuilds28
import Derived.Test.YtgoconkleicmkaaPartGraphBuilds22
set_option maxRecDepth 100000
set_option maxHeartbeats 8000000
namespace Go.Proofs.Ytgoconkleicmkaa
open Go.ChangeShapes Go.WideShapes Go.ChangeAt Go.RowKit
structure TQ (w : World) (a1 a2 a3 a4 : Option Addr) (c3 c4 : Nat) (g : GG) : Prop where
 gr : sH w a1 a2 a3 a4 g
 n3 : a3 = none -> c3 = 0
 n4 : a4 = none -> c4 = 0
theorem TQ.below {w w' : World} {a1 a2 a3 a4 : Option Addr} {c3 c4 : Nat} {g : GG} (h : TQ w a1 a2 a3 a4 c3 c4 g) (hb : Below w.heap.size w w') : TQ w' a1 a2 a3 a4 c3 c4 g := ⟨h.gr.below hb, h.n3, h.n4⟩
section
variable {H : Type} {enc : TypeId × Value -> H} {W : World} {base : Nat} {held : Bool}
end
structure Light (g : GG) : Prop where
 a : g.A.length <= 1048576
 e : g.E.length <= 1048576
 i : g.ins.length <= 1048576
 o : g.outs.length <= 1048576
 pa : ∀ x ∈ g.A, x.params.length <= 1048576
 pe : ∀ x ∈ g.E, x.start.length <= 1048576
theorem YG.len {w : World} {a : Option Addr} {As : List GA} (h : YG w a As) : ∀ x ∈ As, x.params.length <= 17592186043904 := fun x hx => by
 obtain ⟨k, hk, rfl⟩ := TT hx
 rcases h with h | ⟨b, off, -, hc⟩
 ·rw [h] at hk; exact absurd hk (Nat.not_lt_zero _)
 obtain ⟨-, -, -, y, c, -, h5⟩ := hc k hk
 have := h5.reach
 omega
theorem fA.len {w : World} {a : Option Addr} {As : List GE} (h : fA w a As) : ∀ x ∈ As, x.start.length <= 17592186043904 := fun x hx => by
 obtain ⟨k, hk, rfl⟩ := TS hx
 rcases h with h | ⟨b, off, -, hc⟩
 ·rw [h] at hk; exact absurd hk (Nat.not_lt_zero _)
 obtain ⟨-, -, -, -, y, c, -, h5⟩ := hc k hk
 have := h5.reach
 omega
theorem pD {α : Type} (f : α -> List Value) (c : Nat) (hc : ∀ x, (f x).length = c) : ∀ (L : List α), (L.flatMap f).length = L.length * c
 | [] => by simp
 | x :: r => by rw [List.flatMap_cons, List.length_append, hc, pD f c hc r, List.length_cons, Nat.succ_mul]; omega
theorem oI {w : World} {base T c g n cap : Nat} {xs ys : List Value} {m : Nat} (h : w.ownsRow base T c (.slice (some ⟨g, 0, none⟩) n cap) n (xs ++ ys)) (hm : xs.length = m * c) (hmn : m <= n) : w.ownsRow base T c (.slice (some ⟨g, 0, none⟩) m cap) m xs := by
 obtain ⟨h1, h2⟩ := h
 refine ⟨hm, ?_⟩
 rcases h2 with ⟨hv, -⟩ | ⟨g', c', cur, hv, hg, hh, hc, hmm, hs, ht⟩
 ·cases hv
 cases hv
 refine .inr ⟨_, _, cur, rfl, hg, hh, by omega, hmm, hs, ?_⟩
 have h3 := congrArg (List.take (m * c)) ht
 rw [List.take_take, Nat.min_eq_left (Nat.mul_le_mul_right _ hmn)] at h3
 rw [h3, <- hm, List.take_left]
def pC : GP := ⟨[109, 97, 114, 107], -7770777, 0⟩
def sJ (B : Nat) (w : World) (a : Option Addr) (c : Nat) (Ps : List GP) : Prop := ∃ b, a = some ⟨b, 0, none⟩ /\ B <= b /\ Ps.length + 1 <= c /\ w.ownsRow B 83 3 (.slice a (Ps.length + 1) c) (Ps.length + 1) (Ps.flatMap pP ++ pP pC)
theorem sJ.keep {B : Nat} {w w' : World} {a : Option Addr} {c : Nat} {Ps : List GP} (h : sJ B w a c Ps) (hk : ∀ k, B <= k -> k < w.heap.size -> w'.heap[k]? = w.heap[k]?) : sJ B w' a c Ps := by
 obtain ⟨b, h1, h2, h3, h4⟩ := h
 exact ⟨b, h1, h2, h3, zV h4 fun k e => hk k (zT h4 k e) (zR h4 k e)⟩
theorem sJ.at {B : Nat} {w : World} {a : Option Addr} {c : Nat} {Ps : List GP} (h : sJ B w a c Ps) : tO w a Ps := by
 obtain ⟨b, rfl, -, -, h4⟩ := h
 exact sR (n := Ps.length) (cp := c) (oI h4 (pD pP 3 lX Ps) (Nat.le_succ _))
theorem ZB {w w' : World} {b k : Nat} (h : w'.heap[b]? = w.heap[b]?) : w'.cell? ⟨b, k, none⟩ = w.cell? ⟨b, k, none⟩ := by simp [World.cell?, h]
theorem uH.keepB {B : Nat} {w w' : World} {g len : Nat} {zs : List Int} (h : uH B w g len zs) (hk : w'.heap[g]? = w.heap[g]?) : uH B w' g len zs := by
 obtain ⟨h1, h2, h3⟩ := h
 refine ⟨h1, h2, ?_⟩
 rcases h3 with h3 | ⟨b, off, e, hc⟩
 ·exact .inl h3
 cases e
 exact .inr ⟨g, 0, rfl, fun k hk2 => by rw [ZB hk]; exact hc k hk2⟩
theorem uH.lt {B : Nat} {w : World} {g len : Nat} {zs : List Int} (h : uH B w g len zs) : g < w.heap.size := block_lt_of_cell (h.cells.2 len (Nat.le_refl _) (by omega))
theorem uH.base {B B' : Nat} {w : World} {g len : Nat} {zs : List Int} (h : uH B w g len zs) (hb : B' <= B) : uH B' w g len zs := ⟨Nat.le_trans hb h.1, h.2⟩
theorem uH.arg {B : Nat} {w : World} {g : Nat} {zs : List Int} (h : uH B w g zs.length zs) (ho : xL zs) : lJ w (some ⟨g, 0, none⟩) zs.length (zs.length + 4) zs := ⟨rfl, ho.2, (fun e => by cases e), ho.1, h.at, by omega⟩
def tV (B : Nat) (w : World) (q : Value) (ns : List Int) : Prop := ∃ gq, q = .slice (some ⟨gq, 0, none⟩) ns.length (ns.length + 4) /\ uH B w gq ns.length ns
theorem tV.lt {B : Nat} {w : World} {q : Value} {ns : List Int} (h : tV B w q ns) : ∀ k, q.ownBlock = some k -> B <= k /\ k < w.heap.size := by
 obtain ⟨gq, rfl, h⟩ := h
 intro k e
 cases e
 exact ⟨h.1, h.lt⟩
theorem tV.keep {B : Nat} {w w' : World} {q : Value} {ns : List Int} (h : tV B w q ns) (hk : ∀ k, q.ownBlock = some k -> w'.heap[k]? = w.heap[k]?) : tV B w' q ns := by
 obtain ⟨gq, rfl, h⟩ := h
 exact ⟨gq, rfl, h.keepB (hk gq rfl)⟩
theorem tV.base {B B' : Nat} {w : World} {q : Value} {ns : List Int} (h : tV B w q ns) (hb : B' <= B) : tV B' w q ns := by
 obtain ⟨gq, h1, h2⟩ := h
 exact ⟨gq, h1, h2.base hb⟩
def rY : GA × Value := (⟨[109, 97, 114, 107], 99, []⟩, .slice none 0 0)
def rX : GE × Value := (⟨-7770777, 0, 0, 0, []⟩, .slice none 0 0)
structure LtA (w W1 : World) (nm : List UInt8) (u2 u3 u4 v : Value) (M : List (GA × Value)) (wr : World) : Prop where
 ob : zN 31 (w.heap.size + 2) wr #[.string (zW nm), v, u2, u3, u4]
 row : wr.ownsRow W1.heap.size 61 3 v M.length (M.flatMap aP)
 qs : ∀ p ∈ M, tV W1.heap.size wr p.2 p.1.params
 ap : ∀ p ∈ M, NB v p.2
 chg : xX (fun k => k = w.heap.size + 2 \/ W1.heap.size <= k) W1 wr
 hk : w.heap.size + 2 < W1.heap.size
theorem LtA.put {w W1 nm u2 u3 u4 v M} {V : World} (h : LtA w W1 nm u2 u3 u4 v M V) {w2 w4 : World} {p : GA × Value} {v' : Value} (hb : Below V.heap.size V w2) (hq : tV V.heap.size w2 p.2 p.1.params)
 (ho : w4.ownsRow W1.heap.size 61 3 v' (M.length + 1) (M.flatMap aP ++ aP p))
 (ht : (∃ g cap, v = .slice (some ⟨g, 0, none⟩) M.length cap /\ v' = .slice (some ⟨g, 0, none⟩) (M.length + 1) cap /\ w2.grownBy w4 (some g)) \/ (∃ cap, v' = .slice (some ⟨w2.heap.size, 0, none⟩) (M.length + 1) cap /\ w2.grownBy w4 none)) :
 LtA w W1 nm u2 u3 u4 v' (M ++ [p]) (w4.setCell ⟨w.heap.size + 2, 1, none⟩ v') /\ zN 31 (w.heap.size + 2) w4 #[.string (zW nm), v, u2, u3, u4] := by
 have hk := h.hk
 have h1 := h.chg.size
 have hsz := hb.size
 have tk := xU ht
 have kp : ∀ d, d < V.heap.size -> v.ownBlock ≠ some d -> w4.heap[d]? = V.heap[d]? := fun d hd hn => (tk.2 d (by omega) hn).trans (hb.block d hd)
 have lowr : ∀ d, d < W1.heap.size -> v.ownBlock ≠ some d := fun d hd e => by have := zT h.row d e; omega
 have b3 := h.ob.keep (kp _ (by omega) (lowr _ hk))
 have set : ∀ k, k ≠ w.heap.size + 2 -> (w4.setCell ⟨w.heap.size + 2, 1, none⟩ v').heap[k]? = w4.heap[k]? := fun k hk => Below.heap_setCell w4 ⟨w.heap.size + 2, 1, none⟩ v' k hk
 have np : NB v p.2 := fun k e1 e2 => by have := zR h.row k e1; have := (hq.lt k e2).1; omega
 refine ⟨⟨b3.set 1 v', ?_, fun q hq' => ?_, fun q hq' => ?_, ?_, hk⟩, b3⟩
 ·rw [wD, List.length_append]
  exact zV ho fun k e => set k (by have := zT ho k e; omega)
 ·rcases List.mem_append.1 hq' with hm | hm
  ·have l := h.qs q hm
   exact l.keep fun k e => (set k (by have := (l.lt k e).1; omega)).trans (kp k (l.lt k e).2 (fun e2 => h.ap q hm k e2 e))
  rw [List.mem_singleton.1 hm]
  exact (hq.keep fun k e => (set k (by have := (hq.lt k e).1; omega)).trans (tk.2 k (hq.lt k e).2 (fun e2 => np k e2 e))).base h1
 ·rcases List.mem_append.1 hq' with hm | hm
  ·exact NB.told (h.ap q hm) (fun k e => Nat.lt_of_lt_of_le ((h.qs q hm).lt k e).2 hsz) ht
  rw [List.mem_singleton.1 hm]
  exact NB.told np (fun k e => (hq.lt k e).2) ht
 obtain ⟨row, hg, hrow⟩ := xZ ht
 have c1 : xX (fun k => k = w.heap.size + 2 \/ W1.heap.size <= k) V w2 := xX.of_below hb
 have c2 : xX (fun k => k = w.heap.size + 2 \/ W1.heap.size <= k) w2 w4 := xX.grown hg fun k e => .inr (zT h.row k (hrow k e))
 exact ((h.chg.trans' c1).trans' c2).trans' (xX.set w4 (.inl rfl) 1 v')
def rW (B : Nat) (w : World) (a : Option Addr) (c : Nat) (As : List GA) : Prop := ∃ (b : Nat) (M : List (GA × Value)), a = some ⟨b, 0, none⟩ /\ B <= b /\ As.length + 1 <= c /\ M.map Prod.fst = As /\ w.ownsRow B 61 3 (.slice a (As.length + 1) c) (As.length + 1) (M.flatMap aP ++ aP rY) /\ ∀ p ∈ M, tV B w p.2 p.1.params
theorem rW.keep {B : Nat} {w w' : World} {a : Option Addr} {c : Nat} {As : List GA} (h : rW B w a c As) (hk : ∀ k, B <= k -> k < w.heap.size -> w'.heap[k]? = w.heap[k]?) : rW B w' a c As := by
 obtain ⟨b, M, h1, h2, h3, h4, h5, h6⟩ := h
 exact ⟨b, M, h1, h2, h3, h4, zV h5 fun k e => hk k (zT h5 k e) (zR h5 k e), fun p hp => (h6 p hp).keep fun k e => hk k ((h6 p hp).lt k e).1 ((h6 p hp).lt k e).2⟩
theorem rW.base {B B' : Nat} {w : World} {a : Option Addr} {c : Nat} {As : List GA} (h : rW B w a c As) (hb : B' <= B) : rW B' w a c As := by
 obtain ⟨b, M, h1, h2, h3, h4, h5, h6⟩ := h
 exact ⟨b, M, h1, Nat.le_trans hb h2, h3, h4, xK h5 hb, fun p hp => (h6 p hp).base hb⟩
theorem rW.gr {B : Nat} {w : World} {a : Option Addr} {c : Nat} {As : List GA} (h : rW B w a c As) (ho : ∀ x ∈ As, x.tag <= 255 /\ xL x.params) : YG w a As := by
 obtain ⟨b, M, rfl, -, -, h4, h5, h6⟩ := h
 have hl : M.length = As.length := by rw [<- h4, List.length_map]
 rw [<- hl] at h5
 have r := nH (n := M.length) (cp := c) (oI h5 (pD aP 3 sA M) (Nat.le_succ _)) (fun p hp => by
  have hx := ho p.1 (by rw [<- h4]; exact List.mem_map_of_mem hp)
  obtain ⟨gq, e, hq⟩ := h6 p hp
  exact ⟨hx.1, _, _, e, hq.arg hx.2⟩)
 rw [h4] at r
 exact r
structure LtE (w W1 : World) (nm : List UInt8) (u1 u3 u4 v : Value) (M : List (GE × Value)) (wr : World) : Prop where
 ob : zN 31 (w.heap.size + 2) wr #[.string (zW nm), u1, v, u3, u4]
 row : wr.ownsRow W1.heap.size 64 5 v M.length (M.flatMap eP)
 qs : ∀ p ∈ M, tV W1.heap.size wr p.2 p.1.start
 ap : ∀ p ∈ M, NB v p.2
 chg : xX (fun k => k = w.heap.size + 2 \/ W1.heap.size <= k) W1 wr
 hk : w.heap.size + 2 < W1.heap.size
theorem LtE.put {w W1 nm u1 u3 u4 v M} {V : World} (h : LtE w W1 nm u1 u3 u4 v M V) {w2 w4 : World} {p : GE × Value} {v' : Value} (hb : Below V.heap.size V w2) (hq : tV V.heap.size w2 p.2 p.1.start)
 (ho : w4.ownsRow W1.heap.size 64 5 v' (M.length + 1) (M.flatMap eP ++ eP p))
 (ht : (∃ g cap, v = .slice (some ⟨g, 0, none⟩) M.length cap /\ v' = .slice (some ⟨g, 0, none⟩) (M.length + 1) cap /\ w2.grownBy w4 (some g)) \/ (∃ cap, v' = .slice (some ⟨w2.heap.size, 0, none⟩) (M.length + 1) cap /\ w2.grownBy w4 none)) :
 LtE w W1 nm u1 u3 u4 v' (M ++ [p]) (w4.setCell ⟨w.heap.size + 2, 2, none⟩ v') /\ zN 31 (w.heap.size + 2) w4 #[.string (zW nm), u1, v, u3, u4] := by
 have hk := h.hk
 have h1 := h.chg.size
 have hsz := hb.size
 have tk := xU ht
 have kp : ∀ d, d < V.heap.size -> v.ownBlock ≠ some d -> w4.heap[d]? = V.heap[d]? := fun d hd hn => (tk.2 d (by omega) hn).trans (hb.block d hd)
 have lowr : ∀ d, d < W1.heap.size -> v.ownBlock ≠ some d := fun d hd e => by have := zT h.row d e; omega
 have b3 := h.ob.keep (kp _ (by omega) (lowr _ hk))
 have set : ∀ k, k ≠ w.heap.size + 2 -> (w4.setCell ⟨w.heap.size + 2, 2, none⟩ v').heap[k]? = w4.heap[k]? := fun k hk => Below.heap_setCell w4 ⟨w.heap.size + 2, 2, none⟩ v' k hk
 have np : NB v p.2 := fun k e1 e2 => by have := zR h.row k e1; have := (hq.lt k e2).1; omega
 refine ⟨⟨b3.set 2 v', ?_, fun q hq' => ?_, fun q hq' => ?_, ?_, hk⟩, b3⟩
 ·rw [wD, List.length_append]
  exact zV ho fun k e => set k (by have := zT ho k e; omega)
 ·rcases List.mem_append.1 hq' with hm | hm
  ·have l := h.qs q hm
   exact l.keep fun k e => (set k (by have := (l.lt k e).1; omega)).trans (kp k (l.lt k e).2 (fun e2 => h.ap q hm k e2 e))
  rw [List.mem_singleton.1 hm]
  exact (hq.keep fun k e => (set k (by have := (hq.lt k e).1; omega)).trans (tk.2 k (hq.lt k e).2 (fun e2 => np k e2 e))).base h1
 ·rcases List.mem_append.1 hq' with hm | hm
  ·exact NB.told (h.ap q hm) (fun k e => Nat.lt_of_lt_of_le ((h.qs q hm).lt k e).2 hsz) ht
  rw [List.mem_singleton.1 hm]
  exact NB.told np (fun k e => (hq.lt k e).2) ht
 obtain ⟨row, hg, hrow⟩ := xZ ht
 have c1 : xX (fun k => k = w.heap.size + 2 \/ W1.heap.size <= k) V w2 := xX.of_below hb
 have c2 : xX (fun k => k = w.heap.size + 2 \/ W1.heap.size <= k) w2 w4 := xX.grown hg fun k e => .inr (zT h.row k (hrow k e))
 exact ((h.chg.trans' c1).trans' c2).trans' (xX.set w4 (.inl rfl) 2 v')
def rV (B : Nat) (w : World) (a : Option Addr) (c : Nat) (As : List GE) : Prop := ∃ (b : Nat) (M : List (GE × Value)), a = some ⟨b, 0, none⟩ /\ B <= b /\ As.length + 1 <= c /\ M.map Prod.fst = As /\ w.ownsRow B 64 5 (.slice a (As.length + 1) c) (As.length + 1) (M.flatMap eP ++ eP rX) /\ ∀ p ∈ M, tV B w p.2 p.1.start
theorem rV.keep {B : Nat} {w w' : World} {a : Option Addr} {c : Nat} {As : List GE} (h : rV B w a c As) (hk : ∀ k, B <= k -> k < w.heap.size -> w'.heap[k]? = w.heap[k]?) : rV B w' a c As := by
 obtain ⟨b, M, h1, h2, h3, h4, h5, h6⟩ := h
 exact ⟨b, M, h1, h2, h3, h4, zV h5 fun k e => hk k (zT h5 k e) (zR h5 k e), fun p hp => (h6 p hp).keep fun k e => hk k ((h6 p hp).lt k e).1 ((h6 p hp).lt k e).2⟩
theorem rV.base {B B' : Nat} {w : World} {a : Option Addr} {c : Nat} {As : List GE} (h : rV B w a c As) (hb : B' <= B) : rV B' w a c As := by
 obtain ⟨b, M, h1, h2, h3, h4, h5, h6⟩ := h
 exact ⟨b, M, h1, Nat.le_trans hb h2, h3, h4, xK h5 hb, fun p hp => (h6 p hp).base hb⟩
theorem rV.gr {B : Nat} {w : World} {a : Option Addr} {c : Nat} {As : List GE} (h : rV B w a c As) (ho : ∀ x ∈ As, xL x.start) : fA w a As := by
 obtain ⟨b, M, rfl, -, -, h4, h5, h6⟩ := h
 have hl : M.length = As.length := by rw [<- h4, List.length_map]
 rw [<- hl] at h5
 have r := nG (n := M.length) (cp := c) (oI h5 (pD eP 5 tQ M) (Nat.le_succ _)) (fun p hp => by
  have hx := ho p.1 (by rw [<- h4]; exact List.mem_map_of_mem hp)
  obtain ⟨gq, e, hq⟩ := h6 p hp
  exact ⟨_, _, e, hq.arg hx⟩)
 rw [h4] at r
 exact r
theorem sJ.base {B B' : Nat} {w : World} {a : Option Addr} {c : Nat} {Ps : List GP} (h : sJ B w a c Ps) (hb : B' <= B) : sJ B' w a c Ps := by
 obtain ⟨b, h1, h2, h3, h4⟩ := h
 exact ⟨b, h1, Nat.le_trans hb h2, h3, xK h4 hb⟩
structure gJ (B : Nat) (w : World) (x1 x2 x3 x4 : Option Addr) (c1 c2 c3 c4 : Nat) (g : GG) : Prop where
 a : rW B w x1 c1 g.A
 e : rV B w x2 c2 g.E
 i : sJ B w x3 c3 g.ins
 o : sJ B w x4 c4 g.outs
theorem gJ.keep {B : Nat} {w w' : World} {x1 x2 x3 x4 : Option Addr} {c1 c2 c3 c4 : Nat} {g : GG} (h : gJ B w x1 x2 x3 x4 c1 c2 c3 c4 g) (hk : ∀ k, B <= k -> k < w.heap.size -> w'.heap[k]? = w.heap[k]?) : gJ B w' x1 x2 x3 x4 c1 c2 c3 c4 g := ⟨h.a.keep hk, h.e.keep hk, h.i.keep hk, h.o.keep hk⟩
def VA (g : GG) : Prop := (∀ x ∈ g.A, x.tag <= 255 /\ xL x.params) /\ (∀ x ∈ g.E, xL x.start)
theorem sH.nums {w : World} {a1 a2 a3 a4 : Option Addr} {g : GG} (h : sH w a1 a2 a3 a4 g) : VA g := by
 refine ⟨fun x hx => ?_, fun x hx => ?_⟩
 ·obtain ⟨k, hk, rfl⟩ := TT hx
  rcases h.A with e | ⟨b, off, -, hc⟩
  ·rw [e] at hk; exact absurd hk (Nat.not_lt_zero _)
  obtain ⟨-, -, h3, y, c, -, h5⟩ := hc k hk
  exact ⟨h3, h5.fits, h5.reach⟩
 obtain ⟨k, hk, rfl⟩ := TS hx
 rcases h.E with e | ⟨b, off, -, hc⟩
 ·rw [e] at hk; exact absurd hk (Nat.not_lt_zero _)
 obtain ⟨-, -, -, -, y, c, -, h5⟩ := hc k hk
 exact ⟨h5.fits, h5.reach⟩
theorem gJ.gr {B : Nat} {w : World} {x1 x2 x3 x4 : Option Addr} {c1 c2 c3 c4 : Nat} {g : GG} (h : gJ B w x1 x2 x3 x4 c1 c2 c3 c4 g) (ho : VA g) (hl : Light g) : sH w x1 x2 x3 x4 g :=
 ⟨h.a.gr ho.1, h.e.gr ho.2, h.i.at, h.o.at, Nat.le_trans hl.a (by decide), Nat.le_trans hl.e (by decide), Nat.le_trans hl.i (by decide), Nat.le_trans hl.o (by decide)⟩
structure LB (w : World) (gv : Array Value) (u : World) : Prop where
 i : zN 31 w.heap.size u gv
 r : zN 31 (w.heap.size + 1) u #[.string ⟨#[]⟩, .slice none 0 0, .slice none 0 0, .slice none 0 0, .slice none 0 0]
 bel : Below w.heap.size w u
theorem LB.below {w gv} {u u' : World} (h : LB w gv u) (hb : Below u.heap.size u u') : LB w gv u' := ⟨h.i.below hb, h.r.below hb, h.bel.trans (hb.mono h.bel.size)⟩
theorem LB.chg {w gv} {u u' : World} {N : Nat} (h : LB w gv u) (hc : xX (fun k => k = w.heap.size + 2 \/ N <= k) u u') (hN : w.heap.size + 2 < N) : LB w gv u' :=
 ⟨h.i.keep (hc.block _ h.i.lt (by omega)), h.r.keep (hc.block _ h.r.lt (by omega)), h.bel.trans (hc.below (L := w.heap.size) (fun k e => by omega) h.bel.size)⟩
theorem LB.set {w gv} {u : World} (h : LB w gv u) (f : Nat) (v : Value) : LB w gv (u.setCell ⟨w.heap.size + 2, f, none⟩ v) :=
 ⟨h.i.keep (Below.heap_setCell _ ⟨w.heap.size + 2, f, none⟩ _ _ (by show w.heap.size ≠ w.heap.size + 2; omega)), h.r.keep (Below.heap_setCell _ ⟨w.heap.size + 2, f, none⟩ _ _ (by show w.heap.size + 1 ≠ w.heap.size + 2; omega)), h.bel.setCell (p := ⟨w.heap.size + 2, f, none⟩) (Nat.le_add_right _ 2) _⟩
theorem nV (b : Int) (w : World) : Calls Try.prog 68 #[.int .u8 b] w fun e w' => e = .returned (.bool (qL b)) /\ w = w' := by
 by_cases h1 : (97 : Int) <= b <;> by_cases h2 : b <= 122 <;>
 ·have e : qL b = (decide (97 <= b) && decide (b <= 122)) := rfl
  simp only [h1, h2, decide_true, decide_false, Bool.and_true, Bool.and_false] at e
  rw [e]
  go_enter Try.func68, Try.ntmps68
  go_wp2
  go_ret
  exact ⟨rfl, rfl⟩
theorem eO (b : Int) (w : World) : Calls Try.prog 83 #[.int .u8 b] w fun e w' => e = .returned (.bool (jQ b)) /\ w = w' := by
 by_cases h1 : (48 : Int) <= b <;> by_cases h2 : b <= 57 <;>
 ·have e : jQ b = (decide (48 <= b) && decide (b <= 57)) := rfl
  simp only [h1, h2, decide_true, decide_false, Bool.and_true, Bool.and_false] at e
  rw [e]
  go_enter Try.func83, Try.ntmps83
  go_wp2
  go_ret
  exact ⟨rfl, rfl⟩
theorem gI (b : Int) (w : World) : Calls Try.prog 69 #[.int .u8 b] w fun e w' => e = .returned (.bool (vY b)) /\ w = w' := by
 have e : vY b = (qL b || jQ b || decide (b = 95)) := rfl
 rw [e]
 clear e
 have h1 := wN (nV b)
 have h2 := wN (eO b)
 generalize qL b = x at *
 generalize jQ b = y at *
 cases x <;> cases y
 ·by_cases h3 : b = 95
  ·subst h3
   go_enter Try.func69, Try.ntmps69
   go_wp2_with (first
    | (go_at_call 83; (with_reducible refine (h2.out _).mono ?_); rintro e w' ⟨rfl, rfl⟩)
    | (go_at_call 68; (with_reducible refine (h1.out _).mono ?_); rintro e w' ⟨rfl, rfl⟩))
   go_ret
   exact ⟨rfl, rfl⟩
  have d3 : decide (b = 95) = false := decide_eq_false h3
  go_enter Try.func69, Try.ntmps69
  go_wp2_with (first
   | (go_at_call 83; (with_reducible refine (h2.out _).mono ?_); rintro e w' ⟨rfl, rfl⟩)
   | (go_at_call 68; (with_reducible refine (h1.out _).mono ?_); rintro e w' ⟨rfl, rfl⟩))
  go_ret
  exact ⟨by simp [h3], rfl⟩
 all_goals
  go_enter Try.func69, Try.ntmps69
  go_wp2_with (first
   | (go_at_call 83; (with_reducible refine (h2.out _).mono ?_); rintro e w' ⟨rfl, rfl⟩)
   | (go_at_call 68; (with_reducible refine (h1.out _).mono ?_); rintro e w' ⟨rfl, rfl⟩))
  go_ret
  exact ⟨rfl, rfl⟩
theorem ZA {p : Int -> Bool} {l : List UInt8} {i : Nat} (h : i <= vT p l) (hi : i < l.length) (hp : p (oX l i) = true) : i + 1 <= vT p l := by
 rcases Nat.lt_or_ge i (vT p l) with h1 | h1
 ·exact h1
 have e : vT p l = i := by omega
 have := mY p l (by omega)
 rw [e, hp] at this
 cases this
theorem rE (l : List UInt8) (w : World) : Calls Try.prog 48 #[.string (zW l)] w fun e w' => e = .returned (.bool (yM l)) /\ w = w' := by
 have e1 := wH l
 have en : yM l = (decide (l.length <= 16) && (qL (oX l 0) && decide (vT vY l = l.length))) := rfl
 by_cases h0 : l.length = 0
 ·have i1 : (l.length : Int) < 1 := by omega
  have e2 : yM l = false := by
   have : l = [] := List.eq_nil_of_length_eq_zero h0
   subst this; rfl
  rw [e2]
  go_enter Try.func48, Try.ntmps48
  go_wp2
  go_ret
  exact ⟨rfl, rfl⟩
 have i1 : ¬ ((l.length : Int) < 1) := by omega
 have i1' : decide ((l.length : Int) < 1) = false := decide_eq_false i1
 by_cases h1 : l.length <= 16
 ·have i2 : ¬ ((16 : Int) < (l.length : Int)) := by omega
  have i2' : decide ((16 : Int) < (l.length : Int)) = false := decide_eq_false i2
  have g0 := nM l 0 (by rw [e1]; omega)
  have i3 : (0 : Int) < (l.length : Int) := by omega
  have HL := wN (nV (oX l 0))
  rw [decide_eq_true h1, Bool.true_and] at en
  by_cases hl : qL (oX l 0) = true
  ·rw [hl] at HL
   rw [hl, Bool.true_and] at en
   rw [en]
   clear en hl
   have HR := wN (fun i => ZA (p := vY) (l := l) (i := i))
   have HO := wN (nN vY l)
   generalize hN : vT vY l = N at *
   go_enter Try.func48, Try.ntmps48
   go_wp2_with (go_at_call 68; (with_reducible refine (HL.out _).mono ?_); rintro e w' ⟨rfl, rfl⟩)
   go_loopg [3] l.length (fun gk v wr => ∃ i, i <= l.length /\ gk = l.length - i /\ v = .int .i64 i /\ wr = w /\ i <= N)
   case atStart => exact ⟨0, Nat.zero_le _, rfl, rfl, rfl, Nat.zero_le _⟩
   case round =>
    obtain ⟨i, hi, rfl, rfl, rfl, hiN⟩ := hrel
    by_cases hlt : i < l.length
    ·have j1 : (i : Int) < (l.length : Int) := by omega
     have gi := nM l i (by rw [e1]; exact hlt)
     have HI := wN (gI (oX l i))
     by_cases hw : vY (oX l i) = true
     ·have HN : Hid (i + 1 <= N) := HR.out i hiN hlt hw
      rw [hw] at HI
      clear hw HR hN
      go_wp2_with (go_at_call 69; (with_reducible refine (HI.out _).mono ?_); rintro e w' ⟨rfl, rfl⟩)
      go_roundg (l.length - (i + 1))
      case measure => omega
      case rel => exact ⟨i + 1, by omega, rfl, by go_num, rfl, HN.out⟩
     have hw' : vY (oX l i) = false := by simpa using hw
     have HN : Hid (N ≠ l.length) := by
      intro e
      have := jP vY l i (by rw [hN]; omega)
      exact hw this
     rw [hw'] at HI
     clear hw hw' HR hN
     go_wp2_with (go_at_call 69; (with_reducible refine (HI.out _).mono ?_); rintro e w' ⟨rfl, rfl⟩)
     go_ret
     exact ⟨by rw [decide_eq_false HN.out]; rfl, rfl⟩
    have ei : i = l.length := by omega
    subst ei
    have jn : ¬ ((l.length : Int) < (l.length : Int)) := by omega
    have HN : Hid (N = l.length) := by show N = _; have := HO.out; omega
    clear hN HR
    go_wp2
    go_ret
    exact ⟨by rw [decide_eq_true HN.out]; rfl, rfl⟩
  have hl' : qL (oX l 0) = false := by simpa using hl
  rw [hl'] at HL
  rw [hl', Bool.false_and] at en
  rw [en]
  go_enter Try.func48, Try.ntmps48
  go_wp2_with (go_at_call 68; (with_reducible refine (HL.out _).mono ?_); rintro e w' ⟨rfl, rfl⟩)
  go_ret
  exact ⟨rfl, rfl⟩
 have i2 : (16 : Int) < (l.length : Int) := by omega
 rw [decide_eq_false h1, Bool.false_and] at en
 rw [en]
 go_enter Try.func48, Try.ntmps48
 go_wp2
 go_ret
 exact ⟨rfl, rfl⟩
theorem gH {Es : List GE} {n j : Nat} {P : GE -> Bool} (hj : j < n) (hn : n <= Es.length) (h : P (yU Es j) = true) : (Es.take n).any P = true := by
 rw [List.any_eq_true]
 exact ⟨yU Es j, by rw [tH (by omega)]; exact List.mem_iff_getElem.2 ⟨j, by rw [List.length_take]; omega, by rw [List.getElem_take]⟩, h⟩
theorem dF {Es : List GE} {n : Nat} {P : GE -> Bool} (hn : n <= Es.length) (h : ∀ j, j < n -> P (yU Es j) = false) : (Es.take n).any P = false := by
 rw [List.any_eq_false]
 intro x hx
 obtain ⟨j, hj, rfl⟩ := List.mem_iff_getElem.1 hx
 rw [List.length_take] at hj
 rw [List.getElem_take, <- tH (by omega), h j (by omega)]
 decide
theorem pB {Es : List GP} {n j : Nat} {P : GP -> Bool} (hj : j < n) (hn : n <= Es.length) (h : P (zF Es j) = true) : (Es.take n).any P = true := by
 rw [List.any_eq_true]
 exact ⟨zF Es j, by rw [pH (by omega)]; exact List.mem_iff_getElem.2 ⟨j, by rw [List.length_take]; omega, by rw [List.getElem_take]⟩, h⟩
theorem nD {Es : List GP} {n : Nat} {P : GP -> Bool} (hn : n <= Es.length) (h : ∀ j, j < n -> P (zF Es j) = false) : (Es.take n).any P = false := by
 rw [List.any_eq_false]
 intro x hx
 obtain ⟨j, hj, rfl⟩ := List.mem_iff_getElem.1 hx
 rw [List.length_take] at hj
 rw [List.getElem_take, <- pH (by omega), h j (by omega)]
 decide
theorem YZ {Es : List GA} {n j : Nat} {P : GA -> Bool} (hj : j < n) (hn : n <= Es.length) (h : P (zI Es j) = true) : (Es.take n).any P = true := by
 rw [List.any_eq_true]
 exact ⟨zI Es j, by rw [tI (by omega)]; exact List.mem_iff_getElem.2 ⟨j, by rw [List.length_take]; omega, by rw [List.getElem_take]⟩, h⟩
theorem VY {Es : List GA} {n : Nat} {P : GA -> Bool} (hn : n <= Es.length) (h : ∀ j, j < n -> P (zI Es j) = false) : (Es.take n).any P = false := by
 rw [List.any_eq_false]
 intro x hx
 obtain ⟨j, hj, rfl⟩ := List.mem_iff_getElem.1 hx
 rw [List.length_take] at hj
 rw [List.getElem_take, <- tI (by omega), h j (by omega)]
 decide
def qX (w : World) (gv : Array Value) (u : World) : Prop := zN 31 w.heap.size u gv /\ Below w.heap.size w u
theorem vP (w : World) (gv : Array Value) : qX w gv (w.alloc (.cells gv 31)) := ⟨zU 31 w gv, (Below.refl _ _).alloc (Nat.le_refl _) _⟩
theorem sP (g : GG) (a1 a2 a3 a4 : Option Addr) (c1 c2 c3 c4 : Nat) (ne no : Nat) (ac po : Int) (w : World) (h : sH w a1 a2 a3 a4 g) (h1 : ne <= g.E.length) (h2 : no <= g.outs.length) :
 Calls Try.prog 73 #[.agg #[.string (zW g.name), .slice a1 g.A.length c1, .slice a2 g.E.length c2, .slice a3 g.ins.length c3, .slice a4 g.outs.length c4], .int .i64 (ne : Int), .int .i64 (no : Int), .int .i64 ac, .int .i64 po] w fun e w' => e = .returned (.bool (xI g ne no ac po)) /\ Below w.heap.size w w' := by
 have HG := zZ h
 have b2 := h.l2
 have b3 := h.l4
 have neI : (ne : Int) <= 1000000000000000 := by omega
 have noI : (no : Int) <= 1000000000000000 := by omega
 have B0 := zZ (vP w #[.string (zW g.name), .slice a1 g.A.length c1, .slice a2 g.E.length c2, .slice a3 g.ins.length c3, .slice a4 g.outs.length c4])
 have HT : Hid (xI g ne no ac po = ((g.E.take ne).any (fun e => e.f == ac && e.fp == po) || (g.outs.take no).any (fun q => q.actor == ac && q.port == po))) := by rfl
 clear h
 go_enter Try.func73, Try.ntmps73
 go_wp2
 go_loopg [11] ne (fun gk v wr => ∃ k : Nat, k <= ne /\ gk = ne - k /\ v = .int .i64 (k : Int) /\ qX w #[.string (zW g.name), .slice a1 g.A.length c1, .slice a2 g.E.length c2, .slice a3 g.ins.length c3, .slice a4 g.outs.length c4] wr /\ ∀ j, j < k -> ((yU g.E j).f == ac && (yU g.E j).fp == po) = false)
 case atStart => exact ⟨0, Nat.zero_le _, rfl, rfl, B0.out, fun j hj => absurd hj (Nat.not_lt_zero _)⟩
 case round =>
  clear B0
  obtain ⟨k, hk, rfl, rfl, hB, hall⟩ := hrel
  have HB := zZ hB
  have HAL := zZ hall
  have y2 : wr.cell? ⟨w.heap.size, 2, none⟩ = some (.slice a2 g.E.length c2) := hB.1.cell rfl
  have y4 : wr.cell? ⟨w.heap.size, 4, none⟩ = some (.slice a4 g.outs.length c4) := hB.1.cell rfl
  clear hB hall
  by_cases hlt : k < ne
  ·have hki : (k : Int) < (ne : Int) := by omega
   have hkl : k < g.E.length := by omega
   have hkI : (k : Int) < (g.E.length : Int) := by omega
   rcases (HG.out.below HB.out.2).E with e | ⟨b, off, rfl, hc⟩
   ·rw [e] at hkl; exact absurd hkl (Nat.not_lt_zero _)
   obtain ⟨x0, x1, x2, x3, -⟩ := hc k hkl
   clear hc
   have HYES : Hid (((yU g.E k).f == ac && (yU g.E k).fp == po) = true -> xI g ne no ac po = true) := fun e => by rw [HT.out, gH hlt h1 e, Bool.true_or]
   have HNO : Hid (((yU g.E k).f == ac && (yU g.E k).fp == po) = false -> ∀ j, j < k + 1 -> ((yU g.E j).f == ac && (yU g.E j).fp == po) = false) := fun e j hj => by
    by_cases q : j < k
    ·exact HAL.out j q
    rw [show j = k by omega]; exact e
   generalize yU g.E k = E at *
   obtain ⟨ef, efp, et, etp, es⟩ := E
   simp only at x0 x1 x2 x3 HYES HNO
   obtain ⟨q1, hq1⟩ : ∃ q, (ef == ac) = q := ⟨_, rfl⟩
   obtain ⟨q2, hq2⟩ : ∃ q, (efp == po) = q := ⟨_, rfl⟩
   rw [hq1, hq2] at HYES HNO
   cases q1
   ·go_wp2
    go_roundg (ne - (k + 1))
    case measure => omega
    case rel => exact ⟨k + 1, by omega, rfl, by go_num, HB.out, HNO.out rfl⟩
   cases q2
   ·go_wp2
    go_roundg (ne - (k + 1))
    case measure => omega
    case rel => exact ⟨k + 1, by omega, rfl, by go_num, HB.out, HNO.out rfl⟩
   go_wp2
   go_ret
   exact ⟨by rw [HYES.out rfl]; rfl, HB.out.2⟩
  have hki : ¬ (k : Int) < (ne : Int) := by omega
  have HE0 : Hid ((g.E.take ne).any (fun e => e.f == ac && e.fp == po) = false) := dF h1 (fun j hj => HAL.out j (by omega))
  clear y2 y4 HAL hlt hk
  go_wp2
  go_loopg [12] no (fun gk v wr => ∃ k : Nat, k <= no /\ gk = no - k /\ v = .int .i64 (k : Int) /\ qX w #[.string (zW g.name), .slice a1 g.A.length c1, .slice a2 g.E.length c2, .slice a3 g.ins.length c3, .slice a4 g.outs.length c4] wr /\ ∀ j, j < k -> ((zF g.outs j).actor == ac && (zF g.outs j).port == po) = false)
  case atStart => exact ⟨0, Nat.zero_le _, rfl, rfl, HB.out, fun j hj => absurd hj (Nat.not_lt_zero _)⟩
  case round =>
   clear HB hki
   obtain ⟨k, hk, rfl, rfl, hB, hall⟩ := hrel
   have HB := zZ hB
   have HAL := zZ hall
   have y4 : wr.cell? ⟨w.heap.size, 4, none⟩ = some (.slice a4 g.outs.length c4) := hB.1.cell rfl
   clear hB hall
   by_cases hlt : k < no
   ·have hki : (k : Int) < (no : Int) := by omega
    have hkl : k < g.outs.length := by omega
    have hkI : (k : Int) < (g.outs.length : Int) := by omega
    rcases (HG.out.below HB.out.2).O with e | ⟨b, off, rfl, hc⟩
    ·rw [e] at hkl; exact absurd hkl (Nat.not_lt_zero _)
    obtain ⟨-, x1, x2⟩ := hc k hkl
    clear hc
    have HYES : Hid (((zF g.outs k).actor == ac && (zF g.outs k).port == po) = true -> xI g ne no ac po = true) := fun e => by rw [HT.out, HE0.out, pB hlt h2 e, Bool.false_or]
    have HNO : Hid (((zF g.outs k).actor == ac && (zF g.outs k).port == po) = false -> ∀ j, j < k + 1 -> ((zF g.outs j).actor == ac && (zF g.outs j).port == po) = false) := fun e j hj => by
     by_cases q : j < k
     ·exact HAL.out j q
     rw [show j = k by omega]; exact e
    generalize zF g.outs k = E at *
    obtain ⟨pn, pa, pp⟩ := E
    simp only at x1 x2 HYES HNO
    obtain ⟨q1, hq1⟩ : ∃ q, (pa == ac) = q := ⟨_, rfl⟩
    obtain ⟨q2, hq2⟩ : ∃ q, (pp == po) = q := ⟨_, rfl⟩
    rw [hq1, hq2] at HYES HNO
    cases q1
    ·go_wp2
     go_roundg (no - (k + 1))
     case measure => omega
     case rel => exact ⟨k + 1, by omega, rfl, by go_num, HB.out, HNO.out rfl⟩
    cases q2
    ·go_wp2
     go_roundg (no - (k + 1))
     case measure => omega
     case rel => exact ⟨k + 1, by omega, rfl, by go_num, HB.out, HNO.out rfl⟩
    go_wp2
    go_ret
    exact ⟨by rw [HYES.out rfl]; rfl, HB.out.2⟩
   have hki : ¬ (k : Int) < (no : Int) := by omega
   have HP0 : Hid (xI g ne no ac po = false) := by show _ = _; rw [HT.out, HE0.out, nD h2 (fun j hj => HAL.out j (by omega))]; rfl
   go_wp2
   go_ret
   exact ⟨by rw [HP0.out]; rfl, HB.out.2⟩
theorem rU (g : GG) (a1 a2 a3 a4 : Option Addr) (c1 c2 c3 c4 : Nat) (ne no : Nat) (ac po : Int) (w : World) (h : sH w a1 a2 a3 a4 g) (h1 : ne <= g.E.length) (h2 : no <= g.ins.length) :
 Calls Try.prog 74 #[.agg #[.string (zW g.name), .slice a1 g.A.length c1, .slice a2 g.E.length c2, .slice a3 g.ins.length c3, .slice a4 g.outs.length c4], .int .i64 (ne : Int), .int .i64 (no : Int), .int .i64 ac, .int .i64 po] w fun e w' => e = .returned (.bool (vS g ne no ac po)) /\ Below w.heap.size w w' := by
 have HG := zZ h
 have b2 := h.l2
 have b3 := h.l3
 have neI : (ne : Int) <= 1000000000000000 := by omega
 have noI : (no : Int) <= 1000000000000000 := by omega
 have B0 := zZ (vP w #[.string (zW g.name), .slice a1 g.A.length c1, .slice a2 g.E.length c2, .slice a3 g.ins.length c3, .slice a4 g.outs.length c4])
 have HT : Hid (vS g ne no ac po = ((g.E.take ne).any (fun e => e.t == ac && e.tp == po) || (g.ins.take no).any (fun q => q.actor == ac && q.port == po))) := by rfl
 clear h
 go_enter Try.func74, Try.ntmps74
 go_wp2
 go_loopg [11] ne (fun gk v wr => ∃ k : Nat, k <= ne /\ gk = ne - k /\ v = .int .i64 (k : Int) /\ qX w #[.string (zW g.name), .slice a1 g.A.length c1, .slice a2 g.E.length c2, .slice a3 g.ins.length c3, .slice a4 g.outs.length c4] wr /\ ∀ j, j < k -> ((yU g.E j).t == ac && (yU g.E j).tp == po) = false)
 case atStart => exact ⟨0, Nat.zero_le _, rfl, rfl, B0.out, fun j hj => absurd hj (Nat.not_lt_zero _)⟩
 case round =>
  clear B0
  obtain ⟨k, hk, rfl, rfl, hB, hall⟩ := hrel
  have HB := zZ hB
  have HAL := zZ hall
  have y2 : wr.cell? ⟨w.heap.size, 2, none⟩ = some (.slice a2 g.E.length c2) := hB.1.cell rfl
  have y4 : wr.cell? ⟨w.heap.size, 3, none⟩ = some (.slice a3 g.ins.length c3) := hB.1.cell rfl
  clear hB hall
  by_cases hlt : k < ne
  ·have hki : (k : Int) < (ne : Int) := by omega
   have hkl : k < g.E.length := by omega
   have hkI : (k : Int) < (g.E.length : Int) := by omega
   rcases (HG.out.below HB.out.2).E with e | ⟨b, off, rfl, hc⟩
   ·rw [e] at hkl; exact absurd hkl (Nat.not_lt_zero _)
   obtain ⟨x0, x1, x2, x3, -⟩ := hc k hkl
   clear hc
   have HYES : Hid (((yU g.E k).t == ac && (yU g.E k).tp == po) = true -> vS g ne no ac po = true) := fun e => by rw [HT.out, gH hlt h1 e, Bool.true_or]
   have HNO : Hid (((yU g.E k).t == ac && (yU g.E k).tp == po) = false -> ∀ j, j < k + 1 -> ((yU g.E j).t == ac && (yU g.E j).tp == po) = false) := fun e j hj => by
    by_cases q : j < k
    ·exact HAL.out j q
    rw [show j = k by omega]; exact e
   generalize yU g.E k = E at *
   obtain ⟨ef, efp, et, etp, es⟩ := E
   simp only at x0 x1 x2 x3 HYES HNO
   obtain ⟨q1, hq1⟩ : ∃ q, (et == ac) = q := ⟨_, rfl⟩
   obtain ⟨q2, hq2⟩ : ∃ q, (etp == po) = q := ⟨_, rfl⟩
   rw [hq1, hq2] at HYES HNO
   cases q1
   ·go_wp2
    go_roundg (ne - (k + 1))
    case measure => omega
    case rel => exact ⟨k + 1, by omega, rfl, by go_num, HB.out, HNO.out rfl⟩
   cases q2
   ·go_wp2
    go_roundg (ne - (k + 1))
    case measure => omega
    case rel => exact ⟨k + 1, by omega, rfl, by go_num, HB.out, HNO.out rfl⟩
   go_wp2
   go_ret
   exact ⟨by rw [HYES.out rfl]; rfl, HB.out.2⟩
  have hki : ¬ (k : Int) < (ne : Int) := by omega
  have HE0 : Hid ((g.E.take ne).any (fun e => e.t == ac && e.tp == po) = false) := dF h1 (fun j hj => HAL.out j (by omega))
  clear y2 y4 HAL hlt hk
  go_wp2
  go_loopg [12] no (fun gk v wr => ∃ k : Nat, k <= no /\ gk = no - k /\ v = .int .i64 (k : Int) /\ qX w #[.string (zW g.name), .slice a1 g.A.length c1, .slice a2 g.E.length c2, .slice a3 g.ins.length c3, .slice a4 g.outs.length c4] wr /\ ∀ j, j < k -> ((zF g.ins j).actor == ac && (zF g.ins j).port == po) = false)
  case atStart => exact ⟨0, Nat.zero_le _, rfl, rfl, HB.out, fun j hj => absurd hj (Nat.not_lt_zero _)⟩
  case round =>
   clear HB hki
   obtain ⟨k, hk, rfl, rfl, hB, hall⟩ := hrel
   have HB := zZ hB
   have HAL := zZ hall
   have y4 : wr.cell? ⟨w.heap.size, 3, none⟩ = some (.slice a3 g.ins.length c3) := hB.1.cell rfl
   clear hB hall
   by_cases hlt : k < no
   ·have hki : (k : Int) < (no : Int) := by omega
    have hkl : k < g.ins.length := by omega
    have hkI : (k : Int) < (g.ins.length : Int) := by omega
    rcases (HG.out.below HB.out.2).I with e | ⟨b, off, rfl, hc⟩
    ·rw [e] at hkl; exact absurd hkl (Nat.not_lt_zero _)
    obtain ⟨-, x1, x2⟩ := hc k hkl
    clear hc
    have HYES : Hid (((zF g.ins k).actor == ac && (zF g.ins k).port == po) = true -> vS g ne no ac po = true) := fun e => by rw [HT.out, HE0.out, pB hlt h2 e, Bool.false_or]
    have HNO : Hid (((zF g.ins k).actor == ac && (zF g.ins k).port == po) = false -> ∀ j, j < k + 1 -> ((zF g.ins j).actor == ac && (zF g.ins j).port == po) = false) := fun e j hj => by
     by_cases q : j < k
     ·exact HAL.out j q
     rw [show j = k by omega]; exact e
    generalize zF g.ins k = E at *
    obtain ⟨pn, pa, pp⟩ := E
    simp only at x1 x2 HYES HNO
    obtain ⟨q1, hq1⟩ : ∃ q, (pa == ac) = q := ⟨_, rfl⟩
    obtain ⟨q2, hq2⟩ : ∃ q, (pp == po) = q := ⟨_, rfl⟩
    rw [hq1, hq2] at HYES HNO
    cases q1
    ·go_wp2
     go_roundg (no - (k + 1))
     case measure => omega
     case rel => exact ⟨k + 1, by omega, rfl, by go_num, HB.out, HNO.out rfl⟩
    cases q2
    ·go_wp2
     go_roundg (no - (k + 1))
     case measure => omega
     case rel => exact ⟨k + 1, by omega, rfl, by go_num, HB.out, HNO.out rfl⟩
    go_wp2
    go_ret
    exact ⟨by rw [HYES.out rfl]; rfl, HB.out.2⟩
   have hki : ¬ (k : Int) < (no : Int) := by omega
   have HP0 : Hid (vS g ne no ac po = false) := by show _ = _; rw [HT.out, HE0.out, nD h2 (fun j hj => HAL.out j (by omega))]; rfl
   go_wp2
   go_ret
   exact ⟨by rw [HP0.out]; rfl, HB.out.2⟩
theorem iX (x y : List UInt8) : ((zW x).toList == (zW y).toList) = (x == y) := by rw [rN, rN]
theorem oH (g : GG) (a1 a2 a3 a4 : Option Addr) (c1 c2 c3 c4 : Nat) (na ni no : Nat) (x : List UInt8) (w : World) (h : sH w a1 a2 a3 a4 g) (h1 : na <= g.A.length) (h2 : ni <= g.ins.length) (h3 : no <= g.outs.length) :
 Calls Try.prog 70 #[.agg #[.string (zW g.name), .slice a1 g.A.length c1, .slice a2 g.E.length c2, .slice a3 g.ins.length c3, .slice a4 g.outs.length c4], .int .i64 (na : Int), .int .i64 (ni : Int), .int .i64 (no : Int), .string (zW x)] w fun e w' => e = .returned (.bool (yX g na ni no x)) /\ Below w.heap.size w w' := by
 have HG := zZ h
 have l1 := h.l1
 have l3 := h.l3
 have l4 := h.l4
 have naI : (na : Int) <= 1000000000000000 := by omega
 have niI : (ni : Int) <= 1000000000000000 := by omega
 have noI : (no : Int) <= 1000000000000000 := by omega
 have B0 := zZ (vP w #[.string (zW g.name), .slice a1 g.A.length c1, .slice a2 g.E.length c2, .slice a3 g.ins.length c3, .slice a4 g.outs.length c4])
 have HT : Hid (yX g na ni no x = ((g.A.take na).any (fun a => a.name == x) || ((g.ins.take ni).any (fun p => p.name == x) || (g.outs.take no).any (fun p => p.name == x)))) := by rfl
 clear h
 go_enter Try.func70, Try.ntmps70
 go_wp2
 go_loopg [11] na (fun gk v wr => ∃ k : Nat, k <= na /\ gk = na - k /\ v = .int .i64 (k : Int) /\ qX w #[.string (zW g.name), .slice a1 g.A.length c1, .slice a2 g.E.length c2, .slice a3 g.ins.length c3, .slice a4 g.outs.length c4] wr /\ ∀ j, j < k -> ((zI g.A j).name == x) = false)
 case atStart => exact ⟨0, Nat.zero_le _, rfl, rfl, B0.out, fun j hj => absurd hj (Nat.not_lt_zero _)⟩
 case round =>
  clear B0
  obtain ⟨k, hk, rfl, rfl, hB, hall⟩ := hrel
  have HB := zZ hB
  have HAL := zZ hall
  have y4 : wr.cell? ⟨w.heap.size, 1, none⟩ = some (.slice a1 g.A.length c1) := hB.1.cell rfl
  clear hB hall
  by_cases hlt : k < na
  ·have hki : (k : Int) < (na : Int) := by omega
   have hkl : k < g.A.length := by omega
   have hkI : (k : Int) < (g.A.length : Int) := by omega
   rcases (HG.out.below HB.out.2).A with e | ⟨b, off, rfl, hc⟩
   ·rw [e] at hkl; exact absurd hkl (Nat.not_lt_zero _)
   have x0 := (hc k hkl).1
   clear hc
   have HYES : Hid (((zI g.A k).name == x) = true -> yX g na ni no x = true) := fun e => by rw [HT.out, YZ hlt h1 e, Bool.true_or]
   have HNO : Hid (((zI g.A k).name == x) = false -> ∀ j, j < k + 1 -> ((zI g.A j).name == x) = false) := fun e j hj => by
    by_cases q : j < k
    ·exact HAL.out j q
    rw [show j = k by omega]; exact e
   generalize (zI g.A k).name = en at *
   have hst := iX en x
   obtain ⟨q1, hq1⟩ : ∃ q, (en == x) = q := ⟨_, rfl⟩
   rw [hq1] at HYES HNO hst
   clear hq1
   cases q1
   ·go_wp2
    go_roundg (na - (k + 1))
    case measure => omega
    case rel => exact ⟨k + 1, by omega, rfl, by go_num, HB.out, HNO.out (by trivial)⟩
   go_wp2
   go_ret
   exact ⟨by rw [HYES.out (by trivial)]; rfl, HB.out.2⟩
  have hki : ¬ (k : Int) < (na : Int) := by omega
  have Z0 : Hid ((g.A.take na).any (fun a => a.name == x) = false) := VY h1 (fun j hj => HAL.out j (by omega))
  clear y4 HAL hlt hk
  go_wp2
  go_loopg [12] ni (fun gk v wr => ∃ k : Nat, k <= ni /\ gk = ni - k /\ v = .int .i64 (k : Int) /\ qX w #[.string (zW g.name), .slice a1 g.A.length c1, .slice a2 g.E.length c2, .slice a3 g.ins.length c3, .slice a4 g.outs.length c4] wr /\ ∀ j, j < k -> ((zF g.ins j).name == x) = false)
  case atStart => exact ⟨0, Nat.zero_le _, rfl, rfl, HB.out, fun j hj => absurd hj (Nat.not_lt_zero _)⟩
  case round =>
   clear HB hki
   obtain ⟨k, hk, rfl, rfl, hB, hall⟩ := hrel
   have HB := zZ hB
   have HAL := zZ hall
   have y4 : wr.cell? ⟨w.heap.size, 3, none⟩ = some (.slice a3 g.ins.length c3) := hB.1.cell rfl
   clear hB hall
   by_cases hlt : k < ni
   ·have hki : (k : Int) < (ni : Int) := by omega
    have hkl : k < g.ins.length := by omega
    have hkI : (k : Int) < (g.ins.length : Int) := by omega
    rcases (HG.out.below HB.out.2).I with e | ⟨b, off, rfl, hc⟩
    ·rw [e] at hkl; exact absurd hkl (Nat.not_lt_zero _)
    have x0 := (hc k hkl).1
    clear hc
    have HYES : Hid (((zF g.ins k).name == x) = true -> yX g na ni no x = true) := fun e => by rw [HT.out, Z0.out, pB hlt h2 e, Bool.false_or, Bool.true_or]
    have HNO : Hid (((zF g.ins k).name == x) = false -> ∀ j, j < k + 1 -> ((zF g.ins j).name == x) = false) := fun e j hj => by
     by_cases q : j < k
     ·exact HAL.out j q
     rw [show j = k by omega]; exact e
    generalize (zF g.ins k).name = en at *
    have hst := iX en x
    obtain ⟨q1, hq1⟩ : ∃ q, (en == x) = q := ⟨_, rfl⟩
    rw [hq1] at HYES HNO hst
    clear hq1
    cases q1
    ·go_wp2
     go_roundg (ni - (k + 1))
     case measure => omega
     case rel => exact ⟨k + 1, by omega, rfl, by go_num, HB.out, HNO.out (by trivial)⟩
    go_wp2
    go_ret
    exact ⟨by rw [HYES.out (by trivial)]; rfl, HB.out.2⟩
   have hki : ¬ (k : Int) < (ni : Int) := by omega
   have Z1 : Hid ((g.ins.take ni).any (fun a => a.name == x) = false) := nD h2 (fun j hj => HAL.out j (by omega))
   clear y4 HAL hlt hk
   go_wp2
   go_loopg [13] no (fun gk v wr => ∃ k : Nat, k <= no /\ gk = no - k /\ v = .int .i64 (k : Int) /\ qX w #[.string (zW g.name), .slice a1 g.A.length c1, .slice a2 g.E.length c2, .slice a3 g.ins.length c3, .slice a4 g.outs.length c4] wr /\ ∀ j, j < k -> ((zF g.outs j).name == x) = false)
   case atStart => exact ⟨0, Nat.zero_le _, rfl, rfl, HB.out, fun j hj => absurd hj (Nat.not_lt_zero _)⟩
   case round =>
    clear HB hki
    obtain ⟨k, hk, rfl, rfl, hB, hall⟩ := hrel
    have HB := zZ hB
    have HAL := zZ hall
    have y4 : wr.cell? ⟨w.heap.size, 4, none⟩ = some (.slice a4 g.outs.length c4) := hB.1.cell rfl
    clear hB hall
    by_cases hlt : k < no
    ·have hki : (k : Int) < (no : Int) := by omega
     have hkl : k < g.outs.length := by omega
     have hkI : (k : Int) < (g.outs.length : Int) := by omega
     rcases (HG.out.below HB.out.2).O with e | ⟨b, off, rfl, hc⟩
     ·rw [e] at hkl; exact absurd hkl (Nat.not_lt_zero _)
     have x0 := (hc k hkl).1
     clear hc
     have HYES : Hid (((zF g.outs k).name == x) = true -> yX g na ni no x = true) := fun e => by rw [HT.out, Z0.out, Z1.out, pB hlt h3 e, Bool.false_or, Bool.false_or]
     have HNO : Hid (((zF g.outs k).name == x) = false -> ∀ j, j < k + 1 -> ((zF g.outs j).name == x) = false) := fun e j hj => by
      by_cases q : j < k
      ·exact HAL.out j q
      rw [show j = k by omega]; exact e
     generalize (zF g.outs k).name = en at *
     have hst := iX en x
     obtain ⟨q1, hq1⟩ : ∃ q, (en == x) = q := ⟨_, rfl⟩
     rw [hq1] at HYES HNO hst
     clear hq1
     cases q1
     ·go_wp2
      go_roundg (no - (k + 1))
      case measure => omega
      case rel => exact ⟨k + 1, by omega, rfl, by go_num, HB.out, HNO.out (by trivial)⟩
     go_wp2
     go_ret
     exact ⟨by rw [HYES.out (by trivial)]; rfl, HB.out.2⟩
    have hki : ¬ (k : Int) < (no : Int) := by omega
    have Z2 : Hid ((g.outs.take no).any (fun a => a.name == x) = false) := nD h3 (fun j hj => HAL.out j (by omega))
    have HP0 : Hid (yX g na ni no x = false) := by show _ = _; rw [HT.out, Z0.out, Z1.out, Z2.out]; rfl
    go_wp2
    go_ret
    exact ⟨by rw [HP0.out]; rfl, HB.out.2⟩
def VX (nI nO : Nat) (er : Int) (v : Value) : Prop := ∃ p1 q1 p2 q2, v = .tuple #[.slice p1 nI q1, .slice p2 nO q2, .int .i64 er]
def YD (n : Nat) (v : Value) : Prop := ∃ p q, v = .slice p n q
theorem YY {w w' : World} {t : Nat} {zs : List Int} {nI nO : Nat} {er : Int} {e : Ending} (h : xS w (sE t zs) e w') (h1 : (sE t zs).1.length = nI) (h2 : (sE t zs).2.1.length = nO) (h3 : (sE t zs).2.2 = er) : ∃ v, e = .returned v /\ Below w.heap.size w w' /\ VX nI nO er v := by
 unfold xS at h
 obtain ⟨p1, q1, p2, q2, he, -, -, -, hb⟩ := h
 rw [h1, h2, h3] at he
 exact ⟨_, he, hb, p1, q1, p2, q2, rfl⟩
theorem lT (g : GG) (a1 a2 a3 a4 : Option Addr) (c1 c2 c3 c4 : Nat) (k : Nat) (w : World) (h : sH w a1 a2 a3 a4 g) (hk : k < g.A.length) :
 Calls Try.prog 75 #[.agg #[.string (zW g.name), .slice a1 g.A.length c1, .slice a2 g.E.length c2, .slice a3 g.ins.length c3, .slice a4 g.outs.length c4], .int .i64 (k : Int)] w fun e w' => e = .returned (.tuple #[.int .i64 (uL g k : Int), .int .i64 (wT g k : Int)]) /\ Below w.heap.size w w' := by
 have hki : (k : Int) < (g.A.length : Int) := by omega
 have ba := (Below.refl w.heap.size w).alloc (Nat.le_refl _) (.cells #[.string (zW g.name), .slice a1 g.A.length c1, .slice a2 g.E.length c2, .slice a3 g.ins.length c3, .slice a4 g.outs.length c4] 31)
 have BA := zZ ba
 have g1' := (zU 31 w #[.string (zW g.name), .slice a1 g.A.length c1, .slice a2 g.E.length c2, .slice a3 g.ins.length c3, .slice a4 g.outs.length c4]).cell (k := 1) rfl
 rcases (h.below ba).A with e | ⟨b, off, rfl, hc⟩
 ·rw [e] at hk; exact absurd hk (Nat.not_lt_zero _)
 obtain ⟨-, x1', ht, xa, xc, x2', x3⟩ := hc k hk
 have HI : Hid ((sE (zI g.A k).tag (zI g.A k).params).1.length = uL g k) := by rfl
 have HO : Hid ((sE (zI g.A k).tag (zI g.A k).params).2.1.length = wT g k) := by rfl
 obtain ⟨er, hE⟩ : ∃ q, (sE (zI g.A k).tag (zI g.A k).params).2.2 = q := ⟨_, rfl⟩
 have HE := zZ hE
 have HAR := zZ x3
 have HTT := zZ ht
 have hni : uL g k <= 1024 := (vD _ _).1
 have hno : wT g k <= 1024 := (vD _ _).2
 generalize uL g k = nI at *
 generalize wT g k = nO at *
 generalize zI g.A k = E at *
 obtain ⟨en, tg, ps⟩ := E
 simp only at x1' x2' HI HO HE HAR HTT
 clear hc x3 ht ba h hE
 have OF : Hid (∀ V, Below (w.alloc (.cells #[.string (zW g.name), .slice (some ⟨b, off, none⟩) g.A.length c1, .slice a2 g.E.length c2, .slice a3 g.ins.length c3, .slice a4 g.outs.length c4] 31)).heap.size (w.alloc (.cells #[.string (zW g.name), .slice (some ⟨b, off, none⟩) g.A.length c1, .slice a2 g.E.length c2, .slice a3 g.ins.length c3, .slice a4 g.outs.length c4] 31)) V -> Calls Try.prog 71 #[.int .u8 (tg : Int), .slice xa ps.length xc] V (xS V (sE tg ps))) := fun V hb => dX tg xa ps ps.length xc V HTT.out rfl (HAR.out.below hb).lies
 go_enter Try.func75, Try.ntmps75
 go_upto_region 1 with fail
 generalize w.alloc (.cells #[.string (zW g.name), .slice (some ⟨b, off, none⟩) g.A.length c1, .slice a2 g.E.length c2, .slice a3 g.ins.length c3, .slice a4 g.outs.length c4] 31) = W0 at *
 refine zB [] (fun d i u z => match i with
  | 0 => z = .pointer (some ⟨w.heap.size, 1, none⟩)
  | 1 => z = .slice (some ⟨b, off, none⟩) g.A.length c1
  | 2 => z = .int .i64 (k : Int)
  | 3 => z = .pointer (some ⟨b, off + k * 3, none⟩)
  | 4 => z = .pointer (some ⟨b, off + k * 3 + 1, none⟩)
  | 5 => z = .int .u8 (tg : Int)
  | 6 => z = .pointer (some ⟨w.heap.size, 1, none⟩)
  | 7 => z = .slice (some ⟨b, off, none⟩) g.A.length c1
  | 8 => z = .int .i64 (k : Int)
  | 9 => z = .pointer (some ⟨b, off + k * 3, none⟩)
  | 10 => z = .pointer (some ⟨b, off + k * 3 + 2, none⟩)
  | 11 => z = .slice xa ps.length xc
  | 12 => VX nI nO er z
  | 13 => VX nI nO er z
  | 14 => YD nI z
  | 15 => YD nO z
  | 16 => z = .int .i64 er
  | 17 => YD nI z
  | 18 => YD nO z
  | 19 => z = .int .i64 er
  | _ => True) (fun _ u => Below W0.heap.size W0 u) (by kernel_rfl) (by kernel_rfl) (by kernel_rfl) ?_ ?_ ?_ ?_ ?_ ?_ (by kernel_rfl)
 ·intro d i w v w' h hb
  match i, h with
  | 0, h => exact h
  | 1, h => exact h
  | 2, h => exact h
  | 3, h => exact h
  | 4, h => exact h
  | 5, h => exact h
  | 6, h => exact h
  | 7, h => exact h
  | 8, h => exact h
  | 9, h => exact h
  | 10, h => exact h
  | 11, h => exact h
  | 12, h => exact h
  | 13, h => exact h
  | 14, h => exact h
  | 15, h => exact h
  | 16, h => exact h
  | 17, h => exact h
  | 18, h => exact h
  | 19, h => exact h
  | _ + 20, _ => trivial
 ·intro d u u' h hb
  exact h.trans (hb.mono h.size)
 ·exact Below.refl _ _
 ·intro d i o ρ w' hm ho hf hg hC hcs hfs hfr zY
  match i, hm, ho, hf, hg, hfr, zY with
  | 0, _, ho, hf, hg, hfr, zY =>
   simp only [qS] at ho
   subst ho
   refine ⟨fun _ => ?_, qF⟩
   have ts : ρ (.tmp 2) = .pointer (some ⟨w.heap.size, 0, none⟩) := hfr 2 (by kernel_rfl)
   simp [go_sem, ts]
   exact qB
  | 1, _, ho, hf, hg, hfr, zY =>
   simp only [qS] at ho
   subst ho
   refine ⟨fun _ => ?_, qF⟩
   have g1 := zX hC g1'
   have d0 : ρ (.tmp 10) = .pointer (some ⟨w.heap.size, 1, none⟩) := zY 0 10 (by kernel_rfl) (by kernel_rfl)
   simp [go_sem, d0, g1]
   exact qB
  | 2, _, ho, hf, hg, hfr, zY =>
   simp only [qS] at ho
   subst ho
   refine ⟨fun _ => ?_, qF⟩
   have ts : ρ (.tmp 1) = .int .i64 (k : Int) := hfr 1 (by kernel_rfl)
   simp [go_sem, ts]
   exact qB
  | 3, _, ho, hf, hg, hfr, zY =>
   simp only [qS] at ho
   subst ho
   refine ⟨fun _ => ?_, qF⟩
   have d0 : ρ (.tmp 11) = .slice (some ⟨b, off, none⟩) g.A.length c1 := zY 1 11 (by kernel_rfl) (by kernel_rfl)
   have d1 : ρ (.tmp 12) = .int .i64 (k : Int) := zY 2 12 (by kernel_rfl) (by kernel_rfl)
   simp [go_sem, d0, d1, hki]
   exact qB
  | 4, _, ho, hf, hg, hfr, zY =>
   simp only [qS] at ho
   subst ho
   refine ⟨fun _ => ?_, qF⟩
   have d0 : ρ (.tmp 13) = .pointer (some ⟨b, off + k * 3, none⟩) := zY 3 13 (by kernel_rfl) (by kernel_rfl)
   simp [go_sem, d0]
   exact qB
  | 5, _, ho, hf, hg, hfr, zY =>
   simp only [qS] at ho
   subst ho
   refine ⟨fun _ => ?_, qF⟩
   have x1 := zX hC x1'
   have d0 : ρ (.tmp 14) = .pointer (some ⟨b, off + k * 3 + 1, none⟩) := zY 4 14 (by kernel_rfl) (by kernel_rfl)
   simp [go_sem, d0, x1]
   exact qB
  | 6, _, ho, hf, hg, hfr, zY =>
   simp only [qS] at ho
   subst ho
   refine ⟨fun _ => ?_, qF⟩
   have ts : ρ (.tmp 2) = .pointer (some ⟨w.heap.size, 0, none⟩) := hfr 2 (by kernel_rfl)
   simp [go_sem, ts]
   exact qB
  | 7, _, ho, hf, hg, hfr, zY =>
   simp only [qS] at ho
   subst ho
   refine ⟨fun _ => ?_, qF⟩
   have g1 := zX hC g1'
   have d0 : ρ (.tmp 16) = .pointer (some ⟨w.heap.size, 1, none⟩) := zY 6 16 (by kernel_rfl) (by kernel_rfl)
   simp [go_sem, d0, g1]
   exact qB
  | 8, _, ho, hf, hg, hfr, zY =>
   simp only [qS] at ho
   subst ho
   refine ⟨fun _ => ?_, qF⟩
   have ts : ρ (.tmp 1) = .int .i64 (k : Int) := hfr 1 (by kernel_rfl)
   simp [go_sem, ts]
   exact qB
  | 9, _, ho, hf, hg, hfr, zY =>
   simp only [qS] at ho
   subst ho
   refine ⟨fun _ => ?_, qF⟩
   have d0 : ρ (.tmp 17) = .slice (some ⟨b, off, none⟩) g.A.length c1 := zY 7 17 (by kernel_rfl) (by kernel_rfl)
   have d1 : ρ (.tmp 18) = .int .i64 (k : Int) := zY 8 18 (by kernel_rfl) (by kernel_rfl)
   simp [go_sem, d0, d1, hki]
   exact qB
  | 10, _, ho, hf, hg, hfr, zY =>
   simp only [qS] at ho
   subst ho
   refine ⟨fun _ => ?_, qF⟩
   have d0 : ρ (.tmp 19) = .pointer (some ⟨b, off + k * 3, none⟩) := zY 9 19 (by kernel_rfl) (by kernel_rfl)
   simp [go_sem, d0]
   exact qB
  | 11, _, ho, hf, hg, hfr, zY =>
   simp only [qS] at ho
   subst ho
   refine ⟨fun _ => ?_, qF⟩
   have x2 := zX hC x2'
   have d0 : ρ (.tmp 20) = .pointer (some ⟨b, off + k * 3 + 2, none⟩) := zY 10 20 (by kernel_rfl) (by kernel_rfl)
   simp [go_sem, d0, x2]
   exact qB
  | 12, _, ho, hf, hg, hfr, zY =>
   simp only [qS] at ho
   subst ho
   refine ⟨fun _ => ?_, qF⟩
   have t0 : ρ (.tmp 15) = .int .u8 (tg : Int) := zY 5 15 (by kernel_rfl) (by kernel_rfl)
   have t1 : ρ (.tmp 21) = .slice xa ps.length xc := zY 11 21 (by kernel_rfl) (by kernel_rfl)
   simp [go_sem, t0, t1, hfs]
   exact ⟨rfl, (OF.out w' hC).mono fun e w'' hh => YY hh HI.out HO.out HE.out⟩
  | 13, _, ho, hf, hg, hfr, zY =>
   simp only [qS] at ho
   subst ho
   refine ⟨fun _ => ?_, qF⟩
   obtain ⟨p1, q1, p2, q2, eq⟩ : VX nI nO er (ρ (.tmp 22)) := zY 12 22 (by kernel_rfl) (by kernel_rfl)
   simp [go_sem, eq]
   exact ⟨Below.refl _ _, _, _, _, _, rfl⟩
  | 14, _, ho, hf, hg, hfr, zY =>
   simp only [qS] at ho
   subst ho
   refine ⟨fun _ => ?_, qF⟩
   obtain ⟨p1, q1, p2, q2, eq⟩ : VX nI nO er (ρ (.tmp 9)) := zY 13 9 (by kernel_rfl) (by kernel_rfl)
   simp [go_sem, eq]
   exact ⟨Below.refl _ _, _, _, rfl⟩
  | 15, _, ho, hf, hg, hfr, zY =>
   simp only [qS] at ho
   subst ho
   refine ⟨fun _ => ?_, qF⟩
   obtain ⟨p1, q1, p2, q2, eq⟩ : VX nI nO er (ρ (.tmp 9)) := zY 13 9 (by kernel_rfl) (by kernel_rfl)
   simp [go_sem, eq]
   exact ⟨Below.refl _ _, _, _, rfl⟩
  | 16, _, ho, hf, hg, hfr, zY =>
   simp only [qS] at ho
   subst ho
   refine ⟨fun _ => ?_, qF⟩
   obtain ⟨p1, q1, p2, q2, eq⟩ : VX nI nO er (ρ (.tmp 9)) := zY 13 9 (by kernel_rfl) (by kernel_rfl)
   simp [go_sem, eq]
   exact qB
  | 17, _, ho, hf, hg, hfr, zY =>
   simp only [qS] at ho
   subst ho
   refine ⟨fun _ => ?_, qF⟩
   obtain ⟨p1, q1, eq⟩ : YD nI (ρ (.tmp 23)) := zY 14 23 (by kernel_rfl) (by kernel_rfl)
   simp [go_sem, eq]
   exact ⟨Below.refl _ _, _, _, rfl⟩
  | 18, _, ho, hf, hg, hfr, zY =>
   simp only [qS] at ho
   subst ho
   refine ⟨fun _ => ?_, qF⟩
   obtain ⟨p1, q1, eq⟩ : YD nO (ρ (.tmp 24)) := zY 15 24 (by kernel_rfl) (by kernel_rfl)
   simp [go_sem, eq]
   exact ⟨Below.refl _ _, _, _, rfl⟩
  | 19, _, ho, hf, hg, hfr, zY =>
   simp only [qS] at ho
   subst ho
   refine ⟨fun _ => ?_, qF⟩
   have d0 : ρ (.tmp 25) = .int .i64 er := zY 16 25 (by kernel_rfl) (by kernel_rfl)
   simp [go_sem, d0]
   exact qB
  | n + 20, _, ho, _, _, _, _ => simp at ho
 ·intro d i o ρ w' hm ho h0 hf hg hC hcs hfs hfr zY
  exact absurd hm (by simp)
 intro V w9 hC9 hS
 have e0 : V 0 = .pointer (some ⟨w.heap.size, 1, none⟩) := hS 0 (by decide) (by intro h; cases h)
 have e1 : V 1 = .slice (some ⟨b, off, none⟩) g.A.length c1 := hS 1 (by decide) (by intro h; cases h)
 have e2 : V 2 = .int .i64 (k : Int) := hS 2 (by decide) (by intro h; cases h)
 have e3 : V 3 = .pointer (some ⟨b, off + k * 3, none⟩) := hS 3 (by decide) (by intro h; cases h)
 have e4 : V 4 = .pointer (some ⟨b, off + k * 3 + 1, none⟩) := hS 4 (by decide) (by intro h; cases h)
 have e5 : V 5 = .int .u8 (tg : Int) := hS 5 (by decide) (by intro h; cases h)
 have e6 : V 6 = .pointer (some ⟨w.heap.size, 1, none⟩) := hS 6 (by decide) (by intro h; cases h)
 have e7 : V 7 = .slice (some ⟨b, off, none⟩) g.A.length c1 := hS 7 (by decide) (by intro h; cases h)
 have e8 : V 8 = .int .i64 (k : Int) := hS 8 (by decide) (by intro h; cases h)
 have e9 : V 9 = .pointer (some ⟨b, off + k * 3, none⟩) := hS 9 (by decide) (by intro h; cases h)
 have e10 : V 10 = .pointer (some ⟨b, off + k * 3 + 2, none⟩) := hS 10 (by decide) (by intro h; cases h)
 have e11 : V 11 = .slice xa ps.length xc := hS 11 (by decide) (by intro h; cases h)
 obtain ⟨pa12, pb12, pc12, pd12, e12⟩ : VX nI nO er (V 12) := hS 12 (by decide) (by intro h; cases h)
 obtain ⟨pa13, pb13, pc13, pd13, e13⟩ : VX nI nO er (V 13) := hS 13 (by decide) (by intro h; cases h)
 obtain ⟨pa14, pb14, e14⟩ : YD nI (V 14) := hS 14 (by decide) (by intro h; cases h)
 obtain ⟨pa15, pb15, e15⟩ : YD nO (V 15) := hS 15 (by decide) (by intro h; cases h)
 have e16 : V 16 = .int .i64 er := hS 16 (by decide) (by intro h; cases h)
 obtain ⟨pa17, pb17, e17⟩ : YD nI (V 17) := hS 17 (by decide) (by intro h; cases h)
 obtain ⟨pa18, pb18, e18⟩ : YD nO (V 18) := hS 18 (by decide) (by intro h; cases h)
 have e19 : V 19 = .int .i64 er := hS 19 (by decide) (by intro h; cases h)
 simp only [yL, e0, e1, e2, e3, e4, e5, e6, e7, e8, e9, e10, e11, e12, e13, e14, e15, e16, e17, e18, e19]
 simp only [Act.put, qU]
 clear hS e0 e1 e2 e3 e4 e5 e6 e7 e8 e9 e10 e11 e12 e13 e14 e15 e16 e17 e18 e19
 have B9 := zZ (BA.out.trans (hC9.mono BA.out.size))
 clear hC9 OF
 go_wp2
 refine bodyPost_ret (v := .tuple #[.int .i64 (nI : Int), .int .i64 (nO : Int)]) (by simp [results, Try.results75, go_sem]) rfl ?_
 exact ⟨rfl, B9.out⟩
theorem lS (g : GG) (a1 a2 a3 a4 : Option Addr) (c1 c2 c3 c4 : Nat) (ac po : Int) (ot tk : Bool) (w : World) (h : sH w a1 a2 a3 a4 g) :
 Calls Try.prog 72 #[.agg #[.string (zW g.name), .slice a1 g.A.length c1, .slice a2 g.E.length c2, .slice a3 g.ins.length c3, .slice a4 g.outs.length c4], .int .i64 ac, .int .i64 po, .bool ot, .bool tk] w fun e w' => e = .returned (.int .i64 (oP g ac po (if ot = true then wT g ac.toNat else uL g ac.toNat) tk)) /\ Below w.heap.size w w' := by
 have ba := (Below.refl w.heap.size w).alloc (Nat.le_refl _) (.cells #[.string (zW g.name), .slice a1 g.A.length c1, .slice a2 g.E.length c2, .slice a3 g.ins.length c3, .slice a4 g.outs.length c4] 31)
 have BA := zZ ba
 have X0 := zU 31 w #[.string (zW g.name), .slice a1 g.A.length c1, .slice a2 g.E.length c2, .slice a3 g.ins.length c3, .slice a4 g.outs.length c4]
 have y0 := X0.cell (k := 0) rfl
 have y1 := X0.cell (k := 1) rfl
 have y2 := X0.cell (k := 2) rfl
 have y3 := X0.cell (k := 3) rfl
 have y4 := X0.cell (k := 4) rfl
 have HG := zZ (h.below ba)
 have l1 := h.l1
 have n1 : (g.A.length : Int) <= 1000000000000000 := by omega
 clear ba h X0
 unfold oP
 by_cases h1 : ac < 0 \/ (g.A.length : Int) <= ac
 ·rw [if_pos h1]
  by_cases h2 : ac < 0
  ·go_enter Try.func72, Try.ntmps72
   go_wp2
   go_ret
   exact ⟨rfl, BA.out⟩
  have h3 : ac ≥ (g.A.length : Int) := by omega
  go_enter Try.func72, Try.ntmps72
  go_wp2
  go_ret
  exact ⟨rfl, BA.out⟩
 rw [if_neg h1]
 have h2 : ¬ ac < 0 := by omega
 have h3 : ¬ ac ≥ (g.A.length : Int) := by omega
 obtain ⟨k, rfl⟩ : ∃ k : Nat, ac = (k : Int) := ⟨ac.toNat, by omega⟩
 have hk : k < g.A.length := by omega
 have RT := zZ (lT g a1 a2 a3 a4 c1 c2 c3 c4 k _ HG.out hk)
 rw [Int.toNat_natCast]
 have hni : uL g k <= 1024 := (vD _ _).1
 have hno : wT g k <= 1024 := (vD _ _).2
 generalize uL g k = nI at *
 generalize wT g k = nO at *
 clear h1
 obtain ⟨n, hn, hne⟩ : ∃ n, (if ot = true then nO else nI) = n /\ n <= 1024 := by cases ot <;> exact ⟨_, rfl, by simp; omega⟩
 rw [hn]
 have nI9 : (n : Int) <= 1024 := by omega
 have HN := zZ hn
 clear hn
 by_cases h4 : po < 0 \/ (n : Int) <= po
 ·rw [if_pos h4]
  go_enter Try.func72, Try.ntmps72
  go_upto_region 1 with fail
  generalize w.alloc (.cells #[.string (zW g.name), .slice a1 g.A.length c1, .slice a2 g.E.length c2, .slice a3 g.ins.length c3, .slice a4 g.outs.length c4] 31) = W0 at *
  cases ot
  all_goals
   have hn := HN.out
   simp only [if_true, if_false, Bool.false_eq_true] at hn
   subst hn
   by_cases h5 : po < 0
   ·go_wp2_with (go_at_call 75; (with_reducible refine RT.out.mono ?_); rintro e w1 ⟨rfl, b1⟩; have B1 := zZ b1; clear b1)
    go_ret
    exact ⟨rfl, BA.out.trans (B1.out.mono BA.out.size)⟩
   have h6 := h4.resolve_left h5
   go_wp2_with (go_at_call 75; (with_reducible refine RT.out.mono ?_); rintro e w1 ⟨rfl, b1⟩; have B1 := zZ b1; clear b1)
   go_ret
   exact ⟨rfl, BA.out.trans (B1.out.mono BA.out.size)⟩
 rw [if_neg h4]
 have h5 : ¬ po < 0 := by omega
 have h6 : ¬ (n : Int) <= po := by omega
 clear h4
 go_enter Try.func72, Try.ntmps72
 go_upto_region 1 with fail
 generalize w.alloc (.cells #[.string (zW g.name), .slice a1 g.A.length c1, .slice a2 g.E.length c2, .slice a3 g.ins.length c3, .slice a4 g.outs.length c4] 31) = W0 at *
 cases ot
 all_goals
  have hn := HN.out
  simp only [if_true, if_false, Bool.false_eq_true] at hn
  subst hn
  cases tk
  all_goals
   go_wp2_with (go_at_call 75; (with_reducible refine RT.out.mono ?_); rintro e w1 ⟨rfl, b1⟩; have B1 := zZ b1; clear b1)
   go_ret
   exact ⟨rfl, BA.out.trans (B1.out.mono BA.out.size)⟩
theorem eN (g : GG) (a1 a2 a3 a4 : Option Addr) (c1 c2 c3 c4 : Nat) (k : Nat) (w : World) (h : sH w a1 a2 a3 a4 g) (hk : k < g.A.length) :
 Calls Try.prog 50 #[.agg #[.string (zW g.name), .slice a1 g.A.length c1, .slice a2 g.E.length c2, .slice a3 g.ins.length c3, .slice a4 g.outs.length c4], .int .i64 (k : Int)] w fun e w' => e = .returned (.int .i64 (yR g k)) /\ Below w.heap.size w w' := by
 have hki : (k : Int) < (g.A.length : Int) := by omega
 have l1 := h.l1
 have n1 : (g.A.length : Int) <= 1000000000000000 := by omega
 have ba := (Below.refl w.heap.size w).alloc (Nat.le_refl _) (.cells #[.string (zW g.name), .slice a1 g.A.length c1, .slice a2 g.E.length c2, .slice a3 g.ins.length c3, .slice a4 g.outs.length c4] 31)
 have B0 := zZ (vP w #[.string (zW g.name), .slice a1 g.A.length c1, .slice a2 g.E.length c2, .slice a3 g.ins.length c3, .slice a4 g.outs.length c4])
 have HG := zZ h
 have NM : Hid (∀ U, Below w.heap.size w U -> Calls Try.prog 70 #[.agg #[.string (zW g.name), .slice a1 g.A.length c1, .slice a2 g.E.length c2, .slice a3 g.ins.length c3, .slice a4 g.outs.length c4], .int .i64 (k : Int), .int .i64 0, .int .i64 0, .string (zW (zI g.A k).name)] U fun e w' => e = .returned (.bool (yX g k 0 0 (zI g.A k).name)) /\ Below U.heap.size U w') := fun U hb => oH g a1 a2 a3 a4 c1 c2 c3 c4 k 0 0 _ U (HG.out.below hb) (by omega) (Nat.zero_le _) (Nat.zero_le _)
 have RN : Hid (∀ U, Calls Try.prog 48 #[.string (zW (zI g.A k).name)] U fun e w' => e = .returned (.bool (yM (zI g.A k).name)) /\ U = w') := fun U => rE _ U
 have HC : Hid (yR g k = if yM (zI g.A k).name = false then 82 else if yX g k 0 0 (zI g.A k).name = true then 83 else (sE (zI g.A k).tag (zI g.A k).params).2.2) := by rfl
 rcases (h.below ba).A with e | ⟨b, off, rfl, hc⟩
 ·rw [e] at hk; exact absurd hk (Nat.not_lt_zero _)
 obtain ⟨x0, x1, ht, xa, xc, x2, x3⟩ := hc k hk
 have y1 := (zU 31 w #[.string (zW g.name), .slice (some ⟨b, off, none⟩) g.A.length c1, .slice a2 g.E.length c2, .slice a3 g.ins.length c3, .slice a4 g.outs.length c4]).cell (k := 1) rfl
 have HAR := zZ x3
 have HTT := zZ ht
 clear hc x3 ht ba h
 have hcd : ∃ er, (sE (zI g.A k).tag (zI g.A k).params).2.2 = er := ⟨_, rfl⟩
 obtain ⟨er, hE⟩ := hcd
 have HE := zZ hE
 rw [hE] at HC
 generalize yX g k 0 0 (zI g.A k).name = q2 at *
 generalize zI g.A k = E at *
 obtain ⟨en, tg, ps⟩ := E
 simp only at x0 x1 x2 HE HAR HTT NM RN HC hE
 generalize yM en = q1 at *
 clear hE
 generalize hW : w.alloc (.cells #[.string (zW g.name), .slice (some ⟨b, off, none⟩) g.A.length c1, .slice a2 g.E.length c2, .slice a3 g.ins.length c3, .slice a4 g.outs.length c4] 31) = W0 at *
 have OF : Hid (∀ V, Below W0.heap.size W0 V -> Calls Try.prog 71 #[.int .u8 (tg : Int), .slice xa ps.length xc] V (xS V (sE tg ps))) := fun V hb => dX tg xa ps ps.length xc V HTT.out rfl (HAR.out.below hb).lies
 have bv := (Below.refl W0.heap.size W0).alloc (Nat.le_refl _) (.cells #[.string (zW en), .int .u8 (tg : Int), .slice xa ps.length xc] 61)
 have BX := zZ (zU 61 W0 #[.string (zW en), .int .u8 (tg : Int), .slice xa ps.length xc])
 have GB := zZ (B0.out.1.below bv)
 have BB := zZ (B0.out.2.trans (bv.mono B0.out.2.size))
 have BV := zZ bv
 have z0 := BX.out.cell (k := 0) rfl
 have z1 := BX.out.cell (k := 1) rfl
 have z2 := BX.out.cell (k := 2) rfl
 clear bv
 subst hW
 go_enter Try.func50, Try.ntmps50
 go_upto_region 1 with fail
 generalize w.alloc (.cells #[.string (zW g.name), .slice (some ⟨b, off, none⟩) g.A.length c1, .slice a2 g.E.length c2, .slice a3 g.ins.length c3, .slice a4 g.outs.length c4] 31) = W0 at *
 go_upto_region 2 with fail
 generalize W0.alloc (.cells #[.string (zW en), .int .u8 (tg : Int), .slice xa ps.length xc] 61) = V at *
 have g0 : V.cell? ⟨w.heap.size, 0, none⟩ = some (.string (zW g.name)) := GB.out.cell rfl
 have g1 : V.cell? ⟨w.heap.size, 1, none⟩ = some (.slice (some ⟨b, off, none⟩) g.A.length c1) := GB.out.cell rfl
 have g2 : V.cell? ⟨w.heap.size, 2, none⟩ = some (.slice a2 g.E.length c2) := GB.out.cell rfl
 have g3 : V.cell? ⟨w.heap.size, 3, none⟩ = some (.slice a3 g.ins.length c3) := GB.out.cell rfl
 have g4 : V.cell? ⟨w.heap.size, 4, none⟩ = some (.slice a4 g.outs.length c4) := GB.out.cell rfl
 cases q1
 ·go_wp2_with (go_at_call 48; (with_reducible refine (RN.out _).mono ?_); rintro e w' ⟨rfl, rfl⟩)
  go_ret
  exact ⟨by rw [HC.out]; rfl, BB.out⟩
 cases q2
 ·go_wp2_with (first
   | (go_at_call 71; (with_reducible refine (OF.out _ (BV.out.trans (B2.out.mono BV.out.size))).mono ?_); intro e w3 hh; obtain ⟨v3, rfl, b3, p1, q1, p2, q2, rfl⟩ := YY hh rfl rfl HE.out; have B3 := zZ b3; clear hh b3)
   | (go_at_call 70; (with_reducible refine (NM.out _ BB.out).mono ?_); rintro e w2 ⟨rfl, b2⟩; have B2 := zZ b2; have z1 := zX b2 z1; have z2 := zX b2 z2; clear b2)
   | (go_at_call 48; (with_reducible refine (RN.out _).mono ?_); rintro e w' ⟨rfl, rfl⟩))
  go_ret
  have b2 := BB.out.trans (B2.out.mono BB.out.size)
  exact ⟨by rw [HC.out]; rfl, b2.trans (B3.out.mono b2.size)⟩
 go_wp2_with (first
  | (go_at_call 70; (with_reducible refine (NM.out _ BB.out).mono ?_); rintro e w2 ⟨rfl, b2⟩; have B2 := zZ b2; clear b2)
  | (go_at_call 48; (with_reducible refine (RN.out _).mono ?_); rintro e w' ⟨rfl, rfl⟩))
 go_ret
 exact ⟨by rw [HC.out]; rfl, BB.out.trans (B2.out.mono BB.out.size)⟩
theorem eM (nm : List UInt8) (a : Option Addr) (n c : Nat) (L : List (yO × Value)) (s : List UInt8) (w : World) (hn : L.length = n) (h : nS w a L) (hl : n <= 2000000) :
 Calls Try.prog 47 #[.agg #[.string (zW nm), .slice a n c], .string (zW s)] w fun e w' => e = .returned (.int .i64 (vK (xF (L.map Prod.fst)) s)) /\ Below w.heap.size w w' := by
 have HR := zZ h
 have HL := zZ hn
 have X0 := zZ (zU 24 w #[.string (zW nm), .slice a n c])
 have B0 := zZ ((Below.refl w.heap.size w).alloc (Nat.le_refl _) (.cells #[.string (zW nm), .slice a n c] 24))
 have hnI : (n : Int) <= 2000000 := by omega
 have E0 : Hid (vK (xF (L.map Prod.fst)) s = bB (L.map Prod.fst) 0 s) := (eY s _ 0).symm
 rw [E0.out]
 clear h hn E0
 go_enter Try.func47, Try.ntmps47
 go_upto_region 1 with fail
 generalize w.alloc (.cells #[.string (zW nm), .slice a n c] 24) = W0 at *
 have y1 : W0.cell? ⟨w.heap.size, 1, none⟩ = some (.slice a n c) := X0.out.cell rfl
 go_wp2
 go_loopg [5, 6] n (fun gk u v wr => ∃ k m : Nat, k <= n /\ m <= k /\ gk = n - k /\ v = .int .i64 (k : Int) /\ u = .int .i64 (m : Int) /\ bB ((L.map Prod.fst).drop k) m s = bB (L.map Prod.fst) 0 s /\ W0 = wr)
 case atStart => exact ⟨0, 0, Nat.zero_le _, Nat.le_refl _, rfl, rfl, rfl, rfl, rfl⟩
 case round =>
  obtain ⟨k, m, hk, hm, rfl, rfl, rfl, hE, rfl⟩ := hrel
  have HE := zZ hE
  clear hE
  by_cases hlt : k < n
  ·have hki : (k : Int) < (n : Int) := by omega
   have hkl : k < L.length := by have := HL.out; omega
   rcases (HR.out.below B0.out).lie with e | ⟨g, off, rfl, hc⟩
   ·rw [e] at hkl; exact absurd hkl (Nat.not_lt_zero _)
   obtain ⟨c0, c1, -⟩ := hc k hkl
   have DI := zZ (jG hkl)
   generalize (yV L k).1 = x at *
   obtain ⟨ki, xn, xt, nu, ⟨fn, fp, fa⟩, ⟨tn, tp, ta⟩, pl⟩ := x
   simp only at c0 c1
   clear hc hkl
   have ST : Hid (bB ((L.map Prod.fst).drop k) m s = if ki = 1 then (if xn = s then (m : Int) else bB ((L.map Prod.fst).drop (k + 1)) (m + 1) s) else bB ((L.map Prod.fst).drop (k + 1)) m s) := by show _ = _; rw [DI.out]; rfl
   rw [HE.out] at ST
   clear HE DI
   by_cases h1 : ki = 1
   ·subst h1
    have hst := iX xn s
    rw [if_pos rfl] at ST
    obtain ⟨q1, hq1⟩ : ∃ q, (xn == s) = q := ⟨_, rfl⟩
    rw [hq1] at hst
    cases q1
    ·have hne : ¬ xn = s := by simpa using hq1
     rw [if_neg hne] at ST
     clear hq1 hne
     go_wp2
     go_roundg (n - (k + 1))
     case measure => omega
     case rel => exact ⟨k + 1, m + 1, by omega, by omega, rfl, by go_num, by go_num, ST.out.symm, rfl⟩
    have hne : xn = s := by simpa using hq1
    rw [if_pos hne] at ST
    clear hq1 hne
    go_wp2
    go_ret
    rw [ST.out]
    exact ⟨rfl, B0.out⟩
   have h1b : (ki == 1) = false := by simpa using h1
   rw [if_neg h1] at ST
   clear h1
   go_wp2
   go_roundg (n - (k + 1))
   case measure => omega
   case rel => exact ⟨k + 1, m, by omega, by omega, rfl, by go_num, rfl, ST.out.symm, rfl⟩
  have hki : ¬ (k : Int) < (n : Int) := by omega
  have EE : Hid (bB (L.map Prod.fst) 0 s = -1) := by
   show _ = _
   rw [<- HE.out, List.drop_of_length_le (by rw [List.length_map, HL.out]; omega)]
   rfl
  go_wp2
  go_ret
  rw [EE.out]
  exact ⟨rfl, B0.out⟩
theorem zO {w : World} {B T c n B' T' c' n' : Nat} {v v' : Value} {xs xs' : List Value} (h : w.ownsRow B T c v n xs) (h' : w.ownsRow B' T' c' v' n' xs') (hT : T ≠ T') : NB v v' := by
 intro k e e'
 rcases h.2 with ⟨h1, -⟩ | ⟨g, cap, cur, hv, -, hh, -⟩
 ·rw [h1] at e; cases e
 rcases h'.2 with ⟨h1, -⟩ | ⟨g', cap', cur', hv', -, hh', -⟩
 ·rw [h1] at e'; cases e'
 rw [hv] at e
 rw [hv'] at e'
 cases e
 cases e'
 rw [hh] at hh'
 cases hh'
 exact hT rfl
def YX (B : Nat) (w : World) (p : GA × Value) : Prop := p.1.tag <= 255 /\ xL p.1.params /\ yC B w p.2 p.1.params
def YW (B : Nat) (w : World) (p : GE × Value) : Prop := xL p.1.start /\ yC B w p.2 p.1.start
structure gG (w : World) (B : Nat) (sk : Array Value) (nm : List UInt8) (v1 v2 v3 v4 : Value) (As : List (GA × Value)) (Es : List (GE × Value)) (Ps Os : List GP) (wr : World) : Prop where
 sb : zN 24 w.heap.size wr sk
 rb : zN 31 (w.heap.size + 1) wr #[.string ⟨#[]⟩, .slice none 0 0, .slice none 0 0, .slice none 0 0, .slice none 0 0]
 gb : zN 31 (w.heap.size + 2) wr #[.string (zW nm), v1, v2, v3, v4]
 r1 : wr.ownsRow B 61 3 v1 As.length (As.flatMap aP)
 r2 : wr.ownsRow B 64 5 v2 Es.length (Es.flatMap eP)
 r3 : wr.ownsRow B 83 3 v3 Ps.length (Ps.flatMap pP)
 r4 : wr.ownsRow B 83 3 v4 Os.length (Os.flatMap pP)
 n34 : NB v3 v4
 pa : ∀ p ∈ As, YX B wr p
 pe : ∀ p ∈ Es, YW B wr p
 bel : Below w.heap.size w wr
 hB : w.heap.size + 2 < B
 big : B <= wr.heap.size
theorem gG.below {w B sk nm v1 v2 v3 v4 As Es Ps Os} {wr w2 : World} (h : gG w B sk nm v1 v2 v3 v4 As Es Ps Os wr) (hb : Below wr.heap.size wr w2) : gG w B sk nm v1 v2 v3 v4 As Es Ps Os w2 :=
 ⟨h.sb.below hb, h.rb.below hb, h.gb.below hb, zS h.r1 hb, zS h.r2 hb, zS h.r3 hb, zS h.r4 hb, h.n34, fun p hp => ⟨(h.pa p hp).1, (h.pa p hp).2.1, zS (h.pa p hp).2.2 hb⟩, fun p hp => ⟨(h.pe p hp).1, zS (h.pe p hp).2 hb⟩, h.bel.trans (hb.mono h.bel.size), h.hB, Nat.le_trans h.big hb.size⟩
theorem gG.put1 {w B sk nm v1 v2 v3 v4 As Es Ps Os} {V : World} (h : gG w B sk nm v1 v2 v3 v4 As Es Ps Os V) {w2 w4 : World} {p : (GA × Value)} {v' : Value} (hb : Below V.heap.size V w2) (hp : YX B w2 p)
 (ho : w4.ownsRow B 61 3 v' (As.length + 1) (As.flatMap aP ++ aP p))
 (ht : (∃ g cap, v1 = .slice (some ⟨g, 0, none⟩) As.length cap /\ v' = .slice (some ⟨g, 0, none⟩) (As.length + 1) cap /\ w2.grownBy w4 (some g)) \/ (∃ cap, v' = .slice (some ⟨w2.heap.size, 0, none⟩) (As.length + 1) cap /\ w2.grownBy w4 none)) :
 gG w B sk nm v' v2 v3 v4 (As ++ [p]) Es Ps Os (w4.setCell ⟨w.heap.size + 2, 1, none⟩ v') /\ zN 31 (w.heap.size + 2) w4 #[.string (zW nm), v1, v2, v3, v4] := by
 have hbig := h.big
 have hB := h.hB
 have hsz := hb.size
 have tk := xU ht
 have kp : ∀ d, d < V.heap.size -> v1.ownBlock ≠ some d -> w4.heap[d]? = V.heap[d]? := fun d hd hn => (tk.2 d (by omega) hn).trans (hb.block d hd)
 have lowr : ∀ d, d < B -> v1.ownBlock ≠ some d := fun d hd e => by have := zT h.r1 d e; omega
 have b3 := h.gb.keep (kp (w.heap.size + 2) (by omega) (lowr _ (by omega)))
 have set : ∀ k, k ≠ w.heap.size + 2 -> (w4.setCell ⟨w.heap.size + 2, 1, none⟩ v').heap[k]? = w4.heap[k]? := fun k hk => Below.heap_setCell w4 ⟨w.heap.size + 2, 1, none⟩ v' k hk
 have rI : (w4.setCell ⟨w.heap.size + 2, 1, none⟩ v').ownsRow B 61 3 v' (As ++ [p]).length ((As ++ [p]).flatMap aP) := by
  rw [wD, List.length_append]
  exact zV ho fun k e => set k (by have := zT ho k e; omega)
 obtain ⟨row, hg, hrow⟩ := xZ ht
 refine ⟨⟨h.sb.keep ((set _ (by omega)).trans (kp _ (by omega) (lowr _ (by omega)))), h.rb.keep ((set _ (by omega)).trans (kp _ (by omega) (lowr _ (by omega)))), b3.set 1 v', rI, (zV h.r2 fun k e => (set k (by have := zT h.r2 k e; omega)).trans (kp k (zR h.r2 k e) (fun q => (zO h.r1 h.r2 (by decide)) k q e))), (zV h.r3 fun k e => (set k (by have := zT h.r3 k e; omega)).trans (kp k (zR h.r3 k e) (fun q => (zO h.r1 h.r3 (by decide)) k q e))), (zV h.r4 fun k e => (set k (by have := zT h.r4 k e; omega)).trans (kp k (zR h.r4 k e) (fun q => (zO h.r1 h.r4 (by decide)) k q e))), h.n34, fun q hq => (List.mem_append.1 hq).elim (fun hq => ⟨(h.pa q hq).1, (h.pa q hq).2.1, (zV (h.pa q hq).2.2 fun k e => (set k (by have := zT (h.pa q hq).2.2 k e; omega)).trans (kp k (zR (h.pa q hq).2.2 k e) (fun z => zO h.r1 (h.pa q hq).2.2 (by decide) k z e)))⟩) (fun e => by rw [List.mem_singleton.1 e]; exact ⟨hp.1, hp.2.1, (zV hp.2.2 fun k e => (set k (by have := zT hp.2.2 k e; omega)).trans (tk.2 k (zR hp.2.2 k e) (fun z => zO (zS h.r1 hb) hp.2.2 (by decide) k z e)))⟩), fun q hq => ⟨(h.pe q hq).1, (zV (h.pe q hq).2 fun k e => (set k (by have := zT (h.pe q hq).2 k e; omega)).trans (kp k (zR (h.pe q hq).2 k e) (fun z => zO h.r1 (h.pe q hq).2 (by decide) k z e)))⟩, ?_, h.hB, ?_⟩, b3⟩
 ·have h1 : Below w.heap.size w w2 := h.bel.trans (hb.mono h.bel.size)
  exact (zH h1 hg (fun k hk => by have := zT h.r1 k (hrow k hk); omega) h1.size).setCell (p := ⟨w.heap.size + 2, 1, none⟩) (by show w.heap.size <= w.heap.size + 2; omega) _
 have := tk.1
 rw [World.size_setCell]
 omega
theorem gG.put2 {w B sk nm v1 v2 v3 v4 As Es Ps Os} {V : World} (h : gG w B sk nm v1 v2 v3 v4 As Es Ps Os V) {w2 w4 : World} {p : (GE × Value)} {v' : Value} (hb : Below V.heap.size V w2) (hp : YW B w2 p)
 (ho : w4.ownsRow B 64 5 v' (Es.length + 1) (Es.flatMap eP ++ eP p))
 (ht : (∃ g cap, v2 = .slice (some ⟨g, 0, none⟩) Es.length cap /\ v' = .slice (some ⟨g, 0, none⟩) (Es.length + 1) cap /\ w2.grownBy w4 (some g)) \/ (∃ cap, v' = .slice (some ⟨w2.heap.size, 0, none⟩) (Es.length + 1) cap /\ w2.grownBy w4 none)) :
 gG w B sk nm v1 v' v3 v4 As (Es ++ [p]) Ps Os (w4.setCell ⟨w.heap.size + 2, 2, none⟩ v') /\ zN 31 (w.heap.size + 2) w4 #[.string (zW nm), v1, v2, v3, v4] := by
 have hbig := h.big
 have hB := h.hB
 have hsz := hb.size
 have tk := xU ht
 have kp : ∀ d, d < V.heap.size -> v2.ownBlock ≠ some d -> w4.heap[d]? = V.heap[d]? := fun d hd hn => (tk.2 d (by omega) hn).trans (hb.block d hd)
 have lowr : ∀ d, d < B -> v2.ownBlock ≠ some d := fun d hd e => by have := zT h.r2 d e; omega
 have b3 := h.gb.keep (kp (w.heap.size + 2) (by omega) (lowr _ (by omega)))
 have set : ∀ k, k ≠ w.heap.size + 2 -> (w4.setCell ⟨w.heap.size + 2, 2, none⟩ v').heap[k]? = w4.heap[k]? := fun k hk => Below.heap_setCell w4 ⟨w.heap.size + 2, 2, none⟩ v' k hk
 have rI : (w4.setCell ⟨w.heap.size + 2, 2, none⟩ v').ownsRow B 64 5 v' (Es ++ [p]).length ((Es ++ [p]).flatMap eP) := by
  rw [wD, List.length_append]
  exact zV ho fun k e => set k (by have := zT ho k e; omega)
 obtain ⟨row, hg, hrow⟩ := xZ ht
 refine ⟨⟨h.sb.keep ((set _ (by omega)).trans (kp _ (by omega) (lowr _ (by omega)))), h.rb.keep ((set _ (by omega)).trans (kp _ (by omega) (lowr _ (by omega)))), b3.set 2 v', (zV h.r1 fun k e => (set k (by have := zT h.r1 k e; omega)).trans (kp k (zR h.r1 k e) (fun q => (zO h.r2 h.r1 (by decide)) k q e))), rI, (zV h.r3 fun k e => (set k (by have := zT h.r3 k e; omega)).trans (kp k (zR h.r3 k e) (fun q => (zO h.r2 h.r3 (by decide)) k q e))), (zV h.r4 fun k e => (set k (by have := zT h.r4 k e; omega)).trans (kp k (zR h.r4 k e) (fun q => (zO h.r2 h.r4 (by decide)) k q e))), h.n34, fun q hq => ⟨(h.pa q hq).1, (h.pa q hq).2.1, (zV (h.pa q hq).2.2 fun k e => (set k (by have := zT (h.pa q hq).2.2 k e; omega)).trans (kp k (zR (h.pa q hq).2.2 k e) (fun z => zO h.r2 (h.pa q hq).2.2 (by decide) k z e)))⟩, fun q hq => (List.mem_append.1 hq).elim (fun hq => ⟨(h.pe q hq).1, (zV (h.pe q hq).2 fun k e => (set k (by have := zT (h.pe q hq).2 k e; omega)).trans (kp k (zR (h.pe q hq).2 k e) (fun z => zO h.r2 (h.pe q hq).2 (by decide) k z e)))⟩) (fun e => by rw [List.mem_singleton.1 e]; exact ⟨hp.1, (zV hp.2 fun k e => (set k (by have := zT hp.2 k e; omega)).trans (tk.2 k (zR hp.2 k e) (fun z => zO (zS h.r2 hb) hp.2 (by decide) k z e)))⟩), ?_, h.hB, ?_⟩, b3⟩
 ·have h1 : Below w.heap.size w w2 := h.bel.trans (hb.mono h.bel.size)
  exact (zH h1 hg (fun k hk => by have := zT h.r2 k (hrow k hk); omega) h1.size).setCell (p := ⟨w.heap.size + 2, 2, none⟩) (by show w.heap.size <= w.heap.size + 2; omega) _
 have := tk.1
 rw [World.size_setCell]
 omega
theorem gG.put3 {w B sk nm v1 v2 v3 v4 As Es Ps Os} {V : World} (h : gG w B sk nm v1 v2 v3 v4 As Es Ps Os V) {w2 w4 : World} {p : GP} {v' : Value} (hb : Below V.heap.size V w2)
 (ho : w4.ownsRow B 83 3 v' (Ps.length + 1) (Ps.flatMap pP ++ pP p))
 (ht : (∃ g cap, v3 = .slice (some ⟨g, 0, none⟩) Ps.length cap /\ v' = .slice (some ⟨g, 0, none⟩) (Ps.length + 1) cap /\ w2.grownBy w4 (some g)) \/ (∃ cap, v' = .slice (some ⟨w2.heap.size, 0, none⟩) (Ps.length + 1) cap /\ w2.grownBy w4 none)) :
 gG w B sk nm v1 v2 v' v4 As Es (Ps ++ [p]) Os (w4.setCell ⟨w.heap.size + 2, 3, none⟩ v') /\ zN 31 (w.heap.size + 2) w4 #[.string (zW nm), v1, v2, v3, v4] := by
 have hbig := h.big
 have hB := h.hB
 have hsz := hb.size
 have tk := xU ht
 have kp : ∀ d, d < V.heap.size -> v3.ownBlock ≠ some d -> w4.heap[d]? = V.heap[d]? := fun d hd hn => (tk.2 d (by omega) hn).trans (hb.block d hd)
 have lowr : ∀ d, d < B -> v3.ownBlock ≠ some d := fun d hd e => by have := zT h.r3 d e; omega
 have b3 := h.gb.keep (kp (w.heap.size + 2) (by omega) (lowr _ (by omega)))
 have set : ∀ k, k ≠ w.heap.size + 2 -> (w4.setCell ⟨w.heap.size + 2, 3, none⟩ v').heap[k]? = w4.heap[k]? := fun k hk => Below.heap_setCell w4 ⟨w.heap.size + 2, 3, none⟩ v' k hk
 have rI : (w4.setCell ⟨w.heap.size + 2, 3, none⟩ v').ownsRow B 83 3 v' (Ps ++ [p]).length ((Ps ++ [p]).flatMap pP) := by
  rw [wD, List.length_append]
  exact zV ho fun k e => set k (by have := zT ho k e; omega)
 obtain ⟨row, hg, hrow⟩ := xZ ht
 refine ⟨⟨h.sb.keep ((set _ (by omega)).trans (kp _ (by omega) (lowr _ (by omega)))), h.rb.keep ((set _ (by omega)).trans (kp _ (by omega) (lowr _ (by omega)))), b3.set 3 v', (zV h.r1 fun k e => (set k (by have := zT h.r1 k e; omega)).trans (kp k (zR h.r1 k e) (fun q => (zO h.r3 h.r1 (by decide)) k q e))), (zV h.r2 fun k e => (set k (by have := zT h.r2 k e; omega)).trans (kp k (zR h.r2 k e) (fun q => (zO h.r3 h.r2 (by decide)) k q e))), rI, (zV h.r4 fun k e => (set k (by have := zT h.r4 k e; omega)).trans (kp k (zR h.r4 k e) (fun q => h.n34 k q e))), (NB.told h.n34 (fun k e => Nat.lt_of_lt_of_le (zR h.r4 k e) hsz) ht), fun q hq => ⟨(h.pa q hq).1, (h.pa q hq).2.1, (zV (h.pa q hq).2.2 fun k e => (set k (by have := zT (h.pa q hq).2.2 k e; omega)).trans (kp k (zR (h.pa q hq).2.2 k e) (fun z => zO h.r3 (h.pa q hq).2.2 (by decide) k z e)))⟩, fun q hq => ⟨(h.pe q hq).1, (zV (h.pe q hq).2 fun k e => (set k (by have := zT (h.pe q hq).2 k e; omega)).trans (kp k (zR (h.pe q hq).2 k e) (fun z => zO h.r3 (h.pe q hq).2 (by decide) k z e)))⟩, ?_, h.hB, ?_⟩, b3⟩
 ·have h1 : Below w.heap.size w w2 := h.bel.trans (hb.mono h.bel.size)
  exact (zH h1 hg (fun k hk => by have := zT h.r3 k (hrow k hk); omega) h1.size).setCell (p := ⟨w.heap.size + 2, 3, none⟩) (by show w.heap.size <= w.heap.size + 2; omega) _
 have := tk.1
 rw [World.size_setCell]
 omega
theorem gG.put4 {w B sk nm v1 v2 v3 v4 As Es Ps Os} {V : World} (h : gG w B sk nm v1 v2 v3 v4 As Es Ps Os V) {w2 w4 : World} {p : GP} {v' : Value} (hb : Below V.heap.size V w2)
 (ho : w4.ownsRow B 83 3 v' (Os.length + 1) (Os.flatMap pP ++ pP p))
 (ht : (∃ g cap, v4 = .slice (some ⟨g, 0, none⟩) Os.length cap /\ v' = .slice (some ⟨g, 0, none⟩) (Os.length + 1) cap /\ w2.grownBy w4 (some g)) \/ (∃ cap, v' = .slice (some ⟨w2.heap.size, 0, none⟩) (Os.length + 1) cap /\ w2.grownBy w4 none)) :
 gG w B sk nm v1 v2 v3 v' As Es Ps (Os ++ [p]) (w4.setCell ⟨w.heap.size + 2, 4, none⟩ v') /\ zN 31 (w.heap.size + 2) w4 #[.string (zW nm), v1, v2, v3, v4] := by
 have hbig := h.big
 have hB := h.hB
 have hsz := hb.size
 have tk := xU ht
 have kp : ∀ d, d < V.heap.size -> v4.ownBlock ≠ some d -> w4.heap[d]? = V.heap[d]? := fun d hd hn => (tk.2 d (by omega) hn).trans (hb.block d hd)
 have lowr : ∀ d, d < B -> v4.ownBlock ≠ some d := fun d hd e => by have := zT h.r4 d e; omega
 have b3 := h.gb.keep (kp (w.heap.size + 2) (by omega) (lowr _ (by omega)))
 have set : ∀ k, k ≠ w.heap.size + 2 -> (w4.setCell ⟨w.heap.size + 2, 4, none⟩ v').heap[k]? = w4.heap[k]? := fun k hk => Below.heap_setCell w4 ⟨w.heap.size + 2, 4, none⟩ v' k hk
 have rI : (w4.setCell ⟨w.heap.size + 2, 4, none⟩ v').ownsRow B 83 3 v' (Os ++ [p]).length ((Os ++ [p]).flatMap pP) := by
  rw [wD, List.length_append]
  exact zV ho fun k e => set k (by have := zT ho k e; omega)
 obtain ⟨row, hg, hrow⟩ := xZ ht
 refine ⟨⟨h.sb.keep ((set _ (by omega)).trans (kp _ (by omega) (lowr _ (by omega)))), h.rb.keep ((set _ (by omega)).trans (kp _ (by omega) (lowr _ (by omega)))), b3.set 4 v', (zV h.r1 fun k e => (set k (by have := zT h.r1 k e; omega)).trans (kp k (zR h.r1 k e) (fun q => (zO h.r4 h.r1 (by decide)) k q e))), (zV h.r2 fun k e => (set k (by have := zT h.r2 k e; omega)).trans (kp k (zR h.r2 k e) (fun q => (zO h.r4 h.r2 (by decide)) k q e))), (zV h.r3 fun k e => (set k (by have := zT h.r3 k e; omega)).trans (kp k (zR h.r3 k e) (fun q => h.n34.symm k q e))), rI, (NB.told h.n34.symm (fun k e => Nat.lt_of_lt_of_le (zR h.r3 k e) hsz) ht).symm, fun q hq => ⟨(h.pa q hq).1, (h.pa q hq).2.1, (zV (h.pa q hq).2.2 fun k e => (set k (by have := zT (h.pa q hq).2.2 k e; omega)).trans (kp k (zR (h.pa q hq).2.2 k e) (fun z => zO h.r4 (h.pa q hq).2.2 (by decide) k z e)))⟩, fun q hq => ⟨(h.pe q hq).1, (zV (h.pe q hq).2 fun k e => (set k (by have := zT (h.pe q hq).2 k e; omega)).trans (kp k (zR (h.pe q hq).2 k e) (fun z => zO h.r4 (h.pe q hq).2 (by decide) k z e)))⟩, ?_, h.hB, ?_⟩, b3⟩
 ·have h1 : Below w.heap.size w w2 := h.bel.trans (hb.mono h.bel.size)
  exact (zH h1 hg (fun k hk => by have := zT h.r4 k (hrow k hk); omega) h1.size).setCell (p := ⟨w.heap.size + 2, 4, none⟩) (by show w.heap.size <= w.heap.size + 2; omega) _
 have := tk.1
 rw [World.size_setCell]
 omega
structure oG (ns : List (List UInt8)) (L : List yO) (As : List (GA × Value)) (Es : List (GE × Value)) (Ps Os : List GP) : Prop where
 a : As.map Prod.fst = (yA 1 L).map YF
 e : Es.map Prod.fst = ((yA 2 L).map (wE ns)).take 97
 i : Ps = ((yA 3 L).map (wI ns)).take 17
 o : Os = ((yA 4 L).map (wO ns)).take 17
theorem VW (ns : List (List UInt8)) : oG ns [] [] [] [] [] := ⟨rfl, rfl, rfl, rfl⟩
theorem sO {α : Type} {l : List α} {x : α} {m : Nat} (h : l.length < m) : (l ++ [x]).take m = l.take m ++ [x] := by
 rw [List.take_of_length_le (by rw [List.length_append]; simp; omega), List.take_of_length_le (Nat.le_of_lt h)]
theorem sN {α : Type} {l : List α} {x : α} {m : Nat} (h : m <= l.length) : (l ++ [x]).take m = l.take m := List.take_append_of_le_length h
theorem oG.len {ns L As Es Ps Os} (h : oG ns L As Es Ps Os) : As.length <= L.length /\ Es.length <= 97 /\ Ps.length <= 17 /\ Os.length <= 17 := by
 have h1 := congrArg List.length h.a
 have h2 := congrArg List.length h.e
 have h3 := congrArg List.length h.i
 have h4 := congrArg List.length h.o
 simp only [List.length_map, List.length_take] at h1 h2 h3 h4
 have := uQ 1 L
 omega
theorem oG.addA {ns L As Es Ps Os} (h : oG ns L As Es Ps Os) {x : yO} (hk : x.kind = 1) (q : Value) : oG ns (L ++ [x]) (As ++ [(YF x, q)]) Es Ps Os := by
 refine ⟨?_, ?_, ?_, ?_⟩
 ·rw [zK, if_pos hk, List.map_append, List.map_append, h.a]; rfl
 ·rw [zK, if_neg (by rw [hk]; decide)]; exact h.e
 ·rw [zK, if_neg (by rw [hk]; decide)]; exact h.i
 rw [zK, if_neg (by rw [hk]; decide)]; exact h.o
theorem oG.addE {ns L As Es Ps Os} (h : oG ns L As Es Ps Os) {x : yO} (hk : x.kind = 2) (hm : Es.length < 97) (q : Value) : oG ns (L ++ [x]) As (Es ++ [(wE ns x, q)]) Ps Os := by
 refine ⟨?_, ?_, ?_, ?_⟩
 ·rw [zK, if_neg (by rw [hk]; decide)]; exact h.a
 ·have hl := congrArg List.length h.e
  simp only [List.length_map, List.length_take] at hl
  rw [zK, if_pos hk, List.map_append, List.map_append]
  show _ = ((yA 2 L).map (wE ns) ++ [wE ns x]).take 97
  rw [sO (by rw [List.length_map]; omega), <- h.e]; rfl
 ·rw [zK, if_neg (by rw [hk]; decide)]; exact h.i
 rw [zK, if_neg (by rw [hk]; decide)]; exact h.o
theorem oG.skipE {ns L As Es Ps Os} (h : oG ns L As Es Ps Os) {x : yO} (hk : x.kind = 2) (hm : ¬ Es.length < 97) : oG ns (L ++ [x]) As Es Ps Os := by
 refine ⟨?_, ?_, ?_, ?_⟩
 ·rw [zK, if_neg (by rw [hk]; decide)]; exact h.a
 ·have hl := congrArg List.length h.e
  simp only [List.length_map, List.length_take] at hl
  rw [zK, if_pos hk, List.map_append]
  show _ = ((yA 2 L).map (wE ns) ++ [wE ns x]).take 97
  rw [sN (by rw [List.length_map]; omega)]; exact h.e
 ·rw [zK, if_neg (by rw [hk]; decide)]; exact h.i
 rw [zK, if_neg (by rw [hk]; decide)]; exact h.o
theorem oG.addI {ns L As Es Ps Os} (h : oG ns L As Es Ps Os) {x : yO} (hk : x.kind = 3) (hm : Ps.length < 17) : oG ns (L ++ [x]) As Es (Ps ++ [wI ns x]) Os := by
 refine ⟨?_, ?_, ?_, ?_⟩
 ·rw [zK, if_neg (by rw [hk]; decide)]; exact h.a
 ·rw [zK, if_neg (by rw [hk]; decide)]; exact h.e
 ·have hl := congrArg List.length h.i
  simp only [List.length_map, List.length_take] at hl
  rw [zK, if_pos hk, List.map_append]
  show _ = ((yA 3 L).map (wI ns) ++ [wI ns x]).take 17
  rw [sO (by rw [List.length_map]; omega), <- h.i]
 rw [zK, if_neg (by rw [hk]; decide)]; exact h.o
theorem oG.skipI {ns L As Es Ps Os} (h : oG ns L As Es Ps Os) {x : yO} (hk : x.kind = 3) (hm : ¬ Ps.length < 17) : oG ns (L ++ [x]) As Es Ps Os := by
 refine ⟨?_, ?_, ?_, ?_⟩
 ·rw [zK, if_neg (by rw [hk]; decide)]; exact h.a
 ·rw [zK, if_neg (by rw [hk]; decide)]; exact h.e
 ·have hl := congrArg List.length h.i
  simp only [List.length_map, List.length_take] at hl
  rw [zK, if_pos hk, List.map_append]
  show _ = ((yA 3 L).map (wI ns) ++ [wI ns x]).take 17
  rw [sN (by rw [List.length_map]; omega)]; exact h.i
 rw [zK, if_neg (by rw [hk]; decide)]; exact h.o
theorem oG.addO {ns L As Es Ps Os} (h : oG ns L As Es Ps Os) {x : yO} (hk : x.kind = 4) (hm : Os.length < 17) : oG ns (L ++ [x]) As Es Ps (Os ++ [wO ns x]) := by
 refine ⟨?_, ?_, ?_, ?_⟩
 ·rw [zK, if_neg (by rw [hk]; decide)]; exact h.a
 ·rw [zK, if_neg (by rw [hk]; decide)]; exact h.e
 ·rw [zK, if_neg (by rw [hk]; decide)]; exact h.i
 have hl := congrArg List.length h.o
 simp only [List.length_map, List.length_take] at hl
 rw [zK, if_pos hk, List.map_append]
 show _ = ((yA 4 L).map (wO ns) ++ [wO ns x]).take 17
 rw [sO (by rw [List.length_map]; omega), <- h.o]
theorem oG.skipO {ns L As Es Ps Os} (h : oG ns L As Es Ps Os) {x : yO} (hk : x.kind = 4) (hm : ¬ Os.length < 17) : oG ns (L ++ [x]) As Es Ps Os := by
 refine ⟨?_, ?_, ?_, ?_⟩
 ·rw [zK, if_neg (by rw [hk]; decide)]; exact h.a
 ·rw [zK, if_neg (by rw [hk]; decide)]; exact h.e
 ·rw [zK, if_neg (by rw [hk]; decide)]; exact h.i
 have hl := congrArg List.length h.o
 simp only [List.length_map, List.length_take] at hl
 rw [zK, if_pos hk, List.map_append]
 show _ = ((yA 4 L).map (wO ns) ++ [wO ns x]).take 17
 rw [sN (by rw [List.length_map]; omega)]; exact h.o
theorem rW.cells {B : Nat} {w : World} {a : Option Addr} {c : Nat} {As : List GA} (h : rW B w a c As) : ∃ b z, a = some ⟨b, z, none⟩ /\ As.length + 1 <= c /\ (∀ k, k < As.length -> ∃ gq, w.cell? ⟨b, z + k * 3 + 2, none⟩ = some (.slice (some ⟨gq, 0, none⟩) (zI As k).params.length ((zI As k).params.length + 4)) /\ uH B w gq (zI As k).params.length (zI As k).params) /\ w.cell? ⟨b, z + As.length * 3 + 1, none⟩ = some (.int .u8 99) := by
 obtain ⟨b, M, rfl, -, h3, h4, h5, h6⟩ := h
 have hl : M.length = As.length := by rw [<- h4, List.length_map]
 have e1 : M.flatMap aP ++ aP rY = (M ++ [rY]).flatMap aP := by rw [List.flatMap_append]; simp
 have e2 : As.length + 1 = (M ++ [rY]).length := by rw [List.length_append, hl]; rfl
 rw [e1] at h5
 have h7 : w.ownsRow B 61 3 (.slice (some ⟨b, 0, none⟩) (As.length + 1) c) (M ++ [rY]).length ((M ++ [rY]).flatMap aP) := by rw [<- e2]; exact h5
 refine ⟨b, 0, rfl, h3, fun k hk => ?_, ?_⟩
 ·have hkm : k < M.length := by omega
  have hk2 : k < (M ++ [rY]).length := by omega
  have e3 : (M ++ [rY])[k] = M[k] := List.getElem_append_left hkm
  have e4 : zI As k = M[k].1 := by
   subst h4
   rw [tI hk, List.getElem_map]
  obtain ⟨gq, e5, h8⟩ := h6 M[k] (List.getElem_mem hkm)
  rw [e4, Nat.zero_add]
  exact ⟨gq, xY sA h7 hk2 (r := 2) (by decide) (by rw [e3, <- e5]; rfl), h8⟩
 have hk2 : As.length < (M ++ [rY]).length := by omega
 have e3 : (M ++ [rY])[As.length] = rY := by
  rw [List.getElem_append_right (by omega)]
  simp
 rw [Nat.zero_add]
 exact xY sA h7 hk2 (r := 1) (by decide) (by rw [e3]; rfl)
theorem rV.cells {B : Nat} {w : World} {a : Option Addr} {c : Nat} {As : List GE} (h : rV B w a c As) : ∃ b z, a = some ⟨b, z, none⟩ /\ As.length + 1 <= c /\ (∀ k, k < As.length -> ∃ gq, w.cell? ⟨b, z + k * 5 + 4, none⟩ = some (.slice (some ⟨gq, 0, none⟩) (yU As k).start.length ((yU As k).start.length + 4)) /\ uH B w gq (yU As k).start.length (yU As k).start) /\ w.cell? ⟨b, z + As.length * 5 + 0, none⟩ = some (.int .i64 (-7770777)) := by
 obtain ⟨b, M, rfl, -, h3, h4, h5, h6⟩ := h
 have hl : M.length = As.length := by rw [<- h4, List.length_map]
 have e1 : M.flatMap eP ++ eP rX = (M ++ [rX]).flatMap eP := by rw [List.flatMap_append]; simp
 have e2 : As.length + 1 = (M ++ [rX]).length := by rw [List.length_append, hl]; rfl
 rw [e1] at h5
 have h7 : w.ownsRow B 64 5 (.slice (some ⟨b, 0, none⟩) (As.length + 1) c) (M ++ [rX]).length ((M ++ [rX]).flatMap eP) := by rw [<- e2]; exact h5
 refine ⟨b, 0, rfl, h3, fun k hk => ?_, ?_⟩
 ·have hkm : k < M.length := by omega
  have hk2 : k < (M ++ [rX]).length := by omega
  have e3 : (M ++ [rX])[k] = M[k] := List.getElem_append_left hkm
  have e4 : yU As k = M[k].1 := by
   subst h4
   rw [tH hk, List.getElem_map]
  obtain ⟨gq, e5, h8⟩ := h6 M[k] (List.getElem_mem hkm)
  rw [e4, Nat.zero_add]
  exact ⟨gq, xY tQ h7 hk2 (r := 4) (by decide) (by rw [e3, <- e5]; rfl), h8⟩
 have hk2 : As.length < (M ++ [rX]).length := by omega
 have e3 : (M ++ [rX])[As.length] = rX := by
  rw [List.getElem_append_right (by omega)]
  simp
 rw [Nat.zero_add]
 exact xY tQ h7 hk2 (r := 0) (by decide) (by rw [e3]; rfl)
theorem sJ.mark {B : Nat} {w : World} {a : Option Addr} {c : Nat} {Ps : List GP} (h : sJ B w a c Ps) : ∃ b z, a = some ⟨b, z, none⟩ /\ Ps.length + 1 <= c /\ w.cell? ⟨b, z + Ps.length * 3 + 1, none⟩ = some (.int .i64 (-7770777)) := by
 obtain ⟨b, rfl, -, h3, h5⟩ := h
 have e1 : Ps.flatMap pP ++ pP pC = (Ps ++ [pC]).flatMap pP := by rw [List.flatMap_append]; simp
 have e2 : Ps.length + 1 = (Ps ++ [pC]).length := by rw [List.length_append]; rfl
 rw [e1] at h5
 have h7 : w.ownsRow B 83 3 (.slice (some ⟨b, 0, none⟩) (Ps.length + 1) c) (Ps ++ [pC]).length ((Ps ++ [pC]).flatMap pP) := by rw [<- e2]; exact h5
 have hk2 : Ps.length < (Ps ++ [pC]).length := by omega
 have e3 : (Ps ++ [pC])[Ps.length] = pC := by
  rw [List.getElem_append_right (by omega)]
  simp
 exact ⟨b, 0, rfl, h3, by rw [Nat.zero_add]; exact xY lX h7 hk2 (r := 1) (by decide) (by rw [e3]; rfl)⟩
def YV (w : World) (ov gv : Array Value) (u : World) : Prop := zN 31 w.heap.size u ov /\ zN 31 (w.heap.size + 1) u gv /\ Below w.heap.size w u
theorem YV.low {w u : World} {ov gv : Array Value} (h : YV w ov gv u) : Below w.heap.size w u := h.2.2
theorem YV.later {w u u' : World} {ov gv : Array Value} (h : YV w ov gv u) (hb : Below u.heap.size u u') : YV w ov gv u' := ⟨h.1.below hb, h.2.1.below hb, h.2.2.trans (hb.mono h.2.2.size)⟩
theorem rT {B n c : Nat} {w : World} {T S : TypeId} {v : Value} {xs : List Value} {cs : Array Value} {hb : Nat} (h : w.ownsRow B T c v n xs) (hX : zN S hb w cs) (hT : S ≠ T) : ∀ k, v.ownBlock = some k -> k ≠ hb := by
 intro k hk e
 rcases h.2 with ⟨hv, -⟩ | ⟨g, cap, cur, hv, hg, hh, -⟩
 ·rw [hv] at hk; cases hk
 rw [hv] at hk
 cases hk
 subst e
 rw [show w.heap[g]? = some (.cells cs S (0, 0)) from hX] at hh
 injection hh with hh
 injection hh with h1 h2
 exact hT h2
structure lR (w0 wr : World) (hb : Nat) (T : TypeId) (c : Nat) (cs : Array Value) (v : Value) (n : Nat) (xs : List Value) : Prop where
 blk : zN 31 hb wr cs
 row : wr.ownsRow w0.heap.size T c v n xs
 old : hb < w0.heap.size
 chg : xX (fun k => k = hb \/ w0.heap.size <= k) w0 wr
theorem lR.far {w0 wr : World} {hb : Nat} {T : TypeId} {c : Nat} {cs : Array Value} {v : Value} {n : Nat} {xs : List Value} (h : lR w0 wr hb T c cs v n xs) : v.ownBlock ≠ some hb := fun e => by
 have := zT h.row _ e
 have := h.old
 omega
theorem lR.nil {w0 : World} {hb : Nat} (T : TypeId) (c : Nat) {cs : Array Value} (h : zN 31 hb w0 cs) : lR w0 w0 hb T c cs (.slice none 0 0) 0 [] :=
 ⟨h, World.ownsRow_nil _ _ _ _, h.lt, xX.of_below (Below.refl _ _)⟩
theorem lR.step {w0 V u : World} {hb : Nat} {T : TypeId} {c f : Nat} {cs : Array Value} {v : Value} {n : Nat} {xs e : List Value} (h : lR w0 V hb T c cs v n xs) (ap : eZ (fun _ es => es = e) V w0.heap.size T c v n xs 31 hb f cs u) : ∃ g k, lR w0 u hb T c (cs.setIfInBounds f (.slice (some ⟨g, 0, none⟩) (n + 1) k)) (.slice (some ⟨g, 0, none⟩) (n + 1) k) (n + 1) (xs ++ e) := by
 obtain ⟨es, w1, u1, z, hD, hbut, hblk⟩ := ap
 obtain ⟨g, cap, rfl⟩ := hD.shape
 have e1 : es = e := hD.el
 subst e1
 have hgB : w0.heap.size <= g := zT hD.own g rfl
 have hold := h.old
 refine ⟨g, cap, hblk, zV hD.own (fun k hk => hbut.block k (zR hD.own k hk) (by have := zT hD.own k hk; omega)), h.old, ?_⟩
 have c1 := h.chg.trans hD.chg (fun k hk => .inr (zT h.row k hk))
 exact c1.trans (F' := fun k => k = hb) ⟨hbut.os, hbut.tape, hbut.output, hbut.size, fun k hk hn => hbut.block k hk hn⟩ (fun k hk => .inl (.inl hk))
theorem lR.bel {w0 wr : World} {hb : Nat} {T : TypeId} {c : Nat} {cs : Array Value} {v : Value} {n : Nat} {xs : List Value} (h : lR w0 wr hb T c cs v n xs) {Q : Nat} (hQ : Q <= hb) : Below Q w0 wr := by
 have := h.old
 exact ⟨h.chg.os, h.chg.tape, h.chg.output, h.chg.size, fun k hk => h.chg.block k (by omega) (by omega)⟩
theorem lR.keep {w0 wr : World} {hb : Nat} {T : TypeId} {c : Nat} {cs : Array Value} {v : Value} {n : Nat} {xs : List Value} (h : lR w0 wr hb T c cs v n xs) : ∀ k, k < w0.heap.size -> k ≠ hb -> wr.heap[k]? = w0.heap[k]? := fun k hk hn => h.chg.block k hk (by omega)
theorem fA.tail {w : World} {b off : Nat} {e : GE} {es : List GE} (h : fA w (some ⟨b, off, none⟩) (e :: es)) : fA w (some ⟨b, off + 5, none⟩) es := by
 rcases h with h | ⟨b', off', e1, hc⟩
 ·cases h
 cases e1
 refine .inr ⟨b, off + 5, rfl, fun k hk => ?_⟩
 have := hc (k + 1) (Nat.succ_lt_succ hk)
 have e2 : off + (k + 1) * 5 = off + 5 + k * 5 := by omega
 rw [e2] at this
 exact this
theorem tO.tail {w : World} {b off : Nat} {e : GP} {es : List GP} (h : tO w (some ⟨b, off, none⟩) (e :: es)) : tO w (some ⟨b, off + 3, none⟩) es := by
 rcases h with h | ⟨b', off', e1, hc⟩
 ·cases h
 cases e1
 refine .inr ⟨b, off + 3, rfl, fun k hk => ?_⟩
 have := hc (k + 1) (Nat.succ_lt_succ hk)
 have e2 : off + (k + 1) * 3 = off + 3 + k * 3 := by omega
 rw [e2] at this
 exact this
theorem YU {B n c cap : Nat} {w : World} {T : TypeId} {a : Option Addr} {xs : List Value} (h : w.ownsRow B T c (.slice a n cap) n xs) : n <= cap := by
 rcases h.2 with ⟨hv, hn⟩ | ⟨g, cap', cur, hv, hg, hh, hc, -⟩
 ·omega
 cases hv; exact hc
end Go.Proofs.Ytgoconkleicmkaa
namespace Go.Proofs.Ytgoconkleicmkaa
open Go.RowKit
def gSN (second : List UInt8) (es : List GE) : GG := ⟨[103], [⟨[97], 2, [2]⟩, ⟨second, 8, []⟩], es, [⟨[120], 0, 0⟩], [⟨[121], 1, 0⟩]⟩
def eSN (f : Int) (start : List Int) : GE := ⟨f, 0, 1, 0, start⟩
end Go.Proofs.Ytgoconkleicmkaa

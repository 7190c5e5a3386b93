/- Actors in memory: what an actor's parts are; copies of rows. -/
import Derived.Test.YthgblljokonejaaActN
import Derived.Test.YthgblljokonejaaKeep
import Derived.Test.YthgblljokonejaaApart
import Derived.Handy
import Derived.WalkSpells
namespace Go.Proofs.Ythgblljokonejaa
open Go.ChangeShapes Go.WideShapes Go.ChangeAt Go.RowKit

theorem heap_set_same (w : World) (b k : Nat) (cs : Array Value) (T : TypeId) (u : Value) (h : w.heap[b]? = some (.cells cs T (0, 0))) : (w.setCell ⟨b, k, none⟩ u).heap[b]? = some (.cells (cs.setIfInBounds k u) T (0, 0)) := by
  simp only [World.setCell, Array.getElem?_modify]
  rw [if_pos trivial, h]
  rfl
/-- A block with these cells. -/
def BlkA (T : TypeId) (n : Nat) (w : World) (cs : Array Value) : Prop := w.heap[n]? = some (.cells cs T (0, 0))
theorem BlkA.lt {T n w cs} (h : BlkA T n w cs) : n < w.heap.size := (Array.getElem?_eq_some_iff.1 h).1
theorem BlkA.cell {T n w cs} (h : BlkA T n w cs) {k : Nat} {x : Value} (hk : cs[k]? = some x) : w.cell? ⟨n, k, none⟩ = some x := by
  unfold BlkA at h
  simp [World.cell?, h, hk]
theorem BlkA.frozen {T n w cs} (h : BlkA T n w cs) (k : Nat) : w.frozen? ⟨n, k, none⟩ = false := by
  unfold BlkA at h
  simp [World.frozen?, h]
theorem BlkA.keep {T n w w' cs} (h : BlkA T n w cs) (hb : w'.heap[n]? = w.heap[n]?) : BlkA T n w' cs := hb.trans h
theorem BlkA.below {T n w w' cs} (h : BlkA T n w cs) (hb : Below w.heap.size w w') : BlkA T n w' cs := (hb.block n h.lt).trans h
theorem BlkA.set {T n w cs} (h : BlkA T n w cs) (k : Nat) (u : Value) : BlkA T n (w.setCell ⟨n, k, none⟩ u) (cs.setIfInBounds k u) := heap_set_same w n k _ _ _ h
theorem blkA_new (T : TypeId) (w : World) (cs : Array Value) : BlkA T w.heap.size (w.alloc (.cells cs T)) cs := by show (w.heap.push _)[w.heap.size]? = _; simp
theorem CapR.keep {base : Nat} {w w' : World} {a : Option Addr} {cap : Nat} {zs : List Int} (h : CapR base w a cap zs) (hk : ∀ x, a = some x → w'.heap[x.block]? = w.heap[x.block]?) : CapR base w' a cap zs := by
  refine ⟨h.1, ?_⟩
  rcases h.2 with h2 | ⟨g, c, cur, hv, hg, hh, r⟩
  · exact .inl h2
  · refine .inr ⟨g, c, cur, hv, hg, ?_, r⟩
    cases hv
    rw [hk _ rfl]; exact hh
theorem CapR.nil (base : Nat) (w : World) : CapR base w none 0 [] := World.ownsRow_nil _ _ _ _
/-- All old blocks but one are as they were. -/
structure But (K : Nat) (w w' : World) : Prop where
  os : w'.os = w.os
  tape : w'.tape = w.tape
  output : w'.output = w.output
  size : w.heap.size ≤ w'.heap.size
  block : ∀ k, k < w.heap.size → k ≠ K → w'.heap[k]? = w.heap[k]?
theorem But.of_below {K : Nat} {w w' : World} (h : Below w.heap.size w w') : But K w w' := ⟨h.os, h.tape, h.output, h.size, fun k hk _ => h.block k hk⟩
theorem But.trans {K : Nat} {a b c : World} (h : But K a b) (k : But K b c) : But K a c :=
  ⟨k.os.trans h.os, k.tape.trans h.tape, k.output.trans h.output, Nat.le_trans h.size k.size, fun i hi hn => (k.block i (by have := h.size; omega) hn).trans (h.block i hi hn)⟩
theorem But.set (w : World) (K k : Nat) (u : Value) : But K w (w.setCell ⟨K, k, none⟩ u) := ⟨rfl, rfl, rfl, by simp [World.setCell], fun i _ hn => Below.heap_setCell _ _ _ _ hn⟩
theorem But.below {K B : Nat} {w w' : World} (h : But K w w') (hK : B ≤ K) (hB : B ≤ w.heap.size) : Below B w w' := ⟨h.os, h.tape, h.output, h.size, fun k hk => h.block k (by omega) (by omega)⟩

def kT (t : Nat) : TypeId :=
  match t with
  | 1 => 111
  | 2 => 114
  | 3 => 116
  | 4 => 118
  | 5 => 120
  | 6 => 122
  | 7 => 124
  | 8 => 127
  | 9 => 129
  | 10 => 132
  | _ => 134
def kP (t : Nat) : TypeId :=
  match t with
  | 1 => 109
  | 2 => 112
  | 3 => 115
  | 4 => 117
  | 5 => 119
  | 6 => 121
  | 7 => 123
  | 8 => 125
  | 9 => 128
  | 10 => 130
  | _ => 133
def kCells (t : Nat) (v1 v2 v3 v4 : Value) (n : Int) (zs ks : List Int) : Array Value :=
  match t with
  | 1 => #[v1, v2, .int .i64 n, v3, v4]
  | 8 => #[v1, v2, .int .i64 n, .int .i64 (nth ks 0)]
  | 10 => #[v1, v2, .int .i64 n, .int .i64 (nth ks 0), .int .i64 (nth zs 1)]
  | _ => #[v1, v2, .int .i64 n]
theorem kCells_count : ∀ (t : Nat) (v1 v2 v3 v4 : Value) (n m : Int) (zs ks : List Int), (kCells t v1 v2 v3 v4 n zs ks).setIfInBounds 2 (.int .i64 m) = kCells t v1 v2 v3 v4 m zs ks := by
  intro t v1 v2 v3 v4 n m zs ks
  unfold kCells
  split <;> rfl
theorem kCells_get : ∀ (t : Nat) (v1 v2 v3 v4 : Value) (n : Int) (zs ks : List Int), (kCells t v1 v2 v3 v4 n zs ks)[0]? = some v1 ∧ (kCells t v1 v2 v3 v4 n zs ks)[1]? = some v2 ∧ (kCells t v1 v2 v3 v4 n zs ks)[2]? = some (.int .i64 n) := by
  intro t v1 v2 v3 v4 n zs ks
  unfold kCells
  split <;> exact ⟨rfl, rfl, rfl⟩
/-- One kind of actor, as it lies; F tells its blocks. -/
structure Kin (F : Nat → Prop) (w : World) (K t : Nat) (zs ks : List Int) (n : Nat) (a1 a2 a3 a4 : Option Addr) (c1 c2 c3 c4 : Nat) : Prop where
  blk : BlkA (kT t) K w (kCells t (.slice a1 (insS t zs).length c1) (.slice a2 (outsS t zs).length c2) (.slice a3 zs.length c3) (.slice a4 ks.length c4) n zs ks)
  ins : CapR 0 w a1 c1 (insS t zs)
  outs : CapR 0 w a2 c2 (outsS t zs)
  taps : t = 1 → CapR 0 w a3 c3 zs
  kept : t = 1 → CapR 0 w a4 c4 ks
  own : F K
  f1 : ∀ x, a1 = some x → F x.block
  f2 : ∀ x, a2 = some x → F x.block
  f3 : t = 1 → ∀ x, a3 = some x → F x.block
  f4 : t = 1 → ∀ x, a4 = some x → F x.block
  rows : (∀ x, a1 = some x → x.block ≠ K) ∧ (∀ x, a2 = some x → x.block ≠ K) ∧ (t = 1 → ∀ x, a3 = some x → x.block ≠ K) ∧ (t = 1 → ∀ x, a4 = some x → x.block ≠ K)
  some4 : t = 1 → ∃ g, a4 = some ⟨g, 0, none⟩
  tag : 1 ≤ t ∧ t ≤ 11
  ok : okS t zs = true
  keep : KeepOk t zs ks
  inr : InR zs
  low : ∀ k, F k → k < w.heap.size
def KinE (F : Nat → Prop) (w : World) (K t : Nat) (zs ks : List Int) (n : Nat) : Prop := ∃ a1 a2 a3 a4 c1 c2 c3 c4, Kin F w K t zs ks n a1 a2 a3 a4 c1 c2 c3 c4
theorem KinE.keeps {F : Nat → Prop} {w w' : World} {K t : Nat} {zs ks : List Int} {n : Nat} (h : KinE F w K t zs ks n) (hk : ∀ k, F k → w'.heap[k]? = w.heap[k]?) : KinE F w' K t zs ks n := by
  obtain ⟨a1, a2, a3, a4, c1, c2, c3, c4, h⟩ := h
  refine ⟨a1, a2, a3, a4, c1, c2, c3, c4, h.blk.keep (hk K h.own), h.ins.keep fun x hx => hk _ (h.f1 x hx), h.outs.keep fun x hx => hk _ (h.f2 x hx), fun e => (h.taps e).keep fun x hx => hk _ (h.f3 e x hx), fun e => (h.kept e).keep fun x hx => hk _ (h.f4 e x hx), h.own, h.f1, h.f2, h.f3, h.f4, h.rows, h.some4, h.tag, h.ok, h.keep, h.inr, fun k hF => ?_⟩
  have h1 := h.low k hF
  have h2 := hk k hF
  rw [Array.getElem?_eq_getElem h1] at h2
  exact (Array.getElem?_eq_some_iff.1 h2).1
theorem KinE.below {F : Nat → Prop} {w w' : World} {K t : Nat} {zs ks : List Int} {n : Nat} (h : KinE F w K t zs ks n) (hb : Below w.heap.size w w') : KinE F w' K t zs ks n :=
  h.keeps fun k hF => hb.block k (by obtain ⟨a1, a2, a3, a4, c1, c2, c3, c4, h⟩ := h; exact h.low k hF)

theorem empty_own (w : World) : (w.alloc (.cells #[] 3)).ownsRow w.heap.size 3 1 (.slice (some ⟨w.heap.size, 0, none⟩) 0 0) 0 [] :=
  ⟨rfl, .inr ⟨w.heap.size, 0, #[], rfl, Nat.le_refl _, by show (w.heap.push _)[w.heap.size]? = _; simp, Nat.le_refl _, by unfold maxLen; omega, rfl, rfl⟩⟩
set_option maxRecDepth 100000 in
set_option maxHeartbeats 400000 in
theorem clone_any (a : Option Addr) (zs : List Int) (len cap : Nat) (w : World) (hl : zs.length = len) (hr : len * 8 ≤ 140737488351232) (hn : a = none → len = 0 ∧ cap = 0) (h : At w a zs) :
    Calls Try.prog 42 #[.slice a len cap] w (RowEnd w zs) := by
  obtain ⟨i0, hi, hz0, hz1, hz2⟩ := info_parts Try.info3
  cases a with
  | none =>
    obtain ⟨rfl, rfl⟩ := hn rfl
    have e : zs = [] := List.eq_nil_of_length_eq_zero hl
    subst e
    have q0 := Lib.run_eql_slice_nil (P := Try.prog) w 22 3 none 0 0 0 0 Try.underlying22
    go_enter Try.func42, Try.ntmps42
    go_wp2
    go_ret
    exact ⟨none, 0, rfl, World.ownsRow_nil _ _ _ _, Below.refl _ _⟩
  | some ad =>
    have EO := hidden6 (empty_own w)
    have HA := hidden6 (h.below ((Below.refl w.heap.size w).alloc (Nat.le_refl _) (.cells #[] 3)))
    clear h
    have q0 := Lib.run_eql_slice_nil (P := Try.prog) w 22 3 (some ad) len cap 0 0 Try.underlying22
    go_enter Try.func42, Try.ntmps42
    go_wp2_with (at_builtin; refine wpList_append_own _ rfl _ _ 22 rfl w.heap.size 3 i0 (.int .i64 0) 1 8 Try.underlying22 hi hz0 hz1 hz2 rfl (by decide) _ 0 [] rfl EO.out ad len cap (zs.map (Value.int .i64)) rfl (by simp [hl]) (lies_new HA.out) (ints_oneCell _ _) ?c3 ?c4 (by simp) ?_)
    case c3 => unfold maxLen; omega
    case c4 => omega
    intro v' w1 hown hgrow _
    have hown' : w1.ownsRow w.heap.size 3 1 v' len (zs.map (Value.int .i64)) := by simpa using hown
    obtain ⟨a', cap', hv, -, hat', hc', hn', hb'⟩ := owns_at (n := len) (zs := zs) hown'
    rw [hv]
    go_wp2
    go_ret
    refine ⟨a', cap', by rw [hl]; rfl, ?_, ((Below.refl _ _).alloc (Nat.le_refl _) _).grown hgrow (by simp) (fun k h => by cases h; exact Nat.le_refl _)⟩
    unfold CapR
    rw [hl, ← hv]
    exact hown'
end Go.Proofs.Ythgblljokonejaa
